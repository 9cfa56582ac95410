/-
  Stage 13: what an item makes: madeBy.
-/
import Derived.Test.YtemhodenkgngmaaDoorQuues00
import Derived.Test.YtemhodenkgngmaaDoorQuues27
set_option maxRecDepth 100000
set_option maxHeartbeats 16000000
namespace Go.Proofs.YtemhodenkgngmaaDoor
open Go.RowKit Go.Shelf
theorem pmade1 (w : World) (k pl nl vk vl vc sk na ca np cp nr cr lc : Nat) (nm vm sm : ByteArray) (vn vln vcl sln scl ln cl : Int) (va aa pa ra la a : Option Addr) (n c : Nat) (X : Xt) (F : Nat → Sy) (hk : k = 1) (hX : XV w (.agg #[.int .u8 (vk : Int), .int .i64 vn, .string vm, .slice va vl vc, .int .i64 vln, .int .i64 vcl]) X) (hF : SyL w a n F) (hn : n ≤ 4000000000000) (hw : Wt9 w) (V : Vt) (hV : evl (fun i => (cst F n).getD i cn0) (cst F n).length X = V) :
  Calls Tryd.prog 23 #[.agg #[.int .u8 (k : Int), .string nm, .int .u8 (vk : Int), .int .i64 vn, .string vm, .slice va vl vc, .int .i64 vln, .int .i64 vcl, .int .u8 (sk : Int), .string sm, .slice aa na ca, .slice pa np cp, .slice ra nr cr, .int .i64 sln, .int .i64 scl, .int .u8 (pl : Int), .slice la nl lc, .int .i64 ln, .int .i64 cl], .slice a n c] w fun e w' => e = .returned (.tuple #[.agg #[.string nm, .int .u8 1, .int .i64 0, .int .i64 V.v], .agg #[.int .i64 (V.c : Int), .int .i64 V.ln, .int .i64 V.cl]]) ∧ Below w.heap.size w w' := by
 obtain ⟨wa, HWa⟩ : ∃ wa, Hid (wa = ((w.alloc (.cells #[.int .u8 (k : Int), .string nm, .int .u8 (vk : Int), .int .i64 vn, .string vm, .slice va vl vc, .int .i64 vln, .int .i64 vcl, .int .u8 (sk : Int), .string sm, .slice aa na ca, .slice pa np cp, .slice ra nr cr, .int .i64 sln, .int .i64 scl, .int .u8 (pl : Int), .slice la nl lc, .int .i64 ln, .int .i64 cl] 61)).alloc (.cells #[.string ⟨#[]⟩, .int .u8 0, .int .i64 0, .int .i64 0] 35)).alloc (.cells #[.int .i64 0, .int .i64 0, .int .i64 0] 26)) := ⟨_, rfl⟩
 have HBa : Hid (Below w.heap.size w wa) := by show Below _ _ _; rw [HWa.out]; exact jtwo (jtwo (jlow _ _) (jlow _ _)) (jlow _ _)
 have hsz : wa.heap.size = w.heap.size + 3 := by rw [HWa.out]; simp
 have HV1 : Hid (Vn wa w.heap.size 61 #[.int .u8 (k : Int), .string nm, .int .u8 (vk : Int), .int .i64 vn, .string vm, .slice va vl vc, .int .i64 vln, .int .i64 vcl, .int .u8 (sk : Int), .string sm, .slice aa na ca, .slice pa np cp, .slice ra nr cr, .int .i64 sln, .int .i64 scl, .int .u8 (pl : Int), .slice la nl lc, .int .i64 ln, .int .i64 cl]) := by show Vn _ _ _ _; rw [HWa.out]; exact ((Vn.new _ _ _).later (jlow _ _)).later (jlow _ _)
 have HV2 : Hid (Vn wa (w.heap.size + 1) 35 #[.string ⟨#[]⟩, .int .u8 0, .int .i64 0, .int .i64 0]) := by
  have h := (Vn.new (w.alloc (.cells #[.int .u8 (k : Int), .string nm, .int .u8 (vk : Int), .int .i64 vn, .string vm, .slice va vl vc, .int .i64 vln, .int .i64 vcl, .int .u8 (sk : Int), .string sm, .slice aa na ca, .slice pa np cp, .slice ra nr cr, .int .i64 sln, .int .i64 scl, .int .u8 (pl : Int), .slice la nl lc, .int .i64 ln, .int .i64 cl] 61)) 35 #[.string ⟨#[]⟩, .int .u8 0, .int .i64 0, .int .i64 0]).later (jlow _ (.cells #[.int .i64 0, .int .i64 0, .int .i64 0] 26))
  rw [World.size_alloc] at h
  show Vn _ _ _ _
  rw [HWa.out]
  exact h
 have HV3 : Hid (Vn wa (w.heap.size + 1 + 1) 26 #[.int .i64 0, .int .i64 0, .int .i64 0]) := by
  have h := Vn.new ((w.alloc (.cells #[.int .u8 (k : Int), .string nm, .int .u8 (vk : Int), .int .i64 vn, .string vm, .slice va vl vc, .int .i64 vln, .int .i64 vcl, .int .u8 (sk : Int), .string sm, .slice aa na ca, .slice pa np cp, .slice ra nr cr, .int .i64 sln, .int .i64 scl, .int .u8 (pl : Int), .slice la nl lc, .int .i64 ln, .int .i64 cl] 61)).alloc (.cells #[.string ⟨#[]⟩, .int .u8 0, .int .i64 0, .int .i64 0] 35)) 26 #[.int .i64 0, .int .i64 0, .int .i64 0]
  rw [World.size_alloc, World.size_alloc] at h
  show Vn _ _ _ _
  rw [HWa.out]
  exact h
 have r0 : (((w.alloc (.cells #[.int .u8 (k : Int), .string nm, .int .u8 (vk : Int), .int .i64 vn, .string vm, .slice va vl vc, .int .i64 vln, .int .i64 vcl, .int .u8 (sk : Int), .string sm, .slice aa na ca, .slice pa np cp, .slice ra nr cr, .int .i64 sln, .int .i64 scl, .int .u8 (pl : Int), .slice la nl lc, .int .i64 ln, .int .i64 cl] 61)).alloc (.cells #[.string ⟨#[]⟩, .int .u8 0, .int .i64 0, .int .i64 0] 35)).alloc (.cells #[.int .i64 0, .int .i64 0, .int .i64 0] 26)).cell? ⟨w.heap.size, 0, none⟩ = some (.int .u8 (k : Int)) := by rw [← HWa.out]; exact HV1.out.cell 0 _ rfl
 have r1 : (((w.alloc (.cells #[.int .u8 (k : Int), .string nm, .int .u8 (vk : Int), .int .i64 vn, .string vm, .slice va vl vc, .int .i64 vln, .int .i64 vcl, .int .u8 (sk : Int), .string sm, .slice aa na ca, .slice pa np cp, .slice ra nr cr, .int .i64 sln, .int .i64 scl, .int .u8 (pl : Int), .slice la nl lc, .int .i64 ln, .int .i64 cl] 61)).alloc (.cells #[.string ⟨#[]⟩, .int .u8 0, .int .i64 0, .int .i64 0] 35)).alloc (.cells #[.int .i64 0, .int .i64 0, .int .i64 0] 26)).cell? ⟨w.heap.size, 1, none⟩ = some (.string nm) := by rw [← HWa.out]; exact HV1.out.cell 1 _ rfl
 have q1 : ((k : Int) == 1) = true := by simp; omega
 have HEnv : Hid (∀ w' : World, Below w.heap.size w w' → Calls Tryd.prog 15 #[.slice a n c] w' fun e w'' => (∃ v, e = .returned v ∧ Cw w'' w'.heap.size v (cst F n)) ∧ Below w'.heap.size w' w'') := fun w' hb => penv w' a n c F (hF.later hb) hn
 have hcl := cst_len F n
 have HEvl : Hid (∀ (w' : World) (x : Option Addr) (d : Nat), Below w.heap.size w w' → EL w' x (cst F n).length (fun i => (cst F n).getD i cn0) → Calls Tryd.prog 33 #[.agg #[.int .u8 (vk : Int), .int .i64 vn, .string vm, .slice va vl vc, .int .i64 vln, .int .i64 vcl], .slice x (cst F n).length d] w' fun e w'' => e = .returned (.tuple #[.int .i64 V.v, .agg #[.int .i64 (V.c : Int), .int .i64 V.ln, .int .i64 V.cl]]) ∧ Below w'.heap.size w' w'') := fun w' x d hb hE => by
  have h := eval_any w' X _ x (cst F n).length d _ (hX.later hb) hE (by omega) (hw.later hb)
  rw [hV] at h
  exact h
 have HCel : Hid (∀ (w' : World) (B : Nat) (x : Option Addr) (d : Nat), Cw w' B (.slice x (cst F n).length d) (cst F n) → EL w' x (cst F n).length (fun i => (cst F n).getD i cn0)) := fun w' B x d h => (h.el (cst_ok n (fun i hi => (hF i hi).1))).2
 obtain ⟨cn, Hcn⟩ : ∃ cn, Hid ((cst F n).length = cn) := ⟨_, rfl⟩
 rw [Hcn.out] at HEvl HCel
 clear hk hX hF hw hV hcl
 go_enter Tryd.func23, Tryd.ntmps23
 go_wp2
 rw [← HWa.out]
 clear HWa r0 r1
 refine wp_region_held (S := fun w' => Vn w' w.heap.size 61 #[.int .u8 (k : Int), .string nm, .int .u8 (vk : Int), .int .i64 vn, .string vm, .slice va vl vc, .int .i64 vln, .int .i64 vcl, .int .u8 (sk : Int), .string sm, .slice aa na ca, .slice pa np cp, .slice ra nr cr, .int .i64 sln, .int .i64 scl, .int .u8 (pl : Int), .slice la nl lc, .int .i64 ln, .int .i64 cl]) (by kernel_rfl) ?_
 change wpAnyH _ _ _ _ _ _ _ _ (World.drew _)
 obtain ⟨wb, HWb⟩ : ∃ wb, Hid (wa.drew = wb) := ⟨_, rfl⟩
 have HBab : Hid (Below wa.heap.size wa wb) := by show Below _ _ _; rw [← HWb.out]; exact (Below.refl _ _).drew
 rw [HWb.out]
 clear HWb
 have HBwb := qa0 (jtwo HBa.out HBab.out)
 have HIwb := qa0 (HV1.out.later HBab.out)
 have HSwb := qa0 (HV2.out.later HBab.out)
 have HFwb := qa0 (HV3.out.later HBab.out)
 have hszb : w.heap.size + 3 ≤ wb.heap.size := by have := HBab.out.size; omega
 refine wtkq 0 ?va0 rfl (by kernel_rfl) (fun _ _ _ h => h) (by rfl) ?ya0 HIwb.out ?za0
 case ya0 => (intro wq hSw; (try dsimp only at hSw); have m2 := hSw.cell 2 _ rfl; have m3 := hSw.cell 3 _ rfl; have m4 := hSw.cell 4 _ rfl; have m5 := hSw.cell 5 _ rfl; have m6 := hSw.cell 6 _ rfl; have m7 := hSw.cell 7 _ rfl; clear hSw; go_simp; try with_reducible rfl)
 try simp only [mz1, mz3, Act.put, mz4, mz5, mz6]
 refine wtkq 1 ?va1 rfl (by kernel_rfl) (fun _ _ _ h => h) (by rfl) ?ya1 HIwb.out ?za1
 case ya1 => (intro wq hSw; (try dsimp only at hSw); have m2 := hSw.cell 2 _ rfl; have m3 := hSw.cell 3 _ rfl; have m4 := hSw.cell 4 _ rfl; have m5 := hSw.cell 5 _ rfl; have m6 := hSw.cell 6 _ rfl; have m7 := hSw.cell 7 _ rfl; clear hSw; go_simp; try with_reducible rfl)
 try simp only [mz1, mz2, mz3, Act.put, mz4, mz5, mz6]
 refine wtkq 2 ?va2 rfl (by kernel_rfl) (fun _ _ _ h => h) (by rfl) ?ya2 HIwb.out ?za2
 case ya2 => (intro wq hSw; (try dsimp only at hSw); have m2 := hSw.cell 2 _ rfl; have m3 := hSw.cell 3 _ rfl; have m4 := hSw.cell 4 _ rfl; have m5 := hSw.cell 5 _ rfl; have m6 := hSw.cell 6 _ rfl; have m7 := hSw.cell 7 _ rfl; clear hSw; go_simp; try with_reducible rfl)
 try simp only [mz1, mz2, mz3, Act.put, mz4, mz5, mz6]
 refine wpAnyH_ready (rs := [3, 8]) (by kernel_rfl) (by simp) ?_
 refine AllReadyH.cons rfl (fun KK hKK => ?_) (AllReadyH.cons rfl (fun KK hKK => ?_) AllReadyH.nil)
 ·go_simp
  refine (HEnv.out wb HBwb.out).mono ?_; rintro e w1 ⟨⟨vE, rfl, hcw⟩, hb⟩
  obtain ⟨xE, dE, rfl, _⟩ := hcw.form
  rw [Hcn.out] at hcw ⊢
  have HElw1 := qa0 (HCel.out _ _ _ _ hcw)
  have HBw1 := qa0 (jtwo HBwb.out hb)
  have HIw1 := qa0 (HIwb.out.later hb)
  have HSw1 := qa0 (HSwb.out.later hb)
  have HFw1 := qa0 (HFwb.out.later hb)
  refine hKK.out _ _ HIw1.out (fun _ => ?_)
  clear hKK KK
  try simp only [mz1, mz2, mz3, Act.put, mz4, mz5, mz6]
  refine wpAnyH_ready (rs := [4, 8]) (by kernel_rfl) (by simp) ?_
  refine AllReadyH.cons rfl (fun KK hKK => ?_) (AllReadyH.cons rfl (fun KK hKK => ?_) AllReadyH.nil)
  ·go_simp
   refine (HEvl.out w1 _ _ HBw1.out HElw1.out).mono ?_; rintro e w2 ⟨rfl, hb⟩
   have HBw2 := qa0 (jtwo HBw1.out hb)
   have HIw2 := qa0 (HIw1.out.later hb)
   have HSw2 := qa0 (HSw1.out.later hb)
   have HFw2 := qa0 (HFw1.out.later hb)
   refine hKK.out _ _ HIw2.out (fun _ => ?_)
   clear hKK KK
   try simp only [mz1, mz2, mz3, Act.put, mz4, mz5, mz6]
   refine wtkq 5 ?vc5 rfl (by kernel_rfl) (fun _ _ _ h => h) (by rfl) ?yc5 HIw2.out ?zc5
   case yc5 => (intro wq hSw; (try dsimp only at hSw); go_simp; try with_reducible rfl)
   try simp only [mz1, mz2, mz3, Act.put, mz4, mz5, mz6]
   refine wtkq 6 ?vc6 rfl (by kernel_rfl) (fun _ _ _ h => h) (by rfl) ?yc6 HIw2.out ?zc6
   case yc6 => (intro wq hSw; (try dsimp only at hSw); go_simp; try with_reducible rfl)
   try simp only [mz1, mz2, mz3, Act.put, mz4, mz5, mz6]
   refine wtkq 7 ?vc7 rfl (by kernel_rfl) (fun _ _ _ h => h) (by rfl) ?yc7 HIw2.out ?zc7
   case yc7 => (intro wq hSw; (try dsimp only at hSw); go_simp; try with_reducible rfl)
   try simp only [mz1, mz2, mz3, Act.put, mz4, mz5, mz6]
   refine wpAnyH_ready (rs := [8]) (by kernel_rfl) (by simp) ?_
   refine AllReadyH.cons rfl (fun KK hKK => ?_) AllReadyH.nil
   go_simp
   obtain ⟨w3, HWw3⟩ : ∃ x, Hid (w2.alloc (.cells #[.int .i64 0, .int .i64 0, .int .i64 0] 26) = x) := ⟨_, rfl⟩
   rw [HWw3.out]
   have hb : Below w2.heap.size w2 w3 := by rw [← HWw3.out]; exact jlow _ _
   have HGw3 : Hid (Vn w3 w2.heap.size 26 #[.int .i64 0, .int .i64 0, .int .i64 0]) := by show Vn _ _ _ _; rw [← HWw3.out]; exact Vn.new _ _ _
   have HBw3 := qa0 (jtwo HBw2.out hb)
   have HIw3 := qa0 (HIw2.out.later hb)
   have HSw3 := qa0 (HSw2.out.later hb)
   have HFw3 := qa0 (HFw2.out.later hb)
   refine hKK.out _ _ HIw3.out (fun _ => ?_)
   clear hKK KK
   try simp only [mz1, mz2, mz3, Act.put, mz4, mz5, mz6]
   have hsz3 : w.heap.size + 3 ≤ w2.heap.size := by have h1 := HBw2.out.size; have h2 := HIw2.out.lt; have h3 := HFw2.out.lt; omega
   refine wtkq 9 ?vd9 rfl (by kernel_rfl) (fun _ _ _ h => h) (by rfl) ?yd9 HIw3.out ?zd9
   case yd9 => (intro wq hSw; (try dsimp only at hSw); go_simp; try with_reducible rfl)
   try simp only [mz1, mz2, mz3, Act.put, mz4, mz5, mz6]
   refine wpAnyH_ready (rs := [10]) (by kernel_rfl) (by simp) ?_
   refine AllReadyH.cons rfl (fun KK hKK => ?_) AllReadyH.nil
   refine qa6 26 _ _ rfl w2.heap.size _ #[.int .i64 (V.c : Int), .int .i64 V.ln, .int .i64 V.cl] rfl rfl HGw3.out qam rfl (all3 rfl rfl rfl) ?_; intro wx HGx hgx
   have hbf := HBw2.out.size
   have HIx := qa0 (HIw3.out.keptR hgx.out (by simp; omega))
   have HSx := qa0 (HSw3.out.keptR hgx.out (by simp; omega))
   have HFx := qa0 (HFw3.out.keptR hgx.out (by simp; omega))
   have HBx : Hid (Below w.heap.size w wx) := HBw3.out.trans (jbelow hgx.out HBw3.out.size (fun g e => by cases e; omega))
   refine hKK.out _ _ HIx.out (fun _ => ?_)
   clear hKK KK hgx
   try simp only [mz1, mz2, mz3, Act.put]
   refine wpAnyH_done (by kernel_rfl) ?_ _
   try simp only [mz1, mz2, mz3, Act.put, mz4, mz5, mz6]
   go_wp2
   refine wp_region_held (S := fun w' => Vn w' w.heap.size 61 #[.int .u8 (k : Int), .string nm, .int .u8 (vk : Int), .int .i64 vn, .string vm, .slice va vl vc, .int .i64 vln, .int .i64 vcl, .int .u8 (sk : Int), .string sm, .slice aa na ca, .slice pa np cp, .slice ra nr cr, .int .i64 sln, .int .i64 scl, .int .u8 (pl : Int), .slice la nl lc, .int .i64 ln, .int .i64 cl] ∧ Vn w' w2.heap.size 26 #[.int .i64 (V.c : Int), .int .i64 V.ln, .int .i64 V.cl]) (by kernel_rfl) ?_
   change wpAnyH _ _ _ _ _ _ _ _ (World.drew _)
   obtain ⟨wd, HWd⟩ : ∃ wd, Hid (wx.drew = wd) := ⟨_, rfl⟩
   have HBd : Hid (Below wx.heap.size wx wd) := by show Below _ _ _; rw [← HWd.out]; exact (Below.refl _ _).drew
   rw [HWd.out]
   clear HWd
   have HSd : Hid (Vn wd w.heap.size 61 #[.int .u8 (k : Int), .string nm, .int .u8 (vk : Int), .int .i64 vn, .string vm, .slice va vl vc, .int .i64 vln, .int .i64 vcl, .int .u8 (sk : Int), .string sm, .slice aa na ca, .slice pa np cp, .slice ra nr cr, .int .i64 sln, .int .i64 scl, .int .u8 (pl : Int), .slice la nl lc, .int .i64 ln, .int .i64 cl] ∧ Vn wd w2.heap.size 26 #[.int .i64 (V.c : Int), .int .i64 V.ln, .int .i64 V.cl]) := ⟨HIx.out.later HBd.out, HGx.out.later HBd.out⟩
   have HYd := qa0 (HSx.out.later HBd.out)
   have HZd := qa0 (HFx.out.later HBd.out)
   have HXd := qa0 (jtwo HBx.out HBd.out)
   refine wtkq 0 ?vdb0 rfl (by kernel_rfl) (fun _ _ _ h => h) (by rfl) ?ydb0 HSd.out ?zdb0
   case ydb0 => (intro wq hSw; (try dsimp only at hSw); have m1 := hSw.1.cell 1 _ rfl; have n0 := hSw.2.cell 0 _ rfl; have n1 := hSw.2.cell 1 _ rfl; have n2 := hSw.2.cell 2 _ rfl; clear hSw; go_simp; try with_reducible rfl)
   try simp only [mz1, mz3, Act.put, mz4, mz5, mz6]
   refine wtkq 1 ?vdb1 rfl (by kernel_rfl) (fun _ _ _ h => h) (by rfl) ?ydb1 HSd.out ?zdb1
   case ydb1 => (intro wq hSw; (try dsimp only at hSw); have m1 := hSw.1.cell 1 _ rfl; have n0 := hSw.2.cell 0 _ rfl; have n1 := hSw.2.cell 1 _ rfl; have n2 := hSw.2.cell 2 _ rfl; clear hSw; go_simp; try with_reducible rfl)
   try simp only [mz1, mz2, mz3, Act.put, mz4, mz5, mz6]
   refine wtkq 2 ?vdb2 rfl (by kernel_rfl) (fun _ _ _ h => h) (by rfl) ?ydb2 HSd.out ?zdb2
   case ydb2 => (intro wq hSw; (try dsimp only at hSw); have m1 := hSw.1.cell 1 _ rfl; have n0 := hSw.2.cell 0 _ rfl; have n1 := hSw.2.cell 1 _ rfl; have n2 := hSw.2.cell 2 _ rfl; clear hSw; go_simp; try with_reducible rfl)
   try simp only [mz1, mz2, mz3, Act.put, mz4, mz5, mz6]
   refine wtkq 3 ?vdb3 rfl (by kernel_rfl) (fun _ _ _ h => h) (by rfl) ?ydb3 HSd.out ?zdb3
   case ydb3 => (intro wq hSw; (try dsimp only at hSw); have m1 := hSw.1.cell 1 _ rfl; have n0 := hSw.2.cell 0 _ rfl; have n1 := hSw.2.cell 1 _ rfl; have n2 := hSw.2.cell 2 _ rfl; clear hSw; go_simp; try with_reducible rfl)
   try simp only [mz1, mz2, mz3, Act.put, mz4, mz5, mz6]
   refine wtkq 4 ?vdb4 rfl (by kernel_rfl) (fun _ _ _ h => h) (by rfl) ?ydb4 HSd.out ?zdb4
   case ydb4 => (intro wq hSw; (try dsimp only at hSw); have m1 := hSw.1.cell 1 _ rfl; have n0 := hSw.2.cell 0 _ rfl; have n1 := hSw.2.cell 1 _ rfl; have n2 := hSw.2.cell 2 _ rfl; clear hSw; go_simp; try with_reducible rfl)
   try simp only [mz1, mz2, mz3, Act.put, mz4, mz5, mz6]
   refine wpAnyH_ready (rs := [5]) (by kernel_rfl) (by simp) ?_
   refine AllReadyH.cons rfl (fun KK hKK => ?_) AllReadyH.nil
   refine qa6 35 _ _ rfl (w.heap.size + 1) _ #[.string nm, .int .u8 1, .int .i64 0, .int .i64 V.v] rfl rfl HYd.out sizeSy rfl (qff rfl rfl rfl rfl) ?_; intro w7 HZ7 hg7
   have HSe : Hid (Vn w7 w.heap.size 61 #[.int .u8 (k : Int), .string nm, .int .u8 (vk : Int), .int .i64 vn, .string vm, .slice va vl vc, .int .i64 vln, .int .i64 vcl, .int .u8 (sk : Int), .string sm, .slice aa na ca, .slice pa np cp, .slice ra nr cr, .int .i64 sln, .int .i64 scl, .int .u8 (pl : Int), .slice la nl lc, .int .i64 ln, .int .i64 cl] ∧ Vn w7 w2.heap.size 26 #[.int .i64 (V.c : Int), .int .i64 V.ln, .int .i64 V.cl]) := ⟨HSd.out.1.keptR hg7.out (by simp), HSd.out.2.keptR hg7.out (by simp; omega)⟩
   have HF7 := qa0 (HZd.out.keptR hg7.out (by simp))
   have HB7 : Hid (Below w.heap.size w w7) := HXd.out.trans (jbelow hg7.out HXd.out.size (fun g e => by cases e; omega))
   refine hKK.out _ _ HSe.out (fun _ => ?_)
   clear hKK KK hg7
   try simp only [mz1, mz2, mz3, Act.put]
   refine wpAnyH_ready (rs := [6]) (by kernel_rfl) (by simp) ?_
   refine AllReadyH.cons rfl (fun KK hKK => ?_) AllReadyH.nil
   refine qa6 26 _ _ rfl (w.heap.size + 1 + 1) _ #[.int .i64 (V.c : Int), .int .i64 V.ln, .int .i64 V.cl] rfl rfl HF7.out qam rfl (all3 rfl rfl rfl) ?_; intro w8 HZ2 hg8
   have HSf : Hid (Vn w8 w.heap.size 61 #[.int .u8 (k : Int), .string nm, .int .u8 (vk : Int), .int .i64 vn, .string vm, .slice va vl vc, .int .i64 vln, .int .i64 vcl, .int .u8 (sk : Int), .string sm, .slice aa na ca, .slice pa np cp, .slice ra nr cr, .int .i64 sln, .int .i64 scl, .int .u8 (pl : Int), .slice la nl lc, .int .i64 ln, .int .i64 cl] ∧ Vn w8 w2.heap.size 26 #[.int .i64 (V.c : Int), .int .i64 V.ln, .int .i64 V.cl]) := ⟨HSe.out.1.keptR hg8.out (by simp; omega), HSe.out.2.keptR hg8.out (by simp; omega)⟩
   have HZ1 := qa0 (HZ7.out.keptR hg8.out (by simp))
   have HZB : Hid (Below w.heap.size w w8) := HB7.out.trans (jbelow hg8.out HB7.out.size (fun g e => by cases e; omega))
   refine hKK.out _ _ HSf.out (fun _ => ?_)
   clear hKK KK hg8
   try simp only [mz1, mz2, mz3, Act.put]
   refine wpAnyH_done (by kernel_rfl) ?_ _
   try simp only [mz1, mz2, mz3, Act.put, mz4, mz5, mz6]
   go_wp2
   have d0 := HZ1.out.cell 0 _ rfl
   have d1 := HZ1.out.cell 1 _ rfl
   have d2 := HZ1.out.cell 2 _ rfl
   have d3 := HZ1.out.cell 3 _ rfl
   have g0 := HZ2.out.cell 0 _ rfl
   have g1 := HZ2.out.cell 1 _ rfl
   have g2 := HZ2.out.cell 2 _ rfl
   refine bodyPost_ret (v := .tuple #[.agg #[.string nm, .int .u8 1, .int .i64 0, .int .i64 V.v], .agg #[.int .i64 (V.c : Int), .int .i64 V.ln, .int .i64 V.cl]]) (by simp [results, Tryd.results23, go_sem, d0, d1, d2, d3, g0, g1, g2]) rfl ?_
   exact ⟨rfl, HZB.out⟩
  ·go_simp
   obtain ⟨w2, HWw2⟩ : ∃ x, Hid (w1.alloc (.cells #[.int .i64 0, .int .i64 0, .int .i64 0] 26) = x) := ⟨_, rfl⟩
   rw [HWw2.out]
   have hb : Below w1.heap.size w1 w2 := by rw [← HWw2.out]; exact jlow _ _
   have HGw2 : Hid (Vn w2 w1.heap.size 26 #[.int .i64 0, .int .i64 0, .int .i64 0]) := by show Vn _ _ _ _; rw [← HWw2.out]; exact Vn.new _ _ _
   have HBw2 := qa0 (jtwo HBw1.out hb)
   have HIw2 := qa0 (HIw1.out.later hb)
   have HSw2 := qa0 (HSw1.out.later hb)
   have HFw2 := qa0 (HFw1.out.later hb)
   have HEl2 := qa0 (HElw1.out.later hb)
   refine hKK.out _ _ HIw2.out (fun _ => ?_)
   clear hKK KK
   try simp only [mz1, mz2, mz3, Act.put, mz4, mz5, mz6]
   refine wpAnyH_ready (rs := [4]) (by kernel_rfl) (by simp) ?_
   refine AllReadyH.cons rfl (fun KK hKK => ?_) AllReadyH.nil
   go_simp
   refine (HEvl.out w2 _ _ HBw2.out HEl2.out).mono ?_; rintro e w3 ⟨rfl, hb⟩
   have HBw3 := qa0 (jtwo HBw2.out hb)
   have HIw3 := qa0 (HIw2.out.later hb)
   have HSw3 := qa0 (HSw2.out.later hb)
   have HFw3 := qa0 (HFw2.out.later hb)
   have HGw3 := qa0 (HGw2.out.later hb)
   refine hKK.out _ _ HIw3.out (fun _ => ?_)
   clear hKK KK
   try simp only [mz1, mz2, mz3, Act.put, mz4, mz5, mz6]
   refine wtkq 5 ?ve5 rfl (by kernel_rfl) (fun _ _ _ h => h) (by rfl) ?ye5 HIw3.out ?ze5
   case ye5 => (intro wq hSw; (try dsimp only at hSw); go_simp; try with_reducible rfl)
   try simp only [mz1, mz2, mz3, Act.put, mz4, mz5, mz6]
   refine wtkq 6 ?ve6 rfl (by kernel_rfl) (fun _ _ _ h => h) (by rfl) ?ye6 HIw3.out ?ze6
   case ye6 => (intro wq hSw; (try dsimp only at hSw); go_simp; try with_reducible rfl)
   try simp only [mz1, mz2, mz3, Act.put, mz4, mz5, mz6]
   refine wtkq 7 ?ve7 rfl (by kernel_rfl) (fun _ _ _ h => h) (by rfl) ?ye7 HIw3.out ?ze7
   case ye7 => (intro wq hSw; (try dsimp only at hSw); go_simp; try with_reducible rfl)
   try simp only [mz1, mz2, mz3, Act.put, mz4, mz5, mz6]
   have hsz3 : w.heap.size + 3 ≤ w1.heap.size := by have h3 := HFw1.out.lt; omega
   refine wtkq 9 ?vf9 rfl (by kernel_rfl) (fun _ _ _ h => h) (by rfl) ?yf9 HIw3.out ?zf9
   case yf9 => (intro wq hSw; (try dsimp only at hSw); go_simp; try with_reducible rfl)
   try simp only [mz1, mz2, mz3, Act.put, mz4, mz5, mz6]
   refine wpAnyH_ready (rs := [10]) (by kernel_rfl) (by simp) ?_
   refine AllReadyH.cons rfl (fun KK hKK => ?_) AllReadyH.nil
   refine qa6 26 _ _ rfl w1.heap.size _ #[.int .i64 (V.c : Int), .int .i64 V.ln, .int .i64 V.cl] rfl rfl HGw3.out qam rfl (all3 rfl rfl rfl) ?_; intro wx HGx hgx
   have hbf := HBw1.out.size
   have HIx := qa0 (HIw3.out.keptR hgx.out (by simp; omega))
   have HSx := qa0 (HSw3.out.keptR hgx.out (by simp; omega))
   have HFx := qa0 (HFw3.out.keptR hgx.out (by simp; omega))
   have HBx : Hid (Below w.heap.size w wx) := HBw3.out.trans (jbelow hgx.out HBw3.out.size (fun g e => by cases e; omega))
   refine hKK.out _ _ HIx.out (fun _ => ?_)
   clear hKK KK hgx
   try simp only [mz1, mz2, mz3, Act.put]
   refine wpAnyH_done (by kernel_rfl) ?_ _
   try simp only [mz1, mz2, mz3, Act.put, mz4, mz5, mz6]
   go_wp2
   refine wp_region_held (S := fun w' => Vn w' w.heap.size 61 #[.int .u8 (k : Int), .string nm, .int .u8 (vk : Int), .int .i64 vn, .string vm, .slice va vl vc, .int .i64 vln, .int .i64 vcl, .int .u8 (sk : Int), .string sm, .slice aa na ca, .slice pa np cp, .slice ra nr cr, .int .i64 sln, .int .i64 scl, .int .u8 (pl : Int), .slice la nl lc, .int .i64 ln, .int .i64 cl] ∧ Vn w' w1.heap.size 26 #[.int .i64 (V.c : Int), .int .i64 V.ln, .int .i64 V.cl]) (by kernel_rfl) ?_
   change wpAnyH _ _ _ _ _ _ _ _ (World.drew _)
   obtain ⟨wd, HWd⟩ : ∃ wd, Hid (wx.drew = wd) := ⟨_, rfl⟩
   have HBd : Hid (Below wx.heap.size wx wd) := by show Below _ _ _; rw [← HWd.out]; exact (Below.refl _ _).drew
   rw [HWd.out]
   clear HWd
   have HSd : Hid (Vn wd w.heap.size 61 #[.int .u8 (k : Int), .string nm, .int .u8 (vk : Int), .int .i64 vn, .string vm, .slice va vl vc, .int .i64 vln, .int .i64 vcl, .int .u8 (sk : Int), .string sm, .slice aa na ca, .slice pa np cp, .slice ra nr cr, .int .i64 sln, .int .i64 scl, .int .u8 (pl : Int), .slice la nl lc, .int .i64 ln, .int .i64 cl] ∧ Vn wd w1.heap.size 26 #[.int .i64 (V.c : Int), .int .i64 V.ln, .int .i64 V.cl]) := ⟨HIx.out.later HBd.out, HGx.out.later HBd.out⟩
   have HYd := qa0 (HSx.out.later HBd.out)
   have HZd := qa0 (HFx.out.later HBd.out)
   have HXd := qa0 (jtwo HBx.out HBd.out)
   refine wtkq 0 ?vfb0 rfl (by kernel_rfl) (fun _ _ _ h => h) (by rfl) ?yfb0 HSd.out ?zfb0
   case yfb0 => (intro wq hSw; (try dsimp only at hSw); have m1 := hSw.1.cell 1 _ rfl; have n0 := hSw.2.cell 0 _ rfl; have n1 := hSw.2.cell 1 _ rfl; have n2 := hSw.2.cell 2 _ rfl; clear hSw; go_simp; try with_reducible rfl)
   try simp only [mz1, mz3, Act.put, mz4, mz5, mz6]
   refine wtkq 1 ?vfb1 rfl (by kernel_rfl) (fun _ _ _ h => h) (by rfl) ?yfb1 HSd.out ?zfb1
   case yfb1 => (intro wq hSw; (try dsimp only at hSw); have m1 := hSw.1.cell 1 _ rfl; have n0 := hSw.2.cell 0 _ rfl; have n1 := hSw.2.cell 1 _ rfl; have n2 := hSw.2.cell 2 _ rfl; clear hSw; go_simp; try with_reducible rfl)
   try simp only [mz1, mz2, mz3, Act.put, mz4, mz5, mz6]
   refine wtkq 2 ?vfb2 rfl (by kernel_rfl) (fun _ _ _ h => h) (by rfl) ?yfb2 HSd.out ?zfb2
   case yfb2 => (intro wq hSw; (try dsimp only at hSw); have m1 := hSw.1.cell 1 _ rfl; have n0 := hSw.2.cell 0 _ rfl; have n1 := hSw.2.cell 1 _ rfl; have n2 := hSw.2.cell 2 _ rfl; clear hSw; go_simp; try with_reducible rfl)
   try simp only [mz1, mz2, mz3, Act.put, mz4, mz5, mz6]
   refine wtkq 3 ?vfb3 rfl (by kernel_rfl) (fun _ _ _ h => h) (by rfl) ?yfb3 HSd.out ?zfb3
   case yfb3 => (intro wq hSw; (try dsimp only at hSw); have m1 := hSw.1.cell 1 _ rfl; have n0 := hSw.2.cell 0 _ rfl; have n1 := hSw.2.cell 1 _ rfl; have n2 := hSw.2.cell 2 _ rfl; clear hSw; go_simp; try with_reducible rfl)
   try simp only [mz1, mz2, mz3, Act.put, mz4, mz5, mz6]
   refine wtkq 4 ?vfb4 rfl (by kernel_rfl) (fun _ _ _ h => h) (by rfl) ?yfb4 HSd.out ?zfb4
   case yfb4 => (intro wq hSw; (try dsimp only at hSw); have m1 := hSw.1.cell 1 _ rfl; have n0 := hSw.2.cell 0 _ rfl; have n1 := hSw.2.cell 1 _ rfl; have n2 := hSw.2.cell 2 _ rfl; clear hSw; go_simp; try with_reducible rfl)
   try simp only [mz1, mz2, mz3, Act.put, mz4, mz5, mz6]
   refine wpAnyH_ready (rs := [5]) (by kernel_rfl) (by simp) ?_
   refine AllReadyH.cons rfl (fun KK hKK => ?_) AllReadyH.nil
   refine qa6 35 _ _ rfl (w.heap.size + 1) _ #[.string nm, .int .u8 1, .int .i64 0, .int .i64 V.v] rfl rfl HYd.out sizeSy rfl (qff rfl rfl rfl rfl) ?_; intro w7 HZ7 hg7
   have HSe : Hid (Vn w7 w.heap.size 61 #[.int .u8 (k : Int), .string nm, .int .u8 (vk : Int), .int .i64 vn, .string vm, .slice va vl vc, .int .i64 vln, .int .i64 vcl, .int .u8 (sk : Int), .string sm, .slice aa na ca, .slice pa np cp, .slice ra nr cr, .int .i64 sln, .int .i64 scl, .int .u8 (pl : Int), .slice la nl lc, .int .i64 ln, .int .i64 cl] ∧ Vn w7 w1.heap.size 26 #[.int .i64 (V.c : Int), .int .i64 V.ln, .int .i64 V.cl]) := ⟨HSd.out.1.keptR hg7.out (by simp), HSd.out.2.keptR hg7.out (by simp; omega)⟩
   have HF7 := qa0 (HZd.out.keptR hg7.out (by simp))
   have HB7 : Hid (Below w.heap.size w w7) := HXd.out.trans (jbelow hg7.out HXd.out.size (fun g e => by cases e; omega))
   refine hKK.out _ _ HSe.out (fun _ => ?_)
   clear hKK KK hg7
   try simp only [mz1, mz2, mz3, Act.put]
   refine wpAnyH_ready (rs := [6]) (by kernel_rfl) (by simp) ?_
   refine AllReadyH.cons rfl (fun KK hKK => ?_) AllReadyH.nil
   refine qa6 26 _ _ rfl (w.heap.size + 1 + 1) _ #[.int .i64 (V.c : Int), .int .i64 V.ln, .int .i64 V.cl] rfl rfl HF7.out qam rfl (all3 rfl rfl rfl) ?_; intro w8 HZ2 hg8
   have HSf : Hid (Vn w8 w.heap.size 61 #[.int .u8 (k : Int), .string nm, .int .u8 (vk : Int), .int .i64 vn, .string vm, .slice va vl vc, .int .i64 vln, .int .i64 vcl, .int .u8 (sk : Int), .string sm, .slice aa na ca, .slice pa np cp, .slice ra nr cr, .int .i64 sln, .int .i64 scl, .int .u8 (pl : Int), .slice la nl lc, .int .i64 ln, .int .i64 cl] ∧ Vn w8 w1.heap.size 26 #[.int .i64 (V.c : Int), .int .i64 V.ln, .int .i64 V.cl]) := ⟨HSe.out.1.keptR hg8.out (by simp; omega), HSe.out.2.keptR hg8.out (by simp; omega)⟩
   have HZ1 := qa0 (HZ7.out.keptR hg8.out (by simp))
   have HZB : Hid (Below w.heap.size w w8) := HB7.out.trans (jbelow hg8.out HB7.out.size (fun g e => by cases e; omega))
   refine hKK.out _ _ HSf.out (fun _ => ?_)
   clear hKK KK hg8
   try simp only [mz1, mz2, mz3, Act.put]
   refine wpAnyH_done (by kernel_rfl) ?_ _
   try simp only [mz1, mz2, mz3, Act.put, mz4, mz5, mz6]
   go_wp2
   have d0 := HZ1.out.cell 0 _ rfl
   have d1 := HZ1.out.cell 1 _ rfl
   have d2 := HZ1.out.cell 2 _ rfl
   have d3 := HZ1.out.cell 3 _ rfl
   have g0 := HZ2.out.cell 0 _ rfl
   have g1 := HZ2.out.cell 1 _ rfl
   have g2 := HZ2.out.cell 2 _ rfl
   refine bodyPost_ret (v := .tuple #[.agg #[.string nm, .int .u8 1, .int .i64 0, .int .i64 V.v], .agg #[.int .i64 (V.c : Int), .int .i64 V.ln, .int .i64 V.cl]]) (by simp [results, Tryd.results23, go_sem, d0, d1, d2, d3, g0, g1, g2]) rfl ?_
   exact ⟨rfl, HZB.out⟩
 ·go_simp
  obtain ⟨w1, HWw1⟩ : ∃ x, Hid (wb.alloc (.cells #[.int .i64 0, .int .i64 0, .int .i64 0] 26) = x) := ⟨_, rfl⟩
  rw [HWw1.out]
  have hb : Below wb.heap.size wb w1 := by rw [← HWw1.out]; exact jlow _ _
  have HGw1 : Hid (Vn w1 wb.heap.size 26 #[.int .i64 0, .int .i64 0, .int .i64 0]) := by show Vn _ _ _ _; rw [← HWw1.out]; exact Vn.new _ _ _
  have HBw1 := qa0 (jtwo HBwb.out hb)
  have HIw1 := qa0 (HIwb.out.later hb)
  have HSw1 := qa0 (HSwb.out.later hb)
  have HFw1 := qa0 (HFwb.out.later hb)
  refine hKK.out _ _ HIw1.out (fun _ => ?_)
  clear hKK KK
  try simp only [mz1, mz2, mz3, Act.put, mz4, mz5, mz6]
  refine wpAnyH_ready (rs := [3]) (by kernel_rfl) (by simp) ?_
  refine AllReadyH.cons rfl (fun KK hKK => ?_) AllReadyH.nil
  go_simp
  refine (HEnv.out w1 HBw1.out).mono ?_; rintro e w2 ⟨⟨vE, rfl, hcw⟩, hb⟩
  obtain ⟨xE, dE, rfl, _⟩ := hcw.form
  rw [Hcn.out] at hcw ⊢
  have HElw2 := qa0 (HCel.out _ _ _ _ hcw)
  have HBw2 := qa0 (jtwo HBw1.out hb)
  have HIw2 := qa0 (HIw1.out.later hb)
  have HSw2 := qa0 (HSw1.out.later hb)
  have HFw2 := qa0 (HFw1.out.later hb)
  have HGw2 := qa0 (HGw1.out.later hb)
  refine hKK.out _ _ HIw2.out (fun _ => ?_)
  clear hKK KK
  try simp only [mz1, mz2, mz3, Act.put, mz4, mz5, mz6]
  refine wpAnyH_ready (rs := [4]) (by kernel_rfl) (by simp) ?_
  refine AllReadyH.cons rfl (fun KK hKK => ?_) AllReadyH.nil
  go_simp
  refine (HEvl.out w2 _ _ HBw2.out HElw2.out).mono ?_; rintro e w3 ⟨rfl, hb⟩
  have HBw3 := qa0 (jtwo HBw2.out hb)
  have HIw3 := qa0 (HIw2.out.later hb)
  have HSw3 := qa0 (HSw2.out.later hb)
  have HFw3 := qa0 (HFw2.out.later hb)
  have HGw3 := qa0 (HGw2.out.later hb)
  refine hKK.out _ _ HIw3.out (fun _ => ?_)
  clear hKK KK
  try simp only [mz1, mz2, mz3, Act.put, mz4, mz5, mz6]
  refine wtkq 5 ?vg5 rfl (by kernel_rfl) (fun _ _ _ h => h) (by rfl) ?yg5 HIw3.out ?zg5
  case yg5 => (intro wq hSw; (try dsimp only at hSw); go_simp; try with_reducible rfl)
  try simp only [mz1, mz2, mz3, Act.put, mz4, mz5, mz6]
  refine wtkq 6 ?vg6 rfl (by kernel_rfl) (fun _ _ _ h => h) (by rfl) ?yg6 HIw3.out ?zg6
  case yg6 => (intro wq hSw; (try dsimp only at hSw); go_simp; try with_reducible rfl)
  try simp only [mz1, mz2, mz3, Act.put, mz4, mz5, mz6]
  refine wtkq 7 ?vg7 rfl (by kernel_rfl) (fun _ _ _ h => h) (by rfl) ?yg7 HIw3.out ?zg7
  case yg7 => (intro wq hSw; (try dsimp only at hSw); go_simp; try with_reducible rfl)
  try simp only [mz1, mz2, mz3, Act.put, mz4, mz5, mz6]
  refine wtkq 9 ?vh9 rfl (by kernel_rfl) (fun _ _ _ h => h) (by rfl) ?yh9 HIw3.out ?zh9
  case yh9 => (intro wq hSw; (try dsimp only at hSw); go_simp; try with_reducible rfl)
  try simp only [mz1, mz2, mz3, Act.put, mz4, mz5, mz6]
  refine wpAnyH_ready (rs := [10]) (by kernel_rfl) (by simp) ?_
  refine AllReadyH.cons rfl (fun KK hKK => ?_) AllReadyH.nil
  refine qa6 26 _ _ rfl wb.heap.size _ #[.int .i64 (V.c : Int), .int .i64 V.ln, .int .i64 V.cl] rfl rfl HGw3.out qam rfl (all3 rfl rfl rfl) ?_; intro wx HGx hgx
  have hbf := HBwb.out.size
  have HIx := qa0 (HIw3.out.keptR hgx.out (by simp; omega))
  have HSx := qa0 (HSw3.out.keptR hgx.out (by simp; omega))
  have HFx := qa0 (HFw3.out.keptR hgx.out (by simp; omega))
  have HBx : Hid (Below w.heap.size w wx) := HBw3.out.trans (jbelow hgx.out HBw3.out.size (fun g e => by cases e; omega))
  refine hKK.out _ _ HIx.out (fun _ => ?_)
  clear hKK KK hgx
  try simp only [mz1, mz2, mz3, Act.put]
  refine wpAnyH_done (by kernel_rfl) ?_ _
  try simp only [mz1, mz2, mz3, Act.put, mz4, mz5, mz6]
  go_wp2
  refine wp_region_held (S := fun w' => Vn w' w.heap.size 61 #[.int .u8 (k : Int), .string nm, .int .u8 (vk : Int), .int .i64 vn, .string vm, .slice va vl vc, .int .i64 vln, .int .i64 vcl, .int .u8 (sk : Int), .string sm, .slice aa na ca, .slice pa np cp, .slice ra nr cr, .int .i64 sln, .int .i64 scl, .int .u8 (pl : Int), .slice la nl lc, .int .i64 ln, .int .i64 cl] ∧ Vn w' wb.heap.size 26 #[.int .i64 (V.c : Int), .int .i64 V.ln, .int .i64 V.cl]) (by kernel_rfl) ?_
  change wpAnyH _ _ _ _ _ _ _ _ (World.drew _)
  obtain ⟨wd, HWd⟩ : ∃ wd, Hid (wx.drew = wd) := ⟨_, rfl⟩
  have HBd : Hid (Below wx.heap.size wx wd) := by show Below _ _ _; rw [← HWd.out]; exact (Below.refl _ _).drew
  rw [HWd.out]
  clear HWd
  have HSd : Hid (Vn wd w.heap.size 61 #[.int .u8 (k : Int), .string nm, .int .u8 (vk : Int), .int .i64 vn, .string vm, .slice va vl vc, .int .i64 vln, .int .i64 vcl, .int .u8 (sk : Int), .string sm, .slice aa na ca, .slice pa np cp, .slice ra nr cr, .int .i64 sln, .int .i64 scl, .int .u8 (pl : Int), .slice la nl lc, .int .i64 ln, .int .i64 cl] ∧ Vn wd wb.heap.size 26 #[.int .i64 (V.c : Int), .int .i64 V.ln, .int .i64 V.cl]) := ⟨HIx.out.later HBd.out, HGx.out.later HBd.out⟩
  have HYd := qa0 (HSx.out.later HBd.out)
  have HZd := qa0 (HFx.out.later HBd.out)
  have HXd := qa0 (jtwo HBx.out HBd.out)
  refine wtkq 0 ?vhb0 rfl (by kernel_rfl) (fun _ _ _ h => h) (by rfl) ?yhb0 HSd.out ?zhb0
  case yhb0 => (intro wq hSw; (try dsimp only at hSw); have m1 := hSw.1.cell 1 _ rfl; have n0 := hSw.2.cell 0 _ rfl; have n1 := hSw.2.cell 1 _ rfl; have n2 := hSw.2.cell 2 _ rfl; clear hSw; go_simp; try with_reducible rfl)
  try simp only [mz1, mz3, Act.put, mz4, mz5, mz6]
  refine wtkq 1 ?vhb1 rfl (by kernel_rfl) (fun _ _ _ h => h) (by rfl) ?yhb1 HSd.out ?zhb1
  case yhb1 => (intro wq hSw; (try dsimp only at hSw); have m1 := hSw.1.cell 1 _ rfl; have n0 := hSw.2.cell 0 _ rfl; have n1 := hSw.2.cell 1 _ rfl; have n2 := hSw.2.cell 2 _ rfl; clear hSw; go_simp; try with_reducible rfl)
  try simp only [mz1, mz2, mz3, Act.put, mz4, mz5, mz6]
  refine wtkq 2 ?vhb2 rfl (by kernel_rfl) (fun _ _ _ h => h) (by rfl) ?yhb2 HSd.out ?zhb2
  case yhb2 => (intro wq hSw; (try dsimp only at hSw); have m1 := hSw.1.cell 1 _ rfl; have n0 := hSw.2.cell 0 _ rfl; have n1 := hSw.2.cell 1 _ rfl; have n2 := hSw.2.cell 2 _ rfl; clear hSw; go_simp; try with_reducible rfl)
  try simp only [mz1, mz2, mz3, Act.put, mz4, mz5, mz6]
  refine wtkq 3 ?vhb3 rfl (by kernel_rfl) (fun _ _ _ h => h) (by rfl) ?yhb3 HSd.out ?zhb3
  case yhb3 => (intro wq hSw; (try dsimp only at hSw); have m1 := hSw.1.cell 1 _ rfl; have n0 := hSw.2.cell 0 _ rfl; have n1 := hSw.2.cell 1 _ rfl; have n2 := hSw.2.cell 2 _ rfl; clear hSw; go_simp; try with_reducible rfl)
  try simp only [mz1, mz2, mz3, Act.put, mz4, mz5, mz6]
  refine wtkq 4 ?vhb4 rfl (by kernel_rfl) (fun _ _ _ h => h) (by rfl) ?yhb4 HSd.out ?zhb4
  case yhb4 => (intro wq hSw; (try dsimp only at hSw); have m1 := hSw.1.cell 1 _ rfl; have n0 := hSw.2.cell 0 _ rfl; have n1 := hSw.2.cell 1 _ rfl; have n2 := hSw.2.cell 2 _ rfl; clear hSw; go_simp; try with_reducible rfl)
  try simp only [mz1, mz2, mz3, Act.put, mz4, mz5, mz6]
  refine wpAnyH_ready (rs := [5]) (by kernel_rfl) (by simp) ?_
  refine AllReadyH.cons rfl (fun KK hKK => ?_) AllReadyH.nil
  refine qa6 35 _ _ rfl (w.heap.size + 1) _ #[.string nm, .int .u8 1, .int .i64 0, .int .i64 V.v] rfl rfl HYd.out sizeSy rfl (qff rfl rfl rfl rfl) ?_; intro w7 HZ7 hg7
  have HSe : Hid (Vn w7 w.heap.size 61 #[.int .u8 (k : Int), .string nm, .int .u8 (vk : Int), .int .i64 vn, .string vm, .slice va vl vc, .int .i64 vln, .int .i64 vcl, .int .u8 (sk : Int), .string sm, .slice aa na ca, .slice pa np cp, .slice ra nr cr, .int .i64 sln, .int .i64 scl, .int .u8 (pl : Int), .slice la nl lc, .int .i64 ln, .int .i64 cl] ∧ Vn w7 wb.heap.size 26 #[.int .i64 (V.c : Int), .int .i64 V.ln, .int .i64 V.cl]) := ⟨HSd.out.1.keptR hg7.out (by simp), HSd.out.2.keptR hg7.out (by simp; omega)⟩
  have HF7 := qa0 (HZd.out.keptR hg7.out (by simp))
  have HB7 : Hid (Below w.heap.size w w7) := HXd.out.trans (jbelow hg7.out HXd.out.size (fun g e => by cases e; omega))
  refine hKK.out _ _ HSe.out (fun _ => ?_)
  clear hKK KK hg7
  try simp only [mz1, mz2, mz3, Act.put]
  refine wpAnyH_ready (rs := [6]) (by kernel_rfl) (by simp) ?_
  refine AllReadyH.cons rfl (fun KK hKK => ?_) AllReadyH.nil
  refine qa6 26 _ _ rfl (w.heap.size + 1 + 1) _ #[.int .i64 (V.c : Int), .int .i64 V.ln, .int .i64 V.cl] rfl rfl HF7.out qam rfl (all3 rfl rfl rfl) ?_; intro w8 HZ2 hg8
  have HSf : Hid (Vn w8 w.heap.size 61 #[.int .u8 (k : Int), .string nm, .int .u8 (vk : Int), .int .i64 vn, .string vm, .slice va vl vc, .int .i64 vln, .int .i64 vcl, .int .u8 (sk : Int), .string sm, .slice aa na ca, .slice pa np cp, .slice ra nr cr, .int .i64 sln, .int .i64 scl, .int .u8 (pl : Int), .slice la nl lc, .int .i64 ln, .int .i64 cl] ∧ Vn w8 wb.heap.size 26 #[.int .i64 (V.c : Int), .int .i64 V.ln, .int .i64 V.cl]) := ⟨HSe.out.1.keptR hg8.out (by simp; omega), HSe.out.2.keptR hg8.out (by simp; omega)⟩
  have HZ1 := qa0 (HZ7.out.keptR hg8.out (by simp))
  have HZB : Hid (Below w.heap.size w w8) := HB7.out.trans (jbelow hg8.out HB7.out.size (fun g e => by cases e; omega))
  refine hKK.out _ _ HSf.out (fun _ => ?_)
  clear hKK KK hg8
  try simp only [mz1, mz2, mz3, Act.put]
  refine wpAnyH_done (by kernel_rfl) ?_ _
  try simp only [mz1, mz2, mz3, Act.put, mz4, mz5, mz6]
  go_wp2
  have d0 := HZ1.out.cell 0 _ rfl
  have d1 := HZ1.out.cell 1 _ rfl
  have d2 := HZ1.out.cell 2 _ rfl
  have d3 := HZ1.out.cell 3 _ rfl
  have g0 := HZ2.out.cell 0 _ rfl
  have g1 := HZ2.out.cell 1 _ rfl
  have g2 := HZ2.out.cell 2 _ rfl
  refine bodyPost_ret (v := .tuple #[.agg #[.string nm, .int .u8 1, .int .i64 0, .int .i64 V.v], .agg #[.int .i64 (V.c : Int), .int .i64 V.ln, .int .i64 V.cl]]) (by simp [results, Tryd.results23, go_sem, d0, d1, d2, d3, g0, g1, g2]) rfl ?_
  exact ⟨rfl, HZB.out⟩
end Go.Proofs.YtemhodenkgngmaaDoor
