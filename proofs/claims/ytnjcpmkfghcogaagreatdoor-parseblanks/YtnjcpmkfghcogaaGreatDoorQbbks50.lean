/-
  Contract of the tree's reference: Like.
-/
import Derived.Test.YtnjcpmkfghcogaaGreatDoorQbbks00
import Derived.Test.YtnjcpmkfghcogaaGreatDoorQbbks49
import Derived.Test.YtnjcpmkfghcogaaGreatDoorQbbks23
import Derived.Test.YtnjcpmkfghcogaaGreatDoorQbbks14
import Derived.Test.YtnjcpmkfghcogaaGreatDoorQbbks26
set_option maxRecDepth 100000
set_option maxHeartbeats 16000000
namespace Go.Proofs.YtnjcpmkfghcogaaGreatDoor
open Go.RowKit
theorem qhp (B : Nat → Bool) (i : Nat) : alB B (i + 1) = (alB B i && B i) := rfl
theorem rlike10 (w : World) (a a' : Option Addr) (n m c c' : Nat) (F G : Nat → It) (hF : Its w a n F) (hG : Its w a' m G) (hn : n ≤ 549755813888) (hm : m ≤ 549755813888) (hfin : ∀ i, i < n → FinX 16 (F i).val ∧ FinS 16 (F i).shp ∧ ∀ q, q < (F i).nl → FinX 16 ((F i).list q)) :
  Calls Tryz.prog 11 #[.slice a n c, .slice a' m c'] w fun e w' => e = .returned (.bool (decide (n = m) && alB (fun i => liB (F i) (G i)) n)) ∧ Below w.heap.size w w' := by
 have HX := qa0 hF
 have HY := qa0 hG
 have HFn := qa0 hfin
 clear hF hG hfin
 by_cases hne : n = m
 rotate_left
 ·have q1 : ((n : Int) != (m : Int)) = true := by simp; omega
  have HD : Hid (decide (n = m) = false) := decide_eq_false hne
  clear HX HY HFn
  go_enter Tryz.func11, Tryz.ntmps11
  go_wp2
  go_ret
  exact ⟨by first | rfl | (rw [HD.out]; rfl), Below.refl _ _⟩
 subst hne
 obtain ⟨B, HBf⟩ : ∃ B : Nat → Bool, Hid ((fun i => liB (F i) (G i)) = B) := ⟨_, rfl⟩
 have HBi : Hid (∀ i, liB (F i) (G i) = B i) := fun i => congrFun HBf.out i
 have HD : Hid ((decide (n = n) && alB (fun i => liB (F i) (G i)) n) = alB B n) := by show _ = _; rw [HBf.out]; simp
 rw [HD.out]
 clear HD HBf
 go_enter Tryz.func11, Tryz.ntmps11
 go_wp2
 go_loopw [5] (fun vi wr => ∃ i : Nat, i ≤ n ∧ vi = .int .i64 (i : Int) ∧ Hid (alB B i = true) ∧ Below w.heap.size w wr) (fun vi _ => n - (intOf vi).toNat)
 case atStart => exact ⟨0, by omega, rfl, rfl, Below.refl _ _⟩
 case round =>
  obtain ⟨i, hi, rfl, HA, hb⟩ := hrel
  have HB := qa0 hb
  by_cases hlt : i < n
  ·have p0 : (0 : Int) ≤ (i : Int) := by omega
   have p1 : (i : Int) < (n : Int) := by omega
   obtain ⟨b, o, k, pl, nl, vk, vl, vc, sk, na, ca, np, cp, nr, cr, lc, nm, vm, sm, vn, vln, vcl, sln, scl, ln, cl, va, aa, pa, ra, la, T, S, G1, rfl, hF, hT, hS, hG, k8, p8, hnm, hnl, hcl⟩ := HX.out.at_ hlt
   obtain ⟨b2, o2, k2, pl2, nl2, vk2, vl2, vc2, sk2, na2, ca2, np2, cp2, nr2, cr2, lc2, nm2, vm2, sm2, vn2, vln2, vcl2, sln2, scl2, ln2, cl2, va2, aa2, pa2, ra2, la2, T2, S2, G2, rfl, hF2, hT2, hS2, hG2, k82, p82, hnm2, hnl2, hcl2⟩ := HY.out.at_ hlt
   have hfi := HFn.out i hlt
   rw [hF] at hfi
   have HSa : Hid (∀ w' : World, Below w.heap.size w w' → (fun w' => w'.rangeAt b (o + i * 19) [.int .u8 (k : Int), .string nm, .int .u8 (vk : Int), .int .i64 vn, .string vm, .slice va vl vc, .int .i64 vln, .int .i64 vcl, .int .u8 (sk : Int), .string sm, .slice aa na ca, .slice pa np cp, .slice ra nr cr, .int .i64 sln, .int .i64 scl, .int .u8 (pl : Int), .slice la nl lc, .int .i64 ln, .int .i64 cl] ∧ w'.rangeAt b2 (o2 + i * 19) [.int .u8 (k2 : Int), .string nm2, .int .u8 (vk2 : Int), .int .i64 vn2, .string vm2, .slice va2 vl2 vc2, .int .i64 vln2, .int .i64 vcl2, .int .u8 (sk2 : Int), .string sm2, .slice aa2 na2 ca2, .slice pa2 np2 cp2, .slice ra2 nr2 cr2, .int .i64 sln2, .int .i64 scl2, .int .u8 (pl2 : Int), .slice la2 nl2 lc2, .int .i64 ln2, .int .i64 cl2]) w') := fun w' hb => ⟨hcl w' hb, hcl2 w' hb⟩
   obtain ⟨r1, Hr1⟩ : ∃ r, Hid (lkB 16 T T2 = r) := ⟨_, rfl⟩
   obtain ⟨r2, Hr2⟩ : ∃ r, Hid (lsB 16 S S2 = r) := ⟨_, rfl⟩
   obtain ⟨r3, Hr3⟩ : ∃ r, Hid (llB G1 G2 16 nl nl2 = r) := ⟨_, rfl⟩
   obtain ⟨bk, Hbk⟩ : ∃ r, Hid (decide (k = k2) = r) := ⟨_, rfl⟩
   obtain ⟨bn, Hbn⟩ : ∃ r, Hid (decide (nm = nm2) = r) := ⟨_, rfl⟩
   obtain ⟨bp, Hbp⟩ : ∃ r, Hid (decide (pl = pl2) = r) := ⟨_, rfl⟩
   have HE : Hid (B i = (bk && (bn && (bp && (r1 && (r2 && r3)))))) := by
    show _ = _
    rw [← HBi.out, hF, hF2, ← Hr1.out, ← Hr2.out, ← Hr3.out, ← Hbk.out, ← Hbn.out, ← Hbp.out]
    rfl
   have qk : ((k : Int) != (k2 : Int)) = !bk := by rw [← Hbk.out]; by_cases h : k = k2 <;> simp [h]; omega
   have qn : (nm.toList == nm2.toList) = bn := by rw [← Hbn.out]; exact tl_eq
   have qp : ((pl : Int) != (pl2 : Int)) = !bp := by rw [← Hbp.out]; by_cases h : pl = pl2 <;> simp [h]; omega
   have HC1 : Hid (∀ w' : World, Below w.heap.size w w' → Calls Tryz.prog 19 #[.agg #[.int .u8 (vk : Int), .int .i64 vn, .string vm, .slice va vl vc, .int .i64 vln, .int .i64 vcl], .agg #[.int .u8 (vk2 : Int), .int .i64 vn2, .string vm2, .slice va2 vl2 vc2, .int .i64 vln2, .int .i64 vcl2]] w' fun e w'' => e = .returned (.bool r1) ∧ Below w'.heap.size w' w'') := fun w' hb => by rw [← Hr1.out]; exact rlikex 16 w' T T2 _ _ hfi.1 (hT.later hb) (hT2.later hb)
   have HC2 : Hid (∀ w' : World, Below w.heap.size w w' → Calls Tryz.prog 20 #[.agg #[.int .u8 (sk : Int), .string sm, .slice aa na ca, .slice pa np cp, .slice ra nr cr, .int .i64 sln, .int .i64 scl], .agg #[.int .u8 (sk2 : Int), .string sm2, .slice aa2 na2 ca2, .slice pa2 np2 cp2, .slice ra2 nr2 cr2, .int .i64 sln2, .int .i64 scl2]] w' fun e w'' => e = .returned (.bool r2) ∧ Below w'.heap.size w' w'') := fun w' hb => by rw [← Hr2.out]; exact rlikes 16 w' S S2 _ _ hfi.2.1 (hS.later hb) (hS2.later hb)
   have HC3 : Hid (∀ w' : World, Below w.heap.size w w' → Calls Tryz.prog 36 #[.slice la nl lc, .slice la2 nl2 lc2] w' fun e w'' => e = .returned (.bool r3) ∧ Below w'.heap.size w' w'') := fun w' hb => by rw [← Hr3.out]; exact rlikexs 16 (rlikex 16) w' la la2 nl nl2 lc lc2 G1 G2 hfi.2.2 (fun d => (hG d).later hb) (fun d => (hG2 d).later hb) hnl hnl2
   have HSt : Hid (B i = false → alB B n = false) := fun h => qe4 (i := i) (by rw [qhp, h]; simp) hlt
   have HGo : Hid (B i = true → alB B (i + 1) = true) := fun h => by rw [qhp, HA.out, h]; rfl
   rw [HE.out] at HSt HGo
   clear hT hS hG hF hcl hT2 hS2 hG2 hF2 hcl2 hfi Hr1 Hr2 Hr3 Hbk Hbn Hbp HE hb
   go_wp2
   refine wp_region_held (S := fun w' => w'.rangeAt b (o + i * 19) [.int .u8 (k : Int), .string nm, .int .u8 (vk : Int), .int .i64 vn, .string vm, .slice va vl vc, .int .i64 vln, .int .i64 vcl, .int .u8 (sk : Int), .string sm, .slice aa na ca, .slice pa np cp, .slice ra nr cr, .int .i64 sln, .int .i64 scl, .int .u8 (pl : Int), .slice la nl lc, .int .i64 ln, .int .i64 cl] ∧ w'.rangeAt b2 (o2 + i * 19) [.int .u8 (k2 : Int), .string nm2, .int .u8 (vk2 : Int), .int .i64 vn2, .string vm2, .slice va2 vl2 vc2, .int .i64 vln2, .int .i64 vcl2, .int .u8 (sk2 : Int), .string sm2, .slice aa2 na2 ca2, .slice pa2 np2 cp2, .slice ra2 nr2 cr2, .int .i64 sln2, .int .i64 scl2, .int .u8 (pl2 : Int), .slice la2 nl2 lc2, .int .i64 ln2, .int .i64 cl2]) (by kernel_rfl) ?_
   change wpAnyH _ _ _ _ _ _ _ _ (World.drew _)
   obtain ⟨W0, HW0⟩ : ∃ W0, Hid (wr.drew = W0) := ⟨_, rfl⟩
   have HB0 : Hid (Below w.heap.size w W0) := by show Below _ _ _; rw [← HW0.out]; exact HB.out.drew
   rw [HW0.out]
   clear HW0
   refine wtkq 0 ?vq0_1 rfl (by kernel_rfl) (fun _ _ _ h => h) (by rfl) ?yq0_1 (HSa.out _ HB0.out) ?zq0_1
   case yq0_1 => (intro w hSw; (try dsimp only at hSw); go_simp; try with_reducible rfl)
   try simp only [nz1, nz3, Act.put, nz4, nz5, nz6]
   refine wtkq 1 ?vq1_2 rfl (by kernel_rfl) (fun _ _ _ h => h) (by rfl) ?yq1_2 (HSa.out _ HB0.out) ?zq1_2
   case yq1_2 => (intro w hSw; (try dsimp only at hSw); go_simp; try with_reducible rfl)
   try simp only [nz1, nz2, nz3, Act.put, nz4, nz5, nz6]
   refine wtkq 2 ?vq2_3 rfl (by kernel_rfl) (fun _ _ _ h => h) (by rfl) ?yq2_3 (HSa.out _ HB0.out) ?zq2_3
   case yq2_3 => (intro w hSw; (try dsimp only at hSw); go_simp; try with_reducible rfl)
   try simp only [nz1, nz2, nz3, Act.put, nz4, nz5, nz6]
   refine wpAnyH_take (i := 3) (v := .agg #[.int .u8 (k : Int), .string nm, .int .u8 (vk : Int), .int .i64 vn, .string vm, .slice va vl vc, .int .i64 vln, .int .i64 vcl, .int .u8 (sk : Int), .string sm, .slice aa na ca, .slice pa np cp, .slice ra nr cr, .int .i64 sln, .int .i64 scl, .int .u8 (pl : Int), .slice la nl lc, .int .i64 ln, .int .i64 cl]) rfl (by kernel_rfl) (by kernel_rfl) (by kernel_rfl) (fun _ _ _ h => h) (yieldsIf_load_mid (by rfl) 58 _ rfl b _ rfl [.int .u8 (k : Int), .string nm, .int .u8 (vk : Int), .int .i64 vn, .string vm, .slice va vl vc, .int .i64 vln, .int .i64 vcl, .int .u8 (sk : Int), .string sm, .slice aa na ca, .slice pa np cp, .slice ra nr cr, .int .i64 sln, .int .i64 scl, .int .u8 (pl : Int), .slice la nl lc, .int .i64 ln, .int .i64 cl] _ (fun w' h => h.1) Tryz.underlying58 rfl sizeI) (HSa.out _ HB0.out) ?_
   try simp only [nz1, nz2, nz3, Act.put, nz4, nz5, nz6]
   refine wtkq 4 ?vq4_4 rfl (by kernel_rfl) (fun _ _ _ h => h) (by rfl) ?yq4_4 (HSa.out _ HB0.out) ?zq4_4
   case yq4_4 => (intro w hSw; (try dsimp only at hSw); go_simp; try with_reducible rfl)
   try simp only [nz1, nz2, nz3, Act.put, nz4, nz5, nz6]
   refine wtkq 5 ?vq5_5 rfl (by kernel_rfl) (fun _ _ _ h => h) (by rfl) ?yq5_5 (HSa.out _ HB0.out) ?zq5_5
   case yq5_5 => (intro w hSw; (try dsimp only at hSw); go_simp; try with_reducible rfl)
   try simp only [nz1, nz2, nz3, Act.put, nz4, nz5, nz6]
   refine wtkq 6 ?vq6_6 rfl (by kernel_rfl) (fun _ _ _ h => h) (by rfl) ?yq6_6 (HSa.out _ HB0.out) ?zq6_6
   case yq6_6 => (intro w hSw; (try dsimp only at hSw); go_simp; try with_reducible rfl)
   try simp only [nz1, nz2, nz3, Act.put, nz4, nz5, nz6]
   refine wpAnyH_take (i := 7) (v := .agg #[.int .u8 (k2 : Int), .string nm2, .int .u8 (vk2 : Int), .int .i64 vn2, .string vm2, .slice va2 vl2 vc2, .int .i64 vln2, .int .i64 vcl2, .int .u8 (sk2 : Int), .string sm2, .slice aa2 na2 ca2, .slice pa2 np2 cp2, .slice ra2 nr2 cr2, .int .i64 sln2, .int .i64 scl2, .int .u8 (pl2 : Int), .slice la2 nl2 lc2, .int .i64 ln2, .int .i64 cl2]) rfl (by kernel_rfl) (by kernel_rfl) (by kernel_rfl) (fun _ _ _ h => h) (yieldsIf_load_mid (by rfl) 58 _ rfl b2 _ rfl [.int .u8 (k2 : Int), .string nm2, .int .u8 (vk2 : Int), .int .i64 vn2, .string vm2, .slice va2 vl2 vc2, .int .i64 vln2, .int .i64 vcl2, .int .u8 (sk2 : Int), .string sm2, .slice aa2 na2 ca2, .slice pa2 np2 cp2, .slice ra2 nr2 cr2, .int .i64 sln2, .int .i64 scl2, .int .u8 (pl2 : Int), .slice la2 nl2 lc2, .int .i64 ln2, .int .i64 cl2] _ (fun w' h => h.2) Tryz.underlying58 rfl sizeI) (HSa.out _ HB0.out) ?_
   try simp only [nz1, nz2, nz3, Act.put, nz4, nz5, nz6]
   refine wpAnyH_ready (rs := [8, 9]) (by kernel_rfl) (by simp) ?_
   refine AllReadyH.cons rfl (fun KK hKK => ?pa) (AllReadyH.cons rfl (fun KK hKK => ?pb) AllReadyH.nil)
   case pa =>
    go_simp
    have hal := jlow W0 (.cells #[.int .u8 0, .string ⟨#[]⟩, .int .u8 0, .int .i64 0, .string ⟨#[]⟩, .slice none 0 0, .int .i64 0, .int .i64 0, .int .u8 0, .string ⟨#[]⟩, .slice none 0 0, .slice none 0 0, .slice none 0 0, .int .i64 0, .int .i64 0, .int .u8 0, .slice none 0 0, .int .i64 0, .int .i64 0] 58)
    have HBa := qa0 (jtwo HB0.out hal)
    have HVa := qa0 (Vn.new W0 58 #[.int .u8 0, .string ⟨#[]⟩, .int .u8 0, .int .i64 0, .string ⟨#[]⟩, .slice none 0 0, .int .i64 0, .int .i64 0, .int .u8 0, .string ⟨#[]⟩, .slice none 0 0, .slice none 0 0, .slice none 0 0, .int .i64 0, .int .i64 0, .int .u8 0, .slice none 0 0, .int .i64 0, .int .i64 0])
    clear hal
    refine hKK.out _ _ (HSa.out _ HBa.out) (fun _ => ?_)
    clear hKK KK
    try simp only [nz1, nz2, nz3, Act.put, nz4, nz5, nz6]
    obtain ⟨Wa, HWa⟩ : ∃ Wa, Hid (W0.alloc (.cells #[.int .u8 0, .string ⟨#[]⟩, .int .u8 0, .int .i64 0, .string ⟨#[]⟩, .slice none 0 0, .int .i64 0, .int .i64 0, .int .u8 0, .string ⟨#[]⟩, .slice none 0 0, .slice none 0 0, .slice none 0 0, .int .i64 0, .int .i64 0, .int .u8 0, .slice none 0 0, .int .i64 0, .int .i64 0] 58) = Wa) := ⟨_, rfl⟩
    have hza : Wa.heap.size = W0.heap.size + 1 := by rw [← HWa.out]; exact qak _ _
    rw [HWa.out] at HBa HVa ⊢
    clear HWa
    refine wpAnyH_ready (rs := [9]) (by kernel_rfl) (by simp) ?_
    refine AllReadyH.cons rfl (fun KK hKK => ?_) AllReadyH.nil
    go_simp
    have hal := jlow Wa (.cells #[.int .u8 0, .string ⟨#[]⟩, .int .u8 0, .int .i64 0, .string ⟨#[]⟩, .slice none 0 0, .int .i64 0, .int .i64 0, .int .u8 0, .string ⟨#[]⟩, .slice none 0 0, .slice none 0 0, .slice none 0 0, .int .i64 0, .int .i64 0, .int .u8 0, .slice none 0 0, .int .i64 0, .int .i64 0] 58)
    have HBb := qa0 (jtwo HBa.out hal)
    have HVb := qa0 (HVa.out.later hal)
    have HVc := qa0 (Vn.new Wa 58 #[.int .u8 0, .string ⟨#[]⟩, .int .u8 0, .int .i64 0, .string ⟨#[]⟩, .slice none 0 0, .int .i64 0, .int .i64 0, .int .u8 0, .string ⟨#[]⟩, .slice none 0 0, .slice none 0 0, .slice none 0 0, .int .i64 0, .int .i64 0, .int .u8 0, .slice none 0 0, .int .i64 0, .int .i64 0])
    clear hal
    refine hKK.out _ _ (HSa.out _ HBb.out) (fun _ => ?_)
    clear hKK KK
    try simp only [nz1, nz2, nz3, Act.put, nz4, nz5, nz6]
    obtain ⟨Wb, HWb⟩ : ∃ Wb, Hid (Wa.alloc (.cells #[.int .u8 0, .string ⟨#[]⟩, .int .u8 0, .int .i64 0, .string ⟨#[]⟩, .slice none 0 0, .int .i64 0, .int .i64 0, .int .u8 0, .string ⟨#[]⟩, .slice none 0 0, .slice none 0 0, .slice none 0 0, .int .i64 0, .int .i64 0, .int .u8 0, .slice none 0 0, .int .i64 0, .int .i64 0] 58) = Wb) := ⟨_, rfl⟩
    rw [HWb.out] at HBb HVb HVc ⊢
    clear HWb
    rw [hza] at HVc
    try rw [hza]
    have hzw := HB0.out.size
    refine wpAnyH_ready (rs := [10]) (by kernel_rfl) (by simp) ?_
    refine AllReadyH.cons rfl (fun KK hKK => ?_) AllReadyH.nil
    refine qa9 58 _ _ rfl W0.heap.size _ #[.int .u8 (k : Int), .string nm, .int .u8 (vk : Int), .int .i64 vn, .string vm, .slice va vl vc, .int .i64 vln, .int .i64 vcl, .int .u8 (sk : Int), .string sm, .slice aa na ca, .slice pa np cp, .slice ra nr cr, .int .i64 sln, .int .i64 scl, .int .u8 (pl : Int), .slice la nl lc, .int .i64 ln, .int .i64 cl] rfl rfl HVb.out sizeI rfl (qbn rfl rfl rfl rfl rfl rfl rfl rfl rfl rfl rfl rfl rfl rfl rfl rfl rfl rfl rfl) ?_; intro Wc HXc hgc
    have HYc := qa0 (HVc.out.kept hgc.out (by simp))
    have HBc : Hid (Below w.heap.size w Wc) := HBb.out.trans (jbelow hgc.out HBb.out.size (fun g e => by cases e; omega))
    refine hKK.out _ _ (HSa.out _ HBc.out) (fun _ => ?_)
    clear hKK KK hgc
    try simp only [nz1, nz2, nz3, Act.put]
    refine wpAnyH_ready (rs := [11]) (by kernel_rfl) (by simp) ?_
    refine AllReadyH.cons rfl (fun KK hKK => ?_) AllReadyH.nil
    refine qa9 58 _ _ rfl (W0.heap.size + 1) _ #[.int .u8 (k2 : Int), .string nm2, .int .u8 (vk2 : Int), .int .i64 vn2, .string vm2, .slice va2 vl2 vc2, .int .i64 vln2, .int .i64 vcl2, .int .u8 (sk2 : Int), .string sm2, .slice aa2 na2 ca2, .slice pa2 np2 cp2, .slice ra2 nr2 cr2, .int .i64 sln2, .int .i64 scl2, .int .u8 (pl2 : Int), .slice la2 nl2 lc2, .int .i64 ln2, .int .i64 cl2] rfl rfl HYc.out sizeI rfl (qbn rfl rfl rfl rfl rfl rfl rfl rfl rfl rfl rfl rfl rfl rfl rfl rfl rfl rfl rfl) ?_; intro Wd HY hgd
    have HX1 := qa0 (HXc.out.kept hgd.out (by simp))
    have HY1 := HY
    have HB1 : Hid (Below w.heap.size w Wd) := HBc.out.trans (jbelow hgd.out HBc.out.size (fun g e => by cases e; omega))
    refine hKK.out _ _ (HSa.out _ HB1.out) (fun _ => ?_)
    clear hKK KK hgd HXc HYc HBc HVa HVb HVc HBa HBb
    try simp only [nz1, nz2, nz3, Act.put]
    refine wpAnyH_done (by kernel_rfl) ?_ _
    have x0 := HX1.out.cell 0 _ rfl
    have x1 := HX1.out.cell 1 _ rfl
    have x15 := HX1.out.cell 15 _ rfl
    have x2 := HX1.out.cell 2 _ rfl
    have x3 := HX1.out.cell 3 _ rfl
    have x4 := HX1.out.cell 4 _ rfl
    have x5 := HX1.out.cell 5 _ rfl
    have x6 := HX1.out.cell 6 _ rfl
    have x7 := HX1.out.cell 7 _ rfl
    have y0 := HY1.out.cell 0 _ rfl
    have y1 := HY1.out.cell 1 _ rfl
    have y15 := HY1.out.cell 15 _ rfl
    have y2 := HY1.out.cell 2 _ rfl
    have y3 := HY1.out.cell 3 _ rfl
    have y4 := HY1.out.cell 4 _ rfl
    have y5 := HY1.out.cell 5 _ rfl
    have y6 := HY1.out.cell 6 _ rfl
    have y7 := HY1.out.cell 7 _ rfl
    cases bk with
    | false =>
     have HZ := qa0 (HSt.out (by simp))
     clear HSt HGo
     go_wp2
     go_ret
     exact ⟨by first | rfl | (rw [HZ.out]; rfl), HB1.out⟩
    | true =>
     cases bn with
     | false =>
      have HZ := qa0 (HSt.out (by simp))
      clear HSt HGo
      go_wp2
      go_ret
      exact ⟨by first | rfl | (rw [HZ.out]; rfl), HB1.out⟩
     | true =>
      cases bp with
      | false =>
       have HZ := qa0 (HSt.out (by simp))
       clear HSt HGo
       go_wp2
       go_ret
       exact ⟨by first | rfl | (rw [HZ.out]; rfl), HB1.out⟩
      | true =>
       cases r1 with
       | false =>
        have HZ := qa0 (HSt.out (by simp))
        clear HSt HGo
        go_wp2_with (first | (go_at_call 19; refine (HC1.out _ HB1.out).mono ?_; rintro e w2 ⟨rfl, hb2⟩; have HB2 := qa0 (jtwo HB1.out hb2); have HX2 := qa0 (HX1.out.later hb2); have HY2 := qa0 (HY1.out.later hb2); clear hb2; have u8 := HX2.out.cell 8 _ rfl; have u9 := HX2.out.cell 9 _ rfl; have u10 := HX2.out.cell 10 _ rfl; have u11 := HX2.out.cell 11 _ rfl; have u12 := HX2.out.cell 12 _ rfl; have u13 := HX2.out.cell 13 _ rfl; have u14 := HX2.out.cell 14 _ rfl; have v8 := HY2.out.cell 8 _ rfl; have v9 := HY2.out.cell 9 _ rfl; have v10 := HY2.out.cell 10 _ rfl; have v11 := HY2.out.cell 11 _ rfl; have v12 := HY2.out.cell 12 _ rfl; have v13 := HY2.out.cell 13 _ rfl; have v14 := HY2.out.cell 14 _ rfl))
        go_ret
        exact ⟨by first | rfl | (rw [HZ.out]; rfl), HB2.out⟩
       | true =>
        cases r2 with
        | false =>
         have HZ := qa0 (HSt.out (by simp))
         clear HSt HGo
         go_wp2_with (first | (go_at_call 19; refine (HC1.out _ HB1.out).mono ?_; rintro e w2 ⟨rfl, hb2⟩; have HB2 := qa0 (jtwo HB1.out hb2); have HX2 := qa0 (HX1.out.later hb2); have HY2 := qa0 (HY1.out.later hb2); clear hb2; have u8 := HX2.out.cell 8 _ rfl; have u9 := HX2.out.cell 9 _ rfl; have u10 := HX2.out.cell 10 _ rfl; have u11 := HX2.out.cell 11 _ rfl; have u12 := HX2.out.cell 12 _ rfl; have u13 := HX2.out.cell 13 _ rfl; have u14 := HX2.out.cell 14 _ rfl; have v8 := HY2.out.cell 8 _ rfl; have v9 := HY2.out.cell 9 _ rfl; have v10 := HY2.out.cell 10 _ rfl; have v11 := HY2.out.cell 11 _ rfl; have v12 := HY2.out.cell 12 _ rfl; have v13 := HY2.out.cell 13 _ rfl; have v14 := HY2.out.cell 14 _ rfl) | (go_at_call 20; refine (HC2.out _ HB2.out).mono ?_; rintro e w3 ⟨rfl, hb3⟩; have HB3 := qa0 (jtwo HB2.out hb3); have HX3 := qa0 (HX2.out.later hb3); have HY3 := qa0 (HY2.out.later hb3); clear hb3; have m16 := HX3.out.cell 16 _ rfl; have n16 := HY3.out.cell 16 _ rfl))
         go_ret
         exact ⟨by first | rfl | (rw [HZ.out]; rfl), HB3.out⟩
        | true =>
         cases r3 with
         | false =>
          have HZ := qa0 (HSt.out (by simp))
          clear HSt HGo
          go_wp2_with (first | (go_at_call 19; refine (HC1.out _ HB1.out).mono ?_; rintro e w2 ⟨rfl, hb2⟩; have HB2 := qa0 (jtwo HB1.out hb2); have HX2 := qa0 (HX1.out.later hb2); have HY2 := qa0 (HY1.out.later hb2); clear hb2; have u8 := HX2.out.cell 8 _ rfl; have u9 := HX2.out.cell 9 _ rfl; have u10 := HX2.out.cell 10 _ rfl; have u11 := HX2.out.cell 11 _ rfl; have u12 := HX2.out.cell 12 _ rfl; have u13 := HX2.out.cell 13 _ rfl; have u14 := HX2.out.cell 14 _ rfl; have v8 := HY2.out.cell 8 _ rfl; have v9 := HY2.out.cell 9 _ rfl; have v10 := HY2.out.cell 10 _ rfl; have v11 := HY2.out.cell 11 _ rfl; have v12 := HY2.out.cell 12 _ rfl; have v13 := HY2.out.cell 13 _ rfl; have v14 := HY2.out.cell 14 _ rfl) | (go_at_call 20; refine (HC2.out _ HB2.out).mono ?_; rintro e w3 ⟨rfl, hb3⟩; have HB3 := qa0 (jtwo HB2.out hb3); have HX3 := qa0 (HX2.out.later hb3); have HY3 := qa0 (HY2.out.later hb3); clear hb3; have m16 := HX3.out.cell 16 _ rfl; have n16 := HY3.out.cell 16 _ rfl) | (go_at_call 36; refine (HC3.out _ HB3.out).mono ?_; rintro e w4 ⟨rfl, hb4⟩; have HB4 := qa0 (jtwo HB3.out hb4); clear hb4))
          go_ret
          exact ⟨by first | rfl | (rw [HZ.out]; rfl), HB4.out⟩
         | true =>
          have HZ := qa0 (HGo.out rfl)
          clear HSt HGo
          go_wp2_with (first | (go_at_call 19; refine (HC1.out _ HB1.out).mono ?_; rintro e w2 ⟨rfl, hb2⟩; have HB2 := qa0 (jtwo HB1.out hb2); have HX2 := qa0 (HX1.out.later hb2); have HY2 := qa0 (HY1.out.later hb2); clear hb2; have u8 := HX2.out.cell 8 _ rfl; have u9 := HX2.out.cell 9 _ rfl; have u10 := HX2.out.cell 10 _ rfl; have u11 := HX2.out.cell 11 _ rfl; have u12 := HX2.out.cell 12 _ rfl; have u13 := HX2.out.cell 13 _ rfl; have u14 := HX2.out.cell 14 _ rfl; have v8 := HY2.out.cell 8 _ rfl; have v9 := HY2.out.cell 9 _ rfl; have v10 := HY2.out.cell 10 _ rfl; have v11 := HY2.out.cell 11 _ rfl; have v12 := HY2.out.cell 12 _ rfl; have v13 := HY2.out.cell 13 _ rfl; have v14 := HY2.out.cell 14 _ rfl) | (go_at_call 20; refine (HC2.out _ HB2.out).mono ?_; rintro e w3 ⟨rfl, hb3⟩; have HB3 := qa0 (jtwo HB2.out hb3); have HX3 := qa0 (HX2.out.later hb3); have HY3 := qa0 (HY2.out.later hb3); clear hb3; have m16 := HX3.out.cell 16 _ rfl; have n16 := HY3.out.cell 16 _ rfl) | (go_at_call 36; refine (HC3.out _ HB3.out).mono ?_; rintro e w4 ⟨rfl, hb4⟩; have HB4 := qa0 (jtwo HB3.out hb4); clear hb4))
          exact ⟨⟨i + 1, by omega, by go_num, HZ, HB4.out⟩, by simp [intOf]; omega⟩
   case pb =>
    go_simp
    have hal := jlow W0 (.cells #[.int .u8 0, .string ⟨#[]⟩, .int .u8 0, .int .i64 0, .string ⟨#[]⟩, .slice none 0 0, .int .i64 0, .int .i64 0, .int .u8 0, .string ⟨#[]⟩, .slice none 0 0, .slice none 0 0, .slice none 0 0, .int .i64 0, .int .i64 0, .int .u8 0, .slice none 0 0, .int .i64 0, .int .i64 0] 58)
    have HBa := qa0 (jtwo HB0.out hal)
    have HVa := qa0 (Vn.new W0 58 #[.int .u8 0, .string ⟨#[]⟩, .int .u8 0, .int .i64 0, .string ⟨#[]⟩, .slice none 0 0, .int .i64 0, .int .i64 0, .int .u8 0, .string ⟨#[]⟩, .slice none 0 0, .slice none 0 0, .slice none 0 0, .int .i64 0, .int .i64 0, .int .u8 0, .slice none 0 0, .int .i64 0, .int .i64 0])
    clear hal
    refine hKK.out _ _ (HSa.out _ HBa.out) (fun _ => ?_)
    clear hKK KK
    try simp only [nz1, nz2, nz3, Act.put, nz4, nz5, nz6]
    obtain ⟨Wa, HWa⟩ : ∃ Wa, Hid (W0.alloc (.cells #[.int .u8 0, .string ⟨#[]⟩, .int .u8 0, .int .i64 0, .string ⟨#[]⟩, .slice none 0 0, .int .i64 0, .int .i64 0, .int .u8 0, .string ⟨#[]⟩, .slice none 0 0, .slice none 0 0, .slice none 0 0, .int .i64 0, .int .i64 0, .int .u8 0, .slice none 0 0, .int .i64 0, .int .i64 0] 58) = Wa) := ⟨_, rfl⟩
    have hza : Wa.heap.size = W0.heap.size + 1 := by rw [← HWa.out]; exact qak _ _
    rw [HWa.out] at HBa HVa ⊢
    clear HWa
    refine wpAnyH_ready (rs := [8]) (by kernel_rfl) (by simp) ?_
    refine AllReadyH.cons rfl (fun KK hKK => ?_) AllReadyH.nil
    go_simp
    have hal := jlow Wa (.cells #[.int .u8 0, .string ⟨#[]⟩, .int .u8 0, .int .i64 0, .string ⟨#[]⟩, .slice none 0 0, .int .i64 0, .int .i64 0, .int .u8 0, .string ⟨#[]⟩, .slice none 0 0, .slice none 0 0, .slice none 0 0, .int .i64 0, .int .i64 0, .int .u8 0, .slice none 0 0, .int .i64 0, .int .i64 0] 58)
    have HBb := qa0 (jtwo HBa.out hal)
    have HVb := qa0 (HVa.out.later hal)
    have HVc := qa0 (Vn.new Wa 58 #[.int .u8 0, .string ⟨#[]⟩, .int .u8 0, .int .i64 0, .string ⟨#[]⟩, .slice none 0 0, .int .i64 0, .int .i64 0, .int .u8 0, .string ⟨#[]⟩, .slice none 0 0, .slice none 0 0, .slice none 0 0, .int .i64 0, .int .i64 0, .int .u8 0, .slice none 0 0, .int .i64 0, .int .i64 0])
    clear hal
    refine hKK.out _ _ (HSa.out _ HBb.out) (fun _ => ?_)
    clear hKK KK
    try simp only [nz1, nz2, nz3, Act.put, nz4, nz5, nz6]
    obtain ⟨Wb, HWb⟩ : ∃ Wb, Hid (Wa.alloc (.cells #[.int .u8 0, .string ⟨#[]⟩, .int .u8 0, .int .i64 0, .string ⟨#[]⟩, .slice none 0 0, .int .i64 0, .int .i64 0, .int .u8 0, .string ⟨#[]⟩, .slice none 0 0, .slice none 0 0, .slice none 0 0, .int .i64 0, .int .i64 0, .int .u8 0, .slice none 0 0, .int .i64 0, .int .i64 0] 58) = Wb) := ⟨_, rfl⟩
    rw [HWb.out] at HBb HVb HVc ⊢
    clear HWb
    rw [hza] at HVc
    try rw [hza]
    have hzw := HB0.out.size
    refine wpAnyH_ready (rs := [10]) (by kernel_rfl) (by simp) ?_
    refine AllReadyH.cons rfl (fun KK hKK => ?_) AllReadyH.nil
    refine qa9 58 _ _ rfl (W0.heap.size + 1) _ #[.int .u8 (k : Int), .string nm, .int .u8 (vk : Int), .int .i64 vn, .string vm, .slice va vl vc, .int .i64 vln, .int .i64 vcl, .int .u8 (sk : Int), .string sm, .slice aa na ca, .slice pa np cp, .slice ra nr cr, .int .i64 sln, .int .i64 scl, .int .u8 (pl : Int), .slice la nl lc, .int .i64 ln, .int .i64 cl] rfl rfl HVc.out sizeI rfl (qbn rfl rfl rfl rfl rfl rfl rfl rfl rfl rfl rfl rfl rfl rfl rfl rfl rfl rfl rfl) ?_; intro Wc HXc hgc
    have HYc := qa0 (HVb.out.kept hgc.out (by simp))
    have HBc : Hid (Below w.heap.size w Wc) := HBb.out.trans (jbelow hgc.out HBb.out.size (fun g e => by cases e; omega))
    refine hKK.out _ _ (HSa.out _ HBc.out) (fun _ => ?_)
    clear hKK KK hgc
    try simp only [nz1, nz2, nz3, Act.put]
    refine wpAnyH_ready (rs := [11]) (by kernel_rfl) (by simp) ?_
    refine AllReadyH.cons rfl (fun KK hKK => ?_) AllReadyH.nil
    refine qa9 58 _ _ rfl W0.heap.size _ #[.int .u8 (k2 : Int), .string nm2, .int .u8 (vk2 : Int), .int .i64 vn2, .string vm2, .slice va2 vl2 vc2, .int .i64 vln2, .int .i64 vcl2, .int .u8 (sk2 : Int), .string sm2, .slice aa2 na2 ca2, .slice pa2 np2 cp2, .slice ra2 nr2 cr2, .int .i64 sln2, .int .i64 scl2, .int .u8 (pl2 : Int), .slice la2 nl2 lc2, .int .i64 ln2, .int .i64 cl2] rfl rfl HYc.out sizeI rfl (qbn rfl rfl rfl rfl rfl rfl rfl rfl rfl rfl rfl rfl rfl rfl rfl rfl rfl rfl rfl) ?_; intro Wd HY hgd
    have HX1 := qa0 (HXc.out.kept hgd.out (by simp))
    have HY1 := HY
    have HB1 : Hid (Below w.heap.size w Wd) := HBc.out.trans (jbelow hgd.out HBc.out.size (fun g e => by cases e; omega))
    refine hKK.out _ _ (HSa.out _ HB1.out) (fun _ => ?_)
    clear hKK KK hgd HXc HYc HBc HVa HVb HVc HBa HBb
    try simp only [nz1, nz2, nz3, Act.put]
    refine wpAnyH_done (by kernel_rfl) ?_ _
    have x0 := HX1.out.cell 0 _ rfl
    have x1 := HX1.out.cell 1 _ rfl
    have x15 := HX1.out.cell 15 _ rfl
    have x2 := HX1.out.cell 2 _ rfl
    have x3 := HX1.out.cell 3 _ rfl
    have x4 := HX1.out.cell 4 _ rfl
    have x5 := HX1.out.cell 5 _ rfl
    have x6 := HX1.out.cell 6 _ rfl
    have x7 := HX1.out.cell 7 _ rfl
    have y0 := HY1.out.cell 0 _ rfl
    have y1 := HY1.out.cell 1 _ rfl
    have y15 := HY1.out.cell 15 _ rfl
    have y2 := HY1.out.cell 2 _ rfl
    have y3 := HY1.out.cell 3 _ rfl
    have y4 := HY1.out.cell 4 _ rfl
    have y5 := HY1.out.cell 5 _ rfl
    have y6 := HY1.out.cell 6 _ rfl
    have y7 := HY1.out.cell 7 _ rfl
    cases bk with
    | false =>
     have HZ := qa0 (HSt.out (by simp))
     clear HSt HGo
     go_wp2
     go_ret
     exact ⟨by first | rfl | (rw [HZ.out]; rfl), HB1.out⟩
    | true =>
     cases bn with
     | false =>
      have HZ := qa0 (HSt.out (by simp))
      clear HSt HGo
      go_wp2
      go_ret
      exact ⟨by first | rfl | (rw [HZ.out]; rfl), HB1.out⟩
     | true =>
      cases bp with
      | false =>
       have HZ := qa0 (HSt.out (by simp))
       clear HSt HGo
       go_wp2
       go_ret
       exact ⟨by first | rfl | (rw [HZ.out]; rfl), HB1.out⟩
      | true =>
       cases r1 with
       | false =>
        have HZ := qa0 (HSt.out (by simp))
        clear HSt HGo
        go_wp2_with (first | (go_at_call 19; refine (HC1.out _ HB1.out).mono ?_; rintro e w2 ⟨rfl, hb2⟩; have HB2 := qa0 (jtwo HB1.out hb2); have HX2 := qa0 (HX1.out.later hb2); have HY2 := qa0 (HY1.out.later hb2); clear hb2; have u8 := HX2.out.cell 8 _ rfl; have u9 := HX2.out.cell 9 _ rfl; have u10 := HX2.out.cell 10 _ rfl; have u11 := HX2.out.cell 11 _ rfl; have u12 := HX2.out.cell 12 _ rfl; have u13 := HX2.out.cell 13 _ rfl; have u14 := HX2.out.cell 14 _ rfl; have v8 := HY2.out.cell 8 _ rfl; have v9 := HY2.out.cell 9 _ rfl; have v10 := HY2.out.cell 10 _ rfl; have v11 := HY2.out.cell 11 _ rfl; have v12 := HY2.out.cell 12 _ rfl; have v13 := HY2.out.cell 13 _ rfl; have v14 := HY2.out.cell 14 _ rfl))
        go_ret
        exact ⟨by first | rfl | (rw [HZ.out]; rfl), HB2.out⟩
       | true =>
        cases r2 with
        | false =>
         have HZ := qa0 (HSt.out (by simp))
         clear HSt HGo
         go_wp2_with (first | (go_at_call 19; refine (HC1.out _ HB1.out).mono ?_; rintro e w2 ⟨rfl, hb2⟩; have HB2 := qa0 (jtwo HB1.out hb2); have HX2 := qa0 (HX1.out.later hb2); have HY2 := qa0 (HY1.out.later hb2); clear hb2; have u8 := HX2.out.cell 8 _ rfl; have u9 := HX2.out.cell 9 _ rfl; have u10 := HX2.out.cell 10 _ rfl; have u11 := HX2.out.cell 11 _ rfl; have u12 := HX2.out.cell 12 _ rfl; have u13 := HX2.out.cell 13 _ rfl; have u14 := HX2.out.cell 14 _ rfl; have v8 := HY2.out.cell 8 _ rfl; have v9 := HY2.out.cell 9 _ rfl; have v10 := HY2.out.cell 10 _ rfl; have v11 := HY2.out.cell 11 _ rfl; have v12 := HY2.out.cell 12 _ rfl; have v13 := HY2.out.cell 13 _ rfl; have v14 := HY2.out.cell 14 _ rfl) | (go_at_call 20; refine (HC2.out _ HB2.out).mono ?_; rintro e w3 ⟨rfl, hb3⟩; have HB3 := qa0 (jtwo HB2.out hb3); have HX3 := qa0 (HX2.out.later hb3); have HY3 := qa0 (HY2.out.later hb3); clear hb3; have m16 := HX3.out.cell 16 _ rfl; have n16 := HY3.out.cell 16 _ rfl))
         go_ret
         exact ⟨by first | rfl | (rw [HZ.out]; rfl), HB3.out⟩
        | true =>
         cases r3 with
         | false =>
          have HZ := qa0 (HSt.out (by simp))
          clear HSt HGo
          go_wp2_with (first | (go_at_call 19; refine (HC1.out _ HB1.out).mono ?_; rintro e w2 ⟨rfl, hb2⟩; have HB2 := qa0 (jtwo HB1.out hb2); have HX2 := qa0 (HX1.out.later hb2); have HY2 := qa0 (HY1.out.later hb2); clear hb2; have u8 := HX2.out.cell 8 _ rfl; have u9 := HX2.out.cell 9 _ rfl; have u10 := HX2.out.cell 10 _ rfl; have u11 := HX2.out.cell 11 _ rfl; have u12 := HX2.out.cell 12 _ rfl; have u13 := HX2.out.cell 13 _ rfl; have u14 := HX2.out.cell 14 _ rfl; have v8 := HY2.out.cell 8 _ rfl; have v9 := HY2.out.cell 9 _ rfl; have v10 := HY2.out.cell 10 _ rfl; have v11 := HY2.out.cell 11 _ rfl; have v12 := HY2.out.cell 12 _ rfl; have v13 := HY2.out.cell 13 _ rfl; have v14 := HY2.out.cell 14 _ rfl) | (go_at_call 20; refine (HC2.out _ HB2.out).mono ?_; rintro e w3 ⟨rfl, hb3⟩; have HB3 := qa0 (jtwo HB2.out hb3); have HX3 := qa0 (HX2.out.later hb3); have HY3 := qa0 (HY2.out.later hb3); clear hb3; have m16 := HX3.out.cell 16 _ rfl; have n16 := HY3.out.cell 16 _ rfl) | (go_at_call 36; refine (HC3.out _ HB3.out).mono ?_; rintro e w4 ⟨rfl, hb4⟩; have HB4 := qa0 (jtwo HB3.out hb4); clear hb4))
          go_ret
          exact ⟨by first | rfl | (rw [HZ.out]; rfl), HB4.out⟩
         | true =>
          have HZ := qa0 (HGo.out rfl)
          clear HSt HGo
          go_wp2_with (first | (go_at_call 19; refine (HC1.out _ HB1.out).mono ?_; rintro e w2 ⟨rfl, hb2⟩; have HB2 := qa0 (jtwo HB1.out hb2); have HX2 := qa0 (HX1.out.later hb2); have HY2 := qa0 (HY1.out.later hb2); clear hb2; have u8 := HX2.out.cell 8 _ rfl; have u9 := HX2.out.cell 9 _ rfl; have u10 := HX2.out.cell 10 _ rfl; have u11 := HX2.out.cell 11 _ rfl; have u12 := HX2.out.cell 12 _ rfl; have u13 := HX2.out.cell 13 _ rfl; have u14 := HX2.out.cell 14 _ rfl; have v8 := HY2.out.cell 8 _ rfl; have v9 := HY2.out.cell 9 _ rfl; have v10 := HY2.out.cell 10 _ rfl; have v11 := HY2.out.cell 11 _ rfl; have v12 := HY2.out.cell 12 _ rfl; have v13 := HY2.out.cell 13 _ rfl; have v14 := HY2.out.cell 14 _ rfl) | (go_at_call 20; refine (HC2.out _ HB2.out).mono ?_; rintro e w3 ⟨rfl, hb3⟩; have HB3 := qa0 (jtwo HB2.out hb3); have HX3 := qa0 (HX2.out.later hb3); have HY3 := qa0 (HY2.out.later hb3); clear hb3; have m16 := HX3.out.cell 16 _ rfl; have n16 := HY3.out.cell 16 _ rfl) | (go_at_call 36; refine (HC3.out _ HB3.out).mono ?_; rintro e w4 ⟨rfl, hb4⟩; have HB4 := qa0 (jtwo HB3.out hb4); clear hb4))
          exact ⟨⟨i + 1, by omega, by go_num, HZ, HB4.out⟩, by simp [intOf]; omega⟩
  ·obtain rfl : i = n := by omega
   clear hb
   go_wp2
   go_ret
   exact ⟨by first | rfl | (rw [HA.out]; rfl), HB.out⟩
end Go.Proofs.YtnjcpmkfghcogaaGreatDoor
