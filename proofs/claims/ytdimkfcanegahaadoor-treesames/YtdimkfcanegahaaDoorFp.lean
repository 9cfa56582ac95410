/-
  Contracts of the program's tree: each over items, stripItem, Strip.
-/
import Derived.Test.YtdimkfcanegahaaDoorFo
import Derived.Test.YtdimkfcanegahaaDoorDo
namespace Go.Proofs.YtdimkfcanegahaaDoor
open Go.RowKit
/-- An item without places. -/
def ist (I : It) : It := { I with val := xst I.val, shp := sst I.shp, list := fun i => xst (I.list i), ln := 0, cl := 0 }
set_option maxRecDepth 20000 in
set_option maxHeartbeats 16000000 in
theorem tstripi (w : World) (k pl nl vk vl vc sk na ca np cp nr cr lc : Nat) (nm vm sm : ByteArray) (vn vln vcl sln scl ln cl : Int) (va aa pa ra la : Option Addr) (T : Xt) (S : St) (F : Nat → Xt) (hT : XV w (.agg #[.int .u8 (vk : Int), .int .i64 vn, .string vm, .slice va vl vc, .int .i64 vln, .int .i64 vcl]) T) (hS : SV w (.agg #[.int .u8 (sk : Int), .string sm, .slice aa na ca, .slice pa np cp, .slice ra nr cr, .int .i64 sln, .int .i64 scl]) S) (hF : ∀ d, XL d w la nl F) (sT : SmX 16 T) (sS : SmS 16 S) (sF : ∀ i, i < nl → SmX 16 (F i)) (hnl : nl ≤ 64) :
    Calls Tryd.prog 42 #[.agg #[.int .u8 (k : Int), .string nm, .int .u8 (vk : Int), .int .i64 vn, .string vm, .slice va vl vc, .int .i64 vln, .int .i64 vcl, .int .u8 (sk : Int), .string sm, .slice aa na ca, .slice pa np cp, .slice ra nr cr, .int .i64 sln, .int .i64 scl, .int .u8 (pl : Int), .slice la nl lc, .int .i64 ln, .int .i64 cl]] w fun e w' => ∃ va2 aa2 pa2 ra2 la2, e = .returned (.agg #[.int .u8 (k : Int), .string nm, .int .u8 (vk : Int), .int .i64 vn, .string vm, .slice va2 vl vl, .int .i64 0, .int .i64 0, .int .u8 (sk : Int), .string sm, .slice aa2 na na, .slice pa2 np np, .slice ra2 nr nr, .int .i64 0, .int .i64 0, .int .u8 (pl : Int), .slice la2 nl nl, .int .i64 0, .int .i64 0]) ∧ Fr w.heap.size w' (fun u => XN w.heap.size u va2 vl (kid (xst T)) ∧ XN w.heap.size u aa2 na (fun i => xst ((S []).args i)) ∧ SN w.heap.size u pa2 np (part (sst S)) ∧ RN w.heap.size u ra2 nr (S []).rl (fun i j => xst ((S []).rows i j)) ∧ XN w.heap.size u la2 nl (fun i => xst (F i))) ∧ Below w.heap.size w w' := by
  have HCv : Hid (∀ w' : World, Below w.heap.size w w' → Calls Tryd.prog 70 #[.agg #[.int .u8 (vk : Int), .int .i64 vn, .string vm, .slice va vl vc, .int .i64 vln, .int .i64 vcl]] w' fun e w'' => ∃ va2, e = .returned (.agg #[.int .u8 (vk : Int), .int .i64 vn, .string vm, .slice va2 vl vl, .int .i64 0, .int .i64 0]) ∧ Fr w'.heap.size w'' (fun u => XN w'.heap.size u va2 vl (kid (xst T))) ∧ Below w'.heap.size w' w'') := fun w' hb => by
    have h := tstripx 16 w' T _ sT (hT.later hb)
    obtain ⟨⟨_, _, e, _⟩, _⟩ := hT
    cases e
    exact h
  have HCs : Hid (∀ w' : World, Below w.heap.size w w' → Calls Tryd.prog 71 #[.agg #[.int .u8 (sk : Int), .string sm, .slice aa na ca, .slice pa np cp, .slice ra nr cr, .int .i64 sln, .int .i64 scl]] w' fun e w'' => ∃ aa2 pa2 ra2, e = .returned (.agg #[.int .u8 (sk : Int), .string sm, .slice aa2 na na, .slice pa2 np np, .slice ra2 nr nr, .int .i64 0, .int .i64 0]) ∧ Fr w'.heap.size w'' (fun u => XN w'.heap.size u aa2 na (fun i => xst ((S []).args i)) ∧ SN w'.heap.size u pa2 np (part (sst S)) ∧ RN w'.heap.size u ra2 nr (S []).rl (fun i j => xst ((S []).rows i j))) ∧ Below w'.heap.size w' w'') := fun w' hb => by
    have h := tstrips 16 w' S _ sS (hS.later hb)
    obtain ⟨⟨_, _, _, _, _, _, e, _⟩, _⟩ := hS
    cases e
    exact h
  have HCl : Hid (∀ w' : World, Below w.heap.size w w' → Calls Tryd.prog 72 #[.slice la nl lc] w' fun e w'' => ∃ la2, e = .returned (.slice la2 nl nl) ∧ Fr w'.heap.size w'' (fun u => XN w'.heap.size u la2 nl (fun i => xst (F i))) ∧ Below w'.heap.size w' w'') := fun w' hb => tstripxs 16 (tstripx 16) w' la nl lc F (fun d => (hF d).later hb) sF hnl
  clear hT hS hF sT sS sF
  generalize kid (xst T) = GT at *
  generalize part (sst S) = GP at *
  generalize (S []).rl = rl at *
  generalize (fun i => xst ((S []).args i)) = GA at *
  generalize (fun i j => xst ((S []).rows i j)) = GR at *
  generalize (fun i => xst (F i)) = GF at *
  have HX := jhid9 (Vn.new w 36 #[.int .u8 (k : Int), .string nm, .int .u8 (vk : Int), .int .i64 vn, .string vm, .slice va vl vc, .int .i64 vln, .int .i64 vcl, .int .u8 (sk : Int), .string sm, .slice aa na ca, .slice pa np cp, .slice ra nr cr, .int .i64 sln, .int .i64 scl, .int .u8 (pl : Int), .slice la nl lc, .int .i64 ln, .int .i64 cl])
  have HX0 := jhid9 (HX.out.later (jlow _ (.cells #[.int .u8 0, .string ⟨#[]⟩, .int .u8 0, .int .i64 0, .string ⟨#[]⟩, .slice none 0 0, .int .i64 0, .int .i64 0, .int .u8 0, .string ⟨#[]⟩, .slice none 0 0, .slice none 0 0, .slice none 0 0, .int .i64 0, .int .i64 0, .int .u8 0, .slice none 0 0, .int .i64 0, .int .i64 0] 36)))
  have HR0 := jhid9 (Vn.new (w.alloc (.cells #[.int .u8 (k : Int), .string nm, .int .u8 (vk : Int), .int .i64 vn, .string vm, .slice va vl vc, .int .i64 vln, .int .i64 vcl, .int .u8 (sk : Int), .string sm, .slice aa na ca, .slice pa np cp, .slice ra nr cr, .int .i64 sln, .int .i64 scl, .int .u8 (pl : Int), .slice la nl lc, .int .i64 ln, .int .i64 cl] 36)) 36 #[.int .u8 0, .string ⟨#[]⟩, .int .u8 0, .int .i64 0, .string ⟨#[]⟩, .slice none 0 0, .int .i64 0, .int .i64 0, .int .u8 0, .string ⟨#[]⟩, .slice none 0 0, .slice none 0 0, .slice none 0 0, .int .i64 0, .int .i64 0, .int .u8 0, .slice none 0 0, .int .i64 0, .int .i64 0])
  have HB0 := jhid9 (jtwo (jlow w (.cells #[.int .u8 (k : Int), .string nm, .int .u8 (vk : Int), .int .i64 vn, .string vm, .slice va vl vc, .int .i64 vln, .int .i64 vcl, .int .u8 (sk : Int), .string sm, .slice aa na ca, .slice pa np cp, .slice ra nr cr, .int .i64 sln, .int .i64 scl, .int .u8 (pl : Int), .slice la nl lc, .int .i64 ln, .int .i64 cl] 36)) (jlow _ (.cells #[.int .u8 0, .string ⟨#[]⟩, .int .u8 0, .int .i64 0, .string ⟨#[]⟩, .slice none 0 0, .int .i64 0, .int .i64 0, .int .u8 0, .string ⟨#[]⟩, .slice none 0 0, .slice none 0 0, .slice none 0 0, .int .i64 0, .int .i64 0, .int .u8 0, .slice none 0 0, .int .i64 0, .int .i64 0] 36)))
  rw [alloc_size] at HR0
  clear HX
  go_enter Tryd.func42, Tryd.ntmps42
  go_wp2
  refine wp_region_park (k := 14) (n := 14) (fun w' => w'.cell? ⟨w.heap.size, 16, none⟩ = some (.slice la nl lc)) (by kernel_rfl) (by kernel_rfl) (by decide) (by rfl) ?_
  obtain ⟨W0, HW0⟩ : ∃ W0, Hid (((w.alloc (.cells #[.int .u8 (k : Int), .string nm, .int .u8 (vk : Int), .int .i64 vn, .string vm, .slice va vl vc, .int .i64 vln, .int .i64 vcl, .int .u8 (sk : Int), .string sm, .slice aa na ca, .slice pa np cp, .slice ra nr cr, .int .i64 sln, .int .i64 scl, .int .u8 (pl : Int), .slice la nl lc, .int .i64 ln, .int .i64 cl] 36)).alloc (.cells #[.int .u8 0, .string ⟨#[]⟩, .int .u8 0, .int .i64 0, .string ⟨#[]⟩, .slice none 0 0, .int .i64 0, .int .i64 0, .int .u8 0, .string ⟨#[]⟩, .slice none 0 0, .slice none 0 0, .slice none 0 0, .int .i64 0, .int .i64 0, .int .u8 0, .slice none 0 0, .int .i64 0, .int .i64 0] 36)).drew = W0) := ⟨_, rfl⟩
  have HB : Hid (Below w.heap.size w W0) := by show Below _ _ _; rw [← HW0.out]; exact HB0.out.drew
  have HI : Hid (Vn W0 w.heap.size 36 #[.int .u8 (k : Int), .string nm, .int .u8 (vk : Int), .int .i64 vn, .string vm, .slice va vl vc, .int .i64 vln, .int .i64 vcl, .int .u8 (sk : Int), .string sm, .slice aa na ca, .slice pa np cp, .slice ra nr cr, .int .i64 sln, .int .i64 scl, .int .u8 (pl : Int), .slice la nl lc, .int .i64 ln, .int .i64 cl]) := by show Vn _ _ _ _; rw [← HW0.out]; exact HX0.out.later ((Below.refl _ _).drew)
  have HR : Hid (Vn W0 (w.heap.size + 1) 36 #[.int .u8 0, .string ⟨#[]⟩, .int .u8 0, .int .i64 0, .string ⟨#[]⟩, .slice none 0 0, .int .i64 0, .int .i64 0, .int .u8 0, .string ⟨#[]⟩, .slice none 0 0, .slice none 0 0, .slice none 0 0, .int .i64 0, .int .i64 0, .int .u8 0, .slice none 0 0, .int .i64 0, .int .i64 0]) := by show Vn _ _ _ _; rw [← HW0.out]; exact HR0.out.later ((Below.refl _ _).drew)
  have hsz : w.heap.size + 2 ≤ W0.heap.size := HR.out.lt
  rw [HW0.out]
  clear HW0 HB0 HX0 HR0
  refine wpAnyH_take (i := 0) (v := ?vs0_1) rfl (by kernel_rfl) (by kernel_rfl) (by kernel_rfl) (fun _ _ _ h => h) (Or.inl ⟨by rfl, ?ys0_1⟩) (HI.out.cell 16 _ rfl) ?zs0_1
  case ys0_1 => (intro w hSw; (try dsimp only at hSw); go_simp; try with_reducible rfl)
  try simp only [nz1, nz3, Act.put, nz4, nz5, nz6]
  refine wpAnyH_take (i := 3) (v := ?vs3_2) rfl (by kernel_rfl) (by kernel_rfl) (by kernel_rfl) (fun _ _ _ h => h) (Or.inl ⟨by rfl, ?ys3_2⟩) (HI.out.cell 16 _ rfl) ?zs3_2
  case ys3_2 => (intro w hSw; (try dsimp only at hSw); go_simp; try with_reducible rfl)
  try simp only [nz1, nz2, nz3, Act.put, nz4, nz5, nz6]
  refine wpAnyH_take (i := 6) (v := ?vs6_3) rfl (by kernel_rfl) (by kernel_rfl) (by kernel_rfl) (fun _ _ _ h => h) (Or.inl ⟨by rfl, ?ys6_3⟩) (HI.out.cell 16 _ rfl) ?zs6_3
  case ys6_3 => (intro w hSw; (try dsimp only at hSw); go_simp; try with_reducible rfl)
  try simp only [nz1, nz2, nz3, Act.put, nz4, nz5, nz6]
  refine wpAnyH_take (i := 7) (v := ?vs7_4) rfl (by kernel_rfl) (by kernel_rfl) (by kernel_rfl) (fun _ _ _ h => h) (Or.inl ⟨by rfl, ?ys7_4⟩) (HI.out.cell 16 _ rfl) ?zs7_4
  case ys7_4 => (intro w hSw; (try dsimp only at hSw); go_simp; try with_reducible rfl)
  try simp only [nz1, nz2, nz3, Act.put, nz4, nz5, nz6]
  refine wpAnyH_ready (rs := [1, 4]) (by kernel_rfl) (by simp) ?_
  refine AllReadyH.cons rfl (fun KK hKK => ?pa5) (AllReadyH.cons rfl (fun KK hKK => ?pb5) AllReadyH.nil)
  case pa5 =>
    have cc2 := HI.out.cell 2 _ rfl
    have cc3 := HI.out.cell 3 _ rfl
    have cc4 := HI.out.cell 4 _ rfl
    have cc5 := HI.out.cell 5 _ rfl
    have cc6 := HI.out.cell 6 _ rfl
    have cc7 := HI.out.cell 7 _ rfl
    go_simp
    refine hKK.out _ _ (HI.out.cell 16 _ rfl) (fun _ => ?_)
    clear hKK KK cc2 cc3 cc4 cc5 cc6 cc7
    try simp only [nz1, nz2, nz3, Act.put, nz4, nz5, nz6]
    refine wpAnyH_ready (rs := [2, 4]) (by kernel_rfl) (by simp) ?_
    refine AllReadyH.cons rfl (fun KK hKK => ?pa6) (AllReadyH.cons rfl (fun KK hKK => ?pb6) AllReadyH.nil)
    case pa6 =>
      go_simp
      refine (HCv.out _ HB.out).mono ?_; rintro e WA ⟨va2, rfl, hfr, hb⟩
      have HFA := jhid9 hfr
      have HBA := jhid9 (jtwo HB.out hb)
      have HIA := jhid9 (HI.out.later hb)
      have HRA := jhid9 (HR.out.later hb)
      have HGA : Hid (Ag (w.heap.size + 2) W0 WA) := Ag.of hb
      have hsA := hb.size
      clear hb hfr
      refine hKK.out _ _ (HIA.out.cell 16 _ rfl) (fun _ => ?_)
      clear hKK KK
      try simp only [nz1, nz2, nz3, Act.put, nz4, nz5, nz6]
      refine wpAnyH_ready (rs := [4]) (by kernel_rfl) (by simp) ?_
      refine AllReadyH.cons rfl (fun KK hKK => ?_) AllReadyH.nil
      have cc8 := HIA.out.cell 8 _ rfl
      have cc9 := HIA.out.cell 9 _ rfl
      have cc10 := HIA.out.cell 10 _ rfl
      have cc11 := HIA.out.cell 11 _ rfl
      have cc12 := HIA.out.cell 12 _ rfl
      have cc13 := HIA.out.cell 13 _ rfl
      have cc14 := HIA.out.cell 14 _ rfl
      go_simp
      refine hKK.out _ _ (HIA.out.cell 16 _ rfl) (fun _ => ?_)
      clear hKK KK cc8 cc9 cc10 cc11 cc12 cc13 cc14
      try simp only [nz1, nz2, nz3, Act.put, nz4, nz5, nz6]
      refine wpAnyH_take (i := 9) (v := ?vs9_8) rfl (by kernel_rfl) (by kernel_rfl) (by kernel_rfl) (fun _ _ _ h => h) (Or.inl ⟨by rfl, ?ys9_8⟩) (HIA.out.cell 16 _ rfl) ?zs9_8
      case ys9_8 => (intro w hSw; (try dsimp only at hSw); go_simp; try with_reducible rfl)
      try simp only [nz1, nz2, nz3, Act.put, nz4, nz5, nz6]
      refine wpAnyH_ready (rs := [5]) (by kernel_rfl) (by simp) ?_
      refine AllReadyH.cons rfl (fun KK hKK => ?_) AllReadyH.nil
      go_simp
      refine (HCs.out _ HBA.out).mono ?_; rintro e WP ⟨aa2, pa2, ra2, rfl, hfr, hb⟩
      have HFP := jhid9 hfr
      have HBP := jhid9 (jtwo HBA.out hb)
      have HIP := jhid9 (HIA.out.later hb)
      have HRP := jhid9 (HRA.out.later hb)
      have HGP : Hid (Ag (w.heap.size + 2) WA WP) := Ag.of hb
      have hsP := hb.size
      clear hb hfr
      refine hKK.out _ _ (HIP.out.cell 16 _ rfl) (fun _ => ?_)
      clear hKK KK
      try simp only [nz1, nz2, nz3, Act.put, nz4, nz5, nz6]
      refine wpAnyH_ready (rs := [8]) (by kernel_rfl) (by simp) ?_
      refine AllReadyH.cons rfl (fun KK hKK => ?_) AllReadyH.nil
      go_simp
      refine (HCl.out _ HBP.out).mono ?_; rintro e WR ⟨la2, rfl, hfr, hb⟩
      have HFR := jhid9 hfr
      have HBR := jhid9 (jtwo HBP.out hb)
      have HIR := jhid9 (HIP.out.later hb)
      have HRR := jhid9 (HRP.out.later hb)
      have HGR : Hid (Ag (w.heap.size + 2) WP WR) := Ag.of hb
      have hsR := hb.size
      clear hb hfr
      refine hKK.out _ _ (HIR.out.cell 16 _ rfl) (fun _ => ?_)
      clear hKK KK
      try simp only [nz1, nz2, nz3, Act.put, nz4, nz5, nz6]
      refine wpAnyH_ready (rs := [10]) (by kernel_rfl) (by simp) ?_
      refine AllReadyH.cons rfl (fun KK hKK => ?_) AllReadyH.nil
      refine wp_store_spl 28 _ _ rfl w.heap.size 2 36 _ #[.int .u8 (vk : Int), .int .i64 vn, .string vm, .slice va2 vl vl, .int .i64 0, .int .i64 0] rfl rfl sizeX (all6 rfl rfl rfl rfl rfl rfl) HIR.out (by show 2 + 6 ≤ 19; omega) ?_
      intro W5 HI5 HA5 HL5
      replace HI5 : Hid (Vn W5 w.heap.size 36 #[.int .u8 (k : Int), .string nm, .int .u8 (vk : Int), .int .i64 vn, .string vm, .slice va2 vl vl, .int .i64 0, .int .i64 0, .int .u8 (sk : Int), .string sm, .slice aa na ca, .slice pa np cp, .slice ra nr cr, .int .i64 sln, .int .i64 scl, .int .u8 (pl : Int), .slice la nl lc, .int .i64 ln, .int .i64 cl]) := HI5
      have HR5 := jhid9 (HRR.out.keptA (HA5.out (w.heap.size + 1) (by omega)) (Nat.le_refl _))
      refine hKK.out _ _ (HI5.out.cell 16 _ rfl) (fun _ => ?_)
      clear hKK KK
      try simp only [nz1, nz2, nz3, Act.put]
      refine wpAnyH_take (i := 11) (v := ?vs11_11) rfl (by kernel_rfl) (by kernel_rfl) (by kernel_rfl) (fun _ _ _ h => h) (Or.inl ⟨by rfl, ?ys11_11⟩) (HI5.out.cell 16 _ rfl) ?zs11_11
      case ys11_11 => (intro w hSw; (try dsimp only at hSw); go_simp; try with_reducible rfl)
      try simp only [nz1, nz2, nz3, Act.put, nz4, nz5, nz6]
      refine wpAnyH_ready (rs := [12]) (by kernel_rfl) (by simp) ?_
      refine AllReadyH.cons rfl (fun KK hKK => ?_) AllReadyH.nil
      refine wp_store_spl 33 _ _ rfl w.heap.size 8 36 _ #[.int .u8 (sk : Int), .string sm, .slice aa2 na na, .slice pa2 np np, .slice ra2 nr nr, .int .i64 0, .int .i64 0] rfl rfl sizeS (all7 rfl rfl rfl rfl rfl rfl rfl) HI5.out (by show 8 + 7 ≤ 19; omega) ?_
      intro W6 HI6 HA6 HL6
      replace HI6 : Hid (Vn W6 w.heap.size 36 #[.int .u8 (k : Int), .string nm, .int .u8 (vk : Int), .int .i64 vn, .string vm, .slice va2 vl vl, .int .i64 0, .int .i64 0, .int .u8 (sk : Int), .string sm, .slice aa2 na na, .slice pa2 np np, .slice ra2 nr nr, .int .i64 0, .int .i64 0, .int .u8 (pl : Int), .slice la nl lc, .int .i64 ln, .int .i64 cl]) := HI6
      have HR6 := jhid9 (HR5.out.keptA (HA6.out (w.heap.size + 1) (by omega)) (Nat.le_refl _))
      refine hKK.out _ _ (HI6.out.cell 16 _ rfl) (fun _ => ?_)
      clear hKK KK
      try simp only [nz1, nz2, nz3, Act.put]
      refine wpAnyH_take (i := 13) (v := ?vs13_12) rfl (by kernel_rfl) (by kernel_rfl) (by kernel_rfl) (fun _ _ _ h => h) (Or.inl ⟨by rfl, ?ys13_12⟩) (HI6.out.cell 16 _ rfl) ?zs13_12
      case ys13_12 => (intro w hSw; (try dsimp only at hSw); go_simp; try with_reducible rfl)
      try simp only [nz1, nz2, nz3, Act.put, nz4, nz5, nz6]
      refine wpAnyH_done (by kernel_rfl) ?_ _
      refine park_last rfl (fun KK hKK => ?_)
      refine wp_store_one 26 _ _ rfl w.heap.size 16 36 _ (.slice la2 nl nl) rfl rfl sizeL1 rfl rfl HI6.out (by show 16 < 19; omega) ?_
      intro W7 HI7 hg7
      replace HI7 : Hid (Vn W7 w.heap.size 36 #[.int .u8 (k : Int), .string nm, .int .u8 (vk : Int), .int .i64 vn, .string vm, .slice va2 vl vl, .int .i64 0, .int .i64 0, .int .u8 (sk : Int), .string sm, .slice aa2 na na, .slice pa2 np np, .slice ra2 nr nr, .int .i64 0, .int .i64 0, .int .u8 (pl : Int), .slice la2 nl nl, .int .i64 ln, .int .i64 cl]) := HI7
      have HR7 := jhid9 (HR6.out.kept hg7.out (by simp))
      refine hKK.out _ _ ?_
      clear hKK KK
      try simp only [nz1, nz2, nz3, Act.put]
      have M2 : True := trivial
      have M3 : True := trivial
      have M4 : True := trivial
      have M5 : True := trivial
      go_wp2_with (first
        | (clear M2; refine wpList_store_one rfl 3 _ _ rfl w.heap.size 17 36 _ (.int .i64 0) rfl rfl sizeI1 rfl rfl HI7.out (by show 17 < 19; omega) ?_; intro W8 HI8 hg8; replace HI8 : Hid (Vn W8 w.heap.size 36 #[.int .u8 (k : Int), .string nm, .int .u8 (vk : Int), .int .i64 vn, .string vm, .slice va2 vl vl, .int .i64 0, .int .i64 0, .int .u8 (sk : Int), .string sm, .slice aa2 na na, .slice pa2 np np, .slice ra2 nr nr, .int .i64 0, .int .i64 0, .int .u8 (pl : Int), .slice la2 nl nl, .int .i64 0, .int .i64 cl]) := HI8; have HR8 := jhid9 (HR7.out.kept hg8.out (by simp)))
        | (clear M3; refine wpList_store_one rfl 3 _ _ rfl w.heap.size 18 36 _ (.int .i64 0) rfl rfl sizeI1 rfl rfl HI8.out (by show 18 < 19; omega) ?_; intro WY HIY hgY; replace HIY : Hid (Vn WY w.heap.size 36 #[.int .u8 (k : Int), .string nm, .int .u8 (vk : Int), .int .i64 vn, .string vm, .slice va2 vl vl, .int .i64 0, .int .i64 0, .int .u8 (sk : Int), .string sm, .slice aa2 na na, .slice pa2 np np, .slice ra2 nr nr, .int .i64 0, .int .i64 0, .int .u8 (pl : Int), .slice la2 nl nl, .int .i64 0, .int .i64 0]) := HIY; have HRY := jhid9 (HR8.out.kept hgY.out (by simp)))
        | (clear M5; refine wpList_load_rowg (by rfl) 36 _ rfl w.heap.size rfl 36 #[.int .u8 (k : Int), .string nm, .int .u8 (vk : Int), .int .i64 vn, .string vm, .slice va2 vl vl, .int .i64 0, .int .i64 0, .int .u8 (sk : Int), .string sm, .slice aa2 na na, .slice pa2 np np, .slice ra2 nr nr, .int .i64 0, .int .i64 0, .int .u8 (pl : Int), .slice la2 nl nl, .int .i64 0, .int .i64 0] (0, 0) _ HIY.out Tryd.underlying36 rfl sizeI ?_)
        | (clear M4; refine wpList_store_vn rfl 36 _ _ rfl (w.heap.size + 1) _ #[.int .u8 (k : Int), .string nm, .int .u8 (vk : Int), .int .i64 vn, .string vm, .slice va2 vl vl, .int .i64 0, .int .i64 0, .int .u8 (sk : Int), .string sm, .slice aa2 na na, .slice pa2 np np, .slice ra2 nr nr, .int .i64 0, .int .i64 0, .int .u8 (pl : Int), .slice la2 nl nl, .int .i64 0, .int .i64 0] rfl rfl HRY.out sizeI rfl (all19 rfl rfl rfl rfl rfl rfl rfl rfl rfl rfl rfl rfl rfl rfl rfl rfl rfl rfl rfl) ?_; intro WX HVX hgX))
      refine bodyPost_ret (v := .agg #[.int .u8 (k : Int), .string nm, .int .u8 (vk : Int), .int .i64 vn, .string vm, .slice va2 vl vl, .int .i64 0, .int .i64 0, .int .u8 (sk : Int), .string sm, .slice aa2 na na, .slice pa2 np np, .slice ra2 nr nr, .int .i64 0, .int .i64 0, .int .u8 (pl : Int), .slice la2 nl nl, .int .i64 0, .int .i64 0]) (results_cell_row Tryd.results42 _ _ (w.heap.size + 1) 36 _ (0, 0) _ rfl HVX.out Tryd.underlying36 rfl sizeI) rfl ?_
      have hT : Ag (w.heap.size + 2) WR WX := (HA5.out _ (by omega)).trans ((HA6.out _ (by omega)).trans ((ag_grown hg7.out (by omega)).trans ((ag_grown hg8.out (by omega)).trans ((ag_grown hgY.out (by omega)).trans (ag_grown hgX.out (by omega))))))
      have z1 := (HL5.out w.heap.size (Nat.le_refl _)).size
      have z2 := (HL6.out w.heap.size (Nat.le_refl _)).size
      have z3 := hg7.out.size
      have z4 := hg8.out.size
      have z5 := hgY.out.size
      refine ⟨va2, aa2, pa2, ra2, la2, rfl, fun u hu => ?_, ?_⟩
      · have hu2 := hu.mono (show w.heap.size ≤ w.heap.size + 2 by omega)
        have y1 := ((((HFA.out.weak (s := w.heap.size + 2) (by omega)).step HGP.out).step HGR.out).step hT) u hu2
        obtain ⟨y2, y3, y4⟩ := (((HFP.out.weak (s := w.heap.size + 2) (by omega)).step HGR.out).step hT) u hu2
        have y5 := ((HFR.out.weak (s := w.heap.size + 2) (by omega)).step hT) u hu2
        exact ⟨y1.weak (by omega), y2.weak (by omega), y3.weak (by omega), y4.weak (by omega), y5.weak (by omega)⟩
      · exact HBR.out.trans ((HL5.out _ (Nat.le_refl _)).trans ((HL6.out _ (Nat.le_refl _)).trans ((jbelow hg7.out (by omega) (fun g e => by cases e; omega)).trans ((jbelow hg8.out (by omega) (fun g e => by cases e; omega)).trans ((jbelow hgY.out (by omega) (fun g e => by cases e; omega)).trans (jbelow hgX.out (by omega) (fun g e => by cases e; omega)))))))
    case pb6 =>
      have cc8 := HI.out.cell 8 _ rfl
      have cc9 := HI.out.cell 9 _ rfl
      have cc10 := HI.out.cell 10 _ rfl
      have cc11 := HI.out.cell 11 _ rfl
      have cc12 := HI.out.cell 12 _ rfl
      have cc13 := HI.out.cell 13 _ rfl
      have cc14 := HI.out.cell 14 _ rfl
      go_simp
      refine hKK.out _ _ (HI.out.cell 16 _ rfl) (fun _ => ?_)
      clear hKK KK cc8 cc9 cc10 cc11 cc12 cc13 cc14
      try simp only [nz1, nz2, nz3, Act.put, nz4, nz5, nz6]
      refine wpAnyH_ready (rs := [2]) (by kernel_rfl) (by simp) ?_
      refine AllReadyH.cons rfl (fun KK hKK => ?_) AllReadyH.nil
      go_simp
      refine (HCv.out _ HB.out).mono ?_; rintro e WA ⟨va2, rfl, hfr, hb⟩
      have HFA := jhid9 hfr
      have HBA := jhid9 (jtwo HB.out hb)
      have HIA := jhid9 (HI.out.later hb)
      have HRA := jhid9 (HR.out.later hb)
      have HGA : Hid (Ag (w.heap.size + 2) W0 WA) := Ag.of hb
      have hsA := hb.size
      clear hb hfr
      refine hKK.out _ _ (HIA.out.cell 16 _ rfl) (fun _ => ?_)
      clear hKK KK
      try simp only [nz1, nz2, nz3, Act.put, nz4, nz5, nz6]
      refine wpAnyH_take (i := 9) (v := ?vs9_14) rfl (by kernel_rfl) (by kernel_rfl) (by kernel_rfl) (fun _ _ _ h => h) (Or.inl ⟨by rfl, ?ys9_14⟩) (HIA.out.cell 16 _ rfl) ?zs9_14
      case ys9_14 => (intro w hSw; (try dsimp only at hSw); go_simp; try with_reducible rfl)
      try simp only [nz1, nz2, nz3, Act.put, nz4, nz5, nz6]
      refine wpAnyH_ready (rs := [5]) (by kernel_rfl) (by simp) ?_
      refine AllReadyH.cons rfl (fun KK hKK => ?_) AllReadyH.nil
      go_simp
      refine (HCs.out _ HBA.out).mono ?_; rintro e WP ⟨aa2, pa2, ra2, rfl, hfr, hb⟩
      have HFP := jhid9 hfr
      have HBP := jhid9 (jtwo HBA.out hb)
      have HIP := jhid9 (HIA.out.later hb)
      have HRP := jhid9 (HRA.out.later hb)
      have HGP : Hid (Ag (w.heap.size + 2) WA WP) := Ag.of hb
      have hsP := hb.size
      clear hb hfr
      refine hKK.out _ _ (HIP.out.cell 16 _ rfl) (fun _ => ?_)
      clear hKK KK
      try simp only [nz1, nz2, nz3, Act.put, nz4, nz5, nz6]
      refine wpAnyH_ready (rs := [8]) (by kernel_rfl) (by simp) ?_
      refine AllReadyH.cons rfl (fun KK hKK => ?_) AllReadyH.nil
      go_simp
      refine (HCl.out _ HBP.out).mono ?_; rintro e WR ⟨la2, rfl, hfr, hb⟩
      have HFR := jhid9 hfr
      have HBR := jhid9 (jtwo HBP.out hb)
      have HIR := jhid9 (HIP.out.later hb)
      have HRR := jhid9 (HRP.out.later hb)
      have HGR : Hid (Ag (w.heap.size + 2) WP WR) := Ag.of hb
      have hsR := hb.size
      clear hb hfr
      refine hKK.out _ _ (HIR.out.cell 16 _ rfl) (fun _ => ?_)
      clear hKK KK
      try simp only [nz1, nz2, nz3, Act.put, nz4, nz5, nz6]
      refine wpAnyH_ready (rs := [10]) (by kernel_rfl) (by simp) ?_
      refine AllReadyH.cons rfl (fun KK hKK => ?_) AllReadyH.nil
      refine wp_store_spl 28 _ _ rfl w.heap.size 2 36 _ #[.int .u8 (vk : Int), .int .i64 vn, .string vm, .slice va2 vl vl, .int .i64 0, .int .i64 0] rfl rfl sizeX (all6 rfl rfl rfl rfl rfl rfl) HIR.out (by show 2 + 6 ≤ 19; omega) ?_
      intro W5 HI5 HA5 HL5
      replace HI5 : Hid (Vn W5 w.heap.size 36 #[.int .u8 (k : Int), .string nm, .int .u8 (vk : Int), .int .i64 vn, .string vm, .slice va2 vl vl, .int .i64 0, .int .i64 0, .int .u8 (sk : Int), .string sm, .slice aa na ca, .slice pa np cp, .slice ra nr cr, .int .i64 sln, .int .i64 scl, .int .u8 (pl : Int), .slice la nl lc, .int .i64 ln, .int .i64 cl]) := HI5
      have HR5 := jhid9 (HRR.out.keptA (HA5.out (w.heap.size + 1) (by omega)) (Nat.le_refl _))
      refine hKK.out _ _ (HI5.out.cell 16 _ rfl) (fun _ => ?_)
      clear hKK KK
      try simp only [nz1, nz2, nz3, Act.put]
      refine wpAnyH_take (i := 11) (v := ?vs11_17) rfl (by kernel_rfl) (by kernel_rfl) (by kernel_rfl) (fun _ _ _ h => h) (Or.inl ⟨by rfl, ?ys11_17⟩) (HI5.out.cell 16 _ rfl) ?zs11_17
      case ys11_17 => (intro w hSw; (try dsimp only at hSw); go_simp; try with_reducible rfl)
      try simp only [nz1, nz2, nz3, Act.put, nz4, nz5, nz6]
      refine wpAnyH_ready (rs := [12]) (by kernel_rfl) (by simp) ?_
      refine AllReadyH.cons rfl (fun KK hKK => ?_) AllReadyH.nil
      refine wp_store_spl 33 _ _ rfl w.heap.size 8 36 _ #[.int .u8 (sk : Int), .string sm, .slice aa2 na na, .slice pa2 np np, .slice ra2 nr nr, .int .i64 0, .int .i64 0] rfl rfl sizeS (all7 rfl rfl rfl rfl rfl rfl rfl) HI5.out (by show 8 + 7 ≤ 19; omega) ?_
      intro W6 HI6 HA6 HL6
      replace HI6 : Hid (Vn W6 w.heap.size 36 #[.int .u8 (k : Int), .string nm, .int .u8 (vk : Int), .int .i64 vn, .string vm, .slice va2 vl vl, .int .i64 0, .int .i64 0, .int .u8 (sk : Int), .string sm, .slice aa2 na na, .slice pa2 np np, .slice ra2 nr nr, .int .i64 0, .int .i64 0, .int .u8 (pl : Int), .slice la nl lc, .int .i64 ln, .int .i64 cl]) := HI6
      have HR6 := jhid9 (HR5.out.keptA (HA6.out (w.heap.size + 1) (by omega)) (Nat.le_refl _))
      refine hKK.out _ _ (HI6.out.cell 16 _ rfl) (fun _ => ?_)
      clear hKK KK
      try simp only [nz1, nz2, nz3, Act.put]
      refine wpAnyH_take (i := 13) (v := ?vs13_18) rfl (by kernel_rfl) (by kernel_rfl) (by kernel_rfl) (fun _ _ _ h => h) (Or.inl ⟨by rfl, ?ys13_18⟩) (HI6.out.cell 16 _ rfl) ?zs13_18
      case ys13_18 => (intro w hSw; (try dsimp only at hSw); go_simp; try with_reducible rfl)
      try simp only [nz1, nz2, nz3, Act.put, nz4, nz5, nz6]
      refine wpAnyH_done (by kernel_rfl) ?_ _
      refine park_last rfl (fun KK hKK => ?_)
      refine wp_store_one 26 _ _ rfl w.heap.size 16 36 _ (.slice la2 nl nl) rfl rfl sizeL1 rfl rfl HI6.out (by show 16 < 19; omega) ?_
      intro W7 HI7 hg7
      replace HI7 : Hid (Vn W7 w.heap.size 36 #[.int .u8 (k : Int), .string nm, .int .u8 (vk : Int), .int .i64 vn, .string vm, .slice va2 vl vl, .int .i64 0, .int .i64 0, .int .u8 (sk : Int), .string sm, .slice aa2 na na, .slice pa2 np np, .slice ra2 nr nr, .int .i64 0, .int .i64 0, .int .u8 (pl : Int), .slice la2 nl nl, .int .i64 ln, .int .i64 cl]) := HI7
      have HR7 := jhid9 (HR6.out.kept hg7.out (by simp))
      refine hKK.out _ _ ?_
      clear hKK KK
      try simp only [nz1, nz2, nz3, Act.put]
      have M2 : True := trivial
      have M3 : True := trivial
      have M4 : True := trivial
      have M5 : True := trivial
      go_wp2_with (first
        | (clear M2; refine wpList_store_one rfl 3 _ _ rfl w.heap.size 17 36 _ (.int .i64 0) rfl rfl sizeI1 rfl rfl HI7.out (by show 17 < 19; omega) ?_; intro W8 HI8 hg8; replace HI8 : Hid (Vn W8 w.heap.size 36 #[.int .u8 (k : Int), .string nm, .int .u8 (vk : Int), .int .i64 vn, .string vm, .slice va2 vl vl, .int .i64 0, .int .i64 0, .int .u8 (sk : Int), .string sm, .slice aa2 na na, .slice pa2 np np, .slice ra2 nr nr, .int .i64 0, .int .i64 0, .int .u8 (pl : Int), .slice la2 nl nl, .int .i64 0, .int .i64 cl]) := HI8; have HR8 := jhid9 (HR7.out.kept hg8.out (by simp)))
        | (clear M3; refine wpList_store_one rfl 3 _ _ rfl w.heap.size 18 36 _ (.int .i64 0) rfl rfl sizeI1 rfl rfl HI8.out (by show 18 < 19; omega) ?_; intro WY HIY hgY; replace HIY : Hid (Vn WY w.heap.size 36 #[.int .u8 (k : Int), .string nm, .int .u8 (vk : Int), .int .i64 vn, .string vm, .slice va2 vl vl, .int .i64 0, .int .i64 0, .int .u8 (sk : Int), .string sm, .slice aa2 na na, .slice pa2 np np, .slice ra2 nr nr, .int .i64 0, .int .i64 0, .int .u8 (pl : Int), .slice la2 nl nl, .int .i64 0, .int .i64 0]) := HIY; have HRY := jhid9 (HR8.out.kept hgY.out (by simp)))
        | (clear M5; refine wpList_load_rowg (by rfl) 36 _ rfl w.heap.size rfl 36 #[.int .u8 (k : Int), .string nm, .int .u8 (vk : Int), .int .i64 vn, .string vm, .slice va2 vl vl, .int .i64 0, .int .i64 0, .int .u8 (sk : Int), .string sm, .slice aa2 na na, .slice pa2 np np, .slice ra2 nr nr, .int .i64 0, .int .i64 0, .int .u8 (pl : Int), .slice la2 nl nl, .int .i64 0, .int .i64 0] (0, 0) _ HIY.out Tryd.underlying36 rfl sizeI ?_)
        | (clear M4; refine wpList_store_vn rfl 36 _ _ rfl (w.heap.size + 1) _ #[.int .u8 (k : Int), .string nm, .int .u8 (vk : Int), .int .i64 vn, .string vm, .slice va2 vl vl, .int .i64 0, .int .i64 0, .int .u8 (sk : Int), .string sm, .slice aa2 na na, .slice pa2 np np, .slice ra2 nr nr, .int .i64 0, .int .i64 0, .int .u8 (pl : Int), .slice la2 nl nl, .int .i64 0, .int .i64 0] rfl rfl HRY.out sizeI rfl (all19 rfl rfl rfl rfl rfl rfl rfl rfl rfl rfl rfl rfl rfl rfl rfl rfl rfl rfl rfl) ?_; intro WX HVX hgX))
      refine bodyPost_ret (v := .agg #[.int .u8 (k : Int), .string nm, .int .u8 (vk : Int), .int .i64 vn, .string vm, .slice va2 vl vl, .int .i64 0, .int .i64 0, .int .u8 (sk : Int), .string sm, .slice aa2 na na, .slice pa2 np np, .slice ra2 nr nr, .int .i64 0, .int .i64 0, .int .u8 (pl : Int), .slice la2 nl nl, .int .i64 0, .int .i64 0]) (results_cell_row Tryd.results42 _ _ (w.heap.size + 1) 36 _ (0, 0) _ rfl HVX.out Tryd.underlying36 rfl sizeI) rfl ?_
      have hT : Ag (w.heap.size + 2) WR WX := (HA5.out _ (by omega)).trans ((HA6.out _ (by omega)).trans ((ag_grown hg7.out (by omega)).trans ((ag_grown hg8.out (by omega)).trans ((ag_grown hgY.out (by omega)).trans (ag_grown hgX.out (by omega))))))
      have z1 := (HL5.out w.heap.size (Nat.le_refl _)).size
      have z2 := (HL6.out w.heap.size (Nat.le_refl _)).size
      have z3 := hg7.out.size
      have z4 := hg8.out.size
      have z5 := hgY.out.size
      refine ⟨va2, aa2, pa2, ra2, la2, rfl, fun u hu => ?_, ?_⟩
      · have hu2 := hu.mono (show w.heap.size ≤ w.heap.size + 2 by omega)
        have y1 := ((((HFA.out.weak (s := w.heap.size + 2) (by omega)).step HGP.out).step HGR.out).step hT) u hu2
        obtain ⟨y2, y3, y4⟩ := (((HFP.out.weak (s := w.heap.size + 2) (by omega)).step HGR.out).step hT) u hu2
        have y5 := ((HFR.out.weak (s := w.heap.size + 2) (by omega)).step hT) u hu2
        exact ⟨y1.weak (by omega), y2.weak (by omega), y3.weak (by omega), y4.weak (by omega), y5.weak (by omega)⟩
      · exact HBR.out.trans ((HL5.out _ (Nat.le_refl _)).trans ((HL6.out _ (Nat.le_refl _)).trans ((jbelow hg7.out (by omega) (fun g e => by cases e; omega)).trans ((jbelow hg8.out (by omega) (fun g e => by cases e; omega)).trans ((jbelow hgY.out (by omega) (fun g e => by cases e; omega)).trans (jbelow hgX.out (by omega) (fun g e => by cases e; omega)))))))
  case pb5 =>
    have cc8 := HI.out.cell 8 _ rfl
    have cc9 := HI.out.cell 9 _ rfl
    have cc10 := HI.out.cell 10 _ rfl
    have cc11 := HI.out.cell 11 _ rfl
    have cc12 := HI.out.cell 12 _ rfl
    have cc13 := HI.out.cell 13 _ rfl
    have cc14 := HI.out.cell 14 _ rfl
    go_simp
    refine hKK.out _ _ (HI.out.cell 16 _ rfl) (fun _ => ?_)
    clear hKK KK cc8 cc9 cc10 cc11 cc12 cc13 cc14
    try simp only [nz1, nz2, nz3, Act.put, nz4, nz5, nz6]
    refine wpAnyH_ready (rs := [1]) (by kernel_rfl) (by simp) ?_
    refine AllReadyH.cons rfl (fun KK hKK => ?_) AllReadyH.nil
    have cc2 := HI.out.cell 2 _ rfl
    have cc3 := HI.out.cell 3 _ rfl
    have cc4 := HI.out.cell 4 _ rfl
    have cc5 := HI.out.cell 5 _ rfl
    have cc6 := HI.out.cell 6 _ rfl
    have cc7 := HI.out.cell 7 _ rfl
    go_simp
    refine hKK.out _ _ (HI.out.cell 16 _ rfl) (fun _ => ?_)
    clear hKK KK cc2 cc3 cc4 cc5 cc6 cc7
    try simp only [nz1, nz2, nz3, Act.put, nz4, nz5, nz6]
    refine wpAnyH_ready (rs := [2]) (by kernel_rfl) (by simp) ?_
    refine AllReadyH.cons rfl (fun KK hKK => ?_) AllReadyH.nil
    go_simp
    refine (HCv.out _ HB.out).mono ?_; rintro e WA ⟨va2, rfl, hfr, hb⟩
    have HFA := jhid9 hfr
    have HBA := jhid9 (jtwo HB.out hb)
    have HIA := jhid9 (HI.out.later hb)
    have HRA := jhid9 (HR.out.later hb)
    have HGA : Hid (Ag (w.heap.size + 2) W0 WA) := Ag.of hb
    have hsA := hb.size
    clear hb hfr
    refine hKK.out _ _ (HIA.out.cell 16 _ rfl) (fun _ => ?_)
    clear hKK KK
    try simp only [nz1, nz2, nz3, Act.put, nz4, nz5, nz6]
    refine wpAnyH_take (i := 9) (v := ?vs9_21) rfl (by kernel_rfl) (by kernel_rfl) (by kernel_rfl) (fun _ _ _ h => h) (Or.inl ⟨by rfl, ?ys9_21⟩) (HIA.out.cell 16 _ rfl) ?zs9_21
    case ys9_21 => (intro w hSw; (try dsimp only at hSw); go_simp; try with_reducible rfl)
    try simp only [nz1, nz2, nz3, Act.put, nz4, nz5, nz6]
    refine wpAnyH_ready (rs := [5]) (by kernel_rfl) (by simp) ?_
    refine AllReadyH.cons rfl (fun KK hKK => ?_) AllReadyH.nil
    go_simp
    refine (HCs.out _ HBA.out).mono ?_; rintro e WP ⟨aa2, pa2, ra2, rfl, hfr, hb⟩
    have HFP := jhid9 hfr
    have HBP := jhid9 (jtwo HBA.out hb)
    have HIP := jhid9 (HIA.out.later hb)
    have HRP := jhid9 (HRA.out.later hb)
    have HGP : Hid (Ag (w.heap.size + 2) WA WP) := Ag.of hb
    have hsP := hb.size
    clear hb hfr
    refine hKK.out _ _ (HIP.out.cell 16 _ rfl) (fun _ => ?_)
    clear hKK KK
    try simp only [nz1, nz2, nz3, Act.put, nz4, nz5, nz6]
    refine wpAnyH_ready (rs := [8]) (by kernel_rfl) (by simp) ?_
    refine AllReadyH.cons rfl (fun KK hKK => ?_) AllReadyH.nil
    go_simp
    refine (HCl.out _ HBP.out).mono ?_; rintro e WR ⟨la2, rfl, hfr, hb⟩
    have HFR := jhid9 hfr
    have HBR := jhid9 (jtwo HBP.out hb)
    have HIR := jhid9 (HIP.out.later hb)
    have HRR := jhid9 (HRP.out.later hb)
    have HGR : Hid (Ag (w.heap.size + 2) WP WR) := Ag.of hb
    have hsR := hb.size
    clear hb hfr
    refine hKK.out _ _ (HIR.out.cell 16 _ rfl) (fun _ => ?_)
    clear hKK KK
    try simp only [nz1, nz2, nz3, Act.put, nz4, nz5, nz6]
    refine wpAnyH_ready (rs := [10]) (by kernel_rfl) (by simp) ?_
    refine AllReadyH.cons rfl (fun KK hKK => ?_) AllReadyH.nil
    refine wp_store_spl 28 _ _ rfl w.heap.size 2 36 _ #[.int .u8 (vk : Int), .int .i64 vn, .string vm, .slice va2 vl vl, .int .i64 0, .int .i64 0] rfl rfl sizeX (all6 rfl rfl rfl rfl rfl rfl) HIR.out (by show 2 + 6 ≤ 19; omega) ?_
    intro W5 HI5 HA5 HL5
    replace HI5 : Hid (Vn W5 w.heap.size 36 #[.int .u8 (k : Int), .string nm, .int .u8 (vk : Int), .int .i64 vn, .string vm, .slice va2 vl vl, .int .i64 0, .int .i64 0, .int .u8 (sk : Int), .string sm, .slice aa na ca, .slice pa np cp, .slice ra nr cr, .int .i64 sln, .int .i64 scl, .int .u8 (pl : Int), .slice la nl lc, .int .i64 ln, .int .i64 cl]) := HI5
    have HR5 := jhid9 (HRR.out.keptA (HA5.out (w.heap.size + 1) (by omega)) (Nat.le_refl _))
    refine hKK.out _ _ (HI5.out.cell 16 _ rfl) (fun _ => ?_)
    clear hKK KK
    try simp only [nz1, nz2, nz3, Act.put]
    refine wpAnyH_take (i := 11) (v := ?vs11_24) rfl (by kernel_rfl) (by kernel_rfl) (by kernel_rfl) (fun _ _ _ h => h) (Or.inl ⟨by rfl, ?ys11_24⟩) (HI5.out.cell 16 _ rfl) ?zs11_24
    case ys11_24 => (intro w hSw; (try dsimp only at hSw); go_simp; try with_reducible rfl)
    try simp only [nz1, nz2, nz3, Act.put, nz4, nz5, nz6]
    refine wpAnyH_ready (rs := [12]) (by kernel_rfl) (by simp) ?_
    refine AllReadyH.cons rfl (fun KK hKK => ?_) AllReadyH.nil
    refine wp_store_spl 33 _ _ rfl w.heap.size 8 36 _ #[.int .u8 (sk : Int), .string sm, .slice aa2 na na, .slice pa2 np np, .slice ra2 nr nr, .int .i64 0, .int .i64 0] rfl rfl sizeS (all7 rfl rfl rfl rfl rfl rfl rfl) HI5.out (by show 8 + 7 ≤ 19; omega) ?_
    intro W6 HI6 HA6 HL6
    replace HI6 : Hid (Vn W6 w.heap.size 36 #[.int .u8 (k : Int), .string nm, .int .u8 (vk : Int), .int .i64 vn, .string vm, .slice va2 vl vl, .int .i64 0, .int .i64 0, .int .u8 (sk : Int), .string sm, .slice aa2 na na, .slice pa2 np np, .slice ra2 nr nr, .int .i64 0, .int .i64 0, .int .u8 (pl : Int), .slice la nl lc, .int .i64 ln, .int .i64 cl]) := HI6
    have HR6 := jhid9 (HR5.out.keptA (HA6.out (w.heap.size + 1) (by omega)) (Nat.le_refl _))
    refine hKK.out _ _ (HI6.out.cell 16 _ rfl) (fun _ => ?_)
    clear hKK KK
    try simp only [nz1, nz2, nz3, Act.put]
    refine wpAnyH_take (i := 13) (v := ?vs13_25) rfl (by kernel_rfl) (by kernel_rfl) (by kernel_rfl) (fun _ _ _ h => h) (Or.inl ⟨by rfl, ?ys13_25⟩) (HI6.out.cell 16 _ rfl) ?zs13_25
    case ys13_25 => (intro w hSw; (try dsimp only at hSw); go_simp; try with_reducible rfl)
    try simp only [nz1, nz2, nz3, Act.put, nz4, nz5, nz6]
    refine wpAnyH_done (by kernel_rfl) ?_ _
    refine park_last rfl (fun KK hKK => ?_)
    refine wp_store_one 26 _ _ rfl w.heap.size 16 36 _ (.slice la2 nl nl) rfl rfl sizeL1 rfl rfl HI6.out (by show 16 < 19; omega) ?_
    intro W7 HI7 hg7
    replace HI7 : Hid (Vn W7 w.heap.size 36 #[.int .u8 (k : Int), .string nm, .int .u8 (vk : Int), .int .i64 vn, .string vm, .slice va2 vl vl, .int .i64 0, .int .i64 0, .int .u8 (sk : Int), .string sm, .slice aa2 na na, .slice pa2 np np, .slice ra2 nr nr, .int .i64 0, .int .i64 0, .int .u8 (pl : Int), .slice la2 nl nl, .int .i64 ln, .int .i64 cl]) := HI7
    have HR7 := jhid9 (HR6.out.kept hg7.out (by simp))
    refine hKK.out _ _ ?_
    clear hKK KK
    try simp only [nz1, nz2, nz3, Act.put]
    have M2 : True := trivial
    have M3 : True := trivial
    have M4 : True := trivial
    have M5 : True := trivial
    go_wp2_with (first
      | (clear M2; refine wpList_store_one rfl 3 _ _ rfl w.heap.size 17 36 _ (.int .i64 0) rfl rfl sizeI1 rfl rfl HI7.out (by show 17 < 19; omega) ?_; intro W8 HI8 hg8; replace HI8 : Hid (Vn W8 w.heap.size 36 #[.int .u8 (k : Int), .string nm, .int .u8 (vk : Int), .int .i64 vn, .string vm, .slice va2 vl vl, .int .i64 0, .int .i64 0, .int .u8 (sk : Int), .string sm, .slice aa2 na na, .slice pa2 np np, .slice ra2 nr nr, .int .i64 0, .int .i64 0, .int .u8 (pl : Int), .slice la2 nl nl, .int .i64 0, .int .i64 cl]) := HI8; have HR8 := jhid9 (HR7.out.kept hg8.out (by simp)))
      | (clear M3; refine wpList_store_one rfl 3 _ _ rfl w.heap.size 18 36 _ (.int .i64 0) rfl rfl sizeI1 rfl rfl HI8.out (by show 18 < 19; omega) ?_; intro WY HIY hgY; replace HIY : Hid (Vn WY w.heap.size 36 #[.int .u8 (k : Int), .string nm, .int .u8 (vk : Int), .int .i64 vn, .string vm, .slice va2 vl vl, .int .i64 0, .int .i64 0, .int .u8 (sk : Int), .string sm, .slice aa2 na na, .slice pa2 np np, .slice ra2 nr nr, .int .i64 0, .int .i64 0, .int .u8 (pl : Int), .slice la2 nl nl, .int .i64 0, .int .i64 0]) := HIY; have HRY := jhid9 (HR8.out.kept hgY.out (by simp)))
      | (clear M5; refine wpList_load_rowg (by rfl) 36 _ rfl w.heap.size rfl 36 #[.int .u8 (k : Int), .string nm, .int .u8 (vk : Int), .int .i64 vn, .string vm, .slice va2 vl vl, .int .i64 0, .int .i64 0, .int .u8 (sk : Int), .string sm, .slice aa2 na na, .slice pa2 np np, .slice ra2 nr nr, .int .i64 0, .int .i64 0, .int .u8 (pl : Int), .slice la2 nl nl, .int .i64 0, .int .i64 0] (0, 0) _ HIY.out Tryd.underlying36 rfl sizeI ?_)
      | (clear M4; refine wpList_store_vn rfl 36 _ _ rfl (w.heap.size + 1) _ #[.int .u8 (k : Int), .string nm, .int .u8 (vk : Int), .int .i64 vn, .string vm, .slice va2 vl vl, .int .i64 0, .int .i64 0, .int .u8 (sk : Int), .string sm, .slice aa2 na na, .slice pa2 np np, .slice ra2 nr nr, .int .i64 0, .int .i64 0, .int .u8 (pl : Int), .slice la2 nl nl, .int .i64 0, .int .i64 0] rfl rfl HRY.out sizeI rfl (all19 rfl rfl rfl rfl rfl rfl rfl rfl rfl rfl rfl rfl rfl rfl rfl rfl rfl rfl rfl) ?_; intro WX HVX hgX))
    refine bodyPost_ret (v := .agg #[.int .u8 (k : Int), .string nm, .int .u8 (vk : Int), .int .i64 vn, .string vm, .slice va2 vl vl, .int .i64 0, .int .i64 0, .int .u8 (sk : Int), .string sm, .slice aa2 na na, .slice pa2 np np, .slice ra2 nr nr, .int .i64 0, .int .i64 0, .int .u8 (pl : Int), .slice la2 nl nl, .int .i64 0, .int .i64 0]) (results_cell_row Tryd.results42 _ _ (w.heap.size + 1) 36 _ (0, 0) _ rfl HVX.out Tryd.underlying36 rfl sizeI) rfl ?_
    have hT : Ag (w.heap.size + 2) WR WX := (HA5.out _ (by omega)).trans ((HA6.out _ (by omega)).trans ((ag_grown hg7.out (by omega)).trans ((ag_grown hg8.out (by omega)).trans ((ag_grown hgY.out (by omega)).trans (ag_grown hgX.out (by omega))))))
    have z1 := (HL5.out w.heap.size (Nat.le_refl _)).size
    have z2 := (HL6.out w.heap.size (Nat.le_refl _)).size
    have z3 := hg7.out.size
    have z4 := hg8.out.size
    have z5 := hgY.out.size
    refine ⟨va2, aa2, pa2, ra2, la2, rfl, fun u hu => ?_, ?_⟩
    · have hu2 := hu.mono (show w.heap.size ≤ w.heap.size + 2 by omega)
      have y1 := ((((HFA.out.weak (s := w.heap.size + 2) (by omega)).step HGP.out).step HGR.out).step hT) u hu2
      obtain ⟨y2, y3, y4⟩ := (((HFP.out.weak (s := w.heap.size + 2) (by omega)).step HGR.out).step hT) u hu2
      have y5 := ((HFR.out.weak (s := w.heap.size + 2) (by omega)).step hT) u hu2
      exact ⟨y1.weak (by omega), y2.weak (by omega), y3.weak (by omega), y4.weak (by omega), y5.weak (by omega)⟩
    · exact HBR.out.trans ((HL5.out _ (Nat.le_refl _)).trans ((HL6.out _ (Nat.le_refl _)).trans ((jbelow hg7.out (by omega) (fun g e => by cases e; omega)).trans ((jbelow hg8.out (by omega) (fun g e => by cases e; omega)).trans ((jbelow hgY.out (by omega) (fun g e => by cases e; omega)).trans (jbelow hgX.out (by omega) (fun g e => by cases e; omega)))))))
end Go.Proofs.YtdimkfcanegahaaDoor
