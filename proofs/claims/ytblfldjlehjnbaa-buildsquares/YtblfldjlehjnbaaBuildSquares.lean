/-
  Proved: for all lists xs and ys whose elements all are unlike: each entry of the program's Cauchy matrix is the inverse of its sum, and the matrix has full rank; else there is an error (P5.5); no condition.
-/
import Derived.Test.YtblfldjlehjnbaaGv
import Derived.WalkKit
import Derived.SizedLaws
import Derived.ProofKit
import Derived.OpenShut
import Derived.ShutString
import Derived.ChangeOld
import Derived.Below
import Derived.Lib.SmallJoins
import Derived.Deep.Matrix
namespace Go.Proofs.Ytblfldjlehjnbaa.buildSquares
open Go.ChangeShapes Go.WideShapes Go.ChangeAt Go.RowKit Go.Joins
set_option linter.unusedVariables false
theorem own : ownKnob Try.prog.godebug = none := by kernel_rfl
theorem laidOut : laidOutB Try.prog = true := by kernel_rfl
/-- A slice of integers that came in. -/
def IsRow (k : IntKind) (w : World) (a : Option Addr) (len cap : Nat) (zs : List Int) : Prop :=
  (a = none ∧ len = 0 ∧ cap = 0 ∧ zs = []) ∨
  ∃ x, a = some x ∧ len ≤ cap ∧ cap ≤ 140737488351232 ∧ zs.length = cap ∧ (∀ i, i < zs.length → w.cell? (x.add i) = some (.int k (zs.getD i 0))) ∧ ∀ n ∈ zs, (Lit.int k n).wf = true
/-- A slice of slices of bytes that came in. -/
def IsRows (w : World) (a : Option Addr) (len cap : Nat) : Prop :=
  (a = none ∧ len = 0 ∧ cap = 0) ∨
  ∃ x, a = some x ∧ len ≤ cap ∧ cap ≤ 140737488351232 ∧ ∀ r, r < cap → ∃ b l c zs, w.cell? (x.add r) = some (.slice b l c) ∧ IsRow .u8 w b l c zs
theorem sized_in {H : Type} {P : Program} {ts : List TypeId} {ds : List (DataW H)} (h : (DataW.weightsEach P ts ds).all (· ≤ reachBytes) = true) {j : Nat} {t : TypeId} {d : DataW H} (ht : ts[j]? = some t) (hd : ds[j]? = some d) : (d.weights P t).all (· ≤ reachBytes) = true :=
  List.all_eq_true.2 fun n hn => List.all_eq_true.1 h n (DataW.weights_mem_each ht hd n hn)
theorem sized_all {H : Type} {P : Program} {e : TypeId} : ∀ {ds : List (DataW H)}, (DataW.weightsAll P e ds).all (· ≤ reachBytes) = true → ∀ d ∈ ds, (d.weights P e).all (· ≤ reachBytes) = true
  | [], _, d, hd => by simp at hd
  | d0 :: r, h, d, hd => by
    simp only [DataW.weightsAll, List.all_append, Bool.and_eq_true] at h
    rcases List.mem_cons.1 hd with rfl | hd
    · exact h.1
    · exact sized_all h.2 d hd

set_option maxRecDepth 20000 in
set_option maxHeartbeats 8000000 in
theorem walk (a0 : Option Addr) (len0 cap0 : Nat) (z0 : List Int) (a1 : Option Addr) (len1 cap1 : Nat) (z1 : List Int) (w : World) (w0 : IsRow .u8 w a0 len0 cap0 z0) (w1 : IsRow .u8 w a1 len1 cap1 z1) :
    Calls Try.prog 7 #[.slice a0 len0 cap0, .slice a1 len1 cap1] w fun e w' => e = .returned (.bool true) ∧ Below w.heap.size w w' := by
  obtain ⟨X, hX, hn0⟩ := mt_of_row w a0 len0 cap0 z0 w0
  obtain ⟨Y, hY, hn1⟩ := mt_of_row w a1 len1 cap1 z1 w1
  have HF_x_0 : Hid (Mt w a0 len0 cap0 X) := hX
  have HF_y_0 : Hid (Mt w a1 len1 cap1 Y) := hY
  have HB_0 : Hid (Below w.heap.size w w) := Below.refl _ _
  clear hn0 hn1 w0 w1
  by_cases h : 64 < len0 ∨ 64 < len1
  · have H1 : Hid (64 < len0 ∨ 64 < len1) := h
    clear h hX hY
    go_enter Try.func7, Try.ntmps7
    go_wp2_with (first
      | (go_at_call 24; have _x := HB_2; refine (anch5_any _).mono ?_; rintro e w3 ⟨rfl, hb⟩; have HB_3 : Hid (Below w.heap.size w w3) := two_below HB_2.out hb; have HV_a_3 : Hid (Vr w3 w1.heap.size (.int .i64 0) (.int .i64 0) (.slice none 0 0)) := HV_a_2.out.later hb; have HV_b_3 : Hid (Vr w3 w2.heap.size (.int .i64 0) (.int .i64 0) (.slice none 0 0)) := HV_b_2.out.later hb; have HF_x_3 : Hid (Mt w3 a0 len0 cap0 X) := HF_x_2.out.later hb; have HF_y_3 : Hid (Mt w3 a1 len1 cap1 Y) := HF_y_2.out.later hb; clear hb HV_a_2 HV_b_2 HF_x_2 HF_y_2)
      | (go_at_call 17; have _x := HB_1; refine (rcau_limit _ len0 len1 cap0 cap1 a0 a1 H1.out).mono ?_; rintro e w2 ⟨rfl, hb⟩; have HB_2 : Hid (Below w.heap.size w (w2.alloc (.cells #[.int .i64 0, .int .i64 0, .slice none 0 0] 24))) := two_below (two_below HB_1.out hb) (alloc_low _ _); have HV_a_2 : Hid (Vr (w2.alloc (.cells #[.int .i64 0, .int .i64 0, .slice none 0 0] 24)) w1.heap.size (.int .i64 0) (.int .i64 0) (.slice none 0 0)) := (HV_a_1.out.later hb).later (alloc_low _ _); have HF_x_2 : Hid (Mt (w2.alloc (.cells #[.int .i64 0, .int .i64 0, .slice none 0 0] 24)) a0 len0 cap0 X) := (HF_x_1.out.later hb).later (alloc_low _ _); have HF_y_2 : Hid (Mt (w2.alloc (.cells #[.int .i64 0, .int .i64 0, .slice none 0 0] 24)) a1 len1 cap1 Y) := (HF_y_1.out.later hb).later (alloc_low _ _); have HV_b_2 : Hid (Vr (w2.alloc (.cells #[.int .i64 0, .int .i64 0, .slice none 0 0] 24)) w2.heap.size (.int .i64 0) (.int .i64 0) (.slice none 0 0)) := Vr.new w2 _ _ _; clear hb HV_a_1 HF_x_1 HF_y_1)
      | (go_at_call 16; have _x := HB_0; refine (bcau_limit _ len0 len1 cap0 cap1 a0 a1 H1.out).mono ?_; rintro e w1 ⟨rfl, hb⟩; have HB_1 : Hid (Below w.heap.size w (w1.alloc (.cells #[.int .i64 0, .int .i64 0, .slice none 0 0] 24))) := two_below (two_below HB_0.out hb) (alloc_low _ _); have HF_x_1 : Hid (Mt (w1.alloc (.cells #[.int .i64 0, .int .i64 0, .slice none 0 0] 24)) a0 len0 cap0 X) := (HF_x_0.out.later hb).later (alloc_low _ _); have HF_y_1 : Hid (Mt (w1.alloc (.cells #[.int .i64 0, .int .i64 0, .slice none 0 0] 24)) a1 len1 cap1 Y) := (HF_y_0.out.later hb).later (alloc_low _ _); have HV_a_1 : Hid (Vr (w1.alloc (.cells #[.int .i64 0, .int .i64 0, .slice none 0 0] 24)) w1.heap.size (.int .i64 0) (.int .i64 0) (.slice none 0 0)) := Vr.new w1 _ _ _; clear hb HF_x_0 HF_y_0))
    go_ret
    exact ⟨rfl, HB_3.out⟩
  · have hn : len0 ≤ 64 := by omega
    have hm : len1 ≤ 64 := by omega
    clear h
    by_cases hD : Dst X len0 Y len1
    · have HD0 : Hid (Dst X len0 Y len1) := hD
      obtain ⟨N, HN⟩ : ∃ N, Hid (len0 * len1 = N) := ⟨_, rfl⟩
      have HRt : Hid (Rt len0 len1 N) := ⟨hn, hm, HN.out⟩
      have HRk : Hid (Rk (m2 (cauf X Y len1) len0 len1) len0 (min len0 len1)) := cau_rk5 hX.sl.1 hY.sl.1 hD
      have HX8 : Hid (∀ i, i < len0 → X i < 256) := hX.sl.1
      have HY8 : Hid (∀ i, i < len1 → Y i < 256) := hY.sl.1
      have hN4 := HRt.out.le
      have b1 : ((len0 : Int) == (len0 : Int)) = true := by simp
      clear hX hY hD
      go_enter Try.func7, Try.ntmps7
      go_wp2_with (first
        | (go_at_call 30; have _x := HB_2; refine (right_yes _ _ _ _ _ _ HRt.out.p).mono ?_; rintro e w3 ⟨rfl, hb⟩; have HB_3 : Hid (Below w.heap.size w w3) := two_below HB_2.out hb; have HV_m_3 : Hid (Vr w3 w1.heap.size (.int .i64 (len0 : Int)) (.int .i64 (len1 : Int)) (.slice (some ⟨g1, 0, none⟩) N N)) := HV_m_2.out.later hb; have HV_b_3 : Hid (Vr w3 w2.heap.size (.int .i64 (len0 : Int)) (.int .i64 (len1 : Int)) (.slice (some ⟨g2, 0, none⟩) N N)) := HV_b_2.out.later hb; have HF_x_3 : Hid (Mt w3 a0 len0 cap0 X) := HF_x_2.out.later hb; have HF_y_3 : Hid (Mt w3 a1 len1 cap1 Y) := HF_y_2.out.later hb; have HF_m_3 : Hid (Mt w3 (some ⟨g1, 0, none⟩) N N (cauf X Y len1)) := HF_m_2.out.later hb; have l_m_0_3 := HV_m_3.out.c0; have l_m_1_3 := HV_m_3.out.c1; have l_m_2_3 := HV_m_3.out.c2; clear hb HV_m_2 HV_b_2 HF_x_2 HF_y_2 HF_m_2)
        | (go_at_call 17; have _x := HB_1; refine (rcau_ok _ len0 len1 N cap0 cap1 a0 a1 X Y HF_x_1.out HF_y_1.out hn hm HN HD0.out).mono ?_; rintro e w2 ⟨g2, rfl, hr, hg, hb⟩; have HB_2 : Hid (Below w.heap.size w (w2.alloc (.cells #[.int .i64 (len0 : Int), .int .i64 (len1 : Int), .slice (some ⟨g2, 0, none⟩) N N] 24))) := two_below (two_below HB_1.out hb) (alloc_low _ _); have HV_m_2 : Hid (Vr (w2.alloc (.cells #[.int .i64 (len0 : Int), .int .i64 (len1 : Int), .slice (some ⟨g2, 0, none⟩) N N] 24)) w1.heap.size (.int .i64 (len0 : Int)) (.int .i64 (len1 : Int)) (.slice (some ⟨g1, 0, none⟩) N N)) := (HV_m_1.out.later hb).later (alloc_low _ _); have HF_x_2 : Hid (Mt (w2.alloc (.cells #[.int .i64 (len0 : Int), .int .i64 (len1 : Int), .slice (some ⟨g2, 0, none⟩) N N] 24)) a0 len0 cap0 X) := (HF_x_1.out.later hb).later (alloc_low _ _); have HF_y_2 : Hid (Mt (w2.alloc (.cells #[.int .i64 (len0 : Int), .int .i64 (len1 : Int), .slice (some ⟨g2, 0, none⟩) N N] 24)) a1 len1 cap1 Y) := (HF_y_1.out.later hb).later (alloc_low _ _); have HF_m_2 : Hid (Mt (w2.alloc (.cells #[.int .i64 (len0 : Int), .int .i64 (len1 : Int), .slice (some ⟨g2, 0, none⟩) N N] 24)) (some ⟨g1, 0, none⟩) N N (cauf X Y len1)) := (HF_m_1.out.later hb).later (alloc_low _ _); have HV_b_2 : Hid (Vr (w2.alloc (.cells #[.int .i64 (len0 : Int), .int .i64 (len1 : Int), .slice (some ⟨g2, 0, none⟩) N N] 24)) w2.heap.size (.int .i64 (len0 : Int)) (.int .i64 (len1 : Int)) (.slice (some ⟨g2, 0, none⟩) N N)) := Vr.new w2 _ _ _; clear hr hg; have l_m_0_2 := HV_m_2.out.c0; have l_m_1_2 := HV_m_2.out.c1; have l_m_2_2 := HV_m_2.out.c2; clear hb HV_m_1 HF_x_1 HF_y_1 HF_m_1)
        | (go_at_call 16; have _x := HB_0; refine (bcau_ok _ len0 len1 N cap0 cap1 a0 a1 X Y HF_x_0.out HF_y_0.out hn hm HN HD0.out).mono ?_; rintro e w1 ⟨g1, rfl, hr, hg, hb⟩; have HB_1 : Hid (Below w.heap.size w (w1.alloc (.cells #[.int .i64 (len0 : Int), .int .i64 (len1 : Int), .slice (some ⟨g1, 0, none⟩) N N] 24))) := two_below (two_below HB_0.out hb) (alloc_low _ _); have HF_x_1 : Hid (Mt (w1.alloc (.cells #[.int .i64 (len0 : Int), .int .i64 (len1 : Int), .slice (some ⟨g1, 0, none⟩) N N] 24)) a0 len0 cap0 X) := (HF_x_0.out.later hb).later (alloc_low _ _); have HF_y_1 : Hid (Mt (w1.alloc (.cells #[.int .i64 (len0 : Int), .int .i64 (len1 : Int), .slice (some ⟨g1, 0, none⟩) N N] 24)) a1 len1 cap1 Y) := (HF_y_0.out.later hb).later (alloc_low _ _); have HV_m_1 : Hid (Vr (w1.alloc (.cells #[.int .i64 (len0 : Int), .int .i64 (len1 : Int), .slice (some ⟨g1, 0, none⟩) N N] 24)) w1.heap.size (.int .i64 (len0 : Int)) (.int .i64 (len1 : Int)) (.slice (some ⟨g1, 0, none⟩) N N)) := Vr.new w1 _ _ _; have HF_m_1 : Hid (Mt (w1.alloc (.cells #[.int .i64 (len0 : Int), .int .i64 (len1 : Int), .slice (some ⟨g1, 0, none⟩) N N] 24)) (some ⟨g1, 0, none⟩) N N (cauf X Y len1)) := (hr.mt (fun _ _ => finv_lt _)).later (alloc_low _ _); clear hr hg; clear hb HF_x_0 HF_y_0))
      go_loopw [9, 10] (fun si _ wr => ∃ i : Nat, i ≤ len0 ∧ si = .int .i64 (i : Int) ∧ Below w3.heap.size w3 wr) (fun si _ _ => len0 - (intOf si).toNat)
      case atStart => exact ⟨0, by omega, rfl, Below.refl _ _⟩
      case round =>
        clear l_m_0_3 l_m_1_3 l_m_2_3
        obtain ⟨i, hi, rfl, hbr⟩ := hrel
        have HBr : Hid (Below w3.heap.size w3 wr) := hbr
        clear hbr
        by_cases hlt : i < len0
        · go_wp2
          go_loopw [10] (fun sj wr => ∃ j : Nat, j ≤ len1 ∧ sj = .int .i64 (j : Int) ∧ Below w3.heap.size w3 wr) (fun sj _ => len1 - (intOf sj).toNat)
          case atStart => exact ⟨0, by omega, rfl, HBr.out⟩
          case round =>
            clear HBr
            obtain ⟨j, hj, rfl, hbr⟩ := hrel
            have HBr : Hid (Below w3.heap.size w3 wr) := hbr
            clear hbr
            by_cases hlj : j < len1
            · obtain ⟨ba, oa, ea, hca⟩ := (HF_x_3.out.later HBr.out).sl.2 i hlt
              obtain ⟨bb, ob, eb, hcb⟩ := (HF_y_3.out.later HBr.out).sl.2 j hlj
              subst ea
              subst eb
              obtain ⟨x, HX⟩ : ∃ x, Hid (X i = x) := ⟨_, rfl⟩
              obtain ⟨y, HY⟩ : ∃ x, Hid (Y j = x) := ⟨_, rfl⟩
              have hx : x < 256 := by rw [← HX.out]; exact HX8.out i hlt
              have hy : y < 256 := by rw [← HY.out]; exact HY8.out j hlj
              rw [HX.out] at hca
              rw [HY.out] at hcb
              obtain ⟨u, HU⟩ : ∃ u, Hid (x ^^^ y = u) := ⟨_, rfl⟩
              have hxo : bits .xor .u8 (x : Int) (y : Int) = (u : Int) := by rw [u8_xor_nat _ _ hx hy, HU.out]
              have hu : u < 256 := by rw [← HU.out]; exact xor_lt _ _ hx hy
              have hu0 : u ≠ 0 := by rw [← HU.out]; exact xor_ne (by rw [← HX.out, ← HY.out]; exact HD0.out.xy i j hlt hlj)
              obtain ⟨z, HZ⟩ : ∃ z, Hid (finv u = z) := ⟨_, rfl⟩
              have hz : z < 256 := by rw [← HZ.out]; exact finv_lt _
              have HZ2 : Hid (cauf X Y len1 (i * len1 + j) = z) := by show _ = _; rw [cauf_at hlj, HX.out, HY.out, HU.out, HZ.out]
              have HZ1 : Hid (fm z u = 1) := by show _ = _; rw [← HZ.out]; exact finv_fm hu hu0
              have HAt : Hid (∀ w', Below w3.heap.size w3 w' → Calls Try.prog 32 #[.agg #[.int .i64 (len0 : Int), .int .i64 (len1 : Int), .slice (some ⟨g1, 0, none⟩) N N], .int .i64 (i : Int), .int .i64 (j : Int)] w' fun e w'' => e = .returned (.int .u8 (z : Int)) ∧ Below w'.heap.size w' w'') := fun w' h => at3_any w' _ len1 i j N N z _ _ (HF_m_3.out.later h).sl (HRt.out.at hlt hlj) hN4 HZ2
              have HMul : Hid (∀ w', Calls Try.prog 31 #[.int .u8 (z : Int), .int .u8 (u : Int)] w' fun e w'' => e = .returned (.int .u8 1) ∧ w' = w'') := fun w' => (rmul_any (z : Int) (u : Int) w' ⟨by omega, by omega⟩ ⟨by omega, by omega⟩).mono (fun e w'' h => ⟨by rw [h.1]; show Ending.returned (.int .u8 ((fm (z : Int).toNat (u : Int).toNat : Nat) : Int)) = _; rw [Int.toNat_natCast, Int.toNat_natCast, HZ1.out]; rfl, h.2.symm⟩)
              have p0 : (0 : Int) ≤ (i : Int) := by omega
              have p1 : (i : Int) < (len0 : Int) := by omega
              have p2 : (0 : Int) ≤ (j : Int) := by omega
              have p3 : (j : Int) < (len1 : Int) := by omega
              have HVm := HV_m_3.out.later HBr.out
              have HD : Hid (wr.drew.cell? ⟨w1.heap.size, 0, none⟩ = some (.int .i64 (len0 : Int)) ∧ wr.drew.cell? ⟨w1.heap.size, 1, none⟩ = some (.int .i64 (len1 : Int)) ∧ wr.drew.cell? ⟨w1.heap.size, 2, none⟩ = some (.slice (some ⟨g1, 0, none⟩) N N) ∧ wr.drew.cell? ⟨ba, oa + i, none⟩ = some (.int .u8 (x : Int)) ∧ wr.drew.cell? ⟨bb, ob + j, none⟩ = some (.int .u8 (y : Int))) := ⟨HVm.c0, HVm.c1, HVm.c2, hca, hcb⟩
              clear HVm
              go_wp2
              refine wp_region_held (S := fun w' => w'.cell? ⟨w1.heap.size, 0, none⟩ = some (.int .i64 (len0 : Int)) ∧ w'.cell? ⟨w1.heap.size, 1, none⟩ = some (.int .i64 (len1 : Int)) ∧ w'.cell? ⟨w1.heap.size, 2, none⟩ = some (.slice (some ⟨g1, 0, none⟩) N N) ∧ w'.cell? ⟨ba, oa + i, none⟩ = some (.int .u8 (x : Int)) ∧ w'.cell? ⟨bb, ob + j, none⟩ = some (.int .u8 (y : Int))) (by kernel_rfl) ?_
              change wpAnyH _ _ _ _ _ _ _ _ wr.drew
              refine wpAnyH_take (i := 0) (v := ?va0) rfl (by kernel_rfl) (by kernel_rfl) (by kernel_rfl) (fun _ _ _ h => h) (Or.inl ⟨by rfl, ?ya0⟩) HD.out ?za0
              case ya0 => (intro w hSw; (try dsimp only at hSw); go_simp; try with_reducible rfl)
              try simp only [List.getElem_toArray, List.getElem_cons_zero, Act.put, List.setIfInBounds_toArray, List.set_cons_zero, List.set_cons_succ]
              refine wpAnyH_take (i := 1) (v := ?va1) rfl (by kernel_rfl) (by kernel_rfl) (by kernel_rfl) (fun _ _ _ h => h) (Or.inl ⟨by rfl, ?ya1⟩) HD.out ?za1
              case ya1 => (intro w hSw; (try dsimp only at hSw); go_simp; try with_reducible rfl)
              try simp only [List.getElem_toArray, List.getElem_cons_succ, List.getElem_cons_zero, Act.put, List.setIfInBounds_toArray, List.set_cons_zero, List.set_cons_succ]
              refine wpAnyH_take (i := 2) (v := ?va2) rfl (by kernel_rfl) (by kernel_rfl) (by kernel_rfl) (fun _ _ _ h => h) (Or.inl ⟨by rfl, ?ya2⟩) HD.out ?za2
              case ya2 => (intro w hSw; (try dsimp only at hSw); go_simp; try with_reducible rfl)
              try simp only [List.getElem_toArray, List.getElem_cons_succ, List.getElem_cons_zero, Act.put, List.setIfInBounds_toArray, List.set_cons_zero, List.set_cons_succ]
              refine wpAnyH_take (i := 4) (v := ?va4) rfl (by kernel_rfl) (by kernel_rfl) (by kernel_rfl) (fun _ _ _ h => h) (Or.inl ⟨by rfl, ?ya4⟩) HD.out ?za4
              case ya4 => (intro w hSw; (try dsimp only at hSw); go_simp; try with_reducible rfl)
              try simp only [List.getElem_toArray, List.getElem_cons_succ, List.getElem_cons_zero, Act.put, List.setIfInBounds_toArray, List.set_cons_zero, List.set_cons_succ]
              refine wpAnyH_take (i := 5) (v := ?va5) rfl (by kernel_rfl) (by kernel_rfl) (by kernel_rfl) (fun _ _ _ h => h) (Or.inl ⟨by rfl, ?ya5⟩) HD.out ?za5
              case ya5 => (intro w hSw; (try dsimp only at hSw); go_simp; try with_reducible rfl)
              try simp only [List.getElem_toArray, List.getElem_cons_succ, List.getElem_cons_zero, Act.put, List.setIfInBounds_toArray, List.set_cons_zero, List.set_cons_succ]
              refine wpAnyH_take (i := 6) (v := ?va6) rfl (by kernel_rfl) (by kernel_rfl) (by kernel_rfl) (fun _ _ _ h => h) (Or.inl ⟨by rfl, ?ya6⟩) HD.out ?za6
              case ya6 => (intro w hSw; (try dsimp only at hSw); go_simp; try with_reducible rfl)
              try simp only [List.getElem_toArray, List.getElem_cons_succ, List.getElem_cons_zero, Act.put, List.setIfInBounds_toArray, List.set_cons_zero, List.set_cons_succ]
              refine wpAnyH_take (i := 7) (v := ?va7) rfl (by kernel_rfl) (by kernel_rfl) (by kernel_rfl) (fun _ _ _ h => h) (Or.inl ⟨by rfl, ?ya7⟩) HD.out ?za7
              case ya7 => (intro w hSw; (try dsimp only at hSw); go_simp; try with_reducible rfl)
              try simp only [List.getElem_toArray, List.getElem_cons_succ, List.getElem_cons_zero, Act.put, List.setIfInBounds_toArray, List.set_cons_zero, List.set_cons_succ]
              refine wpAnyH_take (i := 8) (v := ?va8) rfl (by kernel_rfl) (by kernel_rfl) (by kernel_rfl) (fun _ _ _ h => h) (Or.inl ⟨by rfl, ?ya8⟩) HD.out ?za8
              case ya8 => (intro w hSw; (try dsimp only at hSw); go_simp; try with_reducible rfl)
              try simp only [List.getElem_toArray, List.getElem_cons_succ, List.getElem_cons_zero, Act.put, List.setIfInBounds_toArray, List.set_cons_zero, List.set_cons_succ]
              refine wpAnyH_take (i := 9) (v := ?va9) rfl (by kernel_rfl) (by kernel_rfl) (by kernel_rfl) (fun _ _ _ h => h) (Or.inl ⟨by rfl, ?ya9⟩) HD.out ?za9
              case ya9 => (intro w hSw; (try dsimp only at hSw); go_simp; try with_reducible rfl)
              try simp only [List.getElem_toArray, List.getElem_cons_succ, List.getElem_cons_zero, Act.put, List.setIfInBounds_toArray, List.set_cons_zero, List.set_cons_succ]
              refine wpAnyH_take (i := 10) (v := ?va10) rfl (by kernel_rfl) (by kernel_rfl) (by kernel_rfl) (fun _ _ _ h => h) (Or.inl ⟨by rfl, ?ya10⟩) HD.out ?za10
              case ya10 => (intro w hSw; (try dsimp only at hSw); go_simp; try with_reducible rfl)
              try simp only [List.getElem_toArray, List.getElem_cons_succ, List.getElem_cons_zero, Act.put, List.setIfInBounds_toArray, List.set_cons_zero, List.set_cons_succ]
              refine wpAnyH_take (i := 11) (v := ?va11) rfl (by kernel_rfl) (by kernel_rfl) (by kernel_rfl) (fun _ _ _ h => h) (Or.inl ⟨by rfl, ?ya11⟩) HD.out ?za11
              case ya11 => (intro w hSw; (try dsimp only at hSw); go_simp; try with_reducible rfl)
              try simp only [List.getElem_toArray, List.getElem_cons_succ, List.getElem_cons_zero, Act.put, List.setIfInBounds_toArray, List.set_cons_zero, List.set_cons_succ]
              refine wpAnyH_take (i := 12) (v := ?va12) rfl (by kernel_rfl) (by kernel_rfl) (by kernel_rfl) (fun _ _ _ h => h) (Or.inl ⟨by rfl, ?ya12⟩) HD.out ?za12
              case ya12 => (intro w hSw; (try dsimp only at hSw); go_simp; try with_reducible rfl)
              try simp only [List.getElem_toArray, List.getElem_cons_succ, List.getElem_cons_zero, Act.put, List.setIfInBounds_toArray, List.set_cons_zero, List.set_cons_succ]
              refine wpAnyH_ready (rs := [3]) (by kernel_rfl) (by simp) ?_
              refine AllReadyH.cons rfl (fun K hK => ?_) AllReadyH.nil
              go_simp
              refine (HAt.out _ (two_below HBr.out (Below.refl _ _).drew)).mono ?_
              rintro e w8 ⟨rfl, hb8⟩
              have HB8 : Hid (Below w3.heap.size w3 w8) := two_below (two_below HBr.out (Below.refl _ _).drew) hb8
              have HD1 : Hid (w8.cell? ⟨w1.heap.size, 0, none⟩ = some (.int .i64 (len0 : Int)) ∧ w8.cell? ⟨w1.heap.size, 1, none⟩ = some (.int .i64 (len1 : Int)) ∧ w8.cell? ⟨w1.heap.size, 2, none⟩ = some (.slice (some ⟨g1, 0, none⟩) N N) ∧ w8.cell? ⟨ba, oa + i, none⟩ = some (.int .u8 (x : Int)) ∧ w8.cell? ⟨bb, ob + j, none⟩ = some (.int .u8 (y : Int))) := ⟨keepc hb8 HD.out.1, keepc hb8 HD.out.2.1, keepc hb8 HD.out.2.2.1, keepc hb8 HD.out.2.2.2.1, keepc hb8 HD.out.2.2.2.2⟩
              clear hb8
              refine hK.out _ _ HD1.out (fun _ => ?_)
              clear hK K
              try simp only [List.getElem_toArray, List.getElem_cons_succ, List.getElem_cons_zero, Act.put, List.setIfInBounds_toArray, List.set_cons_zero, List.set_cons_succ]
              refine wpAnyH_ready (rs := [13]) (by kernel_rfl) (by simp) ?_
              refine AllReadyH.cons rfl (fun K hK => ?_) AllReadyH.nil
              go_simp
              refine (HMul.out _).mono ?_; rintro e w' ⟨rfl, rfl⟩
              refine hK.out _ _ HD1.out (fun _ => ?_)
              clear hK K
              try simp only [List.getElem_toArray, List.getElem_cons_succ, List.getElem_cons_zero, Act.put, List.setIfInBounds_toArray, List.set_cons_zero, List.set_cons_succ]
              refine wpAnyH_take (i := 14) (v := ?va14) rfl (by kernel_rfl) (by kernel_rfl) (by kernel_rfl) (fun _ _ _ h => h) (Or.inl ⟨by rfl, ?ya14⟩) HD1.out ?za14
              case ya14 => (intro w hSw; (try dsimp only at hSw); go_simp; try with_reducible rfl)
              try simp only [List.getElem_toArray, List.getElem_cons_succ, List.getElem_cons_zero, Act.put, List.setIfInBounds_toArray, List.set_cons_zero, List.set_cons_succ]
              refine wpAnyH_done (by kernel_rfl) ?_ _
              go_wp2
              exact ⟨⟨j + 1, by omega, by go_num, HB8.out⟩, by simp [intOf]; omega⟩
            · obtain rfl : j = len1 := by omega
              go_wp2
              exact ⟨⟨i + 1, by omega, by go_num, HBr.out⟩, by simp [intOf]; omega⟩
        · obtain rfl : i = len0 := by omega
          have HVm := HV_m_3.out.later HBr.out
          have q0 := HVm.c0
          have q1 := HVm.c1
          have q2 := HVm.c2
          have HM4 : Hid (Mt wr (some ⟨g1, 0, none⟩) N N (cauf X Y len1)) := HF_m_3.out.later HBr.out
          have HB4 : Hid (Below w.heap.size w wr) := two_below HB_3.out HBr.out
          obtain ⟨mn, HMn⟩ : ∃ x, Hid (min i len1 = x) := ⟨_, rfl⟩
          have hmn : min (i : Int) (len1 : Int) = (mn : Int) := by have := HMn.out; omega
          have b2 : ((mn : Int) == (mn : Int)) = true := by simp
          clear HVm
          go_wp2_with (first
            | (go_at_call 27; refine (rrank_ok _ i len1 N N _ _ HM4.out.sl HM4.out.nil HRt.out).mono ?_; rintro e w6 ⟨t6, rfl, hk6, hb6⟩; have et : t6 = mn := (by rw [← HMn.out]; exact hk6.uniq (m2_el HM4.out.sl.1 HRt.out) HRk.out); subst et; have HB6 : Hid (Below w.heap.size w w6) := two_below HB4.out hb6; clear hb6 hk6)
            | (go_at_call 24; refine (anch5_any _).mono ?_; rintro e w7 ⟨rfl, hb7⟩; have HB7 : Hid (Below w.heap.size w w7) := two_below HB6.out hb7; clear hb7))
          go_ret
          exact ⟨rfl, HB7.out⟩
    · have HD0 : Hid (¬ Dst X len0 Y len1) := hD
      clear hD hX hY
      go_enter Try.func7, Try.ntmps7
      go_wp2_with (first
        | (go_at_call 24; have _x := HB_2; refine (anch5_any _).mono ?_; rintro e w3 ⟨rfl, hb⟩; have HB_3 : Hid (Below w.heap.size w w3) := two_below HB_2.out hb; have HV_a_3 : Hid (Vr w3 w1.heap.size (.int .i64 0) (.int .i64 0) (.slice none 0 0)) := HV_a_2.out.later hb; have HV_b_3 : Hid (Vr w3 w2.heap.size (.int .i64 0) (.int .i64 0) (.slice none 0 0)) := HV_b_2.out.later hb; have HF_x_3 : Hid (Mt w3 a0 len0 cap0 X) := HF_x_2.out.later hb; have HF_y_3 : Hid (Mt w3 a1 len1 cap1 Y) := HF_y_2.out.later hb; clear hb HV_a_2 HV_b_2 HF_x_2 HF_y_2)
        | (go_at_call 17; have _x := HB_1; refine (rcau_dup _ len0 len1 cap0 cap1 a0 a1 X Y HF_x_1.out HF_y_1.out hn hm HD0.out).mono ?_; rintro e w2 ⟨rfl, hb⟩; have HB_2 : Hid (Below w.heap.size w (w2.alloc (.cells #[.int .i64 0, .int .i64 0, .slice none 0 0] 24))) := two_below (two_below HB_1.out hb) (alloc_low _ _); have HV_a_2 : Hid (Vr (w2.alloc (.cells #[.int .i64 0, .int .i64 0, .slice none 0 0] 24)) w1.heap.size (.int .i64 0) (.int .i64 0) (.slice none 0 0)) := (HV_a_1.out.later hb).later (alloc_low _ _); have HF_x_2 : Hid (Mt (w2.alloc (.cells #[.int .i64 0, .int .i64 0, .slice none 0 0] 24)) a0 len0 cap0 X) := (HF_x_1.out.later hb).later (alloc_low _ _); have HF_y_2 : Hid (Mt (w2.alloc (.cells #[.int .i64 0, .int .i64 0, .slice none 0 0] 24)) a1 len1 cap1 Y) := (HF_y_1.out.later hb).later (alloc_low _ _); have HV_b_2 : Hid (Vr (w2.alloc (.cells #[.int .i64 0, .int .i64 0, .slice none 0 0] 24)) w2.heap.size (.int .i64 0) (.int .i64 0) (.slice none 0 0)) := Vr.new w2 _ _ _; clear hb HV_a_1 HF_x_1 HF_y_1)
        | (go_at_call 16; have _x := HB_0; refine (bcau_dup _ len0 len1 cap0 cap1 a0 a1 X Y HF_x_0.out HF_y_0.out hn hm HD0.out).mono ?_; rintro e w1 ⟨rfl, hb⟩; have HB_1 : Hid (Below w.heap.size w (w1.alloc (.cells #[.int .i64 0, .int .i64 0, .slice none 0 0] 24))) := two_below (two_below HB_0.out hb) (alloc_low _ _); have HF_x_1 : Hid (Mt (w1.alloc (.cells #[.int .i64 0, .int .i64 0, .slice none 0 0] 24)) a0 len0 cap0 X) := (HF_x_0.out.later hb).later (alloc_low _ _); have HF_y_1 : Hid (Mt (w1.alloc (.cells #[.int .i64 0, .int .i64 0, .slice none 0 0] 24)) a1 len1 cap1 Y) := (HF_y_0.out.later hb).later (alloc_low _ _); have HV_a_1 : Hid (Vr (w1.alloc (.cells #[.int .i64 0, .int .i64 0, .slice none 0 0] 24)) w1.heap.size (.int .i64 0) (.int .i64 0) (.slice none 0 0)) := Vr.new w1 _ _ _; clear hb HF_x_0 HF_y_0))
      go_ret
      exact ⟨rfl, HB_3.out⟩
set_option maxRecDepth 100000 in
set_option maxHeartbeats 2000000 in
theorem lifted (os : Os) (started : os.Started) (H : Type) (enc : TypeId × Value → H) :
    ReturnsInHanded {} Try.checked os 7 .any (Rows.buildSquaresSpec.pre6 enc Try.prog Try.f7 Rows.buildSquaresRow.domain false) (Rows.buildSquaresSpec.post enc Try.prog Try.f7 false true false false) := by
  refine returnsInHanded_of_change_sized (C := Try.checked) own started (by kernel_rfl) Try.func7
    (ChangeSpec.witness6 (enc := enc) (C := Try.checked) false ⟨#[], #[.slice none 0 0, .slice none 0 0], []⟩ 8 (by kernel_rfl) (by kernel_rfl) (by kernel_rfl) (by kernel_rfl)) ?_
  intro W base args ds gs before hval0 hW hcnd hsz0 _
  have hsz : (DataW.weightsEach Try.prog (Try.f7.params.toList ++ Rows.buildSquaresSpec.plain.varTypes Try.prog) (ds ++ gs)).all (· ≤ reachBytes) = true := hsz0
  clear hsz0
  have hval : ∀ (j : Nat) t v, Try.f7.params[j]? = some t → args[j]? = some v → Value.okWide Try.prog W .any base t v := hval0
  have hW' := hW
  obtain ⟨p, q, hA0, hV, rfl, hfz, hnd⟩ := hW
  have hA : DataW.TrodAll enc Try.prog W 0 (fun _ => true) true Try.f7.params.toList args.toList ds p := hA0
  rw [Try.params7] at hA hval hsz
  obtain ⟨va0, vs0, d0, ds0, p0, q0, hargs, rfl, rfl, h0, tr0⟩ := trodAll_cons hA
  obtain ⟨va1, vs1, d1, ds1, p1, q1, rfl, rfl, rfl, h1, tr1⟩ := trodAll_cons tr0
  obtain ⟨rfl, rfl, rfl⟩ := trodAll_nil tr1
  obtain rfl : args = #[va0, va1] := by cases args; simp_all
  obtain ⟨rfl, rfl⟩ := trodVars_none hV
  have k0 := h0
  have lt0 : ∀ x ∈ p0, x.block < W.heap.size := by obtain ⟨m, hm⟩ := k0; exact DataW.trod_lt m _ _ _ hm
  obtain ⟨a0, len0, cap0, rfl⟩ := okWide_slice Try.underlying22 (hval 0 22 va0 rfl rfl)
  obtain ⟨z0, w0⟩ : ∃ zs, IsRow .u8 W a0 len0 cap0 zs := by
    obtain ⟨fuel, hf⟩ := h0
    rcases open_ints Try.underlying22 Try.underlying5 (by kernel_rfl) hf with ⟨hcs, _⟩ | ⟨x, l, c, zs, hcs, _, hl, hm, hz, hxx, hcell, hwz⟩
    · simp [Value.cells] at hcs
      obtain ⟨rfl, rfl, rfl⟩ := hcs
      exact ⟨[], .inl ⟨rfl, rfl, rfl, rfl⟩⟩
    · simp [Value.cells] at hcs
      obtain ⟨rfl, rfl, rfl⟩ := hcs
      have hd := congrArg Prod.fst hxx
      have hs := sized_slice hsz (j := 0) (t := 22) (e := 5) rfl (congrArg some hd) Try.underlying22
      rw [show Try.prog.bytesOf 5 = 1 from by kernel_rfl] at hs
      have hzl : zs.length = cap0 := by simpa using hz
      simp only [lits, List.length_map, List.length_take, List.length_drop, reachBytes] at hs
      exact ⟨zs, .inr ⟨_, rfl, hl, by omega, by simpa using hz, hcell, hwz⟩⟩
  have k1 := h1
  have lt1 : ∀ x ∈ p1, x.block < W.heap.size := by obtain ⟨m, hm⟩ := k1; exact DataW.trod_lt m _ _ _ hm
  obtain ⟨a1, len1, cap1, rfl⟩ := okWide_slice Try.underlying22 (hval 1 22 va1 rfl rfl)
  obtain ⟨z1, w1⟩ : ∃ zs, IsRow .u8 W a1 len1 cap1 zs := by
    obtain ⟨fuel, hf⟩ := h1
    rcases open_ints Try.underlying22 Try.underlying5 (by kernel_rfl) hf with ⟨hcs, _⟩ | ⟨x, l, c, zs, hcs, _, hl, hm, hz, hxx, hcell, hwz⟩
    · simp [Value.cells] at hcs
      obtain ⟨rfl, rfl, rfl⟩ := hcs
      exact ⟨[], .inl ⟨rfl, rfl, rfl, rfl⟩⟩
    · simp [Value.cells] at hcs
      obtain ⟨rfl, rfl, rfl⟩ := hcs
      have hd := congrArg Prod.fst hxx
      have hs := sized_slice hsz (j := 1) (t := 22) (e := 5) rfl (congrArg some hd) Try.underlying22
      rw [show Try.prog.bytesOf 5 = 1 from by kernel_rfl] at hs
      have hzl : zs.length = cap1 := by simpa using hz
      simp only [lits, List.length_map, List.length_take, List.length_drop, reachBytes] at hs
      exact ⟨zs, .inr ⟨_, rfl, hl, by omega, by simpa using hz, hcell, hwz⟩⟩
  clear hA0 hval0
  refine (walk a0 len0 cap0 z0 a1 len1 cap1 z1 W w0 w1).mono fun e W' ⟨he, bel⟩ => ?_
  subst he
  exact ⟨_, rfl, _, _, _, [], _, [], hW', trodAll_mk1 (shut_bool Try.underlying4 _), (trodAll_cons_mk (Below.trod laidOut (by kernel_rfl) (of_decide_eq_true (by kernel_rfl)) k0 bel lt0) (trodAll_cons_mk (Below.trod laidOut (by kernel_rfl) (of_decide_eq_true (by kernel_rfl)) k1 bel lt1) trodAll_mk0)), rfl, bel.frame _, fun h => by cases h⟩
theorem over : Rows.buildSquaresRow.holds Try.pinned (OpenSpec.ofChange Rows.buildSquaresSpec) :=
  OpenClaim.holds_of_wide 7 Try.f7 rfl rfl rfl rfl rfl rfl rfl ⟨rfl, rfl, rfl, rfl, rfl⟩ rfl rfl rfl rfl rfl (by kernel_rfl) Try.func7 (by kernel_rfl)
    (of_decide_eq_true (by kernel_rfl)) (by unfold Func.isWrapper; first | (rw [if_pos (by decide +kernel)]; kernel_rfl) | (rw [if_neg (by decide +kernel)]; exact ⟨rfl, rfl⟩))
    (fun os started H enc _ => lifted os started H enc)
theorem proved : Rows.BuildSquaresSaid := over
#print axioms proved
end Go.Proofs.Ytblfldjlehjnbaa.buildSquares
