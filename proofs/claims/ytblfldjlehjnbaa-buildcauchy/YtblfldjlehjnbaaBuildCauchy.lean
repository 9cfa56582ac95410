/-
  Proved: for all lists xs and ys the program's Cauchy answers the document's, or its error (P5.1); no condition.
-/
import Derived.Test.YtblfldjlehjnbaaGv
import Derived.WalkKit
import Derived.SizedLaws
import Derived.ProofKit
import Derived.OpenShut
import Derived.ShutString
import Derived.ChangeOld
import Derived.Below
import Derived.Lib.SmallJoins
import Derived.Deep.Matrix
namespace Go.Proofs.Ytblfldjlehjnbaa.buildCauchy
open Go.ChangeShapes Go.WideShapes Go.ChangeAt Go.RowKit Go.Joins
set_option linter.unusedVariables false
theorem own : ownKnob Try.prog.godebug = none := by kernel_rfl
theorem laidOut : laidOutB Try.prog = true := by kernel_rfl
/-- A slice of integers that came in. -/
def IsRow (k : IntKind) (w : World) (a : Option Addr) (len cap : Nat) (zs : List Int) : Prop :=
  (a = none ∧ len = 0 ∧ cap = 0 ∧ zs = []) ∨
  ∃ x, a = some x ∧ len ≤ cap ∧ cap ≤ 140737488351232 ∧ zs.length = cap ∧ (∀ i, i < zs.length → w.cell? (x.add i) = some (.int k (zs.getD i 0))) ∧ ∀ n ∈ zs, (Lit.int k n).wf = true
/-- A slice of slices of bytes that came in. -/
def IsRows (w : World) (a : Option Addr) (len cap : Nat) : Prop :=
  (a = none ∧ len = 0 ∧ cap = 0) ∨
  ∃ x, a = some x ∧ len ≤ cap ∧ cap ≤ 140737488351232 ∧ ∀ r, r < cap → ∃ b l c zs, w.cell? (x.add r) = some (.slice b l c) ∧ IsRow .u8 w b l c zs
theorem sized_in {H : Type} {P : Program} {ts : List TypeId} {ds : List (DataW H)} (h : (DataW.weightsEach P ts ds).all (· ≤ reachBytes) = true) {j : Nat} {t : TypeId} {d : DataW H} (ht : ts[j]? = some t) (hd : ds[j]? = some d) : (d.weights P t).all (· ≤ reachBytes) = true :=
  List.all_eq_true.2 fun n hn => List.all_eq_true.1 h n (DataW.weights_mem_each ht hd n hn)
theorem sized_all {H : Type} {P : Program} {e : TypeId} : ∀ {ds : List (DataW H)}, (DataW.weightsAll P e ds).all (· ≤ reachBytes) = true → ∀ d ∈ ds, (d.weights P e).all (· ≤ reachBytes) = true
  | [], _, d, hd => by simp at hd
  | d0 :: r, h, d, hd => by
    simp only [DataW.weightsAll, List.all_append, Bool.and_eq_true] at h
    rcases List.mem_cons.1 hd with rfl | hd
    · exact h.1
    · exact sized_all h.2 d hd

set_option maxRecDepth 20000 in
set_option maxHeartbeats 8000000 in
theorem walk (a0 : Option Addr) (len0 cap0 : Nat) (z0 : List Int) (a1 : Option Addr) (len1 cap1 : Nat) (z1 : List Int) (w : World) (w0 : IsRow .u8 w a0 len0 cap0 z0) (w1 : IsRow .u8 w a1 len1 cap1 z1) :
    Calls Try.prog 4 #[.slice a0 len0 cap0, .slice a1 len1 cap1] w fun e w' => e = .returned (.bool true) ∧ Below w.heap.size w w' := by
  obtain ⟨X, hX, hn0⟩ := mt_of_row w a0 len0 cap0 z0 w0
  obtain ⟨Y, hY, hn1⟩ := mt_of_row w a1 len1 cap1 z1 w1
  obtain ⟨R1, C1, N1, f1, E1, hp⟩ := cau_pair len0 len1 X Y
  have HP1 := hid_of hp
  have HF_x_0 : Hid (Mt w a0 len0 cap0 X) := hX
  have HF_y_0 : Hid (Mt w a1 len1 cap1 Y) := hY
  have HB_0 : Hid (Below w.heap.size w w) := Below.refl _ _
  clear hp hX hY hn0 hn1 w0 w1
  go_enter Try.func4, Try.ntmps4
  go_wp2_with (first
    | (go_at_call 15; have _x := HB_2; refine (like5_any _ R1 C1 R1 C1 E1 E1 s1 s2 N1 N1 d1 d2 f1 f1 HF_a_2.out.sl HF_b_2.out.sl true (hid_of (like_self R1 C1 E1 N1 f1))).mono ?_; rintro e w3 ⟨rfl, hb⟩; have HB_3 : Hid (Below w.heap.size w w3) := two_below HB_2.out hb; have HV_a_3 : Hid (Vr w3 w1.heap.size (.int .i64 R1) (.int .i64 C1) (.slice s1 N1 d1)) := HV_a_2.out.later hb; have HV_b_3 : Hid (Vr w3 w2.heap.size (.int .i64 R1) (.int .i64 C1) (.slice s2 N1 d2)) := HV_b_2.out.later hb; have HF_x_3 : Hid (Mt w3 a0 len0 cap0 X) := HF_x_2.out.later hb; have HF_y_3 : Hid (Mt w3 a1 len1 cap1 Y) := HF_y_2.out.later hb; have HF_a_3 : Hid (Mt w3 s1 N1 d1 f1) := HF_a_2.out.later hb; have HF_b_3 : Hid (Mt w3 s2 N1 d2 f1) := HF_b_2.out.later hb; clear hb HV_a_2 HV_b_2 HF_x_2 HF_y_2 HF_a_2 HF_b_2)
    | (go_at_call 17; have _x := HB_1; refine ((HP1.out _ cap0 cap1 a0 a1 HF_x_1.out HF_y_1.out).2).mono ?_; rintro e w2 ⟨s2, d2, rfl, hm, hb⟩; have HB_2 : Hid (Below w.heap.size w (w2.alloc (.cells #[.int .i64 R1, .int .i64 C1, .slice s2 N1 d2] 24))) := two_below (two_below HB_1.out hb) (alloc_low _ _); have HV_a_2 : Hid (Vr (w2.alloc (.cells #[.int .i64 R1, .int .i64 C1, .slice s2 N1 d2] 24)) w1.heap.size (.int .i64 R1) (.int .i64 C1) (.slice s1 N1 d1)) := (HV_a_1.out.later hb).later (alloc_low _ _); have HF_x_2 : Hid (Mt (w2.alloc (.cells #[.int .i64 R1, .int .i64 C1, .slice s2 N1 d2] 24)) a0 len0 cap0 X) := (HF_x_1.out.later hb).later (alloc_low _ _); have HF_y_2 : Hid (Mt (w2.alloc (.cells #[.int .i64 R1, .int .i64 C1, .slice s2 N1 d2] 24)) a1 len1 cap1 Y) := (HF_y_1.out.later hb).later (alloc_low _ _); have HF_a_2 : Hid (Mt (w2.alloc (.cells #[.int .i64 R1, .int .i64 C1, .slice s2 N1 d2] 24)) s1 N1 d1 f1) := (HF_a_1.out.later hb).later (alloc_low _ _); have HV_b_2 : Hid (Vr (w2.alloc (.cells #[.int .i64 R1, .int .i64 C1, .slice s2 N1 d2] 24)) w2.heap.size (.int .i64 R1) (.int .i64 C1) (.slice s2 N1 d2)) := Vr.new w2 _ _ _; have HF_b_2 : Hid (Mt (w2.alloc (.cells #[.int .i64 R1, .int .i64 C1, .slice s2 N1 d2] 24)) s2 N1 d2 f1) := (hm).later (alloc_low _ _); clear hm; have l_a_0_2 := HV_a_2.out.c0; have l_a_1_2 := HV_a_2.out.c1; have l_a_2_2 := HV_a_2.out.c2; have l_b_0_2 := HV_b_2.out.c0; have l_b_1_2 := HV_b_2.out.c1; have l_b_2_2 := HV_b_2.out.c2; clear hb HV_a_1 HF_x_1 HF_y_1 HF_a_1)
    | (go_at_call 16; have _x := HB_0; refine ((HP1.out _ cap0 cap1 a0 a1 HF_x_0.out HF_y_0.out).1).mono ?_; rintro e w1 ⟨s1, d1, rfl, hm, hb⟩; have HB_1 : Hid (Below w.heap.size w (w1.alloc (.cells #[.int .i64 R1, .int .i64 C1, .slice s1 N1 d1] 24))) := two_below (two_below HB_0.out hb) (alloc_low _ _); have HF_x_1 : Hid (Mt (w1.alloc (.cells #[.int .i64 R1, .int .i64 C1, .slice s1 N1 d1] 24)) a0 len0 cap0 X) := (HF_x_0.out.later hb).later (alloc_low _ _); have HF_y_1 : Hid (Mt (w1.alloc (.cells #[.int .i64 R1, .int .i64 C1, .slice s1 N1 d1] 24)) a1 len1 cap1 Y) := (HF_y_0.out.later hb).later (alloc_low _ _); have HV_a_1 : Hid (Vr (w1.alloc (.cells #[.int .i64 R1, .int .i64 C1, .slice s1 N1 d1] 24)) w1.heap.size (.int .i64 R1) (.int .i64 C1) (.slice s1 N1 d1)) := Vr.new w1 _ _ _; have HF_a_1 : Hid (Mt (w1.alloc (.cells #[.int .i64 R1, .int .i64 C1, .slice s1 N1 d1] 24)) s1 N1 d1 f1) := (hm).later (alloc_low _ _); clear hm; clear hb HF_x_0 HF_y_0))
  go_ret
  exact ⟨rfl, HB_3.out⟩
set_option maxRecDepth 100000 in
set_option maxHeartbeats 2000000 in
theorem lifted (os : Os) (started : os.Started) (H : Type) (enc : TypeId × Value → H) :
    ReturnsInHanded {} Try.checked os 4 .any (Rows.buildCauchySpec.pre6 enc Try.prog Try.f4 Rows.buildCauchyRow.domain false) (Rows.buildCauchySpec.post enc Try.prog Try.f4 false true false false) := by
  refine returnsInHanded_of_change_sized (C := Try.checked) own started (by kernel_rfl) Try.func4
    (ChangeSpec.witness6 (enc := enc) (C := Try.checked) false ⟨#[], #[.slice none 0 0, .slice none 0 0], []⟩ 8 (by kernel_rfl) (by kernel_rfl) (by kernel_rfl) (by kernel_rfl)) ?_
  intro W base args ds gs before hval0 hW hcnd hsz0 _
  have hsz : (DataW.weightsEach Try.prog (Try.f4.params.toList ++ Rows.buildCauchySpec.plain.varTypes Try.prog) (ds ++ gs)).all (· ≤ reachBytes) = true := hsz0
  clear hsz0
  have hval : ∀ (j : Nat) t v, Try.f4.params[j]? = some t → args[j]? = some v → Value.okWide Try.prog W .any base t v := hval0
  have hW' := hW
  obtain ⟨p, q, hA0, hV, rfl, hfz, hnd⟩ := hW
  have hA : DataW.TrodAll enc Try.prog W 0 (fun _ => true) true Try.f4.params.toList args.toList ds p := hA0
  rw [Try.params4] at hA hval hsz
  obtain ⟨va0, vs0, d0, ds0, p0, q0, hargs, rfl, rfl, h0, tr0⟩ := trodAll_cons hA
  obtain ⟨va1, vs1, d1, ds1, p1, q1, rfl, rfl, rfl, h1, tr1⟩ := trodAll_cons tr0
  obtain ⟨rfl, rfl, rfl⟩ := trodAll_nil tr1
  obtain rfl : args = #[va0, va1] := by cases args; simp_all
  obtain ⟨rfl, rfl⟩ := trodVars_none hV
  have k0 := h0
  have lt0 : ∀ x ∈ p0, x.block < W.heap.size := by obtain ⟨m, hm⟩ := k0; exact DataW.trod_lt m _ _ _ hm
  obtain ⟨a0, len0, cap0, rfl⟩ := okWide_slice Try.underlying22 (hval 0 22 va0 rfl rfl)
  obtain ⟨z0, w0⟩ : ∃ zs, IsRow .u8 W a0 len0 cap0 zs := by
    obtain ⟨fuel, hf⟩ := h0
    rcases open_ints Try.underlying22 Try.underlying5 (by kernel_rfl) hf with ⟨hcs, _⟩ | ⟨x, l, c, zs, hcs, _, hl, hm, hz, hxx, hcell, hwz⟩
    · simp [Value.cells] at hcs
      obtain ⟨rfl, rfl, rfl⟩ := hcs
      exact ⟨[], .inl ⟨rfl, rfl, rfl, rfl⟩⟩
    · simp [Value.cells] at hcs
      obtain ⟨rfl, rfl, rfl⟩ := hcs
      have hd := congrArg Prod.fst hxx
      have hs := sized_slice hsz (j := 0) (t := 22) (e := 5) rfl (congrArg some hd) Try.underlying22
      rw [show Try.prog.bytesOf 5 = 1 from by kernel_rfl] at hs
      have hzl : zs.length = cap0 := by simpa using hz
      simp only [lits, List.length_map, List.length_take, List.length_drop, reachBytes] at hs
      exact ⟨zs, .inr ⟨_, rfl, hl, by omega, by simpa using hz, hcell, hwz⟩⟩
  have k1 := h1
  have lt1 : ∀ x ∈ p1, x.block < W.heap.size := by obtain ⟨m, hm⟩ := k1; exact DataW.trod_lt m _ _ _ hm
  obtain ⟨a1, len1, cap1, rfl⟩ := okWide_slice Try.underlying22 (hval 1 22 va1 rfl rfl)
  obtain ⟨z1, w1⟩ : ∃ zs, IsRow .u8 W a1 len1 cap1 zs := by
    obtain ⟨fuel, hf⟩ := h1
    rcases open_ints Try.underlying22 Try.underlying5 (by kernel_rfl) hf with ⟨hcs, _⟩ | ⟨x, l, c, zs, hcs, _, hl, hm, hz, hxx, hcell, hwz⟩
    · simp [Value.cells] at hcs
      obtain ⟨rfl, rfl, rfl⟩ := hcs
      exact ⟨[], .inl ⟨rfl, rfl, rfl, rfl⟩⟩
    · simp [Value.cells] at hcs
      obtain ⟨rfl, rfl, rfl⟩ := hcs
      have hd := congrArg Prod.fst hxx
      have hs := sized_slice hsz (j := 1) (t := 22) (e := 5) rfl (congrArg some hd) Try.underlying22
      rw [show Try.prog.bytesOf 5 = 1 from by kernel_rfl] at hs
      have hzl : zs.length = cap1 := by simpa using hz
      simp only [lits, List.length_map, List.length_take, List.length_drop, reachBytes] at hs
      exact ⟨zs, .inr ⟨_, rfl, hl, by omega, by simpa using hz, hcell, hwz⟩⟩
  clear hA0 hval0
  refine (walk a0 len0 cap0 z0 a1 len1 cap1 z1 W w0 w1).mono fun e W' ⟨he, bel⟩ => ?_
  subst he
  exact ⟨_, rfl, _, _, _, [], _, [], hW', trodAll_mk1 (shut_bool Try.underlying4 _), (trodAll_cons_mk (Below.trod laidOut (by kernel_rfl) (of_decide_eq_true (by kernel_rfl)) k0 bel lt0) (trodAll_cons_mk (Below.trod laidOut (by kernel_rfl) (of_decide_eq_true (by kernel_rfl)) k1 bel lt1) trodAll_mk0)), rfl, bel.frame _, fun h => by cases h⟩
theorem over : Rows.buildCauchyRow.holds Try.pinned (OpenSpec.ofChange Rows.buildCauchySpec) :=
  OpenClaim.holds_of_wide 4 Try.f4 rfl rfl rfl rfl rfl rfl rfl ⟨rfl, rfl, rfl, rfl, rfl⟩ rfl rfl rfl rfl rfl (by kernel_rfl) Try.func4 (by kernel_rfl)
    (of_decide_eq_true (by kernel_rfl)) (by unfold Func.isWrapper; first | (rw [if_pos (by decide +kernel)]; kernel_rfl) | (rw [if_neg (by decide +kernel)]; exact ⟨rfl, rfl⟩))
    (fun os started H enc _ => lifted os started H enc)
theorem proved : Rows.BuildCauchySaid := over
#print axioms proved
end Go.Proofs.Ytblfldjlehjnbaa.buildCauchy
