/-
  Proved: for every matrix m and every list of ints the program's Pick answers the document's, or its error (P3.4); no condition.
-/
import Derived.Test.YtaoehildaenbnaaMo
import Derived.WalkKit
import Derived.SizedLaws
import Derived.ProofKit
import Derived.OpenShut
import Derived.ShutString
import Derived.ChangeOld
import Derived.Below
import Derived.Lib.SmallJoins
import Derived.Deep.Matrix
namespace Go.Proofs.Ytaoehildaenbnaa.matrixPicks
open Go.ChangeShapes Go.WideShapes Go.ChangeAt Go.RowKit Go.Joins
set_option linter.unusedVariables false
theorem own : ownKnob Try.prog.godebug = none := by kernel_rfl
theorem laidOut : laidOutB Try.prog = true := by kernel_rfl
/-- A slice of integers that came in. -/
def IsRow (k : IntKind) (w : World) (a : Option Addr) (len cap : Nat) (zs : List Int) : Prop :=
  (a = none ∧ len = 0 ∧ cap = 0 ∧ zs = []) ∨
  ∃ x, a = some x ∧ len ≤ cap ∧ cap ≤ 140737488351232 ∧ zs.length = cap ∧ (∀ i, i < zs.length → w.cell? (x.add i) = some (.int k (zs.getD i 0))) ∧ ∀ n ∈ zs, (Lit.int k n).wf = true
/-- A slice of slices of bytes that came in. -/
def IsRows (w : World) (a : Option Addr) (len cap : Nat) : Prop :=
  (a = none ∧ len = 0 ∧ cap = 0) ∨
  ∃ x, a = some x ∧ len ≤ cap ∧ cap ≤ 140737488351232 ∧ ∀ r, r < cap → ∃ b l c zs, w.cell? (x.add r) = some (.slice b l c) ∧ IsRow .u8 w b l c zs
theorem sized_in {H : Type} {P : Program} {ts : List TypeId} {ds : List (DataW H)} (h : (DataW.weightsEach P ts ds).all (· ≤ reachBytes) = true) {j : Nat} {t : TypeId} {d : DataW H} (ht : ts[j]? = some t) (hd : ds[j]? = some d) : (d.weights P t).all (· ≤ reachBytes) = true :=
  List.all_eq_true.2 fun n hn => List.all_eq_true.1 h n (DataW.weights_mem_each ht hd n hn)
theorem sized_all {H : Type} {P : Program} {e : TypeId} : ∀ {ds : List (DataW H)}, (DataW.weightsAll P e ds).all (· ≤ reachBytes) = true → ∀ d ∈ ds, (d.weights P e).all (· ≤ reachBytes) = true
  | [], _, d, hd => by simp at hd
  | d0 :: r, h, d, hd => by
    simp only [DataW.weightsAll, List.all_append, Bool.and_eq_true] at h
    rcases List.mem_cons.1 hd with rfl | hd
    · exact h.1
    · exact sized_all h.2 d hd
theorem cellsM : Try.prog.cellsOf 24 = 3 := by kernel_rfl

set_option maxRecDepth 20000 in
set_option maxHeartbeats 8000000 in
theorem walk (r0 c0 : Int) (a0 : Option Addr) (len0 cap0 : Nat) (z0 : List Int) (a1 : Option Addr) (len1 cap1 : Nat) (z1 : List Int) (w : World) (u0 : (Lit.int .i64 r0).wf = true) (v0 : (Lit.int .i64 c0).wf = true) (w0 : IsRow .u8 w a0 len0 cap0 z0) (w1 : IsRow .i64 w a1 len1 cap1 z1) :
    Calls Try.prog 7 #[.agg #[.int .i64 r0, .int .i64 c0, .slice a0 len0 cap0], .slice a1 len1 cap1] w fun e w' => e = .returned (.bool true) ∧ Below w.heap.size w w' := by
  obtain ⟨F0, hM0, hn0⟩ := mt_of_row w a0 len0 cap0 z0 w0
  have HM_m0 : Hid (Mt w a0 len0 cap0 F0) := hM0
  obtain ⟨hI, hm⟩ := il_of_row w a1 len1 cap1 z1 w1
  obtain ⟨q, hQ⟩ : ∃ q : Nat → Int, (fun i => z1.getD i 0) = q := ⟨_, rfl⟩
  rw [hQ] at hI
  have HI : Hid (Il w a1 len1 q) := hI
  obtain ⟨R, C, N, f, E, hp⟩ := pick_pair r0 c0 len0 len1 F0 q hM0.sl.1 hm
  have HP := hid_of hp
  clear hp hI hQ hM0 w0 w1 u0 v0 hn0
  obtain ⟨wb, HW⟩ : ∃ wb, Hid (wb = (w.alloc (.cells #[.int .i64 r0, .int .i64 c0, .slice a0 len0 cap0] 24))) := ⟨_, rfl⟩
  have HV_m0_0 : Hid (Vr wb w.heap.size (.int .i64 r0) (.int .i64 c0) (.slice a0 len0 cap0)) := by show Vr _ _ _ _ _; rw [HW.out]; have := Vr.new w (.int .i64 r0) (.int .i64 c0) (.slice a0 len0 cap0); simpa using this
  have HB_0 : Hid (Below w.heap.size w wb) := by rw [HW.out]; exact alloc_low _ _
  have HM_m0_0 : Hid (Mt wb a0 len0 cap0 F0) := HM_m0.out.later HB_0.out
  clear HM_m0
  go_enter Try.func7, Try.ntmps7
  go_wp2_with (first
    | (go_at_call 15; have _x := HB_2; refine (like3_any _ R C R C E E s1 s2 N N d1 d2 f f HM_p_2.out.sl HM_q_2.out.sl true (hid_of (like_self R C E N f))).mono ?_; rintro e w3 ⟨rfl, hb3⟩; have HB_3 : Hid (Below w.heap.size w w3) := two_below HB_2.out hb3; have HV_m0_3 : Hid (Vr w3 w.heap.size (.int .i64 r0) (.int .i64 c0) (.slice a0 len0 cap0)) := HV_m0_2.out.later hb3; have HV_p_3 : Hid (Vr w3 w1.heap.size (.int .i64 R) (.int .i64 C) (.slice s1 N d1)) := HV_p_2.out.later hb3; have HV_q_3 : Hid (Vr w3 w2.heap.size (.int .i64 R) (.int .i64 C) (.slice s2 N d2)) := HV_q_2.out.later hb3; have HM_m0_3 : Hid (Mt w3 a0 len0 cap0 F0) := HM_m0_2.out.later hb3; have HM_p_3 : Hid (Mt w3 s1 N d1 f) := HM_p_2.out.later hb3; have HM_q_3 : Hid (Mt w3 s2 N d2 f) := HM_q_2.out.later hb3; clear HV_m0_2 HV_p_2 HV_q_2 HM_m0_2 HM_p_2 HM_q_2 hb3)
    | (go_at_call 34; have _x := HB_1; refine ((HP.out _ _ _ _ _ HM_m0_1.out (HI.out.later HB_1.out)).2).mono ?_; rintro e w2 ⟨s2, d2, rfl, hs2, hb2⟩; have HB_2 : Hid (Below w.heap.size w (w2.alloc (.cells #[.int .i64 R, .int .i64 C, .slice s2 N d2] 24))) := two_below (two_below HB_1.out hb2) (alloc_low _ _); have HV_m0_2 : Hid (Vr (w2.alloc (.cells #[.int .i64 R, .int .i64 C, .slice s2 N d2] 24)) w.heap.size (.int .i64 r0) (.int .i64 c0) (.slice a0 len0 cap0)) := (HV_m0_1.out.later hb2).later (alloc_low _ _); have HV_p_2 : Hid (Vr (w2.alloc (.cells #[.int .i64 R, .int .i64 C, .slice s2 N d2] 24)) w1.heap.size (.int .i64 R) (.int .i64 C) (.slice s1 N d1)) := (HV_p_1.out.later hb2).later (alloc_low _ _); have HM_m0_2 : Hid (Mt (w2.alloc (.cells #[.int .i64 R, .int .i64 C, .slice s2 N d2] 24)) a0 len0 cap0 F0) := (HM_m0_1.out.later hb2).later (alloc_low _ _); have HM_p_2 : Hid (Mt (w2.alloc (.cells #[.int .i64 R, .int .i64 C, .slice s2 N d2] 24)) s1 N d1 f) := (HM_p_1.out.later hb2).later (alloc_low _ _); have HV_q_2 : Hid (Vr (w2.alloc (.cells #[.int .i64 R, .int .i64 C, .slice s2 N d2] 24)) w2.heap.size (.int .i64 R) (.int .i64 C) (.slice s2 N d2)) := Vr.new w2 _ _ _; have HM_q_2 : Hid (Mt (w2.alloc (.cells #[.int .i64 R, .int .i64 C, .slice s2 N d2] 24)) s2 N d2 f) := hs2.later (alloc_low _ _); have x_p_0_2 := HV_p_2.out.c0; have x_p_1_2 := HV_p_2.out.c1; have x_p_2_2 := HV_p_2.out.c2; have x_q_0_2 := HV_q_2.out.c0; have x_q_1_2 := HV_q_2.out.c1; have x_q_2_2 := HV_q_2.out.c2; clear HV_m0_1 HV_p_1 HM_m0_1 HM_p_1 hb2 hs2)
    | (go_at_call 33; rw [← HW.out]; refine ((HP.out _ _ _ _ _ HM_m0_0.out (HI.out.later HB_0.out)).1).mono ?_; rintro e w1 ⟨s1, d1, rfl, hs1, hb1⟩; have HB_1 : Hid (Below w.heap.size w (w1.alloc (.cells #[.int .i64 R, .int .i64 C, .slice s1 N d1] 24))) := two_below (two_below HB_0.out hb1) (alloc_low _ _); have HV_m0_1 : Hid (Vr (w1.alloc (.cells #[.int .i64 R, .int .i64 C, .slice s1 N d1] 24)) w.heap.size (.int .i64 r0) (.int .i64 c0) (.slice a0 len0 cap0)) := (HV_m0_0.out.later hb1).later (alloc_low _ _); have HM_m0_1 : Hid (Mt (w1.alloc (.cells #[.int .i64 R, .int .i64 C, .slice s1 N d1] 24)) a0 len0 cap0 F0) := (HM_m0_0.out.later hb1).later (alloc_low _ _); have HV_p_1 : Hid (Vr (w1.alloc (.cells #[.int .i64 R, .int .i64 C, .slice s1 N d1] 24)) w1.heap.size (.int .i64 R) (.int .i64 C) (.slice s1 N d1)) := Vr.new w1 _ _ _; have HM_p_1 : Hid (Mt (w1.alloc (.cells #[.int .i64 R, .int .i64 C, .slice s1 N d1] 24)) s1 N d1 f) := hs1.later (alloc_low _ _); have x_m0_0_1 := HV_m0_1.out.c0; have x_m0_1_1 := HV_m0_1.out.c1; have x_m0_2_1 := HV_m0_1.out.c2; clear HV_m0_0 HM_m0_0 hb1 hs1))
  go_ret
  exact ⟨rfl, HB_3.out⟩
set_option maxRecDepth 100000 in
set_option maxHeartbeats 2000000 in
theorem lifted (os : Os) (started : os.Started) (H : Type) (enc : TypeId × Value → H) :
    ReturnsInHanded {} Try.checked os 7 .any (Rows.matrixPicksSpec.pre6 enc Try.prog Try.f7 Rows.matrixPicksRow.domain false) (Rows.matrixPicksSpec.post enc Try.prog Try.f7 false true false false) := by
  refine returnsInHanded_of_change_sized (C := Try.checked) own started (by kernel_rfl) Try.func7
    (ChangeSpec.witness6 (enc := enc) (C := Try.checked) false ⟨#[], #[.agg #[.int .i64 0, .int .i64 0, .slice none 0 0], .slice none 0 0], []⟩ 8 (by kernel_rfl) (by kernel_rfl) (by kernel_rfl) (by kernel_rfl)) ?_
  intro W base args ds gs before hval0 hW hcnd hsz0 _
  have hsz : (DataW.weightsEach Try.prog (Try.f7.params.toList ++ Rows.matrixPicksSpec.plain.varTypes Try.prog) (ds ++ gs)).all (· ≤ reachBytes) = true := hsz0
  clear hsz0
  have hval : ∀ (j : Nat) t v, Try.f7.params[j]? = some t → args[j]? = some v → Value.okWide Try.prog W .any base t v := hval0
  have hW' := hW
  obtain ⟨p, q, hA0, hV, rfl, hfz, hnd⟩ := hW
  have hA : DataW.TrodAll enc Try.prog W 0 (fun _ => true) true Try.f7.params.toList args.toList ds p := hA0
  rw [Try.params7] at hA hval hsz
  obtain ⟨va0, vs0, d0, ds0, p0, q0, hargs, rfl, rfl, h0, tr0⟩ := trodAll_cons hA
  obtain ⟨va1, vs1, d1, ds1, p1, q1, rfl, rfl, rfl, h1, tr1⟩ := trodAll_cons tr0
  obtain ⟨rfl, rfl, rfl⟩ := trodAll_nil tr1
  obtain rfl : args = #[va0, va1] := by cases args; simp_all
  obtain ⟨rfl, rfl⟩ := trodVars_none hV
  have k0 := h0
  have lt0 : ∀ x ∈ p0, x.block < W.heap.size := by obtain ⟨m, hm⟩ := k0; exact DataW.trod_lt m _ _ _ hm
  obtain ⟨f0, g0, s0, y0, x0, e0, m0, rfl, rfl, rfl, hf0, hg0, hs0⟩ := open_agg3 Try.underlying24 (by kernel_rfl) cellsM (hval 0 24 va0 rfl rfl) h0
  obtain ⟨r0, er0, rfl, u0⟩ := DataW.trod_int Try.underlying3 hf0
  obtain ⟨c0, ec0, rfl, v0⟩ := DataW.trod_int Try.underlying3 hg0
  simp only [List.cons.injEq, and_true] at er0 ec0
  subst er0 ec0
  obtain ⟨a0, len0, cap0, rfl⟩ : ∃ a l c, s0 = .slice a l c := by
    rcases open_ints Try.underlying22 Try.underlying5 (by kernel_rfl) hs0 with ⟨hcs, _⟩ | ⟨x, l, c, zs, hcs, _⟩
    · simp only [List.cons.injEq, and_true] at hcs; exact ⟨_, _, _, hcs⟩
    · simp only [List.cons.injEq, and_true] at hcs; exact ⟨_, _, _, hcs⟩
  obtain ⟨z0, w0⟩ : ∃ zs, IsRow .u8 W a0 len0 cap0 zs := by
    obtain ⟨fuel, hf⟩ := (⟨m0, hs0⟩ : ∃ fuel, DataW.trod enc Try.prog W 0 (fun _ => true) true fuel 22 [.slice a0 len0 cap0] = some e0)
    rcases open_ints Try.underlying22 Try.underlying5 (by kernel_rfl) hf with ⟨hcs, _⟩ | ⟨x, l, c, zs, hcs, _, hl, hm, hz, hxx, hcell, hwz⟩
    · simp at hcs
      obtain ⟨rfl, rfl, rfl⟩ := hcs
      exact ⟨[], .inl ⟨rfl, rfl, rfl, rfl⟩⟩
    · simp at hcs
      obtain ⟨rfl, rfl, rfl⟩ := hcs
      have hd := congrArg Prod.fst hxx
      have hs := sized_slice (sized_in hsz (j := 0) (t := 24) rfl rfl) (j := 2) (t := 22) (e := 5) rfl (congrArg some hd) Try.underlying22
      rw [show Try.prog.bytesOf 5 = 1 from by kernel_rfl] at hs
      have hzl : zs.length = cap0 := by simpa using hz
      simp only [lits, List.length_map, List.length_take, List.length_drop, reachBytes] at hs
      exact ⟨zs, .inr ⟨_, rfl, hl, by omega, by simpa using hz, hcell, hwz⟩⟩
  have k1 := h1
  have lt1 : ∀ x ∈ p1, x.block < W.heap.size := by obtain ⟨m, hm⟩ := k1; exact DataW.trod_lt m _ _ _ hm
  obtain ⟨a1, len1, cap1, rfl⟩ := okWide_slice Try.underlying52 (hval 1 52 va1 rfl rfl)
  obtain ⟨z1, w1⟩ : ∃ zs, IsRow .i64 W a1 len1 cap1 zs := by
    obtain ⟨fuel, hf⟩ := h1
    rcases open_ints Try.underlying52 Try.underlying3 (by kernel_rfl) hf with ⟨hcs, _⟩ | ⟨x, l, c, zs, hcs, _, hl, hm, hz, hxx, hcell, hwz⟩
    · simp [Value.cells] at hcs
      obtain ⟨rfl, rfl, rfl⟩ := hcs
      exact ⟨[], .inl ⟨rfl, rfl, rfl, rfl⟩⟩
    · simp [Value.cells] at hcs
      obtain ⟨rfl, rfl, rfl⟩ := hcs
      have hd := congrArg Prod.fst hxx
      have hs := sized_slice hsz (j := 1) (t := 52) (e := 3) rfl (congrArg some hd) Try.underlying52
      rw [show Try.prog.bytesOf 3 = 8 from by kernel_rfl] at hs
      have hzl : zs.length = cap1 := by simpa using hz
      simp only [lits, List.length_map, List.length_take, List.length_drop, reachBytes] at hs
      exact ⟨zs, .inr ⟨_, rfl, hl, by omega, by simpa using hz, hcell, hwz⟩⟩
  clear hA0 hval0
  refine (walk r0 c0 a0 len0 cap0 z0 a1 len1 cap1 z1 W u0 v0 w0 w1).mono fun e W' ⟨he, bel⟩ => ?_
  subst he
  exact ⟨_, rfl, _, _, _, [], _, [], hW', trodAll_mk1 (shut_bool Try.underlying4 _), (trodAll_cons_mk (Below.trod laidOut (by kernel_rfl) (of_decide_eq_true (by kernel_rfl)) k0 bel lt0) (trodAll_cons_mk (Below.trod laidOut (by kernel_rfl) (of_decide_eq_true (by kernel_rfl)) k1 bel lt1) trodAll_mk0)), rfl, bel.frame _, fun h => by cases h⟩
theorem over : Rows.matrixPicksRow.holds Try.pinned (OpenSpec.ofChange Rows.matrixPicksSpec) :=
  OpenClaim.holds_of_wide 7 Try.f7 rfl rfl rfl rfl rfl rfl rfl ⟨rfl, rfl, rfl, rfl, rfl⟩ rfl rfl rfl rfl rfl (by kernel_rfl) Try.func7 (by kernel_rfl)
    (of_decide_eq_true (by kernel_rfl)) (by unfold Func.isWrapper; first | (rw [if_pos (by decide +kernel)]; kernel_rfl) | (rw [if_neg (by decide +kernel)]; exact ⟨rfl, rfl⟩))
    (fun os started H enc _ => lifted os started H enc)
theorem proved : Rows.MatrixPicksSaid := over
#print axioms proved
end Go.Proofs.Ytaoehildaenbnaa.matrixPicks
