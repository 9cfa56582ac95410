/-
  Proved: for every matrix g, number b and set s what is handed to Rank, Span, Basis, Needed and Circuit stays as it is (the rules); no condition.
-/
import Derived.Test.YtflflmdlhmhkdabGx
import Derived.Test.YtflflmdlhmhkdabGs
import Derived.WalkKit
import Derived.SizedLaws
import Derived.ProofKit
import Derived.OpenShut
import Derived.ShutString
import Derived.ChangeOld
import Derived.Below
import Derived.Lib.SmallJoins
import Derived.Deep.Matrix
namespace Go.Proofs.Ytflflmdlhmhkdab.matroidKept
open Go.ChangeShapes Go.WideShapes Go.ChangeAt Go.RowKit Go.Joins
set_option linter.unusedVariables false
theorem own : ownKnob Try.prog.godebug = none := by kernel_rfl
theorem laidOut : laidOutB Try.prog = true := by kernel_rfl
/-- A slice of integers that came in. -/
def IsRow (k : IntKind) (w : World) (a : Option Addr) (len cap : Nat) (zs : List Int) : Prop :=
  (a = none ∧ len = 0 ∧ cap = 0 ∧ zs = []) ∨
  ∃ x, a = some x ∧ len ≤ cap ∧ cap ≤ 140737488351232 ∧ zs.length = cap ∧ (∀ i, i < zs.length → w.cell? (x.add i) = some (.int k (zs.getD i 0))) ∧ ∀ n ∈ zs, (Lit.int k n).wf = true
/-- A slice of slices of bytes that came in. -/
def IsRows (w : World) (a : Option Addr) (len cap : Nat) : Prop :=
  (a = none ∧ len = 0 ∧ cap = 0) ∨
  ∃ x, a = some x ∧ len ≤ cap ∧ cap ≤ 140737488351232 ∧ ∀ r, r < cap → ∃ b l c zs, w.cell? (x.add r) = some (.slice b l c) ∧ IsRow .u8 w b l c zs
theorem sized_in {H : Type} {P : Program} {ts : List TypeId} {ds : List (DataW H)} (h : (DataW.weightsEach P ts ds).all (· ≤ reachBytes) = true) {j : Nat} {t : TypeId} {d : DataW H} (ht : ts[j]? = some t) (hd : ds[j]? = some d) : (d.weights P t).all (· ≤ reachBytes) = true :=
  List.all_eq_true.2 fun n hn => List.all_eq_true.1 h n (DataW.weights_mem_each ht hd n hn)
theorem sized_all {H : Type} {P : Program} {e : TypeId} : ∀ {ds : List (DataW H)}, (DataW.weightsAll P e ds).all (· ≤ reachBytes) = true → ∀ d ∈ ds, (d.weights P e).all (· ≤ reachBytes) = true
  | [], _, d, hd => by simp at hd
  | d0 :: r, h, d, hd => by
    simp only [DataW.weightsAll, List.all_append, Bool.and_eq_true] at h
    rcases List.mem_cons.1 hd with rfl | hd
    · exact h.1
    · exact sized_all h.2 d hd
theorem cellsM : Try.prog.cellsOf 24 = 3 := by kernel_rfl

set_option maxRecDepth 20000 in
set_option maxHeartbeats 4000000 in
theorem walk (r0 c0 : Int) (a0 : Option Addr) (len0 cap0 : Nat) (z0 : List Int) (n1 : Int) (n2 : Int) (w : World) (u0 : (Lit.int .i64 r0).wf = true) (v0 : (Lit.int .i64 c0).wf = true) (w0 : IsRow .u8 w a0 len0 cap0 z0) (w1 : (Lit.int .i64 n1).wf = true) (w2 : (Lit.int .u64 n2).wf = true) :
    Calls Try.prog 5 #[.agg #[.int .i64 r0, .int .i64 c0, .slice a0 len0 cap0], .int .i64 n1, .int .u64 n2] w fun e w' => e = .returned (.bool true) ∧ Below w.heap.size w w' := by
  obtain ⟨F, hF, hn0⟩ := mt_of_row w a0 len0 cap0 z0 w0
  obtain ⟨s, rfl, hs6⟩ := u64_of_wf6 w2
  have HF : Hid (Mt w a0 len0 cap0 F) := hF
  clear hF w0 w2
  go_enter Try.func5, Try.ntmps5
  go_wp2_with (first
    | (go_at_call 20; have _x := HB8; refine (same7 _ _ _ len0 _ _ F HC8.out HG8.out).mono ?_; rintro e w9 ⟨rfl, hb⟩; have HB9 : Hid (Below w.heap.size w w9) := two_below HB8.out hb; have HM9 : Hid (Vr w9 w.heap.size (.int .i64 r0) (.int .i64 c0) (.slice a0 len0 cap0)) := HM8.out.later hb; have HV9 : Hid (Vr w9 w1.heap.size (.int .i64 r0) (.int .i64 c0) (.slice sc len0 dc)) := HV8.out.later hb; have HG9 : Hid (Mt w9 a0 len0 cap0 F) := HG8.out.later hb; have HC9 : Hid (Mt w9 sc len0 dc F) := HC8.out.later hb; have lm9_0 := HM9.out.c0; have lc9_0 := HV9.out.c0; have lm9_1 := HM9.out.c1; have lc9_1 := HV9.out.c1; have lm9_2 := HM9.out.c2; have lc9_2 := HV9.out.c2; clear hb)
    | (go_at_call 19; have _x := HB7; refine (like7 _ _ _ _ _ len0 _ _ F HC7.out HG7.out).mono ?_; rintro e w8 ⟨rfl, hb⟩; have HB8 : Hid (Below w.heap.size w w8) := two_below HB7.out hb; have HM8 : Hid (Vr w8 w.heap.size (.int .i64 r0) (.int .i64 c0) (.slice a0 len0 cap0)) := HM7.out.later hb; have HV8 : Hid (Vr w8 w1.heap.size (.int .i64 r0) (.int .i64 c0) (.slice sc len0 dc)) := HV7.out.later hb; have HG8 : Hid (Mt w8 a0 len0 cap0 F) := HG7.out.later hb; have HC8 : Hid (Mt w8 sc len0 dc F) := HC7.out.later hb; have lm8_0 := HM8.out.c0; have lc8_0 := HV8.out.c0; have lm8_1 := HM8.out.c1; have lc8_1 := HV8.out.c1; have lm8_2 := HM8.out.c2; have lc8_2 := HV8.out.c2; clear hb)
    | (go_at_call 7; have _x := HB6; refine (anch7_any _).mono ?_; rintro e w7 ⟨rfl, hb⟩; have HB7 : Hid (Below w.heap.size w w7) := two_below HB6.out hb; have HM7 : Hid (Vr w7 w.heap.size (.int .i64 r0) (.int .i64 c0) (.slice a0 len0 cap0)) := HM6.out.later hb; have HV7 : Hid (Vr w7 w1.heap.size (.int .i64 r0) (.int .i64 c0) (.slice sc len0 dc)) := HV6.out.later hb; have HG7 : Hid (Mt w7 a0 len0 cap0 F) := HG6.out.later hb; have HC7 : Hid (Mt w7 sc len0 dc F) := HC6.out.later hb; have lm7_0 := HM7.out.c0; have lc7_0 := HV7.out.c0; have lm7_1 := HM7.out.c1; have lc7_1 := HV7.out.c1; have lm7_2 := HM7.out.c2; have lc7_2 := HV7.out.c2; clear hb)
    | (go_at_call 9; have _x := HB5; obtain ⟨_, _, _, p⟩ := circ_some _ r0 c0 n1 len0 dc s sc F HC5.out hs6; refine (p _ (Below.refl _ _)).mono ?_; rintro e w6 ⟨rfl, hb⟩; have HB6 : Hid (Below w.heap.size w w6) := two_below HB5.out hb; have HM6 : Hid (Vr w6 w.heap.size (.int .i64 r0) (.int .i64 c0) (.slice a0 len0 cap0)) := HM5.out.later hb; have HV6 : Hid (Vr w6 w1.heap.size (.int .i64 r0) (.int .i64 c0) (.slice sc len0 dc)) := HV5.out.later hb; have HG6 : Hid (Mt w6 a0 len0 cap0 F) := HG5.out.later hb; have HC6 : Hid (Mt w6 sc len0 dc F) := HC5.out.later hb; have lm6_0 := HM6.out.c0; have lc6_0 := HV6.out.c0; have lm6_1 := HM6.out.c1; have lc6_1 := HV6.out.c1; have lm6_2 := HM6.out.c2; have lc6_2 := HV6.out.c2; clear hb)
    | (go_at_call 14; have _x := HB4; obtain ⟨_, _, p⟩ := need_some _ r0 c0 len0 dc s sc F HC4.out hs6; refine (p _ (Below.refl _ _)).mono ?_; rintro e w5 ⟨rfl, hb⟩; have HB5 : Hid (Below w.heap.size w w5) := two_below HB4.out hb; have HM5 : Hid (Vr w5 w.heap.size (.int .i64 r0) (.int .i64 c0) (.slice a0 len0 cap0)) := HM4.out.later hb; have HV5 : Hid (Vr w5 w1.heap.size (.int .i64 r0) (.int .i64 c0) (.slice sc len0 dc)) := HV4.out.later hb; have HG5 : Hid (Mt w5 a0 len0 cap0 F) := HG4.out.later hb; have HC5 : Hid (Mt w5 sc len0 dc F) := HC4.out.later hb; have lm5_0 := HM5.out.c0; have lc5_0 := HV5.out.c0; have lm5_1 := HM5.out.c1; have lc5_1 := HV5.out.c1; have lm5_2 := HM5.out.c2; have lc5_2 := HV5.out.c2; clear hb)
    | (go_at_call 18; have _x := HB3; obtain ⟨_, _, p, _⟩ := base_pair _ r0 c0 len0 dc s sc F HC3.out hs6; refine (p _ (Below.refl _ _)).mono ?_; rintro e w4 ⟨rfl, hb⟩; have HB4 : Hid (Below w.heap.size w w4) := two_below HB3.out hb; have HM4 : Hid (Vr w4 w.heap.size (.int .i64 r0) (.int .i64 c0) (.slice a0 len0 cap0)) := HM3.out.later hb; have HV4 : Hid (Vr w4 w1.heap.size (.int .i64 r0) (.int .i64 c0) (.slice sc len0 dc)) := HV3.out.later hb; have HG4 : Hid (Mt w4 a0 len0 cap0 F) := HG3.out.later hb; have HC4 : Hid (Mt w4 sc len0 dc F) := HC3.out.later hb; have lm4_0 := HM4.out.c0; have lc4_0 := HV4.out.c0; have lm4_1 := HM4.out.c1; have lc4_1 := HV4.out.c1; have lm4_2 := HM4.out.c2; have lc4_2 := HV4.out.c2; clear hb)
    | (go_at_call 15; have _x := HB2; obtain ⟨_, _, p, _⟩ := span_pair _ r0 c0 len0 dc s sc F HC2.out hs6; refine (p _ (Below.refl _ _)).mono ?_; rintro e w3 ⟨rfl, hb⟩; have HB3 : Hid (Below w.heap.size w w3) := two_below HB2.out hb; have HM3 : Hid (Vr w3 w.heap.size (.int .i64 r0) (.int .i64 c0) (.slice a0 len0 cap0)) := HM2.out.later hb; have HV3 : Hid (Vr w3 w1.heap.size (.int .i64 r0) (.int .i64 c0) (.slice sc len0 dc)) := HV2.out.later hb; have HG3 : Hid (Mt w3 a0 len0 cap0 F) := HG2.out.later hb; have HC3 : Hid (Mt w3 sc len0 dc F) := HC2.out.later hb; have lm3_0 := HM3.out.c0; have lc3_0 := HV3.out.c0; have lm3_1 := HM3.out.c1; have lc3_1 := HV3.out.c1; have lm3_2 := HM3.out.c2; have lc3_2 := HV3.out.c2; clear hb)
    | (go_at_call 17; have _x := HB1; obtain ⟨_, _, p, _⟩ := rank_pair _ r0 c0 len0 dc s sc F HC1.out hs6; refine (p _ (Below.refl _ _)).mono ?_; rintro e w2 ⟨rfl, hb⟩; have HB2 : Hid (Below w.heap.size w w2) := two_below HB1.out hb; have HM2 : Hid (Vr w2 w.heap.size (.int .i64 r0) (.int .i64 c0) (.slice a0 len0 cap0)) := HM1.out.later hb; have HV2 : Hid (Vr w2 w1.heap.size (.int .i64 r0) (.int .i64 c0) (.slice sc len0 dc)) := HV1.out.later hb; have HG2 : Hid (Mt w2 a0 len0 cap0 F) := HG1.out.later hb; have HC2 : Hid (Mt w2 sc len0 dc F) := HC1.out.later hb; have lm2_0 := HM2.out.c0; have lc2_0 := HV2.out.c0; have lm2_1 := HM2.out.c1; have lc2_1 := HV2.out.c1; have lm2_2 := HM2.out.c2; have lc2_2 := HV2.out.c2; clear hb)
    | (go_at_call 16; refine (cp7 _ r0 c0 len0 cap0 a0 F (HF.out.later (alloc_low _ _)) hn0).mono ?_; rintro e w1 ⟨sc, dc, rfl, hmc, hb⟩; have HB1 : Hid (Below w.heap.size w (w1.alloc (.cells #[.int .i64 r0, .int .i64 c0, .slice sc len0 dc] 24))) := two_below (two_below (alloc_low _ _) hb) (alloc_low _ _); have HM1 : Hid (Vr (w1.alloc (.cells #[.int .i64 r0, .int .i64 c0, .slice sc len0 dc] 24)) w.heap.size (.int .i64 r0) (.int .i64 c0) (.slice a0 len0 cap0)) := ((Vr.new w (.int .i64 r0) (.int .i64 c0) (.slice a0 len0 cap0)).later hb).later (alloc_low _ _); have HV1 : Hid (Vr (w1.alloc (.cells #[.int .i64 r0, .int .i64 c0, .slice sc len0 dc] 24)) w1.heap.size (.int .i64 r0) (.int .i64 c0) (.slice sc len0 dc)) := Vr.new w1 _ _ _; have HG1 : Hid (Mt (w1.alloc (.cells #[.int .i64 r0, .int .i64 c0, .slice sc len0 dc] 24)) a0 len0 cap0 F) := (HF.out.later (two_below (alloc_low _ _) hb)).later (alloc_low _ _); have HC1 : Hid (Mt (w1.alloc (.cells #[.int .i64 r0, .int .i64 c0, .slice sc len0 dc] 24)) sc len0 dc F) := hmc.later (alloc_low _ _); have lm1_0 := HM1.out.c0; have lc1_0 := HV1.out.c0; have lm1_1 := HM1.out.c1; have lc1_1 := HV1.out.c1; have lm1_2 := HM1.out.c2; have lc1_2 := HV1.out.c2; clear hb hmc))
  go_ret
  exact ⟨rfl, HB9.out⟩
set_option maxRecDepth 100000 in
set_option maxHeartbeats 2000000 in
theorem lifted (os : Os) (started : os.Started) (H : Type) (enc : TypeId × Value → H) :
    ReturnsInHanded {} Try.checked os 5 .any (Rows.matroidKeptSpec.pre6 enc Try.prog Try.f5 Rows.matroidKeptRow.domain false) (Rows.matroidKeptSpec.post enc Try.prog Try.f5 false true false false) := by
  refine returnsInHanded_of_change_sized (C := Try.checked) own started (by kernel_rfl) Try.func5
    (ChangeSpec.witness6 (enc := enc) (C := Try.checked) false ⟨#[], #[.agg #[.int .i64 0, .int .i64 0, .slice none 0 0], .int .i64 0, .int .u64 0], []⟩ 8 (by kernel_rfl) (by kernel_rfl) (by kernel_rfl) (by kernel_rfl)) ?_
  intro W base args ds gs before hval0 hW hcnd hsz0 _
  have hsz : (DataW.weightsEach Try.prog (Try.f5.params.toList ++ Rows.matroidKeptSpec.plain.varTypes Try.prog) (ds ++ gs)).all (· ≤ reachBytes) = true := hsz0
  clear hsz0
  have hval : ∀ (j : Nat) t v, Try.f5.params[j]? = some t → args[j]? = some v → Value.okWide Try.prog W .any base t v := hval0
  have hW' := hW
  obtain ⟨p, q, hA0, hV, rfl, hfz, hnd⟩ := hW
  have hA : DataW.TrodAll enc Try.prog W 0 (fun _ => true) true Try.f5.params.toList args.toList ds p := hA0
  rw [Try.params5] at hA hval hsz
  obtain ⟨va0, vs0, d0, ds0, p0, q0, hargs, rfl, rfl, h0, tr0⟩ := trodAll_cons hA
  obtain ⟨va1, vs1, d1, ds1, p1, q1, rfl, rfl, rfl, h1, tr1⟩ := trodAll_cons tr0
  obtain ⟨va2, vs2, d2, ds2, p2, q2, rfl, rfl, rfl, h2, tr2⟩ := trodAll_cons tr1
  obtain ⟨rfl, rfl, rfl⟩ := trodAll_nil tr2
  obtain rfl : args = #[va0, va1, va2] := by cases args; simp_all
  obtain ⟨rfl, rfl⟩ := trodVars_none hV
  have k0 := h0
  have lt0 : ∀ x ∈ p0, x.block < W.heap.size := by obtain ⟨m, hm⟩ := k0; exact DataW.trod_lt m _ _ _ hm
  obtain ⟨f0, g0, s0, y0, x0, e0, m0, rfl, rfl, rfl, hf0, hg0, hs0⟩ := open_agg3 Try.underlying24 (by kernel_rfl) cellsM (hval 0 24 va0 rfl rfl) h0
  obtain ⟨r0, er0, rfl, u0⟩ := DataW.trod_int Try.underlying3 hf0
  obtain ⟨c0, ec0, rfl, v0⟩ := DataW.trod_int Try.underlying3 hg0
  simp only [List.cons.injEq, and_true] at er0 ec0
  subst er0 ec0
  obtain ⟨a0, len0, cap0, rfl⟩ : ∃ a l c, s0 = .slice a l c := by
    rcases open_ints Try.underlying22 Try.underlying5 (by kernel_rfl) hs0 with ⟨hcs, _⟩ | ⟨x, l, c, zs, hcs, _⟩
    · simp only [List.cons.injEq, and_true] at hcs; exact ⟨_, _, _, hcs⟩
    · simp only [List.cons.injEq, and_true] at hcs; exact ⟨_, _, _, hcs⟩
  obtain ⟨z0, w0⟩ : ∃ zs, IsRow .u8 W a0 len0 cap0 zs := by
    obtain ⟨fuel, hf⟩ := (⟨m0, hs0⟩ : ∃ fuel, DataW.trod enc Try.prog W 0 (fun _ => true) true fuel 22 [.slice a0 len0 cap0] = some e0)
    rcases open_ints Try.underlying22 Try.underlying5 (by kernel_rfl) hf with ⟨hcs, _⟩ | ⟨x, l, c, zs, hcs, _, hl, hm, hz, hxx, hcell, hwz⟩
    · simp at hcs
      obtain ⟨rfl, rfl, rfl⟩ := hcs
      exact ⟨[], .inl ⟨rfl, rfl, rfl, rfl⟩⟩
    · simp at hcs
      obtain ⟨rfl, rfl, rfl⟩ := hcs
      have hd := congrArg Prod.fst hxx
      have hs := sized_slice (sized_in hsz (j := 0) (t := 24) rfl rfl) (j := 2) (t := 22) (e := 5) rfl (congrArg some hd) Try.underlying22
      rw [show Try.prog.bytesOf 5 = 1 from by kernel_rfl] at hs
      have hzl : zs.length = cap0 := by simpa using hz
      simp only [lits, List.length_map, List.length_take, List.length_drop, reachBytes] at hs
      exact ⟨zs, .inr ⟨_, rfl, hl, by omega, by simpa using hz, hcell, hwz⟩⟩
  have k1 := h1
  have lt1 : ∀ x ∈ p1, x.block < W.heap.size := by obtain ⟨m, hm⟩ := k1; exact DataW.trod_lt m _ _ _ hm
  obtain ⟨n1, rfl, w1⟩ : ∃ n, va1 = .int .i64 n ∧ (Lit.int .i64 n).wf = true := by
    obtain ⟨n, rfl, _, _, hw⟩ := open_int Try.underlying3 (hval 1 3 va1 rfl rfl) h1
    exact ⟨n, rfl, hw⟩
  have k2 := h2
  have lt2 : ∀ x ∈ p2, x.block < W.heap.size := by obtain ⟨m, hm⟩ := k2; exact DataW.trod_lt m _ _ _ hm
  obtain ⟨n2, rfl, w2⟩ : ∃ n, va2 = .int .u64 n ∧ (Lit.int .u64 n).wf = true := by
    obtain ⟨n, rfl, _, _, hw⟩ := open_int Try.underlying26 (hval 2 26 va2 rfl rfl) h2
    exact ⟨n, rfl, hw⟩
  clear hA0 hval0
  refine (walk r0 c0 a0 len0 cap0 z0 n1 n2 W u0 v0 w0 w1 w2).mono fun e W' ⟨he, bel⟩ => ?_
  subst he
  exact ⟨_, rfl, _, _, _, [], _, [], hW', trodAll_mk1 (shut_bool Try.underlying4 _), (trodAll_cons_mk (Below.trod laidOut (by kernel_rfl) (of_decide_eq_true (by kernel_rfl)) k0 bel lt0) (trodAll_cons_mk (Below.trod laidOut (by kernel_rfl) (of_decide_eq_true (by kernel_rfl)) k1 bel lt1) (trodAll_cons_mk (Below.trod laidOut (by kernel_rfl) (of_decide_eq_true (by kernel_rfl)) k2 bel lt2) trodAll_mk0))), rfl, bel.frame _, fun h => by cases h⟩
theorem over : Rows.matroidKeptRow.holds Try.pinned (OpenSpec.ofChange Rows.matroidKeptSpec) :=
  OpenClaim.holds_of_wide 5 Try.f5 rfl rfl rfl rfl rfl rfl rfl ⟨rfl, rfl, rfl, rfl, rfl⟩ rfl rfl rfl rfl rfl (by kernel_rfl) Try.func5 (by kernel_rfl)
    (of_decide_eq_true (by kernel_rfl)) (by unfold Func.isWrapper; first | (rw [if_pos (by decide +kernel)]; kernel_rfl) | (rw [if_neg (by decide +kernel)]; exact ⟨rfl, rfl⟩))
    (fun os started H enc _ => lifted os started H enc)
theorem proved : Rows.MatroidKeptSaid := over
#print axioms proved
end Go.Proofs.Ytflflmdlhmhkdab.matroidKept
