/-
  Proved: for every matrix g and all numbers b and most the program's Sizes and Choices answer what the document's answer: the lists, and the errors (P19.2, P19.3); no condition.
-/
import Derived.Test.YtblagbghpfopcaaGreatQsses00
import Derived.Test.YtblagbghpfopcaaGreatQsses50
import Derived.WalkKit
import Derived.SizedLaws
import Derived.ProofKit
import Derived.OpenShut
import Derived.ShutString
import Derived.ChangeOld
import Derived.Below
import Derived.Lib.SmallJoins
import Derived.Deep.Matrix
set_option maxRecDepth 100000
set_option maxHeartbeats 16000000
namespace Go.Proofs.YtblagbghpfopcaaGreat.localSizes
open Go.ChangeShapes Go.WideShapes Go.ChangeAt Go.RowKit Go.Joins
set_option linter.unusedVariables false
theorem own : ownKnob Tryz.prog.godebug = none := by kernel_rfl
theorem laidOut : laidOutB Tryz.prog = true := by kernel_rfl
/-- A slice of integers that came in. -/
def IsRow (k : IntKind) (w : World) (a : Option Addr) (len cap : Nat) (zs : List Int) : Prop :=
 (a = none ∧ len = 0 ∧ cap = 0 ∧ zs = []) ∨
 ∃ x, a = some x ∧ len ≤ cap ∧ cap ≤ 140737488351232 ∧ zs.length = cap ∧ (∀ i, i < zs.length → w.cell? (x.add i) = some (.int k (zs.getD i 0))) ∧ ∀ n ∈ zs, (Lit.int k n).wf = true
/-- A slice of slices of bytes that came in. -/
def IsRows (w : World) (a : Option Addr) (len cap : Nat) : Prop :=
 (a = none ∧ len = 0 ∧ cap = 0) ∨
 ∃ x, a = some x ∧ len ≤ cap ∧ cap ≤ 140737488351232 ∧ ∀ r, r < cap → ∃ b l c zs, w.cell? (x.add r) = some (.slice b l c) ∧ IsRow .u8 w b l c zs
theorem sized_in {H : Type} {P : Program} {ts : List TypeId} {ds : List (DataW H)} (h : (DataW.weightsEach P ts ds).all (· ≤ reachBytes) = true) {j : Nat} {t : TypeId} {d : DataW H} (ht : ts[j]? = some t) (hd : ds[j]? = some d) : (d.weights P t).all (· ≤ reachBytes) = true :=
 List.all_eq_true.2 fun n hn => List.all_eq_true.1 h n (DataW.weights_mem_each ht hd n hn)
theorem sized_all {H : Type} {P : Program} {e : TypeId} : ∀ {ds : List (DataW H)}, (DataW.weightsAll P e ds).all (· ≤ reachBytes) = true → ∀ d ∈ ds, (d.weights P e).all (· ≤ reachBytes) = true
 | [], _, d, hd => by simp at hd
 | d0 :: r, h, d, hd => by
  simp only [DataW.weightsAll, List.all_append, Bool.and_eq_true] at h
  rcases List.mem_cons.1 hd with rfl | hd
  ·exact h.1
  ·exact sized_all h.2 d hd
theorem cellsM : Tryz.prog.cellsOf 24 = 3 := by kernel_rfl

theorem walk (r0 c0 : Int) (a0 : Option Addr) (len0 cap0 : Nat) (z0 : List Int) (n1 : Int) (n2 : Int) (w : World) (u0 : (Lit.int .i64 r0).wf = true) (v0 : (Lit.int .i64 c0).wf = true) (w0 : IsRow .u8 w a0 len0 cap0 z0) (w1 : (Lit.int .i64 n1).wf = true) (w2 : (Lit.int .i64 n2).wf = true) :
  Calls Tryz.prog 4 #[.agg #[.int .i64 r0, .int .i64 c0, .slice a0 len0 cap0], .int .i64 n1, .int .i64 n2] w fun e w' => e = .returned (.bool true) ∧ Below w.heap.size w w' := by
 obtain ⟨F, hF, hn0⟩ := ql3 w a0 len0 cap0 z0 w0
 obtain ⟨N1, hD1, hp1, hr1⟩ := qmx w r0 c0 len0 cap0 a0 F hF
 obtain ⟨N2, hD2, hp2, hr2⟩ := qhz w r0 c0 n1 n2 len0 cap0 a0 F hF
 have HD1 := qa3 hD1
 have HD2 := qa3 hD2
 have HP1 := qa3 hp1
 have HR1 := qa3 hr1
 have HP2 := qa3 hp2
 have HR2 := qa3 hr2
 clear hF hn0 w0 w1 w2 hD1 hD2 hp1 hr1 hp2 hr2
 go_enter Tryz.func4, Tryz.ntmps4
 go_wp2_with (first
  | (go_at_call 10; refine (HP1.out _ (qa1 _ _)).mono ?_; rintro e w1 ⟨s1, L1, d1, E1, q1, rfl, hL1, hj1, hN1, hb⟩; have HV1 : Hid (Vr w1 w.heap.size (.int .i64 r0) (.int .i64 c0) (.slice a0 len0 cap0)) := (Vr.new w _ _ _).later hb; have l1_0 := HV1.out.c0; have l1_1 := HV1.out.c1; have l1_2 := HV1.out.c2; have HB1 : Hid (Below w.heap.size w w1) := qa0 (qa1 _ _) hb; have HJ1 := qa3 hj1; have HN1 := qa3 hN1; have HL1 := qa3 hL1; clear hb hj1 hN1 hL1)
  | (go_at_call 11; refine (HR1.out _ HB1.out).mono ?_; rintro e w2 ⟨s2, L2, d2, E2, q2, rfl, _, hj2, hN2, hb⟩; obtain ⟨e1, e2, e3⟩ := HD1.out _ _ _ _ _ _ HN1.out hN2; subst e1; subst e2; have HV2 : Hid (Vr w2 w.heap.size (.int .i64 r0) (.int .i64 c0) (.slice a0 len0 cap0)) := HV1.out.later hb; have l2_0 := HV2.out.c0; have l2_1 := HV2.out.c1; have l2_2 := HV2.out.c2; have HB2 : Hid (Below w.heap.size w w2) := qa0 HB1.out hb; have HJ2 : Hid (Jl w2 s2 .i64 L1 q1) := (fun i hi => by rw [e3 i hi]; exact hj2 i hi); have HJ12 : Hid (Jl w2 s1 .i64 L1 q1) := HJ1.out.later hb; clear hb hj2 hN2 e3)
  | (go_at_call 12; refine (HP2.out _ HB2.out).mono ?_; rintro e w3 ⟨s3, L3, d3, E3, q3, rfl, hL3, hj3, hN3, hb⟩; have HV3 : Hid (Vr w3 w.heap.size (.int .i64 r0) (.int .i64 c0) (.slice a0 len0 cap0)) := HV2.out.later hb; have l3_0 := HV3.out.c0; have l3_1 := HV3.out.c1; have l3_2 := HV3.out.c2; have HB3 : Hid (Below w.heap.size w w3) := qa0 HB2.out hb; have HJ3 := qa3 hj3; have HN3 := qa3 hN3; have HL3 := qa3 hL3; have HJ13 : Hid (Jl w3 s1 .i64 L1 q1) := HJ12.out.later hb; have HJ23 : Hid (Jl w3 s2 .i64 L1 q1) := HJ2.out.later hb; clear hb hj3 hN3 hL3)
  | (go_at_call 13; refine (HR2.out _ HB3.out).mono ?_; rintro e w4 ⟨s4, L4, d4, E4, q4, rfl, _, hj4, hN4, hb⟩; obtain ⟨e1, e2, e3⟩ := HD2.out _ _ _ _ _ _ HN3.out hN4; subst e1; subst e2; have HB4 : Hid (Below w.heap.size w w4) := qa0 HB3.out hb; have HJ4 : Hid (Jl w4 s4 .u64 L3 q3) := (fun i hi => by rw [e3 i hi]; exact hj4 i hi); have HJ34 : Hid (Jl w4 s3 .u64 L3 q3) := HJ3.out.later hb; have HJ14 : Hid (Jl w4 s1 .i64 L1 q1) := HJ13.out.later hb; have HJ24 : Hid (Jl w4 s2 .i64 L1 q1) := HJ23.out.later hb; have g1 : (E1 == E1) = true := (by simp); have g3 : (E3 == E3) = true := (by simp); clear hb hj4 hN4 e3)
  | (go_at_call 14; refine (rints19 L1 _ _ _ _ q1 _ HL1.out HJ14.out HJ24.out).mono ?_; rintro e w5 ⟨rfl, hb⟩; have HB5 : Hid (Below w.heap.size w w5) := qa0 HB4.out hb; have HJ45 : Hid (Jl w5 s4 .u64 L3 q3) := HJ4.out.later hb; have HJ35 : Hid (Jl w5 s3 .u64 L3 q3) := HJ34.out.later hb; clear hb)
  | (go_at_call 15; refine (qke L3 _ _ _ _ q3 _ HL3.out HJ35.out HJ45.out).mono ?_; rintro e w6 ⟨rfl, hb⟩; have HB6 : Hid (Below w.heap.size w w6) := qa0 HB5.out hb; clear hb))
 go_ret
 exact ⟨rfl, HB6.out⟩
theorem lifted (os : Os) (started : os.Started) (H : Type) (enc : TypeId × Value → H) :
  ReturnsInHanded {} Tryz.checked os 4 .any (Rows.localSizesSpec.pre6 enc Tryz.prog Tryz.f4 Rows.localSizesRow.domain false) (Rows.localSizesSpec.post enc Tryz.prog Tryz.f4 false true false false) := by
 refine returnsInHanded_of_change_sized (C := Tryz.checked) own started (by kernel_rfl) Tryz.func4
  (ChangeSpec.witness6 (enc := enc) (C := Tryz.checked) false ⟨#[], #[.agg #[.int .i64 0, .int .i64 0, .slice none 0 0], .int .i64 0, .int .i64 0], []⟩ 8 (by kernel_rfl) (by kernel_rfl) (by kernel_rfl) (by kernel_rfl)) ?_
 intro W base args ds gs before hval0 hW hcnd hsz0 _
 have hsz : (DataW.weightsEach Tryz.prog (Tryz.f4.params.toList ++ Rows.localSizesSpec.plain.varTypes Tryz.prog) (ds ++ gs)).all (· ≤ reachBytes) = true := hsz0
 clear hsz0
 have hval : ∀ (j : Nat) t v, Tryz.f4.params[j]? = some t → args[j]? = some v → Value.okWide Tryz.prog W .any base t v := hval0
 have hW' := hW
 obtain ⟨p, q, hA0, hV, rfl, hfz, hnd⟩ := hW
 have hA : DataW.TrodAll enc Tryz.prog W 0 (fun _ => true) true Tryz.f4.params.toList args.toList ds p := hA0
 rw [Tryz.params4] at hA hval hsz
 obtain ⟨va0, vs0, d0, ds0, p0, q0, hargs, rfl, rfl, h0, tr0⟩ := trodAll_cons hA
 obtain ⟨va1, vs1, d1, ds1, p1, q1, rfl, rfl, rfl, h1, tr1⟩ := trodAll_cons tr0
 obtain ⟨va2, vs2, d2, ds2, p2, q2, rfl, rfl, rfl, h2, tr2⟩ := trodAll_cons tr1
 obtain ⟨rfl, rfl, rfl⟩ := trodAll_nil tr2
 obtain rfl : args = #[va0, va1, va2] := by cases args; simp_all
 obtain ⟨rfl, rfl⟩ := trodVars_none hV
 have k0 := h0
 have lt0 : ∀ x ∈ p0, x.block < W.heap.size := by obtain ⟨m, hm⟩ := k0; exact DataW.trod_lt m _ _ _ hm
 obtain ⟨f0, g0, s0, y0, x0, e0, m0, rfl, rfl, rfl, hf0, hg0, hs0⟩ := open_agg3 Tryz.underlying24 (by kernel_rfl) cellsM (hval 0 24 va0 rfl rfl) h0
 obtain ⟨r0, er0, rfl, u0⟩ := DataW.trod_int Tryz.underlying3 hf0
 obtain ⟨c0, ec0, rfl, v0⟩ := DataW.trod_int Tryz.underlying3 hg0
 simp only [List.cons.injEq, and_true] at er0 ec0
 subst er0 ec0
 obtain ⟨a0, len0, cap0, rfl⟩ : ∃ a l c, s0 = .slice a l c := by
  rcases open_ints Tryz.underlying22 Tryz.underlying5 (by kernel_rfl) hs0 with ⟨hcs, _⟩ | ⟨x, l, c, zs, hcs, _⟩
  ·simp only [List.cons.injEq, and_true] at hcs; exact ⟨_, _, _, hcs⟩
  ·simp only [List.cons.injEq, and_true] at hcs; exact ⟨_, _, _, hcs⟩
 obtain ⟨z0, w0⟩ : ∃ zs, IsRow .u8 W a0 len0 cap0 zs := by
  obtain ⟨fuel, hf⟩ := (⟨m0, hs0⟩ : ∃ fuel, DataW.trod enc Tryz.prog W 0 (fun _ => true) true fuel 22 [.slice a0 len0 cap0] = some e0)
  rcases open_ints Tryz.underlying22 Tryz.underlying5 (by kernel_rfl) hf with ⟨hcs, _⟩ | ⟨x, l, c, zs, hcs, _, hl, hm, hz, hxx, hcell, hwz⟩
  ·simp at hcs
   obtain ⟨rfl, rfl, rfl⟩ := hcs
   exact ⟨[], .inl ⟨rfl, rfl, rfl, rfl⟩⟩
  ·simp at hcs
   obtain ⟨rfl, rfl, rfl⟩ := hcs
   have hd := congrArg Prod.fst hxx
   have hs := sized_slice (sized_in hsz (j := 0) (t := 24) rfl rfl) (j := 2) (t := 22) (e := 5) rfl (congrArg some hd) Tryz.underlying22
   rw [show Tryz.prog.bytesOf 5 = 1 from by kernel_rfl] at hs
   have hzl : zs.length = cap0 := by simpa using hz
   simp only [lits, List.length_map, List.length_take, List.length_drop, reachBytes] at hs
   exact ⟨zs, .inr ⟨_, rfl, hl, by omega, by simpa using hz, hcell, hwz⟩⟩
 have k1 := h1
 have lt1 : ∀ x ∈ p1, x.block < W.heap.size := by obtain ⟨m, hm⟩ := k1; exact DataW.trod_lt m _ _ _ hm
 obtain ⟨n1, rfl, w1⟩ : ∃ n, va1 = .int .i64 n ∧ (Lit.int .i64 n).wf = true := by
  obtain ⟨n, rfl, _, _, hw⟩ := open_int Tryz.underlying3 (hval 1 3 va1 rfl rfl) h1
  exact ⟨n, rfl, hw⟩
 have k2 := h2
 have lt2 : ∀ x ∈ p2, x.block < W.heap.size := by obtain ⟨m, hm⟩ := k2; exact DataW.trod_lt m _ _ _ hm
 obtain ⟨n2, rfl, w2⟩ : ∃ n, va2 = .int .i64 n ∧ (Lit.int .i64 n).wf = true := by
  obtain ⟨n, rfl, _, _, hw⟩ := open_int Tryz.underlying3 (hval 2 3 va2 rfl rfl) h2
  exact ⟨n, rfl, hw⟩
 clear hA0 hval0
 refine (walk r0 c0 a0 len0 cap0 z0 n1 n2 W u0 v0 w0 w1 w2).mono fun e W' ⟨he, bel⟩ => ?_
 subst he
 exact ⟨_, rfl, _, _, _, [], _, [], hW', trodAll_mk1 (shut_bool Tryz.underlying4 _), (trodAll_cons_mk (Below.trod laidOut (by kernel_rfl) (of_decide_eq_true (by kernel_rfl)) k0 bel lt0) (trodAll_cons_mk (Below.trod laidOut (by kernel_rfl) (of_decide_eq_true (by kernel_rfl)) k1 bel lt1) (trodAll_cons_mk (Below.trod laidOut (by kernel_rfl) (of_decide_eq_true (by kernel_rfl)) k2 bel lt2) trodAll_mk0))), rfl, bel.frame _, fun h => by cases h⟩
theorem over : Rows.localSizesRow.holds Tryz.pinned (OpenSpec.ofChange Rows.localSizesSpec) :=
 OpenClaim.holds_of_wide 4 Tryz.f4 rfl rfl rfl rfl rfl rfl rfl ⟨rfl, rfl, rfl, rfl, rfl⟩ rfl rfl rfl rfl rfl (by kernel_rfl) Tryz.func4 (by kernel_rfl)
  (of_decide_eq_true (by kernel_rfl)) (by unfold Func.isWrapper; first | (rw [if_pos (by decide +kernel)]; kernel_rfl) | (rw [if_neg (by decide +kernel)]; exact ⟨rfl, rfl⟩))
  (fun os started H enc _ => lifted os started H enc)
theorem proved : Rows.LocalSizesSaid := over
#print axioms proved
end Go.Proofs.YtblagbghpfopcaaGreat.localSizes
