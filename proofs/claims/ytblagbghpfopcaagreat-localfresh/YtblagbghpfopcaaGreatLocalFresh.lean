/-
  Proved: for every matrix g and number b: Least, Choices and Sizes leave the matrix that was handed in as it is, and what they answer is new memory: written over, it changes neither the matrix nor what Least answers once more, which is the document's answer (the rules); no condition.
-/
import Derived.Test.YtblagbghpfopcaaGreatQffsh00
import Derived.Test.YtblagbghpfopcaaGreatQffsh50
import Derived.WalkKit
import Derived.SizedLaws
import Derived.ProofKit
import Derived.OpenShut
import Derived.ShutString
import Derived.ChangeOld
import Derived.Below
import Derived.Lib.SmallJoins
import Derived.Deep.Matrix
set_option maxRecDepth 100000
set_option maxHeartbeats 16000000
namespace Go.Proofs.YtblagbghpfopcaaGreat.localFresh
open Go.ChangeShapes Go.WideShapes Go.ChangeAt Go.RowKit Go.Joins
set_option linter.unusedVariables false
theorem own : ownKnob Tryz.prog.godebug = none := by kernel_rfl
theorem laidOut : laidOutB Tryz.prog = true := by kernel_rfl
/-- A slice of integers that came in. -/
def IsRow (k : IntKind) (w : World) (a : Option Addr) (len cap : Nat) (zs : List Int) : Prop :=
 (a = none ∧ len = 0 ∧ cap = 0 ∧ zs = []) ∨
 ∃ x, a = some x ∧ len ≤ cap ∧ cap ≤ 140737488351232 ∧ zs.length = cap ∧ (∀ i, i < zs.length → w.cell? (x.add i) = some (.int k (zs.getD i 0))) ∧ ∀ n ∈ zs, (Lit.int k n).wf = true
/-- A slice of slices of bytes that came in. -/
def IsRows (w : World) (a : Option Addr) (len cap : Nat) : Prop :=
 (a = none ∧ len = 0 ∧ cap = 0) ∨
 ∃ x, a = some x ∧ len ≤ cap ∧ cap ≤ 140737488351232 ∧ ∀ r, r < cap → ∃ b l c zs, w.cell? (x.add r) = some (.slice b l c) ∧ IsRow .u8 w b l c zs
theorem sized_in {H : Type} {P : Program} {ts : List TypeId} {ds : List (DataW H)} (h : (DataW.weightsEach P ts ds).all (· ≤ reachBytes) = true) {j : Nat} {t : TypeId} {d : DataW H} (ht : ts[j]? = some t) (hd : ds[j]? = some d) : (d.weights P t).all (· ≤ reachBytes) = true :=
 List.all_eq_true.2 fun n hn => List.all_eq_true.1 h n (DataW.weights_mem_each ht hd n hn)
theorem sized_all {H : Type} {P : Program} {e : TypeId} : ∀ {ds : List (DataW H)}, (DataW.weightsAll P e ds).all (· ≤ reachBytes) = true → ∀ d ∈ ds, (d.weights P e).all (· ≤ reachBytes) = true
 | [], _, d, hd => by simp at hd
 | d0 :: r, h, d, hd => by
  simp only [DataW.weightsAll, List.all_append, Bool.and_eq_true] at h
  rcases List.mem_cons.1 hd with rfl | hd
  ·exact h.1
  ·exact sized_all h.2 d hd
theorem cellsM : Tryz.prog.cellsOf 24 = 3 := by kernel_rfl

theorem walk (r0 c0 : Int) (a0 : Option Addr) (len0 cap0 : Nat) (z0 : List Int) (n1 : Int) (w : World) (u0 : (Lit.int .i64 r0).wf = true) (v0 : (Lit.int .i64 c0).wf = true) (w0 : IsRow .u8 w a0 len0 cap0 z0) (w1 : (Lit.int .i64 n1).wf = true) :
  Calls Tryz.prog 6 #[.agg #[.int .i64 r0, .int .i64 c0, .slice a0 len0 cap0], .int .i64 n1] w fun e w' => e = .returned (.bool true) ∧ Below w.heap.size w w' := by
 obtain ⟨F, hF, hn0⟩ := qlj w a0 len0 cap0 z0 w0
 obtain ⟨N, hD, hp, hr⟩ := qnl r0 c0 n1 len0 F hF.sl.1
 have HF := qa3 hF
 have HD := qa3 hD
 have HP := qa3 hp
 have HR := qa3 hr
 clear hF w0 w1 hD hp hr
 go_enter Tryz.func6, Tryz.ntmps6
 go_wp2_with (first
  | (go_at_call 22; refine (cp7 _ r0 c0 len0 cap0 a0 F (HF.out.later (qa0 _ _)) hn0).mono ?_; rintro e w1 ⟨sc, dc, rfl, hmc, hb⟩; have HBw : Hid (Below w.heap.size w (w1.alloc (.cells #[.int .i64 r0, .int .i64 c0, .slice sc len0 dc] 24))) := qa1 (qa1 (qa0 _ _) hb) (qa0 _ _); have HB1 : Hid (Below (w1.alloc (.cells #[.int .i64 r0, .int .i64 c0, .slice sc len0 dc] 24)).heap.size (w1.alloc (.cells #[.int .i64 r0, .int .i64 c0, .slice sc len0 dc] 24)) (w1.alloc (.cells #[.int .i64 r0, .int .i64 c0, .slice sc len0 dc] 24))) := Below.refl _ _; have HM1 : Hid (Vr (w1.alloc (.cells #[.int .i64 r0, .int .i64 c0, .slice sc len0 dc] 24)) w.heap.size (.int .i64 r0) (.int .i64 c0) (.slice a0 len0 cap0)) := ((Vr.new w (.int .i64 r0) (.int .i64 c0) (.slice a0 len0 cap0)).later hb).later (qa0 _ _); have HV1 : Hid (Vr (w1.alloc (.cells #[.int .i64 r0, .int .i64 c0, .slice sc len0 dc] 24)) w1.heap.size (.int .i64 r0) (.int .i64 c0) (.slice sc len0 dc)) := Vr.new w1 _ _ _; have HG1 : Hid (Mt (w1.alloc (.cells #[.int .i64 r0, .int .i64 c0, .slice sc len0 dc] 24)) a0 len0 cap0 F) := HF.out.later HBw.out; have HC1 : Hid (Mt (w1.alloc (.cells #[.int .i64 r0, .int .i64 c0, .slice sc len0 dc] 24)) sc len0 dc F) := hmc.later (qa0 _ _); have m1_0 := HM1.out.c0; have m1_1 := HM1.out.c1; have m1_2 := HM1.out.c2; have v1_0 := HV1.out.c0; have v1_1 := HV1.out.c1; have v1_2 := HV1.out.c2; clear hb hmc)
  | (go_at_call 7; have _x := HB1; refine (HP.out _ _ _ HC1.out).mono ?_; rintro e w2 ⟨x2, v2, s2, L2, E2, P2, rfl, hs2, hL2, hP2, _, hb⟩; have HB2 : Hid (Below (w1.alloc (.cells #[.int .i64 r0, .int .i64 c0, .slice sc len0 dc] 24)).heap.size (w1.alloc (.cells #[.int .i64 r0, .int .i64 c0, .slice sc len0 dc] 24)) w2) := qa1 HB1.out hb; have HM2 : Hid (Vr w2 w.heap.size (.int .i64 r0) (.int .i64 c0) (.slice a0 len0 cap0)) := HM1.out.later hb; have HV2 : Hid (Vr w2 w1.heap.size (.int .i64 r0) (.int .i64 c0) (.slice sc len0 dc)) := HV1.out.later hb; have HG2 : Hid (Mt w2 a0 len0 cap0 F) := HG1.out.later hb; have HC2 : Hid (Mt w2 sc len0 dc F) := HC1.out.later hb; have m2_0 := HM2.out.c0; have v2_0 := HV2.out.c0; have m2_1 := HM2.out.c1; have v2_1 := HV2.out.c1; have m2_2 := HM2.out.c2; have v2_2 := HV2.out.c2; have HS2 := qa3 hs2; have hz2 := hb.size; clear hs2 hP2; clear hb)
  | (go_at_call 12; have _x := HB2; refine (qnk _ r0 c0 n1 4 len0 dc sc F HC2.out).mono ?_; rintro e w3 ⟨s3, L3, d3, E3, rfl, hL3, hw3, hb⟩; have HB3 : Hid (Below (w1.alloc (.cells #[.int .i64 r0, .int .i64 c0, .slice sc len0 dc] 24)).heap.size (w1.alloc (.cells #[.int .i64 r0, .int .i64 c0, .slice sc len0 dc] 24)) w3) := qa1 HB2.out hb; have HM3 : Hid (Vr w3 w.heap.size (.int .i64 r0) (.int .i64 c0) (.slice a0 len0 cap0)) := HM2.out.later hb; have HV3 : Hid (Vr w3 w1.heap.size (.int .i64 r0) (.int .i64 c0) (.slice sc len0 dc)) := HV2.out.later hb; have HG3 : Hid (Mt w3 a0 len0 cap0 F) := HG2.out.later hb; have HC3 : Hid (Mt w3 sc len0 dc F) := HC2.out.later hb; have m3_0 := HM3.out.c0; have v3_0 := HV3.out.c0; have m3_1 := HM3.out.c1; have v3_1 := HV3.out.c1; have m3_2 := HM3.out.c2; have v3_2 := HV3.out.c2; have hb3' := hb; have HW3 := qa3 hw3; have hz3 := hb.size; clear hw3; clear hb)
  | (go_at_call 10; have _x := HB3; refine (sizes_w _ r0 c0 len0 dc sc F HC3.out).mono ?_; rintro e w4 ⟨s4, L4, d4, E4, rfl, hL4, hw4, hb⟩; have HB4 : Hid (Below (w1.alloc (.cells #[.int .i64 r0, .int .i64 c0, .slice sc len0 dc] 24)).heap.size (w1.alloc (.cells #[.int .i64 r0, .int .i64 c0, .slice sc len0 dc] 24)) w4) := qa1 HB3.out hb; have HM4 : Hid (Vr w4 w.heap.size (.int .i64 r0) (.int .i64 c0) (.slice a0 len0 cap0)) := HM3.out.later hb; have HV4 : Hid (Vr w4 w1.heap.size (.int .i64 r0) (.int .i64 c0) (.slice sc len0 dc)) := HV3.out.later hb; have HG4 : Hid (Mt w4 a0 len0 cap0 F) := HG3.out.later hb; have HC4 : Hid (Mt w4 sc len0 dc F) := HC3.out.later hb; have m4_0 := HM4.out.c0; have v4_0 := HV4.out.c0; have m4_1 := HM4.out.c1; have v4_1 := HV4.out.c1; have m4_2 := HM4.out.c2; have v4_2 := HV4.out.c2; have hb4' := hb; have HW4 := qa3 hw4; have HW34 : Hid (WrS w4 s3 L3 w2.heap.size w3.heap.size) := HW3.out.later hb; have hz4 := hb.size; clear hw4; clear hb))
 obtain ⟨row, hrow, hsp⟩ := spoil19 w4 s2 L2 (w1.alloc (.cells #[.int .i64 r0, .int .i64 c0, .slice sc len0 dc] 24)).heap.size P2 hL2 (HS2.out.elim .inl (fun ⟨g, e, hg, hr⟩ => .inr ⟨g, e, hg, (hr.later hb3').later hb4'⟩))
 have hrow2 : ∀ g, row = some g → (w1.alloc (.cells #[.int .i64 r0, .int .i64 c0, .slice sc len0 dc] 24)).heap.size ≤ g ∧ g < w2.heap.size := fun g e => by
  obtain ⟨h1, gg, e2, e3⟩ := hrow g e
  subst e3
  rcases HS2.out with ⟨e4, _⟩ | ⟨g', e4, _, hr⟩
  ·rw [e2] at e4; cases e4
  ·rw [e2] at e4
   cases e4
   exact ⟨h1, hr.lt⟩
 have HSp := qa3 hsp
 clear hsp hrow m4_0 m4_1 m4_2 v4_0 v4_1 v4_2
 go_wp2_with (go_at_call 23; refine HSp.out.mono ?_; rintro e w5 ⟨rfl, hg5⟩; have HG5' := qa3 hg5; clear hg5)
 have HB5 : Hid (Below (w1.alloc (.cells #[.int .i64 r0, .int .i64 c0, .slice sc len0 dc] 24)).heap.size (w1.alloc (.cells #[.int .i64 r0, .int .i64 c0, .slice sc len0 dc] 24)) w5) := HB4.out.trans (jbelow HG5'.out (by have := HB4.out.size; omega) (fun g e => (hrow2 g e).1))
 have HW35 : Hid (WrS w5 s3 L3 w2.heap.size w3.heap.size) := HW34.out.kept HG5'.out (fun g e => .inl (hrow2 g e).2)
 have HW45 : Hid (WrS w5 s4 L4 w3.heap.size w4.heap.size) := HW4.out.kept HG5'.out (fun g e => .inl (by have := (hrow2 g e).2; omega))
 have hz5 := HG5'.out.size
 have hz12 : (w1.alloc (.cells #[.int .i64 r0, .int .i64 c0, .slice sc len0 dc] 24)).heap.size ≤ w2.heap.size := hz2
 clear HG5' hrow2 HSp HS2 HW3 HW34 HW4 hb3' hb4' HB2 HB3 HB4 HM2 HM3 HM4 HV2 HV3 HV4 HG2 HG3 HG4 HC2 HC3 HC4
 go_loopw [14] (fun si wi => ∃ i : Nat, i ≤ L3 ∧ si = .int .i64 (i : Int) ∧ WrS wi s3 L3 w2.heap.size w3.heap.size ∧ WrS wi s4 L4 w3.heap.size w4.heap.size ∧ Below w2.heap.size w5 wi) (fun si _ => L3 - (intOf si).toNat)
 case atStart => exact ⟨0, by omega, rfl, HW35.out, HW45.out, Below.refl _ _⟩
 case round =>
  clear HW35 HW45
  obtain ⟨i, hi, rfl, h3, h4, hB⟩ := hrel
  have H3 := qa3 h3
  have H4 := qa3 h4
  have HBi := qa3 hB
  have hsz := hB.size
  clear h3 h4 hB
  by_cases hlt : i < L3
  ·obtain ⟨g, y, es, hg1, hg2, hcl, hfl, hset⟩ := H3.out.open hlt
   have HSt := qa3 hset
   have p0 : (0 : Int) ≤ (i : Int) := by omega
   have p1 : (i : Int) < (L3 : Int) := by omega
   have d2 : decide (i < L3) = true := decide_eq_true hlt
   clear hset
   subst es
   go_wp2
   exact ⟨⟨i + 1, by omega, by go_num, HSt.out _, H4.out.kept (qah _ _ _ _) (fun g' e => .inl (by have := Option.some.inj e; omega)), HBi.out.trans (jbelow (qah _ _ _ _) (by omega) (fun g' e => by have := Option.some.inj e; omega))⟩, by simp [intOf]; omega⟩
  ·have d2 : decide (i < L3) = false := decide_eq_false hlt
   have d1 : decide ((i : Int) < (L3 : Int)) = false := decide_eq_false (by omega)
   clear hi hlt
   go_wp2
   clear d1 d2
   go_loopw [15] (fun si wi => ∃ i : Nat, i ≤ L4 ∧ si = .int .i64 (i : Int) ∧ WrS wi s4 L4 w3.heap.size w4.heap.size ∧ Below w2.heap.size w5 wi) (fun si _ => L4 - (intOf si).toNat)
   case atStart => exact ⟨0, by omega, rfl, H4.out, HBi.out⟩
   case round =>
    clear H3 H4 HBi hsz
    obtain ⟨i, hi, rfl, h4, hB⟩ := hrel
    have H4 := qa3 h4
    have HBi := qa3 hB
    have hsz := hB.size
    clear h4 hB
    by_cases hlt : i < L4
    ·obtain ⟨g, y, es, hg1, hg2, hcl, hfl, hset⟩ := H4.out.open hlt
     have HSt := qa3 hset
     have p0 : (0 : Int) ≤ (i : Int) := by omega
     have p1 : (i : Int) < (L4 : Int) := by omega
     have d2 : decide (i < L4) = true := decide_eq_true hlt
     clear hset
     subst es
     go_wp2
     exact ⟨⟨i + 1, by omega, by go_num, HSt.out _, HBi.out.trans (jbelow (qah _ _ _ _) (by omega) (fun g' e => by have := Option.some.inj e; omega))⟩, by simp [intOf]; omega⟩
    ·have d2 : decide (i < L4) = false := decide_eq_false hlt
     have d1 : decide ((i : Int) < (L4 : Int)) = false := decide_eq_false (by omega)
     have HB6 : Hid (Below (w1.alloc (.cells #[.int .i64 r0, .int .i64 c0, .slice sc len0 dc] 24)).heap.size (w1.alloc (.cells #[.int .i64 r0, .int .i64 c0, .slice sc len0 dc] 24)) wr) := HB5.out.trans (HBi.out.mono hz12)
     have HM6 : Hid (Vr wr w.heap.size (.int .i64 r0) (.int .i64 c0) (.slice a0 len0 cap0)) := HM1.out.later HB6.out
     have HV6 : Hid (Vr wr w1.heap.size (.int .i64 r0) (.int .i64 c0) (.slice sc len0 dc)) := HV1.out.later HB6.out
     have HG6 : Hid (Mt wr a0 len0 cap0 F) := HG1.out.later HB6.out
     have HC6 : Hid (Mt wr sc len0 dc F) := HC1.out.later HB6.out
     have m6_0 := HM6.out.c0
     have v6_0 := HV6.out.c0
     have m6_1 := HM6.out.c1
     have v6_1 := HV6.out.c1
     have m6_2 := HM6.out.c2
     have v6_2 := HV6.out.c2
     clear hi hlt HBi H4 HB5
     go_wp2_with (first
      | (go_at_call 9; refine (qgw _ _ _ L7 L7 L7 P7 HS710.out HS10.out).mono ?_; rintro e w11 ⟨rfl, rfl⟩)
      | (go_at_call 24; have _x := HB9; refine (like7 _ r0 c0 sc a0 len0 dc cap0 F HC9.out HG9.out).mono ?_; rintro e w10 ⟨rfl, hb⟩; have HB10 : Hid (Below (w1.alloc (.cells #[.int .i64 r0, .int .i64 c0, .slice sc len0 dc] 24)).heap.size (w1.alloc (.cells #[.int .i64 r0, .int .i64 c0, .slice sc len0 dc] 24)) w10) := qa1 HB9.out hb; have HM10 : Hid (Vr w10 w.heap.size (.int .i64 r0) (.int .i64 c0) (.slice a0 len0 cap0)) := HM9.out.later hb; have HV10 : Hid (Vr w10 w1.heap.size (.int .i64 r0) (.int .i64 c0) (.slice sc len0 dc)) := HV9.out.later hb; have HG10 : Hid (Mt w10 a0 len0 cap0 F) := HG9.out.later hb; have HC10 : Hid (Mt w10 sc len0 dc F) := HC9.out.later hb; have m10_0 := HM10.out.c0; have v10_0 := HV10.out.c0; have m10_1 := HM10.out.c1; have v10_1 := HV10.out.c1; have m10_2 := HM10.out.c2; have v10_2 := HV10.out.c2; have HS10 : Hid (Sl w10 s8 L7 P7) := HS9.out.later hb; have HS710 : Hid (Sl w10 s7 L7 P7) := HS79.out.later hb; clear hb)
      | (go_at_call 18; have _x := HB8; refine (anch19 _).mono ?_; rintro e w9 ⟨rfl, hb⟩; have HB9 : Hid (Below (w1.alloc (.cells #[.int .i64 r0, .int .i64 c0, .slice sc len0 dc] 24)).heap.size (w1.alloc (.cells #[.int .i64 r0, .int .i64 c0, .slice sc len0 dc] 24)) w9) := qa1 HB8.out hb; have HM9 : Hid (Vr w9 w.heap.size (.int .i64 r0) (.int .i64 c0) (.slice a0 len0 cap0)) := HM8.out.later hb; have HV9 : Hid (Vr w9 w1.heap.size (.int .i64 r0) (.int .i64 c0) (.slice sc len0 dc)) := HV8.out.later hb; have HG9 : Hid (Mt w9 a0 len0 cap0 F) := HG8.out.later hb; have HC9 : Hid (Mt w9 sc len0 dc F) := HC8.out.later hb; have m9_0 := HM9.out.c0; have v9_0 := HV9.out.c0; have m9_1 := HM9.out.c1; have v9_1 := HV9.out.c1; have m9_2 := HM9.out.c2; have v9_2 := HV9.out.c2; have HS9 : Hid (Sl w9 s8 L7 P7) := HS8.out.later hb; have HS79 : Hid (Sl w9 s7 L7 P7) := HS78.out.later hb; clear hb)
      | (go_at_call 8; have _x := HB7; refine (HR.out _ _ _ HG7.out).mono ?_; rintro e w8 ⟨x8, v8, s8, L8, E8, P8, rfl, hs8, hL8, hP8, hN8, hb⟩; have HB8 : Hid (Below (w1.alloc (.cells #[.int .i64 r0, .int .i64 c0, .slice sc len0 dc] 24)).heap.size (w1.alloc (.cells #[.int .i64 r0, .int .i64 c0, .slice sc len0 dc] 24)) w8) := qa1 HB7.out hb; have HM8 : Hid (Vr w8 w.heap.size (.int .i64 r0) (.int .i64 c0) (.slice a0 len0 cap0)) := HM7.out.later hb; have HV8 : Hid (Vr w8 w1.heap.size (.int .i64 r0) (.int .i64 c0) (.slice sc len0 dc)) := HV7.out.later hb; have HG8 : Hid (Mt w8 a0 len0 cap0 F) := HG7.out.later hb; have HC8 : Hid (Mt w8 sc len0 dc F) := HC7.out.later hb; have m8_0 := HM8.out.c0; have v8_0 := HV8.out.c0; have m8_1 := HM8.out.c1; have v8_1 := HV8.out.c1; have m8_2 := HM8.out.c2; have v8_2 := HV8.out.c2; obtain ⟨e1, e2, e3⟩ := HD.out _ _ _ _ _ _ HN7.out hN8; subst e1; subst e2; have HS8 : Hid (Sl w8 s8 L7 P7) := sl_same (qnm hs8 hP8) HPe7.out e3; have HS78 : Hid (Sl w8 s7 L7 P7) := HS7.out.later hb; have q1 : (E7 == E7) = true := (by simp); clear hs8 hP8 hN8 e3; clear hb)
      | (go_at_call 7; refine (HP.out _ _ _ HC6.out).mono ?_; rintro e w7 ⟨x7, v7, s7, L7, E7, P7, rfl, hs7, hL7, hP7, hN7, hb⟩; have HB7 : Hid (Below (w1.alloc (.cells #[.int .i64 r0, .int .i64 c0, .slice sc len0 dc] 24)).heap.size (w1.alloc (.cells #[.int .i64 r0, .int .i64 c0, .slice sc len0 dc] 24)) w7) := qa1 HB6.out hb; have HM7 : Hid (Vr w7 w.heap.size (.int .i64 r0) (.int .i64 c0) (.slice a0 len0 cap0)) := HM6.out.later hb; have HV7 : Hid (Vr w7 w1.heap.size (.int .i64 r0) (.int .i64 c0) (.slice sc len0 dc)) := HV6.out.later hb; have HG7 : Hid (Mt w7 a0 len0 cap0 F) := HG6.out.later hb; have HC7 : Hid (Mt w7 sc len0 dc F) := HC6.out.later hb; have m7_0 := HM7.out.c0; have v7_0 := HV7.out.c0; have m7_1 := HM7.out.c1; have v7_1 := HV7.out.c1; have m7_2 := HM7.out.c2; have v7_2 := HV7.out.c2; have HS7 : Hid (Sl w7 s7 L7 P7) := qnm hs7 hP7; have HN7 := qa3 hN7; have HPe7 := qa3 hP7; clear hs7 hP7 hN7; clear hb))
     go_ret
     exact ⟨rfl, qa1 HBw.out HB10.out⟩
theorem lifted (os : Os) (started : os.Started) (H : Type) (enc : TypeId × Value → H) :
  ReturnsInHanded {} Tryz.checked os 6 .any (Rows.localFreshSpec.pre6 enc Tryz.prog Tryz.f6 Rows.localFreshRow.domain false) (Rows.localFreshSpec.post enc Tryz.prog Tryz.f6 false true false false) := by
 refine returnsInHanded_of_change_sized (C := Tryz.checked) own started (by kernel_rfl) Tryz.func6
  (ChangeSpec.witness6 (enc := enc) (C := Tryz.checked) false ⟨#[], #[.agg #[.int .i64 0, .int .i64 0, .slice none 0 0], .int .i64 0], []⟩ 8 (by kernel_rfl) (by kernel_rfl) (by kernel_rfl) (by kernel_rfl)) ?_
 intro W base args ds gs before hval0 hW hcnd hsz0 _
 have hsz : (DataW.weightsEach Tryz.prog (Tryz.f6.params.toList ++ Rows.localFreshSpec.plain.varTypes Tryz.prog) (ds ++ gs)).all (· ≤ reachBytes) = true := hsz0
 clear hsz0
 have hval : ∀ (j : Nat) t v, Tryz.f6.params[j]? = some t → args[j]? = some v → Value.okWide Tryz.prog W .any base t v := hval0
 have hW' := hW
 obtain ⟨p, q, hA0, hV, rfl, hfz, hnd⟩ := hW
 have hA : DataW.TrodAll enc Tryz.prog W 0 (fun _ => true) true Tryz.f6.params.toList args.toList ds p := hA0
 rw [Tryz.params6] at hA hval hsz
 obtain ⟨va0, vs0, d0, ds0, p0, q0, hargs, rfl, rfl, h0, tr0⟩ := trodAll_cons hA
 obtain ⟨va1, vs1, d1, ds1, p1, q1, rfl, rfl, rfl, h1, tr1⟩ := trodAll_cons tr0
 obtain ⟨rfl, rfl, rfl⟩ := trodAll_nil tr1
 obtain rfl : args = #[va0, va1] := by cases args; simp_all
 obtain ⟨rfl, rfl⟩ := trodVars_none hV
 have k0 := h0
 have lt0 : ∀ x ∈ p0, x.block < W.heap.size := by obtain ⟨m, hm⟩ := k0; exact DataW.trod_lt m _ _ _ hm
 obtain ⟨f0, g0, s0, y0, x0, e0, m0, rfl, rfl, rfl, hf0, hg0, hs0⟩ := open_agg3 Tryz.underlying24 (by kernel_rfl) cellsM (hval 0 24 va0 rfl rfl) h0
 obtain ⟨r0, er0, rfl, u0⟩ := DataW.trod_int Tryz.underlying3 hf0
 obtain ⟨c0, ec0, rfl, v0⟩ := DataW.trod_int Tryz.underlying3 hg0
 simp only [List.cons.injEq, and_true] at er0 ec0
 subst er0 ec0
 obtain ⟨a0, len0, cap0, rfl⟩ : ∃ a l c, s0 = .slice a l c := by
  rcases open_ints Tryz.underlying22 Tryz.underlying5 (by kernel_rfl) hs0 with ⟨hcs, _⟩ | ⟨x, l, c, zs, hcs, _⟩
  ·simp only [List.cons.injEq, and_true] at hcs; exact ⟨_, _, _, hcs⟩
  ·simp only [List.cons.injEq, and_true] at hcs; exact ⟨_, _, _, hcs⟩
 obtain ⟨z0, w0⟩ : ∃ zs, IsRow .u8 W a0 len0 cap0 zs := by
  obtain ⟨fuel, hf⟩ := (⟨m0, hs0⟩ : ∃ fuel, DataW.trod enc Tryz.prog W 0 (fun _ => true) true fuel 22 [.slice a0 len0 cap0] = some e0)
  rcases open_ints Tryz.underlying22 Tryz.underlying5 (by kernel_rfl) hf with ⟨hcs, _⟩ | ⟨x, l, c, zs, hcs, _, hl, hm, hz, hxx, hcell, hwz⟩
  ·simp at hcs
   obtain ⟨rfl, rfl, rfl⟩ := hcs
   exact ⟨[], .inl ⟨rfl, rfl, rfl, rfl⟩⟩
  ·simp at hcs
   obtain ⟨rfl, rfl, rfl⟩ := hcs
   have hd := congrArg Prod.fst hxx
   have hs := sized_slice (sized_in hsz (j := 0) (t := 24) rfl rfl) (j := 2) (t := 22) (e := 5) rfl (congrArg some hd) Tryz.underlying22
   rw [show Tryz.prog.bytesOf 5 = 1 from by kernel_rfl] at hs
   have hzl : zs.length = cap0 := by simpa using hz
   simp only [lits, List.length_map, List.length_take, List.length_drop, reachBytes] at hs
   exact ⟨zs, .inr ⟨_, rfl, hl, by omega, by simpa using hz, hcell, hwz⟩⟩
 have k1 := h1
 have lt1 : ∀ x ∈ p1, x.block < W.heap.size := by obtain ⟨m, hm⟩ := k1; exact DataW.trod_lt m _ _ _ hm
 obtain ⟨n1, rfl, w1⟩ : ∃ n, va1 = .int .i64 n ∧ (Lit.int .i64 n).wf = true := by
  obtain ⟨n, rfl, _, _, hw⟩ := open_int Tryz.underlying3 (hval 1 3 va1 rfl rfl) h1
  exact ⟨n, rfl, hw⟩
 clear hA0 hval0
 refine (walk r0 c0 a0 len0 cap0 z0 n1 W u0 v0 w0 w1).mono fun e W' ⟨he, bel⟩ => ?_
 subst he
 exact ⟨_, rfl, _, _, _, [], _, [], hW', trodAll_mk1 (shut_bool Tryz.underlying4 _), (trodAll_cons_mk (Below.trod laidOut (by kernel_rfl) (of_decide_eq_true (by kernel_rfl)) k0 bel lt0) (trodAll_cons_mk (Below.trod laidOut (by kernel_rfl) (of_decide_eq_true (by kernel_rfl)) k1 bel lt1) trodAll_mk0)), rfl, bel.frame _, fun h => by cases h⟩
theorem over : Rows.localFreshRow.holds Tryz.pinned (OpenSpec.ofChange Rows.localFreshSpec) :=
 OpenClaim.holds_of_wide 6 Tryz.f6 rfl rfl rfl rfl rfl rfl rfl ⟨rfl, rfl, rfl, rfl, rfl⟩ rfl rfl rfl rfl rfl (by kernel_rfl) Tryz.func6 (by kernel_rfl)
  (of_decide_eq_true (by kernel_rfl)) (by unfold Func.isWrapper; first | (rw [if_pos (by decide +kernel)]; kernel_rfl) | (rw [if_neg (by decide +kernel)]; exact ⟨rfl, rfl⟩))
  (fun os started H enc _ => lifted os started H enc)
theorem proved : Rows.LocalFreshSaid := over
#print axioms proved
end Go.Proofs.YtblagbghpfopcaaGreat.localFresh
