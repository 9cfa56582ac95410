/-
  Proved: for every matrix g and number b that is a row's: where Least tells a set, its factors, put together, are the row b, stand in that set alone, none of them 0, and the set is independent; where it tells none no others repair b; an error only with more than 14 rows (P19.5); no condition.
-/
import Derived.Test.YtblagbghpfopcaaQppts00
import Derived.Test.YtblagbghpfopcaaQppts49
import Derived.Test.YtblagbghpfopcaaQppts50
import Derived.WalkKit
import Derived.SizedLaws
import Derived.ProofKit
import Derived.OpenShut
import Derived.ShutString
import Derived.ChangeOld
import Derived.Below
import Derived.Lib.SmallJoins
import Derived.Deep.Matrix
set_option maxRecDepth 100000
set_option maxHeartbeats 16000000
namespace Go.Proofs.Ytblagbghpfopcaa.localPuts
open Go.ChangeShapes Go.WideShapes Go.ChangeAt Go.RowKit Go.Joins
set_option linter.unusedVariables false
theorem own : ownKnob Try.prog.godebug = none := by kernel_rfl
theorem laidOut : laidOutB Try.prog = true := by kernel_rfl
/-- A slice of integers that came in. -/
def IsRow (k : IntKind) (w : World) (a : Option Addr) (len cap : Nat) (zs : List Int) : Prop :=
 (a = none ∧ len = 0 ∧ cap = 0 ∧ zs = []) ∨
 ∃ x, a = some x ∧ len ≤ cap ∧ cap ≤ 140737488351232 ∧ zs.length = cap ∧ (∀ i, i < zs.length → w.cell? (x.add i) = some (.int k (zs.getD i 0))) ∧ ∀ n ∈ zs, (Lit.int k n).wf = true
/-- A slice of slices of bytes that came in. -/
def IsRows (w : World) (a : Option Addr) (len cap : Nat) : Prop :=
 (a = none ∧ len = 0 ∧ cap = 0) ∨
 ∃ x, a = some x ∧ len ≤ cap ∧ cap ≤ 140737488351232 ∧ ∀ r, r < cap → ∃ b l c zs, w.cell? (x.add r) = some (.slice b l c) ∧ IsRow .u8 w b l c zs
theorem sized_in {H : Type} {P : Program} {ts : List TypeId} {ds : List (DataW H)} (h : (DataW.weightsEach P ts ds).all (· ≤ reachBytes) = true) {j : Nat} {t : TypeId} {d : DataW H} (ht : ts[j]? = some t) (hd : ds[j]? = some d) : (d.weights P t).all (· ≤ reachBytes) = true :=
 List.all_eq_true.2 fun n hn => List.all_eq_true.1 h n (DataW.weights_mem_each ht hd n hn)
theorem sized_all {H : Type} {P : Program} {e : TypeId} : ∀ {ds : List (DataW H)}, (DataW.weightsAll P e ds).all (· ≤ reachBytes) = true → ∀ d ∈ ds, (d.weights P e).all (· ≤ reachBytes) = true
 | [], _, d, hd => by simp at hd
 | d0 :: r, h, d, hd => by
  simp only [DataW.weightsAll, List.all_append, Bool.and_eq_true] at h
  rcases List.mem_cons.1 hd with rfl | hd
  ·exact h.1
  ·exact sized_all h.2 d hd
theorem cellsM : Try.prog.cellsOf 24 = 3 := by kernel_rfl

theorem walk (r0 c0 : Int) (a0 : Option Addr) (len0 cap0 : Nat) (z0 : List Int) (n1 : Int) (w : World) (u0 : (Lit.int .i64 r0).wf = true) (v0 : (Lit.int .i64 c0).wf = true) (w0 : IsRow .u8 w a0 len0 cap0 z0) (w1 : (Lit.int .i64 n1).wf = true) :
  Calls Try.prog 3 #[.agg #[.int .i64 r0, .int .i64 c0, .slice a0 len0 cap0], .int .i64 n1] w fun e w' => e = .returned (.bool true) ∧ Below w.heap.size w w' := by
 obtain ⟨F, hF, hn0⟩ := qju w a0 len0 cap0 z0 w0
 obtain ⟨E, hE⟩ := wrg_ex r0 c0 n1 len0
 rcases hE with ⟨hg, rfl⟩ | ⟨hg, hb, rfl⟩ | ⟨hg, hb, rfl⟩
 ·have HL : Hid (∀ w' : World, Calls Try.prog 5 #[mv r0 c0 a0 len0 cap0, .int .i64 n1] w' fun e w'' => e = .returned (.tuple #[.int .u64 0, .slice none 0 0, .bool false, .int .i64 3]) ∧ Below w'.heap.size w' w'') := fun w' => qes w' r0 c0 n1 3 len0 cap0 a0 (.inl ⟨hg, rfl⟩) (by decide)
  have HG : Hid (∀ w' : World, Calls Try.prog 6 #[mv r0 c0 a0 len0 cap0] w' fun e w'' => e = .returned (.bool false) ∧ Below w'.heap.size w' w'') := fun w' => ql5 w' r0 c0 len0 cap0 a0 false (by simp [hg])
  clear hF hn0 w0 w1 hg
  go_enter Try.func3, Try.ntmps3
  go_wp2_with (first
   | (go_at_call 7; have _x := HB2; refine (qet _).mono ?_; rintro e w3 ⟨rfl, hb⟩; have HV3 : Hid (Vr w3 w.heap.size (.int .i64 r0) (.int .i64 c0) (.slice a0 len0 cap0)) := HV2.out.later hb; have l3_0 := HV3.out.c0; have l3_1 := HV3.out.c1; have l3_2 := HV3.out.c2; have HB3 : Hid (Below w.heap.size w w3) := qa1 HB2.out hb; clear hb)
   | (go_at_call 6; have _x := HB1; refine (HG.out _).mono ?_; rintro e w2 ⟨rfl, hb⟩; have HV2 : Hid (Vr w2 w.heap.size (.int .i64 r0) (.int .i64 c0) (.slice a0 len0 cap0)) := HV1.out.later hb; have l2_0 := HV2.out.c0; have l2_1 := HV2.out.c1; have l2_2 := HV2.out.c2; have HB2 : Hid (Below w.heap.size w w2) := qa1 HB1.out hb; clear hb)
   | (go_at_call 5; refine (HL.out _).mono ?_; rintro e w1 ⟨rfl, hb⟩; have HV1 : Hid (Vr w1 w.heap.size (.int .i64 r0) (.int .i64 c0) (.slice a0 len0 cap0)) := (Vr.new w (.int .i64 r0) (.int .i64 c0) (.slice a0 len0 cap0)).later hb; have l1_0 := HV1.out.c0; have l1_1 := HV1.out.c1; have l1_2 := HV1.out.c2; have HB1 : Hid (Below w.heap.size w w1) := qa1 (qa0 _ _) hb; clear hb))
  go_ret
  exact ⟨rfl, HB3.out⟩
 ·have HL : Hid (∀ w' : World, Calls Try.prog 5 #[mv r0 c0 a0 len0 cap0, .int .i64 n1] w' fun e w'' => e = .returned (.tuple #[.int .u64 0, .slice none 0 0, .bool false, .int .i64 2]) ∧ Below w'.heap.size w' w'') := fun w' => qes w' r0 c0 n1 2 len0 cap0 a0 (.inr (.inl ⟨hg, hb, rfl⟩)) (by decide)
  have HG : Hid (∀ w' : World, Calls Try.prog 6 #[mv r0 c0 a0 len0 cap0] w' fun e w'' => e = .returned (.bool true) ∧ Below w'.heap.size w' w'') := fun w' => ql5 w' r0 c0 len0 cap0 a0 true (by simp [hg])
  by_cases h0 : n1 < 0
  ·have g1 : decide (n1 < 0) = true := decide_eq_true h0
   clear hF hn0 w0 w1 hg hb
   go_enter Try.func3, Try.ntmps3
   go_wp2_with (first
    | (go_at_call 7; have _x := HB2; refine (qet _).mono ?_; rintro e w3 ⟨rfl, hb⟩; have HV3 : Hid (Vr w3 w.heap.size (.int .i64 r0) (.int .i64 c0) (.slice a0 len0 cap0)) := HV2.out.later hb; have l3_0 := HV3.out.c0; have l3_1 := HV3.out.c1; have l3_2 := HV3.out.c2; have HB3 : Hid (Below w.heap.size w w3) := qa1 HB2.out hb; clear hb)
    | (go_at_call 6; have _x := HB1; refine (HG.out _).mono ?_; rintro e w2 ⟨rfl, hb⟩; have HV2 : Hid (Vr w2 w.heap.size (.int .i64 r0) (.int .i64 c0) (.slice a0 len0 cap0)) := HV1.out.later hb; have l2_0 := HV2.out.c0; have l2_1 := HV2.out.c1; have l2_2 := HV2.out.c2; have HB2 : Hid (Below w.heap.size w w2) := qa1 HB1.out hb; clear hb)
    | (go_at_call 5; refine (HL.out _).mono ?_; rintro e w1 ⟨rfl, hb⟩; have HV1 : Hid (Vr w1 w.heap.size (.int .i64 r0) (.int .i64 c0) (.slice a0 len0 cap0)) := (Vr.new w (.int .i64 r0) (.int .i64 c0) (.slice a0 len0 cap0)).later hb; have l1_0 := HV1.out.c0; have l1_1 := HV1.out.c1; have l1_2 := HV1.out.c2; have HB1 : Hid (Below w.heap.size w w1) := qa1 (qa0 _ _) hb; clear hb))
   go_ret
   exact ⟨rfl, HB3.out⟩
  ·have g1 : decide (n1 < 0) = false := decide_eq_false h0
   have g2 : decide (r0 ≤ n1) = true := decide_eq_true (by omega)
   clear hF hn0 w0 w1 hg hb
   go_enter Try.func3, Try.ntmps3
   go_wp2_with (first
    | (go_at_call 7; have _x := HB2; refine (qet _).mono ?_; rintro e w3 ⟨rfl, hb⟩; have HV3 : Hid (Vr w3 w.heap.size (.int .i64 r0) (.int .i64 c0) (.slice a0 len0 cap0)) := HV2.out.later hb; have l3_0 := HV3.out.c0; have l3_1 := HV3.out.c1; have l3_2 := HV3.out.c2; have HB3 : Hid (Below w.heap.size w w3) := qa1 HB2.out hb; clear hb)
    | (go_at_call 6; have _x := HB1; refine (HG.out _).mono ?_; rintro e w2 ⟨rfl, hb⟩; have HV2 : Hid (Vr w2 w.heap.size (.int .i64 r0) (.int .i64 c0) (.slice a0 len0 cap0)) := HV1.out.later hb; have l2_0 := HV2.out.c0; have l2_1 := HV2.out.c1; have l2_2 := HV2.out.c2; have HB2 : Hid (Below w.heap.size w w2) := qa1 HB1.out hb; clear hb)
    | (go_at_call 5; refine (HL.out _).mono ?_; rintro e w1 ⟨rfl, hb⟩; have HV1 : Hid (Vr w1 w.heap.size (.int .i64 r0) (.int .i64 c0) (.slice a0 len0 cap0)) := (Vr.new w (.int .i64 r0) (.int .i64 c0) (.slice a0 len0 cap0)).later hb; have l1_0 := HV1.out.c0; have l1_1 := HV1.out.c1; have l1_2 := HV1.out.c2; have HB1 : Hid (Below w.heap.size w w1) := qa1 (qa0 _ _) hb; clear hb))
   go_ret
   exact ⟨rfl, HB3.out⟩
 ·have HG : Hid (∀ w' : World, Calls Try.prog 6 #[mv r0 c0 a0 len0 cap0] w' fun e w'' => e = .returned (.bool true) ∧ Below w'.heap.size w' w'') := fun w' => ql5 w' r0 c0 len0 cap0 a0 true (by simp [hg])
  have HGq := qa6 hg
  obtain ⟨r, c, rfl, rfl, R, hc1, hcr⟩ := hg.nat
  obtain ⟨b, rfl⟩ := Int.eq_ofNat_of_zero_le hb.1
  have hbr : b < r := by omega
  have hr := R.r64
  have hM := qaz hF.sl.1 R
  obtain ⟨C, f, ix, G, O⟩ := qi3 r b hr hbr
  obtain ⟨A, hA⟩ : ∃ A, 2 ^ r - 1 = A := ⟨_, rfl⟩
  have hp := Nat.two_pow_pos r
  have hA2 : A < 2 ^ r := by omega
  have HFu : Hid (∀ w' : World, Calls Try.prog 9 #[.int .i64 (r : Int)] w' fun e w'' => e = .returned (.tuple #[.int .u64 (A : Int), .int .i64 0]) ∧ Below w'.heap.size w' w'') := fun w' => (qhp r w' hr).mono (fun e w'' h => by obtain ⟨h1, rfl⟩ := h; rw [hA] at h1; exact ⟨h1, Below.refl _ _⟩)
  obtain ⟨T, HT⟩ : ∃ T : Nat, Hid (2 ^ b = T) := ⟨_, rfl⟩
  have hb6 : b < 64 := by omega
  have hmin : min b 64 = b := by omega
  have hp2 : IntKind.u64.wrap (2 ^ b) = (T : Int) := by rw [← HT.out]; exact qfa b hb6
  have hp3 : IntKind.u64.wrap (2 ^ min (IntKind.u64.wrap (b : Int)).toNat 64) = (T : Int) := by rw [shift_m hb6]; exact hp2
  obtain ⟨t, ht⟩ : ∃ t, rem A b = t := ⟨_, rfl⟩
  have han : bits .andNot .u64 (A : Int) (T : Int) = (t : Int) := j_rem7 hr hA2 hbr HT.out ht
  have htl : t < 2 ^ r := by rw [← ht]; exact qku hA2
  have htb : ¬ bt t b = 1 := by rw [← ht]; exact fun e => ((qd8 (qce hr hA2) hb6 b).1 e).2 rfl
  obtain ⟨P, hP⟩ : ∃ P, SpS (m2 F r c) r t P := qi1 _ r
  have HSp := qiw (qed hF R htl hP)
  have HLe : Hid (∀ w' : World, Below w.heap.size w w' → Calls Try.prog 5 #[mv r c a0 len0 cap0, .int .i64 (b : Int)] w' fun e w'' => LeaP w' w'' e (m2 F r c) r b C G) := fun w' hb => qg9 w' r c len0 cap0 b a0 F (hF.later hb) R HGq.out hbr C f ix G O
  have HO := qa6 O
  have HM := qa6 hM
  have HF0 := qa6 hF
  have HRt := qa6 R
  have g1 : decide ((b : Int) < 0) = false := decide_eq_false (by omega)
  have g2 : decide ((r : Int) ≤ (b : Int)) = false := decide_eq_false (by omega)
  have g3 : decide (r ≤ b) = false := decide_eq_false (by omega)
  have HPl := qa6 hP.1
  have HPi := qa6 (hP.2 b hbr)
  have Htl := qa6 htl
  have Htb := qa6 htb
  clear hF hn0 w0 w1 R hM hP HT hb O htl htb ht HGq hA hA2 hc1 hcr
  go_enter Try.func3, Try.ntmps3
  go_wp2_with (go_at_call 5; refine (HLe.out _ (qa0 _ _)).mono ?_)
  rintro e w1 (⟨er, rfl, hs, hb⟩ | ⟨x, g, Q, rfl, hs, hcm, hrow, _, hb⟩)
  ·have HV1 : Hid (Vr w1 w.heap.size (.int .i64 (r : Int)) (.int .i64 (c : Int)) (.slice a0 len0 cap0)) := (Vr.new w _ _ _).later hb
   have l1_0 := HV1.out.c0
   have l1_1 := HV1.out.c1
   have l1_2 := HV1.out.c2
   have HB1 : Hid (Below w.heap.size w w1) := qa1 (qa0 _ _) hb
   clear hb HLe
   rcases hs with ⟨_, _, e0, hn⟩ | ⟨e0, _⟩ | ⟨_, _, e0, k4, j4, hk4, hj4, h4, _⟩
   ·subst e0
    have HHa := qiw (qfi (o := false) hr HPl.out hbr ⟨fun h => (by cases h), fun h => absurd (HPi.out.1 h) (hn t Htl.out Htb.out)⟩)
    obtain ⟨P0, hP0⟩ : ∃ P0, SpS (m2 F r c) r 0 P0 := qi1 _ r
    have HSp0 := qiw (qed HF0.out HRt.out (Nat.two_pow_pos r) hP0)
    have e00 : ((0 : Nat) : Int) = 0 := rfl
    rw [e00] at HSp0 ⊢
    clear hn e00 hP0
    go_wp2_with (first
     | (go_at_call 10; have _x := HB6; refine (HHa.out _).mono ?_; rintro e w7 ⟨rfl, hb⟩; have HV7 : Hid (Vr w7 w.heap.size (.int .i64 (r : Int)) (.int .i64 (c : Int)) (.slice a0 len0 cap0)) := HV6.out.later hb; have l7_0 := HV7.out.c0; have l7_1 := HV7.out.c1; have l7_2 := HV7.out.c2; have HB7 : Hid (Below w.heap.size w w7) := qa1 HB6.out hb; clear hb)
     | (go_at_call 7; have _x := HB5; refine (qet _).mono ?_; rintro e w6 ⟨rfl, hb⟩; have HV6 : Hid (Vr w6 w.heap.size (.int .i64 (r : Int)) (.int .i64 (c : Int)) (.slice a0 len0 cap0)) := HV5.out.later hb; have l6_0 := HV6.out.c0; have l6_1 := HV6.out.c1; have l6_2 := HV6.out.c2; have HB6 : Hid (Below w.heap.size w w6) := qa1 HB5.out hb; clear hb)
     | (go_at_call 8; have _x := HB4; refine (HSp.out _ HB4.out).mono ?_; rintro e w5 ⟨rfl, hb⟩; have HV5 : Hid (Vr w5 w.heap.size (.int .i64 (r : Int)) (.int .i64 (c : Int)) (.slice a0 len0 cap0)) := HV4.out.later hb; have l5_0 := HV5.out.c0; have l5_1 := HV5.out.c1; have l5_2 := HV5.out.c2; have HB5 : Hid (Below w.heap.size w w5) := qa1 HB4.out hb; clear hb)
     | (go_at_call 9; have _x := HB3; refine (HFu.out _).mono ?_; rintro e w4 ⟨rfl, hb⟩; have HV4 : Hid (Vr w4 w.heap.size (.int .i64 (r : Int)) (.int .i64 (c : Int)) (.slice a0 len0 cap0)) := HV3.out.later hb; have l4_0 := HV4.out.c0; have l4_1 := HV4.out.c1; have l4_2 := HV4.out.c2; have HB4 : Hid (Below w.heap.size w w4) := qa1 HB3.out hb; clear hb)
     | (go_at_call 8; have _x := HB2; refine (HSp0.out _ HB2.out).mono ?_; rintro e w3 ⟨rfl, hb⟩; have HV3 : Hid (Vr w3 w.heap.size (.int .i64 (r : Int)) (.int .i64 (c : Int)) (.slice a0 len0 cap0)) := HV2.out.later hb; have l3_0 := HV3.out.c0; have l3_1 := HV3.out.c1; have l3_2 := HV3.out.c2; have HB3 : Hid (Below w.heap.size w w3) := qa1 HB2.out hb; clear hb)
     | (go_at_call 6; have _x := HB1; refine (HG.out _).mono ?_; rintro e w2 ⟨rfl, hb⟩; have HV2 : Hid (Vr w2 w.heap.size (.int .i64 (r : Int)) (.int .i64 (c : Int)) (.slice a0 len0 cap0)) := HV1.out.later hb; have l2_0 := HV2.out.c0; have l2_1 := HV2.out.c1; have l2_2 := HV2.out.c2; have HB2 : Hid (Below w.heap.size w w2) := qa1 HB1.out hb; clear hb))
    go_ret
    exact ⟨rfl, HB7.out⟩
   ·exact absurd e0 (by decide)
   ·subst e0
    have hr14 : 15 < r := by
     refine Classical.byContradiction (fun hn => ?_)
     exact few19 HO.out (by omega) k4 j4 hk4 hj4 h4
    have k1 : decide ((14 : Int) < (r : Int)) = true := decide_eq_true (by omega)
    have k2 : decide (14 < r) = true := decide_eq_true (by omega)
    clear hk4 hj4 h4
    go_wp2_with (first
     | (go_at_call 7; have _x := HB2; refine (qet _).mono ?_; rintro e w3 ⟨rfl, hb⟩; have HV3 : Hid (Vr w3 w.heap.size (.int .i64 (r : Int)) (.int .i64 (c : Int)) (.slice a0 len0 cap0)) := HV2.out.later hb; have l3_0 := HV3.out.c0; have l3_1 := HV3.out.c1; have l3_2 := HV3.out.c2; have HB3 : Hid (Below w.heap.size w w3) := qa1 HB2.out hb; clear hb)
     | (go_at_call 6; have _x := HB1; refine (HG.out _).mono ?_; rintro e w2 ⟨rfl, hb⟩; have HV2 : Hid (Vr w2 w.heap.size (.int .i64 (r : Int)) (.int .i64 (c : Int)) (.slice a0 len0 cap0)) := HV1.out.later hb; have l2_0 := HV2.out.c0; have l2_1 := HV2.out.c1; have l2_2 := HV2.out.c2; have HB2 : Hid (Below w.heap.size w w2) := qa1 HB1.out hb; clear hb))
    go_ret
    exact ⟨rfl, HB3.out⟩
  ·have HV1 : Hid (Vr w1 w.heap.size (.int .i64 (r : Int)) (.int .i64 (c : Int)) (.slice a0 len0 cap0)) := (Vr.new w _ _ _).later hb
   have l1_0 := HV1.out.c0
   have l1_1 := HV1.out.c1
   have l1_2 := HV1.out.c2
   have HB1 : Hid (Below w.heap.size w w1) := qa1 (qa0 _ _) hb
   have HQ1 : Hid (Mt w1 (some ⟨g, 0, none⟩) r r Q) := hrow.mt (fun i _ => hcm.el i)
   have hl : LstS (m2 F r c) r b x := by
    rcases hs.lst HO.out hbr with ⟨_, h1, _⟩ | ⟨_, _, hl⟩ | ⟨_, h1, _⟩
    ·exact absurd h1 (by decide)
    ·exact hl
    ·exact absurd h1 (by decide)
   obtain ⟨P0, hP0⟩ : ∃ P0, SpS (m2 F r c) r x P0 := qi1 _ r
   have HSp0 := qiw (qed HF0.out HRt.out hl.lt hP0)
   have HH0 := qiw (qfi (o := true) hr hP0.1 hbr ⟨fun _ => (hP0.2 b hbr).2 hl.is, fun _ => rfl⟩)
   have HH1 := qiw (qfi (o := false) hr hl.lt hbr ⟨fun h => (by cases h), fun h => absurd h hl.none⟩)
   have HHi : Hid (∀ i, i < r → ∃ o : Bool, o = !(((Q i : Nat) : Int) == 0) ∧ ∀ w' : World, Calls Try.prog 10 #[.int .u64 (x : Int), .int .i64 (i : Int)] w' fun e w'' => e = .returned (.bool o) ∧ Below w'.heap.size w' w'') := fun i hi => ⟨_, rfl, qfi hr hl.lt hi (by
    rw [← hcm.on i hi]
    constructor
    ·intro h e
     rw [e] at h
     exact absurd h (by decide)
    ·intro h
     cases hz : (((Q i : Nat) : Int) == 0)
     ·rfl
     ·exact absurd (by have := eq_of_beq hz; omega) h)⟩
   have hfree : FreeS (m2 F r c) r x := hl.free HM.out
   have HFr : Hid (∀ w' : World, Below w.heap.size w w' → Calls Try.prog 14 #[mv r c a0 len0 cap0, .int .u64 (x : Int)] w' fun e w'' => e = .returned (.tuple #[.bool true, .int .i64 0]) ∧ Below w'.heap.size w' w'') := fun w' hb => (rFree_ok w' r c len0 cap0 x a0 F (HF0.out.later hb).sl HRt.out hl.lt).mono (fun e w'' h => by
    obtain ⟨o, h1, h2, h3⟩ := h
    rw [h2.2 hfree] at h1
    exact ⟨h1, h3⟩)
   have HAp : Hid (∀ i, i < c → apf (trf F r c) Q r i = F (b * c + i)) := fun i hi => by
    have h1 := hcm.sum i
    rw [qaw F hbr hi] at h1
    rw [h1]
    refine qa5 (fun t ht => ?_)
    rw [qdw F r c t i ht, qaw F ht hi]
    exact qad _ _ (HF0.out.sl.1 _ (HRt.out.at ht hi)) (hcm.el t)
   have HTe : Hid (∀ q, q < len0 → trf F r c q < 256) := qdf HF0.out.sl.1 HRt.out
   have HRe : Hid (∀ i, i < c → F (b * c + i) < 256) := fun i hi => HF0.out.sl.1 _ (HRt.out.at hbr hi)
   obtain ⟨Y, HY⟩ : ∃ Y, Hid ((fun j => F (b * c + j)) = Y) := ⟨_, rfl⟩
   have HAy : Hid (∀ i, i < c → apf (trf F r c) Q r i = Y i) := fun i hi => by rw [← HY.out]; exact HAp.out i hi
   have HYe : Hid (∀ i, i < c → Y i < 256) := fun i hi => by rw [← HY.out]; exact HRe.out i hi
   have q0 : ((r : Int) != (r : Int)) = false := by simp
   clear hb HLe hs hl hP0 hfree hrow hcm HO HM HPl HPi Htl Htb
   go_wp2_with (first
    | (go_at_call 10; have _x := HB6; refine (HH0.out _).mono ?_; rintro e w7 ⟨rfl, hb⟩; have HV7 : Hid (Vr w7 w.heap.size (.int .i64 (r : Int)) (.int .i64 (c : Int)) (.slice a0 len0 cap0)) := HV6.out.later hb; have l7_0 := HV7.out.c0; have l7_1 := HV7.out.c1; have l7_2 := HV7.out.c2; have HB7 : Hid (Below w.heap.size w w7) := qa1 HB6.out hb; have HB17 : Hid (Below w1.heap.size w1 w7) := qa1 HB16.out hb; clear hb)
    | (go_at_call 10; have _x := HB5; refine (HH1.out _).mono ?_; rintro e w6 ⟨rfl, hb⟩; have HV6 : Hid (Vr w6 w.heap.size (.int .i64 (r : Int)) (.int .i64 (c : Int)) (.slice a0 len0 cap0)) := HV5.out.later hb; have l6_0 := HV6.out.c0; have l6_1 := HV6.out.c1; have l6_2 := HV6.out.c2; have HB6 : Hid (Below w.heap.size w w6) := qa1 HB5.out hb; have HB16 : Hid (Below w1.heap.size w1 w6) := qa1 HB15.out hb; clear hb)
    | (go_at_call 8; have _x := HB4; refine (HSp.out _ HB4.out).mono ?_; rintro e w5 ⟨rfl, hb⟩; have HV5 : Hid (Vr w5 w.heap.size (.int .i64 (r : Int)) (.int .i64 (c : Int)) (.slice a0 len0 cap0)) := HV4.out.later hb; have l5_0 := HV5.out.c0; have l5_1 := HV5.out.c1; have l5_2 := HV5.out.c2; have HB5 : Hid (Below w.heap.size w w5) := qa1 HB4.out hb; have HB15 : Hid (Below w1.heap.size w1 w5) := qa1 HB14.out hb; clear hb)
    | (go_at_call 9; have _x := HB3; refine (HFu.out _).mono ?_; rintro e w4 ⟨rfl, hb⟩; have HV4 : Hid (Vr w4 w.heap.size (.int .i64 (r : Int)) (.int .i64 (c : Int)) (.slice a0 len0 cap0)) := HV3.out.later hb; have l4_0 := HV4.out.c0; have l4_1 := HV4.out.c1; have l4_2 := HV4.out.c2; have HB4 : Hid (Below w.heap.size w w4) := qa1 HB3.out hb; have HB14 : Hid (Below w1.heap.size w1 w4) := qa1 HB13.out hb; clear hb)
    | (go_at_call 8; have _x := HB2; refine (HSp0.out _ HB2.out).mono ?_; rintro e w3 ⟨rfl, hb⟩; have HV3 : Hid (Vr w3 w.heap.size (.int .i64 (r : Int)) (.int .i64 (c : Int)) (.slice a0 len0 cap0)) := HV2.out.later hb; have l3_0 := HV3.out.c0; have l3_1 := HV3.out.c1; have l3_2 := HV3.out.c2; have HB3 : Hid (Below w.heap.size w w3) := qa1 HB2.out hb; have HB13 : Hid (Below w1.heap.size w1 w3) := qa1 HB12.out hb; clear hb)
    | (go_at_call 6; have _x := HB1; refine (HG.out _).mono ?_; rintro e w2 ⟨rfl, hb⟩; have HV2 : Hid (Vr w2 w.heap.size (.int .i64 (r : Int)) (.int .i64 (c : Int)) (.slice a0 len0 cap0)) := HV1.out.later hb; have l2_0 := HV2.out.c0; have l2_1 := HV2.out.c1; have l2_2 := HV2.out.c2; have HB2 : Hid (Below w.heap.size w w2) := qa1 HB1.out hb; have HB12 : Hid (Below w1.heap.size w1 w2) := hb; clear hb))
   have HQ7 : Hid (Mt w7 (some ⟨g, 0, none⟩) r r Q) := HQ1.out.later HB17.out
   have HB7' : Hid (Below w.heap.size w w7) := HB7.out
   have HV7' : Hid (Vr w7 w.heap.size (.int .i64 (r : Int)) (.int .i64 (c : Int)) (.slice a0 len0 cap0)) := HV7.out
   clear HB1 HB2 HB3 HB4 HB5 HB6 HB7 HV1 HV2 HV3 HV4 HV5 HV6 HV7 HQ1 HSp HSp0 HH0 HH1 HFu HG l1_0 l1_1 l1_2 l2_0 l2_1 l2_2 l3_0 l3_1 l3_2 l4_0 l4_1 l4_2 l5_0 l5_1 l5_2 l6_0 l6_1 l6_2 l7_0 l7_1 l7_2 HB17
   go_loopw [15] (fun si wi => ∃ i : Nat, i ≤ r ∧ si = .int .i64 (i : Int) ∧ Below w7.heap.size w7 wi) (fun si _ => r - (intOf si).toNat)
   case atStart => exact ⟨0, by omega, rfl, Below.refl _ _⟩
   case round =>
    obtain ⟨i, hir, rfl, hBi⟩ := hrel
    have HBi := qa6 hBi
    have HVi : Hid (Vr wr w.heap.size (.int .i64 (r : Int)) (.int .i64 (c : Int)) (.slice a0 len0 cap0)) := HV7'.out.later hBi
    have HQi : Hid (Mt wr (some ⟨g, 0, none⟩) r r Q) := HQ7.out.later hBi
    have i_0 := HVi.out.c0
    have i_1 := HVi.out.c1
    have i_2 := HVi.out.c2
    clear hBi
    by_cases hlt : i < r
    ·obtain ⟨o, ho, hHas⟩ := HHi.out i hlt
     have HHas := qa6 hHas
     obtain ⟨g9, o9, e9, hcell⟩ := HQi.out.sl.2 i hlt
     cases e9
     rw [Nat.zero_add] at hcell
     obtain ⟨qi, HQq⟩ : ∃ q, Hid (Q i = q) := ⟨_, rfl⟩
     rw [HQq.out] at hcell ho
     have p0 : (0 : Int) ≤ (i : Int) := by omega
     have p1 : (i : Int) < (r : Int) := by omega
     have d1 : decide ((i : Int) < (r : Int)) = true := decide_eq_true p1
     have d2 : decide (i < r) = true := decide_eq_true hlt
     subst ho
     have q9 : ((!((qi : Int) == 0)) != (!((qi : Int) == 0))) = false := by simp
     obtain ⟨B, HBb⟩ : ∃ B : Bool, Hid ((!((qi : Int) == 0)) = B) := ⟨_, rfl⟩
     have q8 : ((qi : Int) != 0) = B := HBb.out
     have q7 : (B != B) = false := by simp
     rw [HBb.out] at HHas
     clear hHas q9
     go_wp2
     go_region_held3 (fun w' => w'.cell? ⟨g, i, none⟩ = some (.int .u8 (qi : Int)))
      (first | exact HC9.out | go_keep | exact hcell)
      (first | (go_at_call 10; refine (HHas.out _).mono ?_; rintro e w9 ⟨rfl, hb⟩; have HB9 : Hid (Below wr.heap.size wr w9) := (Below.refl _ _).drew.trans (hb.mono (Nat.le_refl _)); have HC9 : Hid (w9.cell? ⟨g, i, none⟩ = some (.int .u8 (qi : Int))) := qlf (w := wr.drew) hcell hb; clear hb))
     go_wp2
     exact ⟨⟨i + 1, by omega, by go_num, qa1 HBi.out HB9.out⟩, by simp [intOf]; omega⟩
    ·have d1 : decide ((i : Int) < (r : Int)) = false := decide_eq_false (by omega)
     have d2 : decide (i < r) = false := decide_eq_false (by omega)
     have HBa : Hid (Below w.heap.size w wr) := qa1 HB7'.out HBi.out
     clear HHi HB7' HQ7 HV7' HBi hlt
     go_wp2_with (first
      | (go_at_call 11; refine (qjq _ r c len0 cap0 a0 F (HF0.out.later HBa.out).sl HRt.out).mono ?_; rintro e w8 ⟨s8, d8, rfl, ho, hb⟩; have HB8 : Hid (Below w.heap.size w (w8.alloc (.cells #[.int .i64 (c : Int), .int .i64 (r : Int), .slice s8 len0 d8] 24))) := qa1 (qa1 HBa.out hb) (qa0 _ _); have HT8 : Hid (Sl (w8.alloc (.cells #[.int .i64 (c : Int), .int .i64 (r : Int), .slice s8 len0 d8] 24)) s8 len0 (trf F r c)) := (qcm ho HTe.out).later (qa0 _ _); have HQ8 : Hid (Mt (w8.alloc (.cells #[.int .i64 (c : Int), .int .i64 (r : Int), .slice s8 len0 d8] 24)) (some ⟨g, 0, none⟩) r r Q) := (HQi.out.later hb).later (qa0 _ _); have HV8 : Hid (Vr (w8.alloc (.cells #[.int .i64 (c : Int), .int .i64 (r : Int), .slice s8 len0 d8] 24)) w.heap.size (.int .i64 (r : Int)) (.int .i64 (c : Int)) (.slice a0 len0 cap0)) := (HVi.out.later hb).later (qa0 _ _); have HVt : Hid (Vr (w8.alloc (.cells #[.int .i64 (c : Int), .int .i64 (r : Int), .slice s8 len0 d8] 24)) w8.heap.size (.int .i64 (c : Int)) (.int .i64 (r : Int)) (.slice s8 len0 d8)) := Vr.new _ _ _ _; have t_0 := HVt.out.c0; have t_1 := HVt.out.c1; have t_2 := HVt.out.c2; clear ho hb)
      | (go_at_call 12; refine (qjr _ c r len0 d8 r s8 (some ⟨g, 0, none⟩) (trf F r c) Q HT8.out HQ8.out.sl HRt.out.turn).mono ?_; rintro e w9 ⟨g9, rfl, hr9, hg9, hb⟩; have HR9 : Hid (RowAt w9 g9 5 c Y) := hr9.congr HAy.out; have HB9 : Hid (Below w.heap.size w w9) := qa1 HB8.out hb; have HV9 : Hid (Vr w9 w.heap.size (.int .i64 (r : Int)) (.int .i64 (c : Int)) (.slice a0 len0 cap0)) := HV8.out.later hb; have l9_0 := HV9.out.c0; have l9_1 := HV9.out.c1; have l9_2 := HV9.out.c2; clear hr9 hg9 hb)
      | (go_at_call 13; refine (qgj _ r c len0 cap0 b a0 F (HF0.out.later HB9.out).sl HRt.out hbr).mono ?_; rintro e w10 ⟨v10, rfl, ho, hb⟩; rw [HY.out] at ho; obtain ⟨s10, d10, rfl, hs10, _⟩ := qh6 ho HYe.out; have HS10 : Hid (Sl w10 s10 c Y) := hs10; have HR10 : Hid (RowAt w10 g9 5 c Y) := HR9.out.later hb; have HB10 : Hid (Below w.heap.size w w10) := qa1 HB9.out hb; have HV10 : Hid (Vr w10 w.heap.size (.int .i64 (r : Int)) (.int .i64 (c : Int)) (.slice a0 len0 cap0)) := HV9.out.later hb; have l10_0 := HV10.out.c0; have l10_1 := HV10.out.c1; have l10_2 := HV10.out.c2; clear ho hb hs10)
      | (go_at_call 14; refine (HFr.out _ HB10.out).mono ?_; rintro e w11 ⟨rfl, hb⟩; have HS11 : Hid (Sl w11 s10 c Y) := HS10.out.later hb; have HR11 : Hid (RowAt w11 g9 5 c Y) := HR10.out.later hb; have HB11 : Hid (Below w.heap.size w w11) := qa1 HB10.out hb; clear hb)
      | (go_at_call 7; refine (qet _).mono ?_; rintro e w12 ⟨rfl, hb⟩; have HS12 : Hid (Sl w12 s10 c Y) := HS11.out.later hb; have HR12 : Hid (RowAt w12 g9 5 c Y) := HR11.out.later hb; have HB12 : Hid (Below w.heap.size w w12) := qa1 HB11.out hb; clear hb)
      | (go_at_call 15; refine (qfq _ _ _ c c d10 Y (HR12.out.sl HYe.out) HS12.out).mono ?_; rintro e w13 ⟨rfl, rfl⟩))
     go_ret
     exact ⟨rfl, HB12.out⟩
theorem lifted (os : Os) (started : os.Started) (H : Type) (enc : TypeId × Value → H) :
  ReturnsInHanded {} Try.checked os 3 .any (Rows.localPutsSpec.pre6 enc Try.prog Try.f3 Rows.localPutsRow.domain false) (Rows.localPutsSpec.post enc Try.prog Try.f3 false true false false) := by
 refine returnsInHanded_of_change_sized (C := Try.checked) own started (by kernel_rfl) Try.func3
  (ChangeSpec.witness6 (enc := enc) (C := Try.checked) false ⟨#[], #[.agg #[.int .i64 0, .int .i64 0, .slice none 0 0], .int .i64 0], []⟩ 8 (by kernel_rfl) (by kernel_rfl) (by kernel_rfl) (by kernel_rfl)) ?_
 intro W base args ds gs before hval0 hW hcnd hsz0 _
 have hsz : (DataW.weightsEach Try.prog (Try.f3.params.toList ++ Rows.localPutsSpec.plain.varTypes Try.prog) (ds ++ gs)).all (· ≤ reachBytes) = true := hsz0
 clear hsz0
 have hval : ∀ (j : Nat) t v, Try.f3.params[j]? = some t → args[j]? = some v → Value.okWide Try.prog W .any base t v := hval0
 have hW' := hW
 obtain ⟨p, q, hA0, hV, rfl, hfz, hnd⟩ := hW
 have hA : DataW.TrodAll enc Try.prog W 0 (fun _ => true) true Try.f3.params.toList args.toList ds p := hA0
 rw [Try.params3] at hA hval hsz
 obtain ⟨va0, vs0, d0, ds0, p0, q0, hargs, rfl, rfl, h0, tr0⟩ := trodAll_cons hA
 obtain ⟨va1, vs1, d1, ds1, p1, q1, rfl, rfl, rfl, h1, tr1⟩ := trodAll_cons tr0
 obtain ⟨rfl, rfl, rfl⟩ := trodAll_nil tr1
 obtain rfl : args = #[va0, va1] := by cases args; simp_all
 obtain ⟨rfl, rfl⟩ := trodVars_none hV
 have k0 := h0
 have lt0 : ∀ x ∈ p0, x.block < W.heap.size := by obtain ⟨m, hm⟩ := k0; exact DataW.trod_lt m _ _ _ hm
 obtain ⟨f0, g0, s0, y0, x0, e0, m0, rfl, rfl, rfl, hf0, hg0, hs0⟩ := open_agg3 Try.underlying24 (by kernel_rfl) cellsM (hval 0 24 va0 rfl rfl) h0
 obtain ⟨r0, er0, rfl, u0⟩ := DataW.trod_int Try.underlying3 hf0
 obtain ⟨c0, ec0, rfl, v0⟩ := DataW.trod_int Try.underlying3 hg0
 simp only [List.cons.injEq, and_true] at er0 ec0
 subst er0 ec0
 obtain ⟨a0, len0, cap0, rfl⟩ : ∃ a l c, s0 = .slice a l c := by
  rcases open_ints Try.underlying22 Try.underlying5 (by kernel_rfl) hs0 with ⟨hcs, _⟩ | ⟨x, l, c, zs, hcs, _⟩
  ·simp only [List.cons.injEq, and_true] at hcs; exact ⟨_, _, _, hcs⟩
  ·simp only [List.cons.injEq, and_true] at hcs; exact ⟨_, _, _, hcs⟩
 obtain ⟨z0, w0⟩ : ∃ zs, IsRow .u8 W a0 len0 cap0 zs := by
  obtain ⟨fuel, hf⟩ := (⟨m0, hs0⟩ : ∃ fuel, DataW.trod enc Try.prog W 0 (fun _ => true) true fuel 22 [.slice a0 len0 cap0] = some e0)
  rcases open_ints Try.underlying22 Try.underlying5 (by kernel_rfl) hf with ⟨hcs, _⟩ | ⟨x, l, c, zs, hcs, _, hl, hm, hz, hxx, hcell, hwz⟩
  ·simp at hcs
   obtain ⟨rfl, rfl, rfl⟩ := hcs
   exact ⟨[], .inl ⟨rfl, rfl, rfl, rfl⟩⟩
  ·simp at hcs
   obtain ⟨rfl, rfl, rfl⟩ := hcs
   have hd := congrArg Prod.fst hxx
   have hs := sized_slice (sized_in hsz (j := 0) (t := 24) rfl rfl) (j := 2) (t := 22) (e := 5) rfl (congrArg some hd) Try.underlying22
   rw [show Try.prog.bytesOf 5 = 1 from by kernel_rfl] at hs
   have hzl : zs.length = cap0 := by simpa using hz
   simp only [lits, List.length_map, List.length_take, List.length_drop, reachBytes] at hs
   exact ⟨zs, .inr ⟨_, rfl, hl, by omega, by simpa using hz, hcell, hwz⟩⟩
 have k1 := h1
 have lt1 : ∀ x ∈ p1, x.block < W.heap.size := by obtain ⟨m, hm⟩ := k1; exact DataW.trod_lt m _ _ _ hm
 obtain ⟨n1, rfl, w1⟩ : ∃ n, va1 = .int .i64 n ∧ (Lit.int .i64 n).wf = true := by
  obtain ⟨n, rfl, _, _, hw⟩ := open_int Try.underlying3 (hval 1 3 va1 rfl rfl) h1
  exact ⟨n, rfl, hw⟩
 clear hA0 hval0
 refine (walk r0 c0 a0 len0 cap0 z0 n1 W u0 v0 w0 w1).mono fun e W' ⟨he, bel⟩ => ?_
 subst he
 exact ⟨_, rfl, _, _, _, [], _, [], hW', trodAll_mk1 (shut_bool Try.underlying4 _), (trodAll_cons_mk (Below.trod laidOut (by kernel_rfl) (of_decide_eq_true (by kernel_rfl)) k0 bel lt0) (trodAll_cons_mk (Below.trod laidOut (by kernel_rfl) (of_decide_eq_true (by kernel_rfl)) k1 bel lt1) trodAll_mk0)), rfl, bel.frame _, fun h => by cases h⟩
theorem over : Rows.localPutsRow.holds Try.pinned (OpenSpec.ofChange Rows.localPutsSpec) :=
 OpenClaim.holds_of_wide 3 Try.f3 rfl rfl rfl rfl rfl rfl rfl ⟨rfl, rfl, rfl, rfl, rfl⟩ rfl rfl rfl rfl rfl (by kernel_rfl) Try.func3 (by kernel_rfl)
  (of_decide_eq_true (by kernel_rfl)) (by unfold Func.isWrapper; first | (rw [if_pos (by decide +kernel)]; kernel_rfl) | (rw [if_neg (by decide +kernel)]; exact ⟨rfl, rfl⟩))
  (fun os started H enc _ => lifted os started H enc)
theorem proved : Rows.LocalPutsSaid := over
#print axioms proved
end Go.Proofs.Ytblagbghpfopcaa.localPuts
