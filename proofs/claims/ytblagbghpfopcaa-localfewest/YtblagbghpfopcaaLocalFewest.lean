/-
  Proved: for every matrix g, number b and set of numbers: where no set is told for b there is an error; else no set of other rows that repairs b is smaller than the one that Least tells (P19.5); no condition.
-/
import Derived.Test.YtblagbghpfopcaaQffst00
import Derived.Test.YtblagbghpfopcaaQffst49
import Derived.Test.YtblagbghpfopcaaQffst50
import Derived.WalkKit
import Derived.SizedLaws
import Derived.ProofKit
import Derived.OpenShut
import Derived.ShutString
import Derived.ChangeOld
import Derived.Below
import Derived.Lib.SmallJoins
import Derived.Deep.Matrix
set_option maxRecDepth 100000
set_option maxHeartbeats 16000000
namespace Go.Proofs.Ytblagbghpfopcaa.localFewest
open Go.ChangeShapes Go.WideShapes Go.ChangeAt Go.RowKit Go.Joins
set_option linter.unusedVariables false
theorem own : ownKnob Try.prog.godebug = none := by kernel_rfl
theorem laidOut : laidOutB Try.prog = true := by kernel_rfl
/-- A slice of integers that came in. -/
def IsRow (k : IntKind) (w : World) (a : Option Addr) (len cap : Nat) (zs : List Int) : Prop :=
 (a = none ∧ len = 0 ∧ cap = 0 ∧ zs = []) ∨
 ∃ x, a = some x ∧ len ≤ cap ∧ cap ≤ 140737488351232 ∧ zs.length = cap ∧ (∀ i, i < zs.length → w.cell? (x.add i) = some (.int k (zs.getD i 0))) ∧ ∀ n ∈ zs, (Lit.int k n).wf = true
/-- A slice of slices of bytes that came in. -/
def IsRows (w : World) (a : Option Addr) (len cap : Nat) : Prop :=
 (a = none ∧ len = 0 ∧ cap = 0) ∨
 ∃ x, a = some x ∧ len ≤ cap ∧ cap ≤ 140737488351232 ∧ ∀ r, r < cap → ∃ b l c zs, w.cell? (x.add r) = some (.slice b l c) ∧ IsRow .u8 w b l c zs
theorem sized_in {H : Type} {P : Program} {ts : List TypeId} {ds : List (DataW H)} (h : (DataW.weightsEach P ts ds).all (· ≤ reachBytes) = true) {j : Nat} {t : TypeId} {d : DataW H} (ht : ts[j]? = some t) (hd : ds[j]? = some d) : (d.weights P t).all (· ≤ reachBytes) = true :=
 List.all_eq_true.2 fun n hn => List.all_eq_true.1 h n (DataW.weights_mem_each ht hd n hn)
theorem sized_all {H : Type} {P : Program} {e : TypeId} : ∀ {ds : List (DataW H)}, (DataW.weightsAll P e ds).all (· ≤ reachBytes) = true → ∀ d ∈ ds, (d.weights P e).all (· ≤ reachBytes) = true
 | [], _, d, hd => by simp at hd
 | d0 :: r, h, d, hd => by
  simp only [DataW.weightsAll, List.all_append, Bool.and_eq_true] at h
  rcases List.mem_cons.1 hd with rfl | hd
  ·exact h.1
  ·exact sized_all h.2 d hd
theorem cellsM : Try.prog.cellsOf 24 = 3 := by kernel_rfl

theorem walk (r0 c0 : Int) (a0 : Option Addr) (len0 cap0 : Nat) (z0 : List Int) (n1 : Int) (n2 : Int) (w : World) (u0 : (Lit.int .i64 r0).wf = true) (v0 : (Lit.int .i64 c0).wf = true) (w0 : IsRow .u8 w a0 len0 cap0 z0) (w1 : (Lit.int .i64 n1).wf = true) (w2 : (Lit.int .u64 n2).wf = true) :
  Calls Try.prog 4 #[.agg #[.int .i64 r0, .int .i64 c0, .slice a0 len0 cap0], .int .i64 n1, .int .u64 n2] w fun e w' => e = .returned (.bool true) ∧ Below w.heap.size w w' := by
 obtain ⟨F, hF, hn0⟩ := qjo w a0 len0 cap0 z0 w0
 obtain ⟨s, rfl, hs6⟩ := qiq w2
 obtain ⟨E, hE⟩ := wrg_ex r0 c0 n1 len0
 rcases hE with ⟨hg, rfl⟩ | ⟨hg, hb, rfl⟩ | ⟨hg, hb, rfl⟩
 ·have HL : Hid (∀ w' : World, Calls Try.prog 5 #[mv r0 c0 a0 len0 cap0, .int .i64 n1] w' fun e w'' => e = .returned (.tuple #[.int .u64 0, .slice none 0 0, .bool false, .int .i64 3]) ∧ Below w'.heap.size w' w'') := fun w' => qep w' r0 c0 n1 3 len0 cap0 a0 (.inl ⟨hg, rfl⟩) (by decide)
  have HG : Hid (∀ w' : World, Calls Try.prog 6 #[mv r0 c0 a0 len0 cap0] w' fun e w'' => e = .returned (.bool false) ∧ Below w'.heap.size w' w'') := fun w' => qkz w' r0 c0 len0 cap0 a0 false (by simp [hg])
  clear hF hn0 w0 w1 w2 hs6 hg
  go_enter Try.func4, Try.ntmps4
  go_wp2_with (first
   | (go_at_call 7; have _x := HB2; refine (qe8 _).mono ?_; rintro e w3 ⟨rfl, hb⟩; have HV3 : Hid (Vr w3 w.heap.size (.int .i64 r0) (.int .i64 c0) (.slice a0 len0 cap0)) := HV2.out.later hb; have l3_0 := HV3.out.c0; have l3_1 := HV3.out.c1; have l3_2 := HV3.out.c2; have HB3 : Hid (Below w.heap.size w w3) := qa1 HB2.out hb; clear hb)
   | (go_at_call 6; have _x := HB1; refine (HG.out _).mono ?_; rintro e w2 ⟨rfl, hb⟩; have HV2 : Hid (Vr w2 w.heap.size (.int .i64 r0) (.int .i64 c0) (.slice a0 len0 cap0)) := HV1.out.later hb; have l2_0 := HV2.out.c0; have l2_1 := HV2.out.c1; have l2_2 := HV2.out.c2; have HB2 : Hid (Below w.heap.size w w2) := qa1 HB1.out hb; clear hb)
   | (go_at_call 5; refine (HL.out _).mono ?_; rintro e w1 ⟨rfl, hb⟩; have HV1 : Hid (Vr w1 w.heap.size (.int .i64 r0) (.int .i64 c0) (.slice a0 len0 cap0)) := (Vr.new w (.int .i64 r0) (.int .i64 c0) (.slice a0 len0 cap0)).later hb; have l1_0 := HV1.out.c0; have l1_1 := HV1.out.c1; have l1_2 := HV1.out.c2; have HB1 : Hid (Below w.heap.size w w1) := qa1 (qa0 _ _) hb; clear hb))
  go_ret
  exact ⟨rfl, HB3.out⟩
 ·have HL : Hid (∀ w' : World, Calls Try.prog 5 #[mv r0 c0 a0 len0 cap0, .int .i64 n1] w' fun e w'' => e = .returned (.tuple #[.int .u64 0, .slice none 0 0, .bool false, .int .i64 2]) ∧ Below w'.heap.size w' w'') := fun w' => qep w' r0 c0 n1 2 len0 cap0 a0 (.inr (.inl ⟨hg, hb, rfl⟩)) (by decide)
  have HG : Hid (∀ w' : World, Calls Try.prog 6 #[mv r0 c0 a0 len0 cap0] w' fun e w'' => e = .returned (.bool true) ∧ Below w'.heap.size w' w'') := fun w' => qkz w' r0 c0 len0 cap0 a0 true (by simp [hg])
  by_cases h0 : n1 < 0
  ·have g1 : decide (n1 < 0) = true := decide_eq_true h0
   clear hF hn0 w0 w1 w2 hs6 hg hb
   go_enter Try.func4, Try.ntmps4
   go_wp2_with (first
    | (go_at_call 7; have _x := HB2; refine (qe8 _).mono ?_; rintro e w3 ⟨rfl, hb⟩; have HV3 : Hid (Vr w3 w.heap.size (.int .i64 r0) (.int .i64 c0) (.slice a0 len0 cap0)) := HV2.out.later hb; have l3_0 := HV3.out.c0; have l3_1 := HV3.out.c1; have l3_2 := HV3.out.c2; have HB3 : Hid (Below w.heap.size w w3) := qa1 HB2.out hb; clear hb)
    | (go_at_call 6; have _x := HB1; refine (HG.out _).mono ?_; rintro e w2 ⟨rfl, hb⟩; have HV2 : Hid (Vr w2 w.heap.size (.int .i64 r0) (.int .i64 c0) (.slice a0 len0 cap0)) := HV1.out.later hb; have l2_0 := HV2.out.c0; have l2_1 := HV2.out.c1; have l2_2 := HV2.out.c2; have HB2 : Hid (Below w.heap.size w w2) := qa1 HB1.out hb; clear hb)
    | (go_at_call 5; refine (HL.out _).mono ?_; rintro e w1 ⟨rfl, hb⟩; have HV1 : Hid (Vr w1 w.heap.size (.int .i64 r0) (.int .i64 c0) (.slice a0 len0 cap0)) := (Vr.new w (.int .i64 r0) (.int .i64 c0) (.slice a0 len0 cap0)).later hb; have l1_0 := HV1.out.c0; have l1_1 := HV1.out.c1; have l1_2 := HV1.out.c2; have HB1 : Hid (Below w.heap.size w w1) := qa1 (qa0 _ _) hb; clear hb))
   go_ret
   exact ⟨rfl, HB3.out⟩
  ·have g1 : decide (n1 < 0) = false := decide_eq_false h0
   have g2 : decide (r0 ≤ n1) = true := decide_eq_true (by omega)
   clear hF hn0 w0 w1 w2 hs6 hg hb
   go_enter Try.func4, Try.ntmps4
   go_wp2_with (first
    | (go_at_call 7; have _x := HB2; refine (qe8 _).mono ?_; rintro e w3 ⟨rfl, hb⟩; have HV3 : Hid (Vr w3 w.heap.size (.int .i64 r0) (.int .i64 c0) (.slice a0 len0 cap0)) := HV2.out.later hb; have l3_0 := HV3.out.c0; have l3_1 := HV3.out.c1; have l3_2 := HV3.out.c2; have HB3 : Hid (Below w.heap.size w w3) := qa1 HB2.out hb; clear hb)
    | (go_at_call 6; have _x := HB1; refine (HG.out _).mono ?_; rintro e w2 ⟨rfl, hb⟩; have HV2 : Hid (Vr w2 w.heap.size (.int .i64 r0) (.int .i64 c0) (.slice a0 len0 cap0)) := HV1.out.later hb; have l2_0 := HV2.out.c0; have l2_1 := HV2.out.c1; have l2_2 := HV2.out.c2; have HB2 : Hid (Below w.heap.size w w2) := qa1 HB1.out hb; clear hb)
    | (go_at_call 5; refine (HL.out _).mono ?_; rintro e w1 ⟨rfl, hb⟩; have HV1 : Hid (Vr w1 w.heap.size (.int .i64 r0) (.int .i64 c0) (.slice a0 len0 cap0)) := (Vr.new w (.int .i64 r0) (.int .i64 c0) (.slice a0 len0 cap0)).later hb; have l1_0 := HV1.out.c0; have l1_1 := HV1.out.c1; have l1_2 := HV1.out.c2; have HB1 : Hid (Below w.heap.size w w1) := qa1 (qa0 _ _) hb; clear hb))
   go_ret
   exact ⟨rfl, HB3.out⟩
 ·have HG : Hid (∀ w' : World, Calls Try.prog 6 #[mv r0 c0 a0 len0 cap0] w' fun e w'' => e = .returned (.bool true) ∧ Below w'.heap.size w' w'') := fun w' => qkz w' r0 c0 len0 cap0 a0 true (by simp [hg])
  have HGq := qa6 hg
  obtain ⟨r, c, rfl, rfl, R, hc1, hcr⟩ := hg.nat
  obtain ⟨b, rfl⟩ := Int.eq_ofNat_of_zero_le hb.1
  have hbr : b < r := by omega
  have hr := R.r64
  have hM := qb3 hF.sl.1 R
  obtain ⟨C, f, ix, G, O⟩ := qhu r b hr hbr
  obtain ⟨A, hA⟩ : ∃ A, 2 ^ r - 1 = A := ⟨_, rfl⟩
  have hp := Nat.two_pow_pos r
  have hA2 : A < 2 ^ r := by omega
  have HFu : Hid (∀ w' : World, Calls Try.prog 9 #[.int .i64 (r : Int)] w' fun e w'' => e = .returned (.tuple #[.int .u64 (A : Int), .int .i64 0]) ∧ Below w'.heap.size w' w'') := fun w' => (qhh r w' hr).mono (fun e w'' h => by obtain ⟨h1, rfl⟩ := h; rw [hA] at h1; exact ⟨h1, Below.refl _ _⟩)
  have hq : s &&& A < 2 ^ r := Nat.lt_of_le_of_lt Nat.and_le_right hA2
  have hand : bits .and .u64 (s : Int) (A : Int) = ((s &&& A : Nat) : Int) := u64_and_nat s A hs6 (qbz hr hA2)
  obtain ⟨T, HT⟩ : ∃ T : Nat, Hid (2 ^ b = T) := ⟨_, rfl⟩
  have hb6 : b < 64 := by omega
  have hmin : min b 64 = b := by omega
  have hp2 : IntKind.u64.wrap (2 ^ b) = (T : Int) := by rw [← HT.out]; exact qf6 b hb6
  have hp3 : IntKind.u64.wrap (2 ^ min (IntKind.u64.wrap (b : Int)).toNat 64) = (T : Int) := by rw [shift_m hb6]; exact hp2
  obtain ⟨t, ht⟩ : ∃ t, rem (s &&& A) b = t := ⟨_, rfl⟩
  have han : bits .andNot .u64 ((s &&& A : Nat) : Int) (T : Int) = (t : Int) := j_rem7 hr hq hbr HT.out ht
  have htl : t < 2 ^ r := by rw [← ht]; exact qko hq
  have htb : ¬ bt t b = 1 := by rw [← ht]; exact fun e => ((qd5 (qbz hr hq) hb6 b).1 e).2 rfl
  generalize s &&& A = q at *
  obtain ⟨P, hP⟩ : ∃ P, SpS (m2 F r c) r t P := bld_ex _ r
  have HSp := qin (ql9 hF R htl hP)
  have HLe : Hid (∀ w' : World, Below w.heap.size w w' → Calls Try.prog 5 #[mv r c a0 len0 cap0, .int .i64 (b : Int)] w' fun e w'' => LeaP w' w'' e (m2 F r c) r b C G) := fun w' hb => qg3 w' r c len0 cap0 b a0 F (hF.later hb) R HGq.out hbr C f ix G O
  have HO := qa6 O
  have HM := qa6 hM
  have g1 : decide ((b : Int) < 0) = false := decide_eq_false (by omega)
  have g2 : decide ((r : Int) ≤ (b : Int)) = false := decide_eq_false (by omega)
  have g3 : decide (r ≤ b) = false := decide_eq_false (by omega)
  have HPl := qa6 hP.1
  have HPi := qa6 (hP.2 b hbr)
  have Htl := qa6 htl
  have Htb := qa6 htb
  have HLt := qin (qht hr htl)
  clear hF hn0 w0 w1 w2 hs6 R hM hP HT hb O hq htl htb ht HGq hA hA2 hc1 hcr
  go_enter Try.func4, Try.ntmps4
  go_wp2_with (go_at_call 5; refine (HLe.out _ (qa0 _ _)).mono ?_)
  rintro e w1 (⟨er, rfl, hs, hb⟩ | ⟨x, g, Q, rfl, hs, _, _, _, hb⟩)
  ·have HV1 : Hid (Vr w1 w.heap.size (.int .i64 (r : Int)) (.int .i64 (c : Int)) (.slice a0 len0 cap0)) := (Vr.new w _ _ _).later hb
   have l1_0 := HV1.out.c0
   have l1_1 := HV1.out.c1
   have l1_2 := HV1.out.c2
   have HB1 : Hid (Below w.heap.size w w1) := qa1 (qa0 _ _) hb
   clear hb HLe
   rcases hs with ⟨_, _, e0, hn⟩ | ⟨e0, _⟩ | ⟨_, _, e0, _⟩
   ·subst e0
    have HHa := qin (qgl (o := false) hr HPl.out hbr ⟨fun h => (by cases h), fun h => absurd (HPi.out.1 h) (hn t Htl.out Htb.out)⟩)
    have e00 : ((0 : Nat) : Int) = 0 := rfl
    rw [e00]
    clear hn e00
    go_wp2_with (first
     | (go_at_call 7; have _x := HB5; refine (qe8 _).mono ?_; rintro e w6 ⟨rfl, hb⟩; have HV6 : Hid (Vr w6 w.heap.size (.int .i64 (r : Int)) (.int .i64 (c : Int)) (.slice a0 len0 cap0)) := HV5.out.later hb; have l6_0 := HV6.out.c0; have l6_1 := HV6.out.c1; have l6_2 := HV6.out.c2; have HB6 : Hid (Below w.heap.size w w6) := qa1 HB5.out hb; clear hb)
     | (go_at_call 10; have _x := HB4; refine (HHa.out _).mono ?_; rintro e w5 ⟨rfl, hb⟩; have HV5 : Hid (Vr w5 w.heap.size (.int .i64 (r : Int)) (.int .i64 (c : Int)) (.slice a0 len0 cap0)) := HV4.out.later hb; have l5_0 := HV5.out.c0; have l5_1 := HV5.out.c1; have l5_2 := HV5.out.c2; have HB5 : Hid (Below w.heap.size w w5) := qa1 HB4.out hb; clear hb)
     | (go_at_call 8; have _x := HB3; refine (HSp.out _ HB3.out).mono ?_; rintro e w4 ⟨rfl, hb⟩; have HV4 : Hid (Vr w4 w.heap.size (.int .i64 (r : Int)) (.int .i64 (c : Int)) (.slice a0 len0 cap0)) := HV3.out.later hb; have l4_0 := HV4.out.c0; have l4_1 := HV4.out.c1; have l4_2 := HV4.out.c2; have HB4 : Hid (Below w.heap.size w w4) := qa1 HB3.out hb; clear hb)
     | (go_at_call 9; have _x := HB2; refine (HFu.out _).mono ?_; rintro e w3 ⟨rfl, hb⟩; have HV3 : Hid (Vr w3 w.heap.size (.int .i64 (r : Int)) (.int .i64 (c : Int)) (.slice a0 len0 cap0)) := HV2.out.later hb; have l3_0 := HV3.out.c0; have l3_1 := HV3.out.c1; have l3_2 := HV3.out.c2; have HB3 : Hid (Below w.heap.size w w3) := qa1 HB2.out hb; clear hb)
     | (go_at_call 6; have _x := HB1; refine (HG.out _).mono ?_; rintro e w2 ⟨rfl, hb⟩; have HV2 : Hid (Vr w2 w.heap.size (.int .i64 (r : Int)) (.int .i64 (c : Int)) (.slice a0 len0 cap0)) := HV1.out.later hb; have l2_0 := HV2.out.c0; have l2_1 := HV2.out.c1; have l2_2 := HV2.out.c2; have HB2 : Hid (Below w.heap.size w w2) := qa1 HB1.out hb; clear hb))
    go_ret
    exact ⟨rfl, HB6.out⟩
   ·exact absurd e0 (by decide)
   ·subst e0
    go_wp2_with (first
     | (go_at_call 7; have _x := HB2; refine (qe8 _).mono ?_; rintro e w3 ⟨rfl, hb⟩; have HV3 : Hid (Vr w3 w.heap.size (.int .i64 (r : Int)) (.int .i64 (c : Int)) (.slice a0 len0 cap0)) := HV2.out.later hb; have l3_0 := HV3.out.c0; have l3_1 := HV3.out.c1; have l3_2 := HV3.out.c2; have HB3 : Hid (Below w.heap.size w w3) := qa1 HB2.out hb; clear hb)
     | (go_at_call 6; have _x := HB1; refine (HG.out _).mono ?_; rintro e w2 ⟨rfl, hb⟩; have HV2 : Hid (Vr w2 w.heap.size (.int .i64 (r : Int)) (.int .i64 (c : Int)) (.slice a0 len0 cap0)) := HV1.out.later hb; have l2_0 := HV2.out.c0; have l2_1 := HV2.out.c1; have l2_2 := HV2.out.c2; have HB2 : Hid (Below w.heap.size w w2) := qa1 HB1.out hb; clear hb))
    go_ret
    exact ⟨rfl, HB3.out⟩
  ·have HV1 : Hid (Vr w1 w.heap.size (.int .i64 (r : Int)) (.int .i64 (c : Int)) (.slice a0 len0 cap0)) := (Vr.new w _ _ _).later hb
   have l1_0 := HV1.out.c0
   have l1_1 := HV1.out.c1
   have l1_2 := HV1.out.c2
   have HB1 : Hid (Below w.heap.size w w1) := qa1 (qa0 _ _) hb
   have hl : LstS (m2 F r c) r b x := by
    rcases hs.lst HO.out hbr with ⟨_, h1, _⟩ | ⟨_, _, hl⟩ | ⟨_, h1, _⟩
    ·exact absurd h1 (by decide)
    ·exact hl
    ·exact absurd h1 (by decide)
   have HLx := qin (qht hr hl.lt)
   clear hb HLe hs
   by_cases hss : SS (m2 F r c) r t (m2 F r c b)
   ·have HHa := qin (qgl (o := true) hr HPl.out hbr ⟨fun _ => HPi.out.2 hss, fun _ => rfl⟩)
    have hle := (hl.least t Htl.out Htb.out hss).1
    obtain ⟨X, HX⟩ : ∃ X, Hid (cn x r = X) := ⟨_, rfl⟩
    obtain ⟨Y, HY⟩ : ∃ Y, Hid (cn t r = Y) := ⟨_, rfl⟩
    rw [HX.out] at HLx hle
    rw [HY.out] at HLt hle
    have k1 : decide ((X : Int) ≤ (Y : Int)) = true := decide_eq_true (by omega)
    have k2 : decide (X ≤ Y) = true := decide_eq_true hle
    clear hl hss hle HX HY
    go_wp2_with (first
     | (go_at_call 16; have _x := HB7; refine (HLt.out _).mono ?_; rintro e w8 ⟨y8, d8, rfl, hb⟩; have HV8 : Hid (Vr w8 w.heap.size (.int .i64 (r : Int)) (.int .i64 (c : Int)) (.slice a0 len0 cap0)) := HV7.out.later hb; have l8_0 := HV8.out.c0; have l8_1 := HV8.out.c1; have l8_2 := HV8.out.c2; have HB8 : Hid (Below w.heap.size w w8) := qa1 HB7.out hb; clear hb)
     | (go_at_call 16; have _x := HB6; refine (HLx.out _).mono ?_; rintro e w7 ⟨y7, d7, rfl, hb⟩; have HV7 : Hid (Vr w7 w.heap.size (.int .i64 (r : Int)) (.int .i64 (c : Int)) (.slice a0 len0 cap0)) := HV6.out.later hb; have l7_0 := HV7.out.c0; have l7_1 := HV7.out.c1; have l7_2 := HV7.out.c2; have HB7 : Hid (Below w.heap.size w w7) := qa1 HB6.out hb; clear hb)
     | (go_at_call 7; have _x := HB5; refine (qe8 _).mono ?_; rintro e w6 ⟨rfl, hb⟩; have HV6 : Hid (Vr w6 w.heap.size (.int .i64 (r : Int)) (.int .i64 (c : Int)) (.slice a0 len0 cap0)) := HV5.out.later hb; have l6_0 := HV6.out.c0; have l6_1 := HV6.out.c1; have l6_2 := HV6.out.c2; have HB6 : Hid (Below w.heap.size w w6) := qa1 HB5.out hb; clear hb)
     | (go_at_call 10; have _x := HB4; refine (HHa.out _).mono ?_; rintro e w5 ⟨rfl, hb⟩; have HV5 : Hid (Vr w5 w.heap.size (.int .i64 (r : Int)) (.int .i64 (c : Int)) (.slice a0 len0 cap0)) := HV4.out.later hb; have l5_0 := HV5.out.c0; have l5_1 := HV5.out.c1; have l5_2 := HV5.out.c2; have HB5 : Hid (Below w.heap.size w w5) := qa1 HB4.out hb; clear hb)
     | (go_at_call 8; have _x := HB3; refine (HSp.out _ HB3.out).mono ?_; rintro e w4 ⟨rfl, hb⟩; have HV4 : Hid (Vr w4 w.heap.size (.int .i64 (r : Int)) (.int .i64 (c : Int)) (.slice a0 len0 cap0)) := HV3.out.later hb; have l4_0 := HV4.out.c0; have l4_1 := HV4.out.c1; have l4_2 := HV4.out.c2; have HB4 : Hid (Below w.heap.size w w4) := qa1 HB3.out hb; clear hb)
     | (go_at_call 9; have _x := HB2; refine (HFu.out _).mono ?_; rintro e w3 ⟨rfl, hb⟩; have HV3 : Hid (Vr w3 w.heap.size (.int .i64 (r : Int)) (.int .i64 (c : Int)) (.slice a0 len0 cap0)) := HV2.out.later hb; have l3_0 := HV3.out.c0; have l3_1 := HV3.out.c1; have l3_2 := HV3.out.c2; have HB3 : Hid (Below w.heap.size w w3) := qa1 HB2.out hb; clear hb)
     | (go_at_call 6; have _x := HB1; refine (HG.out _).mono ?_; rintro e w2 ⟨rfl, hb⟩; have HV2 : Hid (Vr w2 w.heap.size (.int .i64 (r : Int)) (.int .i64 (c : Int)) (.slice a0 len0 cap0)) := HV1.out.later hb; have l2_0 := HV2.out.c0; have l2_1 := HV2.out.c1; have l2_2 := HV2.out.c2; have HB2 : Hid (Below w.heap.size w w2) := qa1 HB1.out hb; clear hb))
    go_ret
    exact ⟨rfl, HB8.out⟩
   ·have HHa := qin (qgl (o := false) hr HPl.out hbr ⟨fun h => (by cases h), fun h => absurd (HPi.out.1 h) hss⟩)
    clear hl hss HLx
    go_wp2_with (first
     | (go_at_call 7; have _x := HB5; refine (qe8 _).mono ?_; rintro e w6 ⟨rfl, hb⟩; have HV6 : Hid (Vr w6 w.heap.size (.int .i64 (r : Int)) (.int .i64 (c : Int)) (.slice a0 len0 cap0)) := HV5.out.later hb; have l6_0 := HV6.out.c0; have l6_1 := HV6.out.c1; have l6_2 := HV6.out.c2; have HB6 : Hid (Below w.heap.size w w6) := qa1 HB5.out hb; clear hb)
     | (go_at_call 10; have _x := HB4; refine (HHa.out _).mono ?_; rintro e w5 ⟨rfl, hb⟩; have HV5 : Hid (Vr w5 w.heap.size (.int .i64 (r : Int)) (.int .i64 (c : Int)) (.slice a0 len0 cap0)) := HV4.out.later hb; have l5_0 := HV5.out.c0; have l5_1 := HV5.out.c1; have l5_2 := HV5.out.c2; have HB5 : Hid (Below w.heap.size w w5) := qa1 HB4.out hb; clear hb)
     | (go_at_call 8; have _x := HB3; refine (HSp.out _ HB3.out).mono ?_; rintro e w4 ⟨rfl, hb⟩; have HV4 : Hid (Vr w4 w.heap.size (.int .i64 (r : Int)) (.int .i64 (c : Int)) (.slice a0 len0 cap0)) := HV3.out.later hb; have l4_0 := HV4.out.c0; have l4_1 := HV4.out.c1; have l4_2 := HV4.out.c2; have HB4 : Hid (Below w.heap.size w w4) := qa1 HB3.out hb; clear hb)
     | (go_at_call 9; have _x := HB2; refine (HFu.out _).mono ?_; rintro e w3 ⟨rfl, hb⟩; have HV3 : Hid (Vr w3 w.heap.size (.int .i64 (r : Int)) (.int .i64 (c : Int)) (.slice a0 len0 cap0)) := HV2.out.later hb; have l3_0 := HV3.out.c0; have l3_1 := HV3.out.c1; have l3_2 := HV3.out.c2; have HB3 : Hid (Below w.heap.size w w3) := qa1 HB2.out hb; clear hb)
     | (go_at_call 6; have _x := HB1; refine (HG.out _).mono ?_; rintro e w2 ⟨rfl, hb⟩; have HV2 : Hid (Vr w2 w.heap.size (.int .i64 (r : Int)) (.int .i64 (c : Int)) (.slice a0 len0 cap0)) := HV1.out.later hb; have l2_0 := HV2.out.c0; have l2_1 := HV2.out.c1; have l2_2 := HV2.out.c2; have HB2 : Hid (Below w.heap.size w w2) := qa1 HB1.out hb; clear hb))
    go_ret
    exact ⟨rfl, HB6.out⟩
theorem lifted (os : Os) (started : os.Started) (H : Type) (enc : TypeId × Value → H) :
  ReturnsInHanded {} Try.checked os 4 .any (Rows.localFewestSpec.pre6 enc Try.prog Try.f4 Rows.localFewestRow.domain false) (Rows.localFewestSpec.post enc Try.prog Try.f4 false true false false) := by
 refine returnsInHanded_of_change_sized (C := Try.checked) own started (by kernel_rfl) Try.func4
  (ChangeSpec.witness6 (enc := enc) (C := Try.checked) false ⟨#[], #[.agg #[.int .i64 0, .int .i64 0, .slice none 0 0], .int .i64 0, .int .u64 0], []⟩ 8 (by kernel_rfl) (by kernel_rfl) (by kernel_rfl) (by kernel_rfl)) ?_
 intro W base args ds gs before hval0 hW hcnd hsz0 _
 have hsz : (DataW.weightsEach Try.prog (Try.f4.params.toList ++ Rows.localFewestSpec.plain.varTypes Try.prog) (ds ++ gs)).all (· ≤ reachBytes) = true := hsz0
 clear hsz0
 have hval : ∀ (j : Nat) t v, Try.f4.params[j]? = some t → args[j]? = some v → Value.okWide Try.prog W .any base t v := hval0
 have hW' := hW
 obtain ⟨p, q, hA0, hV, rfl, hfz, hnd⟩ := hW
 have hA : DataW.TrodAll enc Try.prog W 0 (fun _ => true) true Try.f4.params.toList args.toList ds p := hA0
 rw [Try.params4] at hA hval hsz
 obtain ⟨va0, vs0, d0, ds0, p0, q0, hargs, rfl, rfl, h0, tr0⟩ := trodAll_cons hA
 obtain ⟨va1, vs1, d1, ds1, p1, q1, rfl, rfl, rfl, h1, tr1⟩ := trodAll_cons tr0
 obtain ⟨va2, vs2, d2, ds2, p2, q2, rfl, rfl, rfl, h2, tr2⟩ := trodAll_cons tr1
 obtain ⟨rfl, rfl, rfl⟩ := trodAll_nil tr2
 obtain rfl : args = #[va0, va1, va2] := by cases args; simp_all
 obtain ⟨rfl, rfl⟩ := trodVars_none hV
 have k0 := h0
 have lt0 : ∀ x ∈ p0, x.block < W.heap.size := by obtain ⟨m, hm⟩ := k0; exact DataW.trod_lt m _ _ _ hm
 obtain ⟨f0, g0, s0, y0, x0, e0, m0, rfl, rfl, rfl, hf0, hg0, hs0⟩ := open_agg3 Try.underlying24 (by kernel_rfl) cellsM (hval 0 24 va0 rfl rfl) h0
 obtain ⟨r0, er0, rfl, u0⟩ := DataW.trod_int Try.underlying3 hf0
 obtain ⟨c0, ec0, rfl, v0⟩ := DataW.trod_int Try.underlying3 hg0
 simp only [List.cons.injEq, and_true] at er0 ec0
 subst er0 ec0
 obtain ⟨a0, len0, cap0, rfl⟩ : ∃ a l c, s0 = .slice a l c := by
  rcases open_ints Try.underlying22 Try.underlying5 (by kernel_rfl) hs0 with ⟨hcs, _⟩ | ⟨x, l, c, zs, hcs, _⟩
  ·simp only [List.cons.injEq, and_true] at hcs; exact ⟨_, _, _, hcs⟩
  ·simp only [List.cons.injEq, and_true] at hcs; exact ⟨_, _, _, hcs⟩
 obtain ⟨z0, w0⟩ : ∃ zs, IsRow .u8 W a0 len0 cap0 zs := by
  obtain ⟨fuel, hf⟩ := (⟨m0, hs0⟩ : ∃ fuel, DataW.trod enc Try.prog W 0 (fun _ => true) true fuel 22 [.slice a0 len0 cap0] = some e0)
  rcases open_ints Try.underlying22 Try.underlying5 (by kernel_rfl) hf with ⟨hcs, _⟩ | ⟨x, l, c, zs, hcs, _, hl, hm, hz, hxx, hcell, hwz⟩
  ·simp at hcs
   obtain ⟨rfl, rfl, rfl⟩ := hcs
   exact ⟨[], .inl ⟨rfl, rfl, rfl, rfl⟩⟩
  ·simp at hcs
   obtain ⟨rfl, rfl, rfl⟩ := hcs
   have hd := congrArg Prod.fst hxx
   have hs := sized_slice (sized_in hsz (j := 0) (t := 24) rfl rfl) (j := 2) (t := 22) (e := 5) rfl (congrArg some hd) Try.underlying22
   rw [show Try.prog.bytesOf 5 = 1 from by kernel_rfl] at hs
   have hzl : zs.length = cap0 := by simpa using hz
   simp only [lits, List.length_map, List.length_take, List.length_drop, reachBytes] at hs
   exact ⟨zs, .inr ⟨_, rfl, hl, by omega, by simpa using hz, hcell, hwz⟩⟩
 have k1 := h1
 have lt1 : ∀ x ∈ p1, x.block < W.heap.size := by obtain ⟨m, hm⟩ := k1; exact DataW.trod_lt m _ _ _ hm
 obtain ⟨n1, rfl, w1⟩ : ∃ n, va1 = .int .i64 n ∧ (Lit.int .i64 n).wf = true := by
  obtain ⟨n, rfl, _, _, hw⟩ := open_int Try.underlying3 (hval 1 3 va1 rfl rfl) h1
  exact ⟨n, rfl, hw⟩
 have k2 := h2
 have lt2 : ∀ x ∈ p2, x.block < W.heap.size := by obtain ⟨m, hm⟩ := k2; exact DataW.trod_lt m _ _ _ hm
 obtain ⟨n2, rfl, w2⟩ : ∃ n, va2 = .int .u64 n ∧ (Lit.int .u64 n).wf = true := by
  obtain ⟨n, rfl, _, _, hw⟩ := open_int Try.underlying26 (hval 2 26 va2 rfl rfl) h2
  exact ⟨n, rfl, hw⟩
 clear hA0 hval0
 refine (walk r0 c0 a0 len0 cap0 z0 n1 n2 W u0 v0 w0 w1 w2).mono fun e W' ⟨he, bel⟩ => ?_
 subst he
 exact ⟨_, rfl, _, _, _, [], _, [], hW', trodAll_mk1 (shut_bool Try.underlying4 _), (trodAll_cons_mk (Below.trod laidOut (by kernel_rfl) (of_decide_eq_true (by kernel_rfl)) k0 bel lt0) (trodAll_cons_mk (Below.trod laidOut (by kernel_rfl) (of_decide_eq_true (by kernel_rfl)) k1 bel lt1) (trodAll_cons_mk (Below.trod laidOut (by kernel_rfl) (of_decide_eq_true (by kernel_rfl)) k2 bel lt2) trodAll_mk0))), rfl, bel.frame _, fun h => by cases h⟩
theorem over : Rows.localFewestRow.holds Try.pinned (OpenSpec.ofChange Rows.localFewestSpec) :=
 OpenClaim.holds_of_wide 4 Try.f4 rfl rfl rfl rfl rfl rfl rfl ⟨rfl, rfl, rfl, rfl, rfl⟩ rfl rfl rfl rfl rfl (by kernel_rfl) Try.func4 (by kernel_rfl)
  (of_decide_eq_true (by kernel_rfl)) (by unfold Func.isWrapper; first | (rw [if_pos (by decide +kernel)]; kernel_rfl) | (rw [if_neg (by decide +kernel)]; exact ⟨rfl, rfl⟩))
  (fun os started H enc _ => lifted os started H enc)
theorem proved : Rows.LocalFewestSaid := over
#print axioms proved
end Go.Proofs.Ytblagbghpfopcaa.localFewest
