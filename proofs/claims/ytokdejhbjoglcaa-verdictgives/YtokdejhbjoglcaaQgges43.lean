/-
  Contracts of the program's matroid: ofNoughts.
  Contracts of the program's matroid: Rank, Free, Covers.
  Contracts of the program's matroid: Span, Needed.
  Contracts of the program's matroid: Basis.
  Contracts of the program's matroid: Circuit.
  Contracts of the rows' reference: the errors of Span, Basis, Needed, Circuit.
  The program's matroid and the rows' reference, together.
  The program's calls on sets of rows and the reference's answer the same.
  The checks' own anchor: one rank and one circuit that the document fixes.
  What the checks of stage 7 need besides: right; ranks as numbers; lists' lengths.
  The program's Span, Basis, Free and Needed as numbers; a set that lies in another.
  For what stays: a copy; two lists or matrices that are alike.
  Contracts of the program's verdict: isGenerator, areRows, left's function; and the reference's Generator, left.
  Contracts of the program's verdict.areRows and of the reference's left.
-/
import Derived.Test.YtokdejhbjoglcaaQgges00
import Derived.Test.YtokdejhbjoglcaaQgges42
import Derived.Test.YtokdejhbjoglcaaQgges41
import Derived.Test.YtokdejhbjoglcaaQgges03
import Derived.Test.YtokdejhbjoglcaaQgges18
import Derived.Test.YtokdejhbjoglcaaQgges15
set_option maxRecDepth 100000
set_option maxHeartbeats 16000000
namespace Go.Proofs.Ytokdejhbjoglcaa
open Go.RowKit
theorem qhy (w : World) (r c n k s : Nat) (a : Option Addr) (F : Nat → Nat) (ha : Mt w a n k F) (R : Rt r c n) (hs : s < 2 ^ r) :
  ∃ (K N : Nat) (P : Nat → Nat), K ≤ 64 ∧ Hid (K = cn s r) ∧ Hid (P = pkf F (lf s r) c) ∧ Hid (Rt K c N) ∧ Hid (∀ i, i < N → P i < 256) ∧ Hid (∀ w' : World, Below w.heap.size w w' → Calls Try.prog 81 #[mv r c a n k, .int .u64 (s : Int)] w' fun e w'' => ∃ g, e = .returned (.tuple #[mv K c (some ⟨g, 0, none⟩) N N, .int .i64 0]) ∧ Mt w'' (some ⟨g, 0, none⟩) N N P ∧ Below w'.heap.size w' w'') := by
 have hr := R.r64
 have hcl := qax r s
 have hP : ∀ i, i < cn s r * c → pkf F (lf s r) c i < 256 := fun i hi => qe7 ha.sl.1 R (fun i hi => (qab hi).1) i hi
 refine ⟨cn s r, cn s r * c, pkf F (lf s r) c, by omega, rfl, rfl, ⟨by omega, R.c64, rfl⟩, hP, fun w' hb => ?_⟩
 refine (rows_ok w' r c n k s _ a F (ha.later hb) R hs rfl).mono (fun e w'' h => ?_)
 obtain ⟨g, he, hr, hb⟩ := h
 exact ⟨g, he, hr.mt hP, hb⟩
open Go.RowKit
theorem tBase_ok (w : World) (r c n k s : Nat) (a : Option Addr) (F : Nat → Nat) (ha : Mt w a n k F) (R : Rt r c n) (hs : s < 2 ^ r) :
  Calls Try.prog 66 #[mv r c a n k, .int .u64 (s : Int)] w fun e w' => ∃ p : Nat, e = .returned (.tuple #[.int .u64 (p : Int), .int .i64 0]) ∧ BaS (m2 F r c) r s p ∧ Below w.heap.size w w' := by
 have hr := R.r64
 have hs6 := qay hr hs
 obtain ⟨K, N, P, hK, HK, HP, HRk, _, HC⟩ := qhy w r c n k s a F ha R hs
 obtain ⟨f, Bs, HF, HL, HB0, HBz, HBs, HBe⟩ : ∃ (f : Nat → Nat) (Bs : (Nat → Nat) → Nat → Nat → Prop), Hid (∀ i, i < K → f i < 64) ∧ Hid (∀ w' : World, Calls Try.prog 33 #[.int .u64 (s : Int)] w' fun e w'' => ∃ x d, e = .returned (.slice x K d) ∧ Il w'' x K (fun i => (f i : Int)) ∧ Below w'.heap.size w' w'') ∧ Hid (∀ q, Bs q 0 0) ∧ Hid (∀ q u z, Bs q u z → z < 18446744073709551616) ∧ Hid (∀ q u z, Bs q u z → q u < K → Bs q (u + 1) (z ||| 2 ^ f (q u))) ∧ Hid (∀ q t z, Bs q t z → FstL (m2 P K c) K t q → BaS (m2 F r c) r s z) := by
  refine ⟨lf s r, Bsu s r, fun i hi => ?_, qf0 hs6 (by rw [HK.out]; exact qcb hr hs) (fun i _ => qff hr hs i), fun q => Bsu.start s r q, fun q u z h => qay hr h.1, fun q u z h hq => h.step (by rw [← HK.out]; exact hq), fun q t z h hL => ?_⟩
  ·rw [HK.out] at hi
   have := (qab hi).1
   omega
  ·rw [HK.out, HP.out] at hL
   exact h.base ha.sl.1 R hL
 clear ha R hs HK HP hs6
 go_enter Try.func66, Try.ntmps66
 go_wp2_with (first
  | (go_at_call 81; refine (HC.out _ (qa1 _ _)).mono ?_; rintro e w1 ⟨g, rfl, hm1, hb1⟩; have HM1 : Hid (Mt w1 (some ⟨g, 0, none⟩) N N P) := hm1; have HB1 : Hid (Below w.heap.size w w1) := qa0 (qa1 _ _) hb1; clear hm1 hb1 HC)
  | (go_at_call 33; refine (HL.out _).mono ?_; rintro e w2 ⟨x2, d2, rfl, hj2, hb2⟩; have HI2 : Hid (Il w2 x2 K (fun i => (f i : Int))) := hj2; have HM2 : Hid (Mt w2 (some ⟨g, 0, none⟩) N N P) := (HM1.out.later (qa1 _ _)).later hb2; have HB2 : Hid (Below w.heap.size w w2) := qa0 (qa0 HB1.out (qa1 _ _)) hb2; have va := (Vr.new w1 (.int .i64 (K : Int)) (.int .i64 (c : Int)) (.slice (some ⟨g, 0, none⟩) N N)).later hb2; have a0 := va.c0; have a1 := va.c1; have a2 := va.c2; clear hj2 hb2 va HL HM1 HB1)
  | (go_at_call 82; refine (qjn _ K c N N (some ⟨g, 0, none⟩) P HM2.out HRk.out).mono ?_; rintro e w3 ⟨ps, pd, t, q, rfl, hp3, hL3, _, ht3, hb3⟩; have HI3 : Hid (Il w3 x2 K (fun i => (f i : Int))) := HI2.out.later hb3; have HJ3 : Hid (Il w3 ps t (fun i => (q i : Int))) := hp3; have HL3 : Hid (FstL (m2 P K c) K t q) := hL3; have HB3 : Hid (Below w.heap.size w w3) := qa0 HB2.out hb3; clear hp3 hL3 hb3 HB2 HM2 HI2))
 go_loop [11, 13, 32] (fun vz _ vi => ∃ u z : Nat, u ≤ t ∧ vi = .int .i64 (u : Int) ∧ vz = .int .u64 (z : Int) ∧ Hid (Bs q u z)) (fun _ _ vi => t - (intOf vi).toNat)
 case atStart => exact ⟨0, 0, by omega, rfl, rfl, HB0.out q⟩
 case round =>
  obtain ⟨u, z, hu, rfl, rfl, HZ⟩ := hrel
  by_cases hlt : u < t
  ·obtain ⟨bp, op, ep, hcp⟩ := HJ3.out u hlt
   have hqK := HL3.out.lt u hlt
   obtain ⟨v, HV⟩ : ∃ v, Hid (q u = v) := ⟨_, rfl⟩
   dsimp only at hcp
   rw [HV.out] at hcp hqK
   obtain ⟨bx, ox, ex, hcx⟩ := HI3.out v hqK
   have hf6 := HF.out v hqK
   obtain ⟨m, HM⟩ : ∃ m, Hid (f v = m) := ⟨_, rfl⟩
   dsimp only at hcx
   rw [HM.out] at hcx hf6
   subst ep
   subst ex
   obtain ⟨T, HT⟩ : ∃ T : Nat, Hid (2 ^ m = T) := ⟨_, rfl⟩
   have hp2 : IntKind.u64.wrap (2 ^ m) = (T : Int) := by rw [← HT.out]; exact qhu m hf6
   have hT6 : T < 18446744073709551616 := by rw [← HT.out]; exact qcp hf6
   obtain ⟨y, HU⟩ : ∃ y, Hid (z ||| T = y) := ⟨_, rfl⟩
   have hor : bits .or .u64 (z : Int) (T : Int) = (y : Int) := by rw [← HU.out]; exact u64_or_nat z T (HBz.out q u z HZ.out) hT6
   have p0 : (0 : Int) ≤ (u : Int) := by omega
   have p1 : (u : Int) < (t : Int) := by omega
   have p2 : (0 : Int) ≤ (v : Int) := by omega
   have p3 : (v : Int) < (K : Int) := by omega
   have HN : Hid (Bs q (u + 1) y) := by
    have := HBs.out q u z HZ.out (by rw [HV.out]; exact hqK)
    rw [HV.out, HM.out, HT.out, HU.out] at this
    exact this
   clear hT6
   go_wp2
   exact ⟨⟨u + 1, y, by omega, by go_num, by go_num, HN⟩, by simp [intOf]; omega⟩
  ·obtain rfl : u = t := by omega
   go_wp2
   go_ret2
   exact ⟨z, rfl, HBe.out q u z HZ.out HL3.out, HB3.out⟩
open Go.RowKit
theorem qjo {b b' : Bool} {P : Prop} (h : b = true ↔ P) (h' : b' = true ↔ P) : b = b' := by
 cases b <;> cases b' <;> simp_all
theorem bld_ex (P : Nat → Prop) : ∀ n, ∃ p, Bld P n p := by
 intro n
 induction n with
 | zero => exact ⟨0, Bld.start P⟩
 | succ n ih =>
  obtain ⟨p, hp⟩ := ih
  by_cases h : P n
  ·exact ⟨_, hp.yes h⟩
  ·exact ⟨_, hp.no h⟩
open Go.RowKit
/-- The document's five rows. -/
def g5 (i : Nat) : Nat := if i = 0 then 1 else if i = 3 then 1 else if i = 4 then 1 else if i = 5 then 1 else if i = 6 then 2 else if i = 7 then 2 else 0
theorem ss_col {M : Nat → Nat → Nat} {R s j : Nat} {y : Nat → Nat} (h : SS M R s y) (h0 : ∀ i, i < R → bt s i = 1 → M i j = 0) : y j = 0 := by
 obtain ⟨a, _, hy⟩ := h
 rw [hy j]
 refine qad (fun i hi => ?_)
 show fm (a i) (mk M s i j) = 0
 unfold mk
 split
 ·rw [h0 i hi (by assumption), qa7]
 ·rw [qa7]
theorem bt0 (i : Nat) : ¬ bt 0 i = 1 := by rw [qcq (n := 0) (by decide) (Nat.zero_le _)]; decide
open Go.RowKit
theorem base_num {w : World} {r c n k s p : Nat} {a : Option Addr} {F : Nat → Nat} (ha : Mt w a n k F) (R : Rt r c n) (hs : s < 2 ^ r) (hp : BaS (m2 F r c) r s p) :
  ∀ w' : World, Below w.heap.size w w' → Calls Try.prog 66 #[mv r c a n k, .int .u64 (s : Int)] w' fun e w'' => e = .returned (.tuple #[.int .u64 (p : Int), .int .i64 0]) ∧ Below w'.heap.size w' w'' := fun w' hb =>
 (tBase_ok w' r c n k s a F (ha.later hb) R hs).mono (fun e w'' h => by
  obtain ⟨t', he, ht', hbb⟩ := h
  rw [ht'.one hp] at he
  exact ⟨he, hbb⟩)
open Go.RowKit
theorem like7 (w : World) (r c : Int) (a b : Option Addr) (n k d : Nat) (f : Nat → Nat) (ha : Mt w a n k f) (hb : Mt w b n d f) : Calls Try.prog 36 #[mv r c a n k, mv r c b n d] w fun e w' => e = .returned (.bool true) ∧ Below w.heap.size w w' := by
 have := qhl w r c r c a b n n k d f f ha.sl hb.sl
 rw [qhn (fun _ _ => rfl)] at this
 exact this
open Go.RowKit Go.Shelf
attribute [local go_sem] Oper.semAt_some
theorem qac {p : Prop} (h : p) : Hid p := h
/-- A matrix may be a generator. -/
def GenP (r c : Int) (n : Nat) : Prop := RightP r c n ∧ 1 ≤ c ∧ c ≤ r
theorem GenP.nat {r c : Int} {n : Nat} (h : GenP r c n) : ∃ r' c' : Nat, r = (r' : Int) ∧ c = (c' : Int) ∧ Rt r' c' n ∧ 1 ≤ c' ∧ c' ≤ r' := by
  obtain ⟨⟨h1, h2, h3, h4, h5⟩, h6, h7⟩ := h
  obtain ⟨x, rfl⟩ := Int.eq_ofNat_of_zero_le h1
  obtain ⟨y, rfl⟩ := Int.eq_ofNat_of_zero_le h3
  exact ⟨x, y, rfl, rfl, ⟨by omega, by omega, by have : (n : Int) = ((x * y : Nat) : Int) := by rw [h5]; simp
                                                 omega⟩, by omega, by omega⟩
theorem qbs (w : World) (r c : Int) (n k : Nat) (a : Option Addr) (b : Bool) (hb : b = true ↔ GenP r c n) :
  Calls Try.prog 43 #[mv r c a n k] w fun e w' => e = .returned (.bool b) ∧ Below w.heap.size w w' := by
 obtain ⟨wb, HW⟩ : ∃ wb, Hid (w.alloc (.cells #[.int .i64 r, .int .i64 c, .slice a n k] 24) = wb) := ⟨_, rfl⟩
 have HB0 : Hid (Below w.heap.size w wb) := by rw [← HW.out]; exact qa1 _ _
 have HV : Hid (Vr wb w.heap.size (.int .i64 r) (.int .i64 c) (.slice a n k)) := by rw [← HW.out]; exact Vr.new w _ _ _
 by_cases h : RightP r c n
 ·have HP : Hid (RightP r c n) := h
  have HE : Hid (b = (decide (1 ≤ c) && decide (c ≤ r))) := by
   show b = _
   cases b with
   | true =>
    have := hb.1 rfl
    simp [this.2.1, this.2.2]
   | false =>
    have : ¬ (1 ≤ c ∧ c ≤ r) := fun h2 => by have := hb.2 ⟨h, h2.1, h2.2⟩; cases this
    by_cases h1 : 1 ≤ c
    ·simp [h1]; omega
    ·simp [h1]
  clear h hb
  by_cases h1 : 1 ≤ c
  ·have g0 : decide ((0 : Int) < c) = true := decide_eq_true (by omega)
   have g1 : decide ((1 : Int) ≤ c) = true := decide_eq_true h1
   go_enter Try.func43, Try.ntmps43
   go_wp2_with (go_at_call 52; rw [HW.out]; refine (qas _ _ _ _ _ _ HP.out).mono ?_; rintro e w1 ⟨rfl, hb1⟩; have HB1 : Hid (Below wb.heap.size wb w1) := hb1; have v0 := (HV.out.later hb1).c0; have v1 := (HV.out.later hb1).c1; clear hb1)
   go_ret
   exact ⟨by rw [HE.out, g1]; simp, qa0 HB0.out HB1.out⟩
  ·have g0 : decide ((0 : Int) < c) = false := decide_eq_false (by omega)
   have g1 : decide ((1 : Int) ≤ c) = false := decide_eq_false h1
   go_enter Try.func43, Try.ntmps43
   go_wp2_with (go_at_call 52; rw [HW.out]; refine (qas _ _ _ _ _ _ HP.out).mono ?_; rintro e w1 ⟨rfl, hb1⟩; have HB1 : Hid (Below wb.heap.size wb w1) := hb1; have v0 := (HV.out.later hb1).c0; have v1 := (HV.out.later hb1).c1; clear hb1)
   go_ret
   exact ⟨by rw [HE.out, g1]; simp, qa0 HB0.out HB1.out⟩
 ·have HP : Hid (¬ RightP r c n) := h
  have HE : Hid (b = false) := by
   show b = _
   cases b with
   | true => exact (h (hb.1 rfl).1).elim
   | false => rfl
  clear h hb
  go_enter Try.func43, Try.ntmps43
  go_wp2_with (go_at_call 52; rw [HW.out]; refine (qiu _ _ _ _ _ _ HP.out).mono ?_; rintro e w1 ⟨rfl, hb1⟩; have HB1 : Hid (Below wb.heap.size wb w1) := hb1; have v0 := (HV.out.later hb1).c0; have v1 := (HV.out.later hb1).c1; clear hb1)
  go_ret
  exact ⟨by rw [HE.out]; rfl, qa0 HB0.out HB1.out⟩
theorem qjp (w : World) (r c : Int) (n k : Nat) (a : Option Addr) (b : Bool) (hb : b = true ↔ GenP r c n) :
  Calls Try.prog 22 #[mv r c a n k] w fun e w' => e = .returned (.bool b) ∧ Below w.heap.size w w' := by
 obtain ⟨wb, HW⟩ : ∃ wb, Hid (w.alloc (.cells #[.int .i64 r, .int .i64 c, .slice a n k] 24) = wb) := ⟨_, rfl⟩
 have HB0 : Hid (Below w.heap.size w wb) := by rw [← HW.out]; exact qa1 _ _
 have HV : Hid (Vr wb w.heap.size (.int .i64 r) (.int .i64 c) (.slice a n k)) := by rw [← HW.out]; exact Vr.new w _ _ _
 by_cases h : RightP r c n
 ·have HP : Hid (RightP r c n) := h
  have HE : Hid (b = (decide (1 ≤ c) && decide (c ≤ r))) := by
   show b = _
   cases b with
   | true =>
    have := hb.1 rfl
    simp [this.2.1, this.2.2]
   | false =>
    have : ¬ (1 ≤ c ∧ c ≤ r) := fun h2 => by have := hb.2 ⟨h, h2.1, h2.2⟩; cases this
    by_cases h1 : 1 ≤ c
    ·simp [h1]; omega
    ·simp [h1]
  clear h hb
  by_cases h1 : 1 ≤ c
  ·have g0 : decide ((0 : Int) < c) = true := decide_eq_true (by omega)
   have g1 : decide ((1 : Int) ≤ c) = true := decide_eq_true h1
   go_enter Try.func22, Try.ntmps22
   go_wp2_with (go_at_call 37; rw [HW.out]; refine (qaq _ _ _ _ _ _ HP.out).mono ?_; rintro e w1 ⟨rfl, hb1⟩; have HB1 : Hid (Below wb.heap.size wb w1) := hb1; have v0 := (HV.out.later hb1).c0; have v1 := (HV.out.later hb1).c1; clear hb1)
   go_ret
   exact ⟨by rw [HE.out, g1]; simp, qa0 HB0.out HB1.out⟩
  ·have g0 : decide ((0 : Int) < c) = false := decide_eq_false (by omega)
   have g1 : decide ((1 : Int) ≤ c) = false := decide_eq_false h1
   go_enter Try.func22, Try.ntmps22
   go_wp2_with (go_at_call 37; rw [HW.out]; refine (qaq _ _ _ _ _ _ HP.out).mono ?_; rintro e w1 ⟨rfl, hb1⟩; have HB1 : Hid (Below wb.heap.size wb w1) := hb1; have v0 := (HV.out.later hb1).c0; have v1 := (HV.out.later hb1).c1; clear hb1)
   go_ret
   exact ⟨by rw [HE.out, g1]; simp, qa0 HB0.out HB1.out⟩
 ·have HP : Hid (¬ RightP r c n) := h
  have HE : Hid (b = false) := by
   show b = _
   cases b with
   | true => exact (h (hb.1 rfl).1).elim
   | false => rfl
  clear h hb
  go_enter Try.func22, Try.ntmps22
  go_wp2_with (go_at_call 37; rw [HW.out]; refine (right_no _ _ _ _ _ _ HP.out).mono ?_; rintro e w1 ⟨rfl, hb1⟩; have HB1 : Hid (Below wb.heap.size wb w1) := hb1; have v0 := (HV.out.later hb1).c0; have v1 := (HV.out.later hb1).c1; clear hb1)
  go_ret
  exact ⟨by rw [HE.out]; rfl, qa0 HB0.out HB1.out⟩
open Go.RowKit Go.Shelf
theorem qbt (w : World) (r s n k : Nat) (c : Int) (a : Option Addr) (hr : r ≤ 64) (hs6 : s < 18446744073709551616) :
  Calls Try.prog 44 #[mv r c a n k, .int .u64 (s : Int)] w fun e w' => e = .returned (.bool (decide (s < 2 ^ r))) ∧ Below w.heap.size w w' := by
 obtain ⟨A, HA⟩ : ∃ A : Nat, Hid ((2 ^ r - 1 : Nat) = A) := ⟨_, rfl⟩
 obtain ⟨z, hz1, hz2⟩ := qdc hs6 hr HA.out
 have HZ : Hid (((z : Int) == 0) = decide (s < 2 ^ r)) := by
  show _ = _
  by_cases h : s < 2 ^ r
  ·rw [decide_eq_true h, hz2.2 h]; rfl
  ·rw [decide_eq_false h, beq_eq_false_iff_ne]
   intro e
   exact h (hz2.1 (by omega))
 clear hz2 hs6
 go_enter Try.func44, Try.ntmps44
 go_wp2_with (go_at_call 64; refine (jfull_ok r _ hr).mono ?_; rintro e w' ⟨rfl, rfl⟩; rw [HA.out])
 go_ret
 exact ⟨by rw [← HZ.out]; rfl, qa1 _ _⟩
theorem qg1 (w : World) (r c : Int) (n k s : Nat) (a : Option Addr) (h : ¬ GenP r c n) :
  Calls Try.prog 23 #[mv r c a n k, .int .u64 (s : Int)] w fun e w' => e = .returned (.tuple #[.int .u64 0, .int .i64 3]) ∧ Below w.heap.size w w' := by
 have HP : Hid (∀ w' : World, Calls Try.prog 22 #[mv r c a n k] w' fun e w'' => e = .returned (.bool false) ∧ Below w'.heap.size w' w'') := fun w' => qjp w' r c n k a false (by simp [h])
 clear h
 go_enter Try.func23, Try.ntmps23
 go_wp2_with (go_at_call 22; refine (HP.out _).mono ?_; rintro e w1 ⟨rfl, hb⟩; have HB1 : Hid (Below w.heap.size w w1) := qa0 (qa1 _ _) hb; clear hb)
 go_ret2
 exact ⟨rfl, HB1.out⟩
theorem qjq (w : World) (r c n k s : Nat) (a : Option Addr) (G : GenP r c n) (hr : r ≤ 64) (hs6 : s < 18446744073709551616) (h : ¬ s < 2 ^ r) :
  Calls Try.prog 23 #[mv r c a n k, .int .u64 (s : Int)] w fun e w' => e = .returned (.tuple #[.int .u64 0, .int .i64 2]) ∧ Below w.heap.size w w' := by
 have HP : Hid (∀ w' : World, Calls Try.prog 22 #[mv r c a n k] w' fun e w'' => e = .returned (.bool true) ∧ Below w'.heap.size w' w'') := fun w' => qjp w' r c n k a true (by simp [G])
 obtain ⟨A, HA⟩ : ∃ A : Nat, Hid ((2 ^ r - 1 : Nat) = A) := ⟨_, rfl⟩
 obtain ⟨z, hz1, hz2⟩ := qdc hs6 hr HA.out
 have hz3 : ((z : Int) == 0) = false := by
  simp only [beq_eq_false_iff_ne, ne_eq]
  intro e
  exact h (hz2.1 (by omega))
 clear G hz2 h hs6
 go_enter Try.func23, Try.ntmps23
 go_wp2_with (first
  | (go_at_call 22; refine (HP.out _).mono ?_; rintro e w1 ⟨rfl, hb⟩; have HV1 := (Vr.new w (.int .i64 (r : Int)) (.int .i64 (c : Int)) (.slice a n k)).later hb; have v0 := HV1.c0; have HB1 : Hid (Below w.heap.size w w1) := qa0 (qa1 _ _) hb; clear hb HV1)
  | (go_at_call 19; refine (qex r _ hr).mono ?_; rintro e w' ⟨rfl, rfl⟩; rw [HA.out]))
 go_ret2
 exact ⟨rfl, HB1.out⟩
/-- The blocks that are left, as a number: those of r that are not in s. -/
theorem left_num {r s : Nat} (hr : r ≤ 64) (hs : s < 2 ^ r) : ∃ t : Nat, bits .andNot .u64 ((2 ^ r - 1 : Nat) : Int) (s : Int) = (t : Int) ∧ t < 2 ^ r ∧ ∀ i, i < r → (bt t i = 1 ↔ ¬ bt s i = 1) := by
 have hs6 := qay hr hs
 have hp : 0 < 2 ^ r := Nat.two_pow_pos r
 have hA : 2 ^ r - 1 < 2 ^ r := by omega
 have hA6 := qay hr hA
 refine ⟨_, u64_andNot_nat _ s hA6 hs6, Nat.lt_of_le_of_lt Nat.and_le_left hA, fun i hi => ?_⟩
 rw [bt_diff hA6 hs6]
 have : bt (2 ^ r - 1) i = 1 := by
  have := Nat.testBit_two_pow_sub_one r i
  simp [Nat.testBit, hi, Nat.shiftRight_eq_div_pow, Nat.one_and_eq_mod_two] at this
  unfold bt
  omega
 exact ⟨fun h => h.2, fun h => ⟨this, h⟩⟩
theorem rleft_ok (w : World) (r c n k s t : Nat) (a : Option Addr) (G : GenP r c n) (hr : r ≤ 64) (hs : s < 2 ^ r) (ht : bits .andNot .u64 ((2 ^ r - 1 : Nat) : Int) (s : Int) = (t : Int)) :
  Calls Try.prog 23 #[mv r c a n k, .int .u64 (s : Int)] w fun e w' => e = .returned (.tuple #[.int .u64 (t : Int), .int .i64 0]) ∧ Below w.heap.size w w' := by
 have HP : Hid (∀ w' : World, Calls Try.prog 22 #[mv r c a n k] w' fun e w'' => e = .returned (.bool true) ∧ Below w'.heap.size w' w'') := fun w' => qjp w' r c n k a true (by simp [G])
 obtain ⟨A, HA⟩ : ∃ A : Nat, Hid ((2 ^ r - 1 : Nat) = A) := ⟨_, rfl⟩
 obtain ⟨z, hz1, hz2⟩ := qdc (qay hr hs) hr HA.out
 have han : bits .andNot .u64 (s : Int) (A : Int) = 0 := by rw [hz1, hz2.2 hs]; rfl
 rw [HA.out] at ht
 clear G hz1 hz2 hs
 go_enter Try.func23, Try.ntmps23
 go_wp2_with (first
  | (go_at_call 22; refine (HP.out _).mono ?_; rintro e w1 ⟨rfl, hb⟩; have HV1 := (Vr.new w (.int .i64 (r : Int)) (.int .i64 (c : Int)) (.slice a n k)).later hb; have v0 := HV1.c0; have HB1 : Hid (Below w.heap.size w w1) := qa0 (qa1 _ _) hb; clear hb HV1)
  | (go_at_call 19; refine (qex r _ hr).mono ?_; rintro e w' ⟨rfl, rfl⟩; rw [HA.out]))
 go_ret2
 exact ⟨rfl, HB1.out⟩
end Go.Proofs.Ytokdejhbjoglcaa
