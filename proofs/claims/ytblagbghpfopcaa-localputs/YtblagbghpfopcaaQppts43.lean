/-
  For what stays: a copy; two lists or matrices that are alike.
  Stage 19: rows in fewest columns have the same factors in all combinations.
  Stage 19: local's isGenerator, isRow, wrong, inFewest, repairs.
-/
import Derived.Test.YtblagbghpfopcaaQppts00
import Derived.Test.YtblagbghpfopcaaQppts41
import Derived.Test.YtblagbghpfopcaaQppts42
import Derived.Test.YtblagbghpfopcaaQppts20
import Derived.Test.YtblagbghpfopcaaQppts10
import Derived.Test.YtblagbghpfopcaaQppts39
import Derived.Test.YtblagbghpfopcaaQppts13
import Derived.Deep.RegionHeld3
set_option maxRecDepth 100000
set_option maxHeartbeats 16000000
namespace Go.Proofs.Ytblagbghpfopcaa
open Go.RowKit
theorem same7 (w : World) (a b : Option Addr) (n k d : Nat) (f : Nat → Nat) (ha : Mt w a n k f) (hb : Mt w b n d f) : Calls Try.prog 15 #[.slice a n k, .slice b n d] w fun e w' => e = .returned (.bool true) ∧ Below w.heap.size w w' :=
 (qfq w a b n k d f ha.sl hb.sl).mono (fun _ _ h => ⟨h.1, by rw [h.2]; exact Below.refl _ _⟩)
open Go.RowKit Go.Shelf
theorem qa6 {p : Prop} (h : p) : Hid p := h
/-- Two matrices with the same rows' relations. -/
def KerEq (M N : Nat → Nat → Nat) (r : Nat) : Prop := ∀ d, El d → ((∀ j, lc d M r j = 0) ↔ ∀ j, lc d N r j = 0)
theorem KerEq.symm {M N : Nat → Nat → Nat} {r : Nat} (h : KerEq M N r) : KerEq N M r := fun d hd => (h d hd).symm
theorem ql3 {M N : Nat → Nat → Nat} {r s b : Nat} (hM : El2 M) (hN : El2 N) (h : KerEq M N r) (hb : b < r) (hs : SS M r s (M b)) : SS N r s (N b) := by
 obtain ⟨a, ha, e⟩ := hs
 have hmk : ∀ (K : Nat → Nat → Nat) j, lc a (mk K s) r j = lc (fun i => if bt s i = 1 then a i else 0) K r j := fun K j => qa5 (fun i _ => by
  show fm (a i) (if bt s i = 1 then K i j else 0) = fm (if bt s i = 1 then a i else 0) (K i j)
  by_cases hi : bt s i = 1
  ·rw [if_pos hi, if_pos hi]
  ·rw [if_neg hi, if_neg hi, qa7, qab])
 have hel : El (fun i => if bt s i = 1 then a i else 0) := fun i => by
  show (if _ then _ else _) < 256
  split
  ·exact ha i
  ·decide
 have key : ∀ (K : Nat → Nat → Nat) (_ : El2 K) j, lc (fun i => (if bt s i = 1 then a i else 0) ^^^ dl b i) K r j = lc a (mk K s) r j ^^^ K b j := fun K hK j => by
  rw [qei hel (qia b), ← hmk, lc_dl hK hb]
 have h0 : ∀ j, lc (fun i => (if bt s i = 1 then a i else 0) ^^^ dl b i) M r j = 0 := fun j => by rw [key M hM, ← e j, Nat.xor_self]
 have h1 := (h _ (fun i => qbb _ _ (hel i) (qia b i))).1 h0
 refine ⟨a, ha, fun j => ?_⟩
 have h2 := h1 j
 rw [key N hN] at h2
 have h3 := congrArg (· ^^^ N b j) h2
 simpa [Nat.xor_assoc] using h3.symm
theorem qer {M N : Nat → Nat → Nat} {r s b : Nat} (hM : El2 M) (hN : El2 N) (h : KerEq M N r) (hb : b < r) : SS M r s (M b) ↔ SS N r s (N b) := ⟨ql3 hM hN h hb, ql3 hN hM h.symm hb⟩
theorem lc_dt {F : Nat → Nat} {r c n j : Nat} {d : Nat → Nat} (hF : ∀ i, i < n → F i < 256) (R : Rt r c n) (hd : El d) (hj : j < c) : lc d (m2 F r c) r j = dt (m2 (trf F r c) c r j) d r := qa5 (fun i hi => by
 rw [qaw F hi hj, qaw _ hj hi, qdw F r c i j hi]
 exact qad _ _ (hd i) (hF _ (R.at hi hj)))
/-- The columns of the reduced form, turned, have the same rows' relations. -/
theorem few_ker {F G p : Nat → Nat} {r c n top : Nat} (hF : ∀ i, i < n → F i < 256) (R : Rt r c n) (hG : ∀ i, i < n → G i < 256) (hR : Rdf (m2 G c r) c top p) (hS : SpEq (m2 G c r) c (m2 (trf F r c) c r) c) : KerEq (m2 F r c) (m2 (trf G top r) r top) r := by
 have R2 : Rt c r n := R.turn
 have hGe : El2 (m2 G c r) := qaz hG R2
 have hTe : El2 (m2 (trf F r c) c r) := qaz (qdf hF R) R2
 intro d hd
 have cross : ∀ (A B : Nat → Nat → Nat), El2 B → Le A c B c → (∀ l, l < c → dt (B l) d r = 0) → ∀ l, l < c → dt (A l) d r = 0 := fun A B hB hle h0 l hl => by
  obtain ⟨a, ha, e⟩ := hle l hl
  have e2 : dt (A l) d r = dt (lc a B c) d r := qa5 (fun j _ => by rw [e j])
  rw [e2, dt_lc ha hB]
  exact qac (fun i hi => by rw [h0 i hi, qa7])
 have few : ∀ l, l < top → lc d (m2 (trf G top r) r top) r l = dt (m2 G c r l) d r := fun l hl => qa5 (fun i hi => by
  have hlc : l < c := Nat.lt_of_lt_of_le hl hR.kr
  rw [qaw _ hi hl, qdw G top r l i hl, qaw G hlc hi]
  exact qad _ _ (hd i) (hG _ (R2.at hlc hi)))
 constructor
 ·intro h j
  by_cases hj : j < top
  ·rw [few j hj]
   exact cross _ _ hTe hS.1 (fun l hl => by rw [← lc_dt hF R hd hl]; exact h l) j (Nat.lt_of_lt_of_le hj hR.kr)
  ·exact qac (fun i _ => by rw [qag _ (by omega), qa7])
 ·intro h j
  by_cases hj : j < c
  ·rw [lc_dt hF R hd hj]
   refine cross _ _ hGe hS.2 (fun l hl => ?_) j hj
   by_cases ht : l < top
   ·rw [← few l ht]; exact h l
   ·exact qac (fun i _ => by rw [hR.nul l i (by omega) hl, qab])
  ·exact qac (fun i _ => by rw [qag _ (by omega), qa7])
open Go.RowKit Go.Shelf
attribute [local go_sem] Oper.semAt_some
/-- A matrix may be a generator. -/
def GenQ (r c : Int) (n : Nat) : Prop := RightP r c n ∧ 1 ≤ c ∧ c ≤ r
theorem GenQ.nat {r c : Int} {n : Nat} (h : GenQ r c n) : ∃ r' c' : Nat, r = (r' : Int) ∧ c = (c' : Int) ∧ Rt r' c' n ∧ 1 ≤ c' ∧ c' ≤ r' := by
  obtain ⟨⟨h1, h2, h3, h4, h5⟩, h6, h7⟩ := h
  obtain ⟨x, rfl⟩ := Int.eq_ofNat_of_zero_le h1
  obtain ⟨y, rfl⟩ := Int.eq_ofNat_of_zero_le h3
  exact ⟨x, y, rfl, rfl, ⟨by omega, by omega, by have : (n : Int) = ((x * y : Nat) : Int) := by rw [h5]; simp
                                                 omega⟩, by omega, by omega⟩
theorem ql4 (w : World) (r c : Int) (n k : Nat) (a : Option Addr) (b : Bool) (hb : b = true ↔ GenQ r c n) :
  Calls Try.prog 31 #[mv r c a n k] w fun e w' => e = .returned (.bool b) ∧ Below w.heap.size w w' := by
 obtain ⟨wb, HW⟩ : ∃ wb, Hid (w.alloc (.cells #[.int .i64 r, .int .i64 c, .slice a n k] 24) = wb) := ⟨_, rfl⟩
 have HB0 : Hid (Below w.heap.size w wb) := by rw [← HW.out]; exact qa0 _ _
 have HV : Hid (Vr wb w.heap.size (.int .i64 r) (.int .i64 c) (.slice a n k)) := by rw [← HW.out]; exact Vr.new w _ _ _
 by_cases h : RightP r c n
 ·have HP : Hid (RightP r c n) := h
  have HE : Hid (b = (decide (1 ≤ c) && decide (c ≤ r))) := by
   show b = _
   cases b with
   | true =>
    have := hb.1 rfl
    simp [this.2.1, this.2.2]
   | false =>
    have : ¬ (1 ≤ c ∧ c ≤ r) := fun h2 => by have := hb.2 ⟨h, h2.1, h2.2⟩; cases this
    by_cases h1 : 1 ≤ c
    ·simp [h1]; omega
    ·simp [h1]
  clear h hb
  by_cases h1 : 1 ≤ c
  ·have g0 : decide ((0 : Int) < c) = true := decide_eq_true (by omega)
   have g1 : decide ((1 : Int) ≤ c) = true := decide_eq_true h1
   go_enter Try.func31, Try.ntmps31
   go_wp2_with (go_at_call 39; rw [HW.out]; refine (qaq _ _ _ _ _ _ HP.out).mono ?_; rintro e w1 ⟨rfl, hb1⟩; have HB1 : Hid (Below wb.heap.size wb w1) := hb1; have v0 := (HV.out.later hb1).c0; have v1 := (HV.out.later hb1).c1; clear hb1)
   go_ret
   exact ⟨by rw [HE.out, g1]; simp, qa1 HB0.out HB1.out⟩
  ·have g0 : decide ((0 : Int) < c) = false := decide_eq_false (by omega)
   have g1 : decide ((1 : Int) ≤ c) = false := decide_eq_false h1
   go_enter Try.func31, Try.ntmps31
   go_wp2_with (go_at_call 39; rw [HW.out]; refine (qaq _ _ _ _ _ _ HP.out).mono ?_; rintro e w1 ⟨rfl, hb1⟩; have HB1 : Hid (Below wb.heap.size wb w1) := hb1; have v0 := (HV.out.later hb1).c0; have v1 := (HV.out.later hb1).c1; clear hb1)
   go_ret
   exact ⟨by rw [HE.out, g1]; simp, qa1 HB0.out HB1.out⟩
 ·have HP : Hid (¬ RightP r c n) := h
  have HE : Hid (b = false) := by
   show b = _
   cases b with
   | true => exact (h (hb.1 rfl).1).elim
   | false => rfl
  clear h hb
  go_enter Try.func31, Try.ntmps31
  go_wp2_with (go_at_call 39; rw [HW.out]; refine (qjs _ _ _ _ _ _ HP.out).mono ?_; rintro e w1 ⟨rfl, hb1⟩; have HB1 : Hid (Below wb.heap.size wb w1) := hb1; have v0 := (HV.out.later hb1).c0; have v1 := (HV.out.later hb1).c1; clear hb1)
  go_ret
  exact ⟨by rw [HE.out]; rfl, qa1 HB0.out HB1.out⟩
theorem ql5 (w : World) (r c : Int) (n k : Nat) (a : Option Addr) (b : Bool) (hb : b = true ↔ GenQ r c n) :
  Calls Try.prog 6 #[mv r c a n k] w fun e w' => e = .returned (.bool b) ∧ Below w.heap.size w w' := by
 obtain ⟨wb, HW⟩ : ∃ wb, Hid (w.alloc (.cells #[.int .i64 r, .int .i64 c, .slice a n k] 24) = wb) := ⟨_, rfl⟩
 have HB0 : Hid (Below w.heap.size w wb) := by rw [← HW.out]; exact qa0 _ _
 have HV : Hid (Vr wb w.heap.size (.int .i64 r) (.int .i64 c) (.slice a n k)) := by rw [← HW.out]; exact Vr.new w _ _ _
 by_cases h : RightP r c n
 ·have HP : Hid (RightP r c n) := h
  have HE : Hid (b = (decide (1 ≤ c) && decide (c ≤ r))) := by
   show b = _
   cases b with
   | true =>
    have := hb.1 rfl
    simp [this.2.1, this.2.2]
   | false =>
    have : ¬ (1 ≤ c ∧ c ≤ r) := fun h2 => by have := hb.2 ⟨h, h2.1, h2.2⟩; cases this
    by_cases h1 : 1 ≤ c
    ·simp [h1]; omega
    ·simp [h1]
  clear h hb
  by_cases h1 : 1 ≤ c
  ·have g0 : decide ((0 : Int) < c) = true := decide_eq_true (by omega)
   have g1 : decide ((1 : Int) ≤ c) = true := decide_eq_true h1
   go_enter Try.func6, Try.ntmps6
   go_wp2_with (go_at_call 25; rw [HW.out]; refine (qam _ _ _ _ _ _ HP.out).mono ?_; rintro e w1 ⟨rfl, hb1⟩; have HB1 : Hid (Below wb.heap.size wb w1) := hb1; have v0 := (HV.out.later hb1).c0; have v1 := (HV.out.later hb1).c1; clear hb1)
   go_ret
   exact ⟨by rw [HE.out, g1]; simp, qa1 HB0.out HB1.out⟩
  ·have g0 : decide ((0 : Int) < c) = false := decide_eq_false (by omega)
   have g1 : decide ((1 : Int) ≤ c) = false := decide_eq_false h1
   go_enter Try.func6, Try.ntmps6
   go_wp2_with (go_at_call 25; rw [HW.out]; refine (qam _ _ _ _ _ _ HP.out).mono ?_; rintro e w1 ⟨rfl, hb1⟩; have HB1 : Hid (Below wb.heap.size wb w1) := hb1; have v0 := (HV.out.later hb1).c0; have v1 := (HV.out.later hb1).c1; clear hb1)
   go_ret
   exact ⟨by rw [HE.out, g1]; simp, qa1 HB0.out HB1.out⟩
 ·have HP : Hid (¬ RightP r c n) := h
  have HE : Hid (b = false) := by
   show b = _
   cases b with
   | true => exact (h (hb.1 rfl).1).elim
   | false => rfl
  clear h hb
  go_enter Try.func6, Try.ntmps6
  go_wp2_with (go_at_call 25; rw [HW.out]; refine (right_no _ _ _ _ _ _ HP.out).mono ?_; rintro e w1 ⟨rfl, hb1⟩; have HB1 : Hid (Below wb.heap.size wb w1) := hb1; have v0 := (HV.out.later hb1).c0; have v1 := (HV.out.later hb1).c1; clear hb1)
  go_ret
  exact ⟨by rw [HE.out]; rfl, qa1 HB0.out HB1.out⟩
theorem qiz (w : World) (r c b : Int) (n k : Nat) (a : Option Addr) (h : 0 ≤ b ∧ b < r) :
  Calls Try.prog 32 #[mv r c a n k, .int .i64 b] w fun e w' => e = .returned (.bool true) ∧ Below w.heap.size w w' := by
 have g1 : decide (0 ≤ b) = true := by simpa using h.1
 have g2 : decide (b < r) = true := by simpa using h.2
 go_enter Try.func32, Try.ntmps32
 go_wp2
 go_ret
 exact ⟨rfl, qa0 _ _⟩
theorem ql6 (w : World) (r c b : Int) (n k : Nat) (a : Option Addr) (h : ¬ (0 ≤ b ∧ b < r)) :
  Calls Try.prog 32 #[mv r c a n k, .int .i64 b] w fun e w' => e = .returned (.bool false) ∧ Below w.heap.size w w' := by
 by_cases h1 : 0 ≤ b
 ·have g1 : decide (0 ≤ b) = true := by simpa using h1
  have g2 : decide (b < r) = false := decide_eq_false (by omega)
  go_enter Try.func32, Try.ntmps32
  go_wp2
  go_ret
  exact ⟨rfl, qa0 _ _⟩
 ·have g1 : decide (0 ≤ b) = false := decide_eq_false h1
  go_enter Try.func32, Try.ntmps32
  go_wp2
  go_ret
  exact ⟨rfl, qa0 _ _⟩
/-- What keeps a block from being searched for. -/
def WrgE (r c b : Int) (n : Nat) (E : Int) : Prop := (¬ GenQ r c n ∧ E = 3) ∨ (GenQ r c n ∧ ¬ (0 ≤ b ∧ b < r) ∧ E = 2) ∨ (GenQ r c n ∧ (0 ≤ b ∧ b < r) ∧ E = 0)
theorem wrg_ex (r c b : Int) (n : Nat) : ∃ E, WrgE r c b n E := by
 by_cases h : GenQ r c n
 ·by_cases h2 : 0 ≤ b ∧ b < r
  ·exact ⟨0, .inr (.inr ⟨h, h2, rfl⟩)⟩
  ·exact ⟨2, .inr (.inl ⟨h, h2, rfl⟩)⟩
 ·exact ⟨3, .inl ⟨h, rfl⟩⟩
theorem lwrong (w : World) (r c b E : Int) (n k : Nat) (a : Option Addr) (h : WrgE r c b n E) :
  Calls Try.prog 17 #[mv r c a n k, .int .i64 b] w fun e w' => e = .returned (.int .i64 E) ∧ Below w.heap.size w w' := by
 rcases h with ⟨h1, rfl⟩ | ⟨h1, h2, rfl⟩ | ⟨h1, h2, rfl⟩
 ·have HP : Hid (∀ w' : World, Calls Try.prog 31 #[mv r c a n k] w' fun e w'' => e = .returned (.bool false) ∧ Below w'.heap.size w' w'') := fun w' => ql4 w' r c n k a false (by simp [h1])
  clear h1
  go_enter Try.func17, Try.ntmps17
  go_wp2_with (go_at_call 31; refine (HP.out _).mono ?_; rintro e w1 ⟨rfl, hb⟩; have HB1 : Hid (Below w.heap.size w w1) := qa1 (qa0 _ _) hb; clear hb)
  go_ret
  exact ⟨rfl, HB1.out⟩
 ·have HP : Hid (∀ w' : World, Calls Try.prog 31 #[mv r c a n k] w' fun e w'' => e = .returned (.bool true) ∧ Below w'.heap.size w' w'') := fun w' => ql4 w' r c n k a true (by simp [h1])
  have HR : Hid (∀ w' : World, Calls Try.prog 32 #[mv r c a n k, .int .i64 b] w' fun e w'' => e = .returned (.bool false) ∧ Below w'.heap.size w' w'') := fun w' => ql6 w' r c b n k a h2
  clear h1 h2
  go_enter Try.func17, Try.ntmps17
  go_wp2_with (first
   | (go_at_call 31; refine (HP.out _).mono ?_; rintro e w1 ⟨rfl, hb⟩; have HV1 : Hid (Vr w1 w.heap.size (.int .i64 r) (.int .i64 c) (.slice a n k)) := (Vr.new w _ _ _).later hb; have v0 := HV1.out.c0; have v1 := HV1.out.c1; have v2 := HV1.out.c2; have HB1 : Hid (Below w.heap.size w w1) := qa1 (qa0 _ _) hb; clear hb)
   | (go_at_call 32; refine (HR.out _).mono ?_; rintro e w2 ⟨rfl, hb⟩; have HB2 : Hid (Below w.heap.size w w2) := qa1 HB1.out hb; clear hb))
  go_ret
  exact ⟨rfl, HB2.out⟩
 ·have HP : Hid (∀ w' : World, Calls Try.prog 31 #[mv r c a n k] w' fun e w'' => e = .returned (.bool true) ∧ Below w'.heap.size w' w'') := fun w' => ql4 w' r c n k a true (by simp [h1])
  have HR : Hid (∀ w' : World, Calls Try.prog 32 #[mv r c a n k, .int .i64 b] w' fun e w'' => e = .returned (.bool true) ∧ Below w'.heap.size w' w'') := fun w' => qiz w' r c b n k a h2
  clear h1 h2
  go_enter Try.func17, Try.ntmps17
  go_wp2_with (first
   | (go_at_call 31; refine (HP.out _).mono ?_; rintro e w1 ⟨rfl, hb⟩; have HV1 : Hid (Vr w1 w.heap.size (.int .i64 r) (.int .i64 c) (.slice a n k)) := (Vr.new w _ _ _).later hb; have v0 := HV1.out.c0; have v1 := HV1.out.c1; have v2 := HV1.out.c2; have HB1 : Hid (Below w.heap.size w w1) := qa1 (qa0 _ _) hb; clear hb)
   | (go_at_call 32; refine (HR.out _).mono ?_; rintro e w2 ⟨rfl, hb⟩; have HB2 : Hid (Below w.heap.size w w2) := qa1 HB1.out hb; clear hb))
  go_ret
  exact ⟨rfl, HB2.out⟩
theorem ql7 (w : World) (r c n k b s : Nat) (a : Option Addr) (F : Nat → Nat) (v : Bool) (ha : Mt w a n k F) (R : Rt r c n) (hb : b < r) (hs : s < 2 ^ r) (hv : v = true ↔ SS (m2 F r c) r s (m2 F r c b)) :
  Calls Try.prog 36 #[mv r c a n k, .int .i64 (b : Int), .int .u64 (s : Int)] w fun e w' => e = .returned (.bool v) ∧ Below w.heap.size w w' := by
 have hr := R.r64
 have hM := qaz ha.sl.1 R
 obtain ⟨k0, h0⟩ := qfz hM r s
 obtain ⟨k1, h1⟩ := qfz hM r (s ||| 2 ^ b)
 have hle := h0.le hM
 have hadd := h0.add hM hb h1
 obtain ⟨z, HZ⟩ : ∃ z : Nat, Hid ((2 ^ b : Nat) = z) := ⟨_, rfl⟩
 obtain ⟨u, HU⟩ : ∃ u : Nat, Hid (s ||| z = u) := ⟨_, rfl⟩
 have hp2 : IntKind.u64.wrap (2 ^ b) = (z : Int) := by rw [← HZ.out]; exact qfa b (by omega)
 have hor : bits .or .u64 (s : Int) (z : Int) = (u : Int) := j_or7 hr hs hb HZ.out HU.out
 have hu : u < 2 ^ r := by rw [← HU.out, ← HZ.out]; exact or_lt7 hs hb
 have h1u : RS (m2 F r c) r u k1 := by rw [← HU.out, ← HZ.out]; exact h1
 have HR0 := qa6 (qi2 ha R hs h0)
 have HR1 := qa6 (qi2 ha R hu h1u)
 obtain ⟨K, HK⟩ : ∃ K, Hid (cn s r = K) := ⟨_, rfl⟩
 have HC : Hid (∀ w' : World, Calls Try.prog 38 #[.int .u64 (s : Int)] w' fun e w'' => e = .returned (.int .i64 (K : Int)) ∧ w' = w'') := fun w' => by
  have h := qfw s w' (qce hr hs)
  rw [qfx hr hs, HK.out] at h
  exact h
 rw [HK.out] at hle
 have hb64 : b < 64 := by omega
 have hvk : v = decide (k1 = k0) := by
  rcases hadd with ⟨e1, e2⟩ | ⟨e1, e2⟩
  ·rw [hv.2 e1, decide_eq_true e2]
  ·have : ¬ v = true := fun h => e1 (hv.1 h)
   rw [decide_eq_false (by omega)]
   cases v
   ·rfl
   ·exact absurd rfl this
 have hk1 : K < k1 → k1 ≠ k0 := fun h => by omega
 clear ha R hb hs hv h0 h1 h1u hadd hM hu HU HZ HK hr
 by_cases hg : K < k1
 ·have g1 : decide ((K : Int) < (k1 : Int)) = true := decide_eq_true (by omega)
  have hv0 : v = false := by rw [hvk]; exact decide_eq_false (hk1 hg)
  subst hv0
  clear hvk hk1
  go_enter Try.func36, Try.ntmps36
  go_wp2
  go_region_held3 (fun w' => w'.cell? ⟨w.heap.size, 0, none⟩ = some (.int .i64 (r : Int)) ∧ w'.cell? ⟨w.heap.size, 1, none⟩ = some (.int .i64 (c : Int)) ∧ w'.cell? ⟨w.heap.size, 2, none⟩ = some (.slice a n k))
   (first | exact ⟨HV1.out.c0, HV1.out.c1, HV1.out.c2⟩ | go_keep | exact ⟨((Vr.new w (.int .i64 (r : Int)) (.int .i64 (c : Int)) (.slice a n k)).later (Below.refl _ _).drew).c0, ((Vr.new w (.int .i64 (r : Int)) (.int .i64 (c : Int)) (.slice a n k)).later (Below.refl _ _).drew).c1, ((Vr.new w (.int .i64 (r : Int)) (.int .i64 (c : Int)) (.slice a n k)).later (Below.refl _ _).drew).c2⟩)
   (first | (go_at_call 57; refine (HR1.out _ (qa1 (qa0 _ _) (Below.refl _ _).drew)).mono ?_; rintro e w1 ⟨rfl, hb⟩; have HV1 : Hid (Vr w1 w.heap.size (.int .i64 (r : Int)) (.int .i64 (c : Int)) (.slice a n k)) := ((Vr.new w _ _ _).later (Below.refl _ _).drew).later hb; have HB1 : Hid (Below w.heap.size w w1) := qa1 (qa1 (qa0 _ _) (Below.refl _ _).drew) hb; clear hb))
  go_wp2_with (go_at_call 38; refine (HC.out _).mono ?_; rintro e w' ⟨rfl, rfl⟩)
  go_ret
  exact ⟨rfl, HB1.out⟩
 ·have g1 : decide ((K : Int) < (k1 : Int)) = false := decide_eq_false (by omega)
  have hv0 : v = ((k1 : Int) == (k0 : Int)) := by
   rw [hvk]
   by_cases e : k1 = k0
   ·rw [decide_eq_true e, e]; simp
   ·rw [decide_eq_false e, eq_comm, beq_eq_false_iff_ne]; omega
  clear hvk hk1
  go_enter Try.func36, Try.ntmps36
  go_wp2
  go_region_held3 (fun w' => w'.cell? ⟨w.heap.size, 0, none⟩ = some (.int .i64 (r : Int)) ∧ w'.cell? ⟨w.heap.size, 1, none⟩ = some (.int .i64 (c : Int)) ∧ w'.cell? ⟨w.heap.size, 2, none⟩ = some (.slice a n k))
   (first | exact ⟨HV1.out.c0, HV1.out.c1, HV1.out.c2⟩ | go_keep | exact ⟨((Vr.new w (.int .i64 (r : Int)) (.int .i64 (c : Int)) (.slice a n k)).later (Below.refl _ _).drew).c0, ((Vr.new w (.int .i64 (r : Int)) (.int .i64 (c : Int)) (.slice a n k)).later (Below.refl _ _).drew).c1, ((Vr.new w (.int .i64 (r : Int)) (.int .i64 (c : Int)) (.slice a n k)).later (Below.refl _ _).drew).c2⟩)
   (first | (go_at_call 57; refine (HR1.out _ (qa1 (qa0 _ _) (Below.refl _ _).drew)).mono ?_; rintro e w1 ⟨rfl, hb⟩; have HV1 : Hid (Vr w1 w.heap.size (.int .i64 (r : Int)) (.int .i64 (c : Int)) (.slice a n k)) := ((Vr.new w _ _ _).later (Below.refl _ _).drew).later hb; have HB1 : Hid (Below w.heap.size w w1) := qa1 (qa1 (qa0 _ _) (Below.refl _ _).drew) hb; clear hb))
  have v0 := HV1.out.c0
  have v1 := HV1.out.c1
  have v2 := HV1.out.c2
  go_wp2_with (first
   | (go_at_call 38; refine (HC.out _).mono ?_; rintro e w' ⟨rfl, rfl⟩)
   | (go_at_call 57; refine (HR0.out _ HB1.out).mono ?_; rintro e w2 ⟨rfl, hb⟩; have HB2 : Hid (Below w.heap.size w w2) := qa1 HB1.out hb; clear hb))
  go_ret
  exact ⟨by rw [hv0]; rfl, HB2.out⟩
end Go.Proofs.Ytblagbghpfopcaa
