/-
  Stage 19: rows in fewest columns have the same factors in all combinations.
  Stage 19: local's isGenerator, isRow, wrong, inFewest, repairs.
-/
import Derived.Test.YtblagbghpfopcaaGreatQllst00
import Derived.Test.YtblagbghpfopcaaGreatQllst41
import Derived.Test.YtblagbghpfopcaaGreatQllst38
import Derived.Test.YtblagbghpfopcaaGreatQllst22
import Derived.Deep.RegionHeld3
set_option maxRecDepth 100000
set_option maxHeartbeats 16000000
namespace Go.Proofs.YtblagbghpfopcaaGreat
open Go.RowKit Go.Shelf
theorem qa5 {p : Prop} (h : p) : Hid p := h
/-- Two matrices with the same rows' relations. -/
def KerEq (M N : Nat → Nat → Nat) (r : Nat) : Prop := ∀ d, El d → ((∀ j, lc d M r j = 0) ↔ ∀ j, lc d N r j = 0)
theorem KerEq.symm {M N : Nat → Nat → Nat} {r : Nat} (h : KerEq M N r) : KerEq N M r := fun d hd => (h d hd).symm
theorem qm7 {M N : Nat → Nat → Nat} {r s b : Nat} (hM : El2 M) (hN : El2 N) (h : KerEq M N r) (hb : b < r) (hs : SS M r s (M b)) : SS N r s (N b) := by
 obtain ⟨a, ha, e⟩ := hs
 have hmk : ∀ (K : Nat → Nat → Nat) j, lc a (mk K s) r j = lc (fun i => if bt s i = 1 then a i else 0) K r j := fun K j => qa7 (fun i _ => by
  show fm (a i) (if bt s i = 1 then K i j else 0) = fm (if bt s i = 1 then a i else 0) (K i j)
  by_cases hi : bt s i = 1
  ·rw [if_pos hi, if_pos hi]
  ·rw [if_neg hi, if_neg hi, qa9, qac])
 have hel : El (fun i => if bt s i = 1 then a i else 0) := fun i => by
  show (if _ then _ else _) < 256
  split
  ·exact ha i
  ·decide
 have key : ∀ (K : Nat → Nat → Nat) (_ : El2 K) j, lc (fun i => (if bt s i = 1 then a i else 0) ^^^ dl b i) K r j = lc a (mk K s) r j ^^^ K b j := fun K hK j => by
  rw [qf5 hel (qj6 b), ← hmk, lc_dl hK hb]
 have h0 : ∀ j, lc (fun i => (if bt s i = 1 then a i else 0) ^^^ dl b i) M r j = 0 := fun j => by rw [key M hM, ← e j, Nat.xor_self]
 have h1 := (h _ (fun i => qbc _ _ (hel i) (qj6 b i))).1 h0
 refine ⟨a, ha, fun j => ?_⟩
 have h2 := h1 j
 rw [key N hN] at h2
 have h3 := congrArg (· ^^^ N b j) h2
 simpa [Nat.xor_assoc] using h3.symm
theorem qfi {M N : Nat → Nat → Nat} {r s b : Nat} (hM : El2 M) (hN : El2 N) (h : KerEq M N r) (hb : b < r) : SS M r s (M b) ↔ SS N r s (N b) := ⟨qm7 hM hN h hb, qm7 hN hM h.symm hb⟩
theorem lc_dt {F : Nat → Nat} {r c n j : Nat} {d : Nat → Nat} (hF : ∀ i, i < n → F i < 256) (R : Rt r c n) (hd : El d) (hj : j < c) : lc d (m2 F r c) r j = dt (m2 (trf F r c) c r j) d r := qa7 (fun i hi => by
 rw [qam F hi hj, qam _ hj hi, qeh F r c i j hi]
 exact qaf _ _ (hd i) (hF _ (R.at hi hj)))
/-- The columns of the reduced form, turned, have the same rows' relations. -/
theorem few_ker {F G p : Nat → Nat} {r c n top : Nat} (hF : ∀ i, i < n → F i < 256) (R : Rt r c n) (hG : ∀ i, i < n → G i < 256) (hR : Rdf (m2 G c r) c top p) (hS : SpEq (m2 G c r) c (m2 (trf F r c) c r) c) : KerEq (m2 F r c) (m2 (trf G top r) r top) r := by
 have R2 : Rt c r n := R.turn
 have hGe : El2 (m2 G c r) := qb3 hG R2
 have hTe : El2 (m2 (trf F r c) c r) := qb3 (qda hF R) R2
 intro d hd
 have cross : ∀ (A B : Nat → Nat → Nat), El2 B → Le A c B c → (∀ l, l < c → dt (B l) d r = 0) → ∀ l, l < c → dt (A l) d r = 0 := fun A B hB hle h0 l hl => by
  obtain ⟨a, ha, e⟩ := hle l hl
  have e2 : dt (A l) d r = dt (lc a B c) d r := qa7 (fun j _ => by rw [e j])
  rw [e2, dt_lc ha hB]
  exact qag (fun i hi => by rw [h0 i hi, qa9])
 have few : ∀ l, l < top → lc d (m2 (trf G top r) r top) r l = dt (m2 G c r l) d r := fun l hl => qa7 (fun i hi => by
  have hlc : l < c := Nat.lt_of_lt_of_le hl hR.kr
  rw [qam _ hi hl, qeh G top r l i hl, qam G hlc hi]
  exact qaf _ _ (hd i) (hG _ (R2.at hlc hi)))
 constructor
 ·intro h j
  by_cases hj : j < top
  ·rw [few j hj]
   exact cross _ _ hTe hS.1 (fun l hl => by rw [← lc_dt hF R hd hl]; exact h l) j (Nat.lt_of_lt_of_le hj hR.kr)
  ·exact qag (fun i _ => by rw [qad _ (by omega), qa9])
 ·intro h j
  by_cases hj : j < c
  ·rw [lc_dt hF R hd hj]
   refine cross _ _ hGe hS.2 (fun l hl => ?_) j hj
   by_cases ht : l < top
   ·rw [← few l ht]; exact h l
   ·exact qag (fun i _ => by rw [hR.nul l i (by omega) hl, qac])
  ·exact qag (fun i _ => by rw [qad _ (by omega), qa9])
open Go.RowKit Go.Shelf
attribute [local go_sem] Oper.semAt_some
/-- A matrix may be a generator. -/
def GenQ (r c : Int) (n : Nat) : Prop := RightP r c n ∧ 1 ≤ c ∧ c ≤ r
theorem GenQ.nat {r c : Int} {n : Nat} (h : GenQ r c n) : ∃ r' c' : Nat, r = (r' : Int) ∧ c = (c' : Int) ∧ Rt r' c' n ∧ 1 ≤ c' ∧ c' ≤ r' := by
  obtain ⟨⟨h1, h2, h3, h4, h5⟩, h6, h7⟩ := h
  obtain ⟨x, rfl⟩ := Int.eq_ofNat_of_zero_le h1
  obtain ⟨y, rfl⟩ := Int.eq_ofNat_of_zero_le h3
  exact ⟨x, y, rfl, rfl, ⟨by omega, by omega, by have : (n : Int) = ((x * y : Nat) : Int) := by rw [h5]; simp
                                                 omega⟩, by omega, by omega⟩
theorem qm8 (w : World) (r c : Int) (n k : Nat) (a : Option Addr) (b : Bool) (hb : b = true ↔ GenQ r c n) :
  Calls Tryz.prog 40 #[mv r c a n k] w fun e w' => e = .returned (.bool b) ∧ Below w.heap.size w w' := by
 obtain ⟨wb, HW⟩ : ∃ wb, Hid (w.alloc (.cells #[.int .i64 r, .int .i64 c, .slice a n k] 24) = wb) := ⟨_, rfl⟩
 have HB0 : Hid (Below w.heap.size w wb) := by rw [← HW.out]; exact qa1 _ _
 have HV : Hid (Vr wb w.heap.size (.int .i64 r) (.int .i64 c) (.slice a n k)) := by rw [← HW.out]; exact Vr.new w _ _ _
 by_cases h : RightP r c n
 ·have HP : Hid (RightP r c n) := h
  have HE : Hid (b = (decide (1 ≤ c) && decide (c ≤ r))) := by
   show b = _
   cases b with
   | true =>
    have := hb.1 rfl
    simp [this.2.1, this.2.2]
   | false =>
    have : ¬ (1 ≤ c ∧ c ≤ r) := fun h2 => by have := hb.2 ⟨h, h2.1, h2.2⟩; cases this
    by_cases h1 : 1 ≤ c
    ·simp [h1]; omega
    ·simp [h1]
  clear h hb
  by_cases h1 : 1 ≤ c
  ·have g0 : decide ((0 : Int) < c) = true := decide_eq_true (by omega)
   have g1 : decide ((1 : Int) ≤ c) = true := decide_eq_true h1
   go_enter Tryz.func40, Tryz.ntmps40
   go_wp2_with (go_at_call 60; rw [HW.out]; refine (qaw _ _ _ _ _ _ HP.out).mono ?_; rintro e w1 ⟨rfl, hb1⟩; have HB1 : Hid (Below wb.heap.size wb w1) := hb1; have v0 := (HV.out.later hb1).c0; have v1 := (HV.out.later hb1).c1; clear hb1)
   go_ret
   exact ⟨by rw [HE.out, g1]; simp, qa0 HB0.out HB1.out⟩
  ·have g0 : decide ((0 : Int) < c) = false := decide_eq_false (by omega)
   have g1 : decide ((1 : Int) ≤ c) = false := decide_eq_false h1
   go_enter Tryz.func40, Tryz.ntmps40
   go_wp2_with (go_at_call 60; rw [HW.out]; refine (qaw _ _ _ _ _ _ HP.out).mono ?_; rintro e w1 ⟨rfl, hb1⟩; have HB1 : Hid (Below wb.heap.size wb w1) := hb1; have v0 := (HV.out.later hb1).c0; have v1 := (HV.out.later hb1).c1; clear hb1)
   go_ret
   exact ⟨by rw [HE.out, g1]; simp, qa0 HB0.out HB1.out⟩
 ·have HP : Hid (¬ RightP r c n) := h
  have HE : Hid (b = false) := by
   show b = _
   cases b with
   | true => exact (h (hb.1 rfl).1).elim
   | false => rfl
  clear h hb
  go_enter Tryz.func40, Tryz.ntmps40
  go_wp2_with (go_at_call 60; rw [HW.out]; refine (qkm _ _ _ _ _ _ HP.out).mono ?_; rintro e w1 ⟨rfl, hb1⟩; have HB1 : Hid (Below wb.heap.size wb w1) := hb1; have v0 := (HV.out.later hb1).c0; have v1 := (HV.out.later hb1).c1; clear hb1)
  go_ret
  exact ⟨by rw [HE.out]; rfl, qa0 HB0.out HB1.out⟩
theorem qm9 (w : World) (r c : Int) (n k : Nat) (a : Option Addr) (b : Bool) (hb : b = true ↔ GenQ r c n) :
  Calls Tryz.prog 42 #[mv r c a n k] w fun e w' => e = .returned (.bool b) ∧ Below w.heap.size w w' := by
 obtain ⟨wb, HW⟩ : ∃ wb, Hid (w.alloc (.cells #[.int .i64 r, .int .i64 c, .slice a n k] 24) = wb) := ⟨_, rfl⟩
 have HB0 : Hid (Below w.heap.size w wb) := by rw [← HW.out]; exact qa1 _ _
 have HV : Hid (Vr wb w.heap.size (.int .i64 r) (.int .i64 c) (.slice a n k)) := by rw [← HW.out]; exact Vr.new w _ _ _
 by_cases h : RightP r c n
 ·have HP : Hid (RightP r c n) := h
  have HE : Hid (b = (decide (1 ≤ c) && decide (c ≤ r))) := by
   show b = _
   cases b with
   | true =>
    have := hb.1 rfl
    simp [this.2.1, this.2.2]
   | false =>
    have : ¬ (1 ≤ c ∧ c ≤ r) := fun h2 => by have := hb.2 ⟨h, h2.1, h2.2⟩; cases this
    by_cases h1 : 1 ≤ c
    ·simp [h1]; omega
    ·simp [h1]
  clear h hb
  by_cases h1 : 1 ≤ c
  ·have g0 : decide ((0 : Int) < c) = true := decide_eq_true (by omega)
   have g1 : decide ((1 : Int) ≤ c) = true := decide_eq_true h1
   go_enter Tryz.func42, Tryz.ntmps42
   go_wp2_with (go_at_call 68; rw [HW.out]; refine (qaq _ _ _ _ _ _ HP.out).mono ?_; rintro e w1 ⟨rfl, hb1⟩; have HB1 : Hid (Below wb.heap.size wb w1) := hb1; have v0 := (HV.out.later hb1).c0; have v1 := (HV.out.later hb1).c1; clear hb1)
   go_ret
   exact ⟨by rw [HE.out, g1]; simp, qa0 HB0.out HB1.out⟩
  ·have g0 : decide ((0 : Int) < c) = false := decide_eq_false (by omega)
   have g1 : decide ((1 : Int) ≤ c) = false := decide_eq_false h1
   go_enter Tryz.func42, Tryz.ntmps42
   go_wp2_with (go_at_call 68; rw [HW.out]; refine (qaq _ _ _ _ _ _ HP.out).mono ?_; rintro e w1 ⟨rfl, hb1⟩; have HB1 : Hid (Below wb.heap.size wb w1) := hb1; have v0 := (HV.out.later hb1).c0; have v1 := (HV.out.later hb1).c1; clear hb1)
   go_ret
   exact ⟨by rw [HE.out, g1]; simp, qa0 HB0.out HB1.out⟩
 ·have HP : Hid (¬ RightP r c n) := h
  have HE : Hid (b = false) := by
   show b = _
   cases b with
   | true => exact (h (hb.1 rfl).1).elim
   | false => rfl
  clear h hb
  go_enter Tryz.func42, Tryz.ntmps42
  go_wp2_with (go_at_call 68; rw [HW.out]; refine (right_no _ _ _ _ _ _ HP.out).mono ?_; rintro e w1 ⟨rfl, hb1⟩; have HB1 : Hid (Below wb.heap.size wb w1) := hb1; have v0 := (HV.out.later hb1).c0; have v1 := (HV.out.later hb1).c1; clear hb1)
  go_ret
  exact ⟨by rw [HE.out]; rfl, qa0 HB0.out HB1.out⟩
theorem qjw (w : World) (r c b : Int) (n k : Nat) (a : Option Addr) (h : 0 ≤ b ∧ b < r) :
  Calls Tryz.prog 50 #[mv r c a n k, .int .i64 b] w fun e w' => e = .returned (.bool true) ∧ Below w.heap.size w w' := by
 have g1 : decide (0 ≤ b) = true := by simpa using h.1
 have g2 : decide (b < r) = true := by simpa using h.2
 go_enter Tryz.func50, Tryz.ntmps50
 go_wp2
 go_ret
 exact ⟨rfl, qa1 _ _⟩
theorem qma (w : World) (r c b : Int) (n k : Nat) (a : Option Addr) (h : ¬ (0 ≤ b ∧ b < r)) :
  Calls Tryz.prog 50 #[mv r c a n k, .int .i64 b] w fun e w' => e = .returned (.bool false) ∧ Below w.heap.size w w' := by
 by_cases h1 : 0 ≤ b
 ·have g1 : decide (0 ≤ b) = true := by simpa using h1
  have g2 : decide (b < r) = false := decide_eq_false (by omega)
  go_enter Tryz.func50, Tryz.ntmps50
  go_wp2
  go_ret
  exact ⟨rfl, qa1 _ _⟩
 ·have g1 : decide (0 ≤ b) = false := decide_eq_false h1
  go_enter Tryz.func50, Tryz.ntmps50
  go_wp2
  go_ret
  exact ⟨rfl, qa1 _ _⟩
/-- What keeps a block from being searched for. -/
def WrgE (r c b : Int) (n : Nat) (E : Int) : Prop := (¬ GenQ r c n ∧ E = 3) ∨ (GenQ r c n ∧ ¬ (0 ≤ b ∧ b < r) ∧ E = 2) ∨ (GenQ r c n ∧ (0 ≤ b ∧ b < r) ∧ E = 0)
theorem wrg_ex (r c b : Int) (n : Nat) : ∃ E, WrgE r c b n E := by
 by_cases h : GenQ r c n
 ·by_cases h2 : 0 ≤ b ∧ b < r
  ·exact ⟨0, .inr (.inr ⟨h, h2, rfl⟩)⟩
  ·exact ⟨2, .inr (.inl ⟨h, h2, rfl⟩)⟩
 ·exact ⟨3, .inl ⟨h, rfl⟩⟩
theorem lwrong (w : World) (r c b E : Int) (n k : Nat) (a : Option Addr) (h : WrgE r c b n E) :
  Calls Tryz.prog 25 #[mv r c a n k, .int .i64 b] w fun e w' => e = .returned (.int .i64 E) ∧ Below w.heap.size w w' := by
 rcases h with ⟨h1, rfl⟩ | ⟨h1, h2, rfl⟩ | ⟨h1, h2, rfl⟩
 ·have HP : Hid (∀ w' : World, Calls Tryz.prog 40 #[mv r c a n k] w' fun e w'' => e = .returned (.bool false) ∧ Below w'.heap.size w' w'') := fun w' => qm8 w' r c n k a false (by simp [h1])
  clear h1
  go_enter Tryz.func25, Tryz.ntmps25
  go_wp2_with (go_at_call 40; refine (HP.out _).mono ?_; rintro e w1 ⟨rfl, hb⟩; have HB1 : Hid (Below w.heap.size w w1) := qa0 (qa1 _ _) hb; clear hb)
  go_ret
  exact ⟨rfl, HB1.out⟩
 ·have HP : Hid (∀ w' : World, Calls Tryz.prog 40 #[mv r c a n k] w' fun e w'' => e = .returned (.bool true) ∧ Below w'.heap.size w' w'') := fun w' => qm8 w' r c n k a true (by simp [h1])
  have HR : Hid (∀ w' : World, Calls Tryz.prog 50 #[mv r c a n k, .int .i64 b] w' fun e w'' => e = .returned (.bool false) ∧ Below w'.heap.size w' w'') := fun w' => qma w' r c b n k a h2
  clear h1 h2
  go_enter Tryz.func25, Tryz.ntmps25
  go_wp2_with (first
   | (go_at_call 40; refine (HP.out _).mono ?_; rintro e w1 ⟨rfl, hb⟩; have HV1 : Hid (Vr w1 w.heap.size (.int .i64 r) (.int .i64 c) (.slice a n k)) := (Vr.new w _ _ _).later hb; have v0 := HV1.out.c0; have v1 := HV1.out.c1; have v2 := HV1.out.c2; have HB1 : Hid (Below w.heap.size w w1) := qa0 (qa1 _ _) hb; clear hb)
   | (go_at_call 50; refine (HR.out _).mono ?_; rintro e w2 ⟨rfl, hb⟩; have HB2 : Hid (Below w.heap.size w w2) := qa0 HB1.out hb; clear hb))
  go_ret
  exact ⟨rfl, HB2.out⟩
 ·have HP : Hid (∀ w' : World, Calls Tryz.prog 40 #[mv r c a n k] w' fun e w'' => e = .returned (.bool true) ∧ Below w'.heap.size w' w'') := fun w' => qm8 w' r c n k a true (by simp [h1])
  have HR : Hid (∀ w' : World, Calls Tryz.prog 50 #[mv r c a n k, .int .i64 b] w' fun e w'' => e = .returned (.bool true) ∧ Below w'.heap.size w' w'') := fun w' => qjw w' r c b n k a h2
  clear h1 h2
  go_enter Tryz.func25, Tryz.ntmps25
  go_wp2_with (first
   | (go_at_call 40; refine (HP.out _).mono ?_; rintro e w1 ⟨rfl, hb⟩; have HV1 : Hid (Vr w1 w.heap.size (.int .i64 r) (.int .i64 c) (.slice a n k)) := (Vr.new w _ _ _).later hb; have v0 := HV1.out.c0; have v1 := HV1.out.c1; have v2 := HV1.out.c2; have HB1 : Hid (Below w.heap.size w w1) := qa0 (qa1 _ _) hb; clear hb)
   | (go_at_call 50; refine (HR.out _).mono ?_; rintro e w2 ⟨rfl, hb⟩; have HB2 : Hid (Below w.heap.size w w2) := qa0 HB1.out hb; clear hb))
  go_ret
  exact ⟨rfl, HB2.out⟩
theorem qmb (w : World) (r c n k b s : Nat) (a : Option Addr) (F : Nat → Nat) (v : Bool) (ha : Mt w a n k F) (R : Rt r c n) (hb : b < r) (hs : s < 2 ^ r) (hv : v = true ↔ SS (m2 F r c) r s (m2 F r c b)) :
  Calls Tryz.prog 45 #[mv r c a n k, .int .i64 (b : Int), .int .u64 (s : Int)] w fun e w' => e = .returned (.bool v) ∧ Below w.heap.size w w' := by
 have hr := R.r64
 have hM := qb3 ha.sl.1 R
 obtain ⟨k0, h0⟩ := qf2 hM r s
 obtain ⟨k1, h1⟩ := qf2 hM r (s ||| 2 ^ b)
 have hle := h0.le hM
 have hadd := h0.add hM hb h1
 obtain ⟨z, HZ⟩ : ∃ z : Nat, Hid ((2 ^ b : Nat) = z) := ⟨_, rfl⟩
 obtain ⟨u, HU⟩ : ∃ u : Nat, Hid (s ||| z = u) := ⟨_, rfl⟩
 have hp2 : IntKind.u64.wrap (2 ^ b) = (z : Int) := by rw [← HZ.out]; exact qg4 b (by omega)
 have hor : bits .or .u64 (s : Int) (z : Int) = (u : Int) := j_or7 hr hs hb HZ.out HU.out
 have hu : u < 2 ^ r := by rw [← HU.out, ← HZ.out]; exact or_lt7 hs hb
 have h1u : RS (m2 F r c) r u k1 := by rw [← HU.out, ← HZ.out]; exact h1
 have HR0 := qa5 (qiz ha R hs h0)
 have HR1 := qa5 (qiz ha R hu h1u)
 obtain ⟨K, HK⟩ : ∃ K, Hid (cn s r = K) := ⟨_, rfl⟩
 have HC : Hid (∀ w' : World, Calls Tryz.prog 41 #[.int .u64 (s : Int)] w' fun e w'' => e = .returned (.int .i64 (K : Int)) ∧ w' = w'') := fun w' => by
  have h := qgr s w' (qcn hr hs)
  rw [qfe hr hs, HK.out] at h
  exact h
 rw [HK.out] at hle
 have hb64 : b < 64 := by omega
 have hvk : v = decide (k1 = k0) := by
  rcases hadd with ⟨e1, e2⟩ | ⟨e1, e2⟩
  ·rw [hv.2 e1, decide_eq_true e2]
  ·have : ¬ v = true := fun h => e1 (hv.1 h)
   rw [decide_eq_false (by omega)]
   cases v
   ·rfl
   ·exact absurd rfl this
 have hk1 : K < k1 → k1 ≠ k0 := fun h => by omega
 clear ha R hb hs hv h0 h1 h1u hadd hM hu HU HZ HK hr
 by_cases hg : K < k1
 ·have g1 : decide ((K : Int) < (k1 : Int)) = true := decide_eq_true (by omega)
  have hv0 : v = false := by rw [hvk]; exact decide_eq_false (hk1 hg)
  subst hv0
  clear hvk hk1
  go_enter Tryz.func45, Tryz.ntmps45
  go_wp2
  go_region_held3 (fun w' => w'.cell? ⟨w.heap.size, 0, none⟩ = some (.int .i64 (r : Int)) ∧ w'.cell? ⟨w.heap.size, 1, none⟩ = some (.int .i64 (c : Int)) ∧ w'.cell? ⟨w.heap.size, 2, none⟩ = some (.slice a n k))
   (first | exact ⟨HV1.out.c0, HV1.out.c1, HV1.out.c2⟩ | go_keep | exact ⟨((Vr.new w (.int .i64 (r : Int)) (.int .i64 (c : Int)) (.slice a n k)).later (Below.refl _ _).drew).c0, ((Vr.new w (.int .i64 (r : Int)) (.int .i64 (c : Int)) (.slice a n k)).later (Below.refl _ _).drew).c1, ((Vr.new w (.int .i64 (r : Int)) (.int .i64 (c : Int)) (.slice a n k)).later (Below.refl _ _).drew).c2⟩)
   (first | (go_at_call 78; refine (HR1.out _ (qa0 (qa1 _ _) (Below.refl _ _).drew)).mono ?_; rintro e w1 ⟨rfl, hb⟩; have HV1 : Hid (Vr w1 w.heap.size (.int .i64 (r : Int)) (.int .i64 (c : Int)) (.slice a n k)) := ((Vr.new w _ _ _).later (Below.refl _ _).drew).later hb; have HB1 : Hid (Below w.heap.size w w1) := qa0 (qa0 (qa1 _ _) (Below.refl _ _).drew) hb; clear hb))
  go_wp2_with (go_at_call 41; refine (HC.out _).mono ?_; rintro e w' ⟨rfl, rfl⟩)
  go_ret
  exact ⟨rfl, HB1.out⟩
 ·have g1 : decide ((K : Int) < (k1 : Int)) = false := decide_eq_false (by omega)
  have hv0 : v = ((k1 : Int) == (k0 : Int)) := by
   rw [hvk]
   by_cases e : k1 = k0
   ·rw [decide_eq_true e, e]; simp
   ·rw [decide_eq_false e, eq_comm, beq_eq_false_iff_ne]; omega
  clear hvk hk1
  go_enter Tryz.func45, Tryz.ntmps45
  go_wp2
  go_region_held3 (fun w' => w'.cell? ⟨w.heap.size, 0, none⟩ = some (.int .i64 (r : Int)) ∧ w'.cell? ⟨w.heap.size, 1, none⟩ = some (.int .i64 (c : Int)) ∧ w'.cell? ⟨w.heap.size, 2, none⟩ = some (.slice a n k))
   (first | exact ⟨HV1.out.c0, HV1.out.c1, HV1.out.c2⟩ | go_keep | exact ⟨((Vr.new w (.int .i64 (r : Int)) (.int .i64 (c : Int)) (.slice a n k)).later (Below.refl _ _).drew).c0, ((Vr.new w (.int .i64 (r : Int)) (.int .i64 (c : Int)) (.slice a n k)).later (Below.refl _ _).drew).c1, ((Vr.new w (.int .i64 (r : Int)) (.int .i64 (c : Int)) (.slice a n k)).later (Below.refl _ _).drew).c2⟩)
   (first | (go_at_call 78; refine (HR1.out _ (qa0 (qa1 _ _) (Below.refl _ _).drew)).mono ?_; rintro e w1 ⟨rfl, hb⟩; have HV1 : Hid (Vr w1 w.heap.size (.int .i64 (r : Int)) (.int .i64 (c : Int)) (.slice a n k)) := ((Vr.new w _ _ _).later (Below.refl _ _).drew).later hb; have HB1 : Hid (Below w.heap.size w w1) := qa0 (qa0 (qa1 _ _) (Below.refl _ _).drew) hb; clear hb))
  have v0 := HV1.out.c0
  have v1 := HV1.out.c1
  have v2 := HV1.out.c2
  go_wp2_with (first
   | (go_at_call 41; refine (HC.out _).mono ?_; rintro e w' ⟨rfl, rfl⟩)
   | (go_at_call 78; refine (HR0.out _ HB1.out).mono ?_; rintro e w2 ⟨rfl, hb⟩; have HB2 : Hid (Below w.heap.size w w2) := qa0 HB1.out hb; clear hb))
  go_ret
  exact ⟨by rw [hv0]; rfl, HB2.out⟩
end Go.Proofs.YtblagbghpfopcaaGreat
