/-
  Stage 19: rows in fewest columns have the same factors in all combinations.
  Stage 19: local's isGenerator, isRow, wrong, inFewest, repairs.
  Stage 19: local.inFewest.
  Variables of one cell; what the loop over All's sets leaves to be done.
  Stage 19: local.others; a loop over All's sets that may be left by a break or a return.
  Stage 19: which sets local.others tells.
  Stage 19: local.others' function, told one set after another.
  Stage 19: the law for a range over local.others' sets, which may be left by a break or a return.
-/
import Derived.Test.YtblagbghpfopcaaGreatQwwin00
import Derived.Test.YtblagbghpfopcaaGreatQwwin43
import Derived.Test.YtblagbghpfopcaaGreatQwwin37
import Derived.Test.YtblagbghpfopcaaGreatQwwin26
import Derived.Deep.RegionHeld3
import Derived.Test.YtblagbghpfopcaaGreatQwwin36
import Derived.Test.YtblagbghpfopcaaGreatQwwin44
set_option maxRecDepth 100000
set_option maxHeartbeats 16000000
namespace Go.Proofs.YtblagbghpfopcaaGreat
open Go.RowKit Go.Shelf
theorem qa2 {p : Prop} (h : p) : Hid p := h
/-- Two matrices with the same rows' relations. -/
def KerEq (M N : Nat → Nat → Nat) (r : Nat) : Prop := ∀ d, El d → ((∀ j, lc d M r j = 0) ↔ ∀ j, lc d N r j = 0)
theorem KerEq.symm {M N : Nat → Nat → Nat} {r : Nat} (h : KerEq M N r) : KerEq N M r := fun d hd => (h d hd).symm
theorem qms {M N : Nat → Nat → Nat} {r s b : Nat} (hM : El2 M) (hN : El2 N) (h : KerEq M N r) (hb : b < r) (hs : SS M r s (M b)) : SS N r s (N b) := by
 obtain ⟨a, ha, e⟩ := hs
 have hmk : ∀ (K : Nat → Nat → Nat) j, lc a (mk K s) r j = lc (fun i => if bt s i = 1 then a i else 0) K r j := fun K j => qa4 (fun i _ => by
  show fm (a i) (if bt s i = 1 then K i j else 0) = fm (if bt s i = 1 then a i else 0) (K i j)
  by_cases hi : bt s i = 1
  ·rw [if_pos hi, if_pos hi]
  ·rw [if_neg hi, if_neg hi, qa7, qaa])
 have hel : El (fun i => if bt s i = 1 then a i else 0) := fun i => by
  show (if _ then _ else _) < 256
  split
  ·exact ha i
  ·decide
 have key : ∀ (K : Nat → Nat → Nat) (_ : El2 K) j, lc (fun i => (if bt s i = 1 then a i else 0) ^^^ dl b i) K r j = lc a (mk K s) r j ^^^ K b j := fun K hK j => by
  rw [qf6 hel (qh7 b), ← hmk, lc_dl hK hb]
 have h0 : ∀ j, lc (fun i => (if bt s i = 1 then a i else 0) ^^^ dl b i) M r j = 0 := fun j => by rw [key M hM, ← e j, Nat.xor_self]
 have h1 := (h _ (fun i => qbd _ _ (hel i) (qh7 b i))).1 h0
 refine ⟨a, ha, fun j => ?_⟩
 have h2 := h1 j
 rw [key N hN] at h2
 have h3 := congrArg (· ^^^ N b j) h2
 simpa [Nat.xor_assoc] using h3.symm
theorem qev {M N : Nat → Nat → Nat} {r s b : Nat} (hM : El2 M) (hN : El2 N) (h : KerEq M N r) (hb : b < r) : SS M r s (M b) ↔ SS N r s (N b) := ⟨qms hM hN h hb, qms hN hM h.symm hb⟩
theorem lc_dt {F : Nat → Nat} {r c n j : Nat} {d : Nat → Nat} (hF : ∀ i, i < n → F i < 256) (R : Rt r c n) (hd : El d) (hj : j < c) : lc d (m2 F r c) r j = dt (m2 (trf F r c) c r j) d r := qa4 (fun i hi => by
 rw [qb1 F hi hj, qb1 _ hj hi, qf8 F r c i j hi]
 exact qac _ _ (hd i) (hF _ (R.at hi hj)))
/-- The columns of the reduced form, turned, have the same rows' relations. -/
theorem few_ker {F G p : Nat → Nat} {r c n top : Nat} (hF : ∀ i, i < n → F i < 256) (R : Rt r c n) (hG : ∀ i, i < n → G i < 256) (hR : Rdf (m2 G c r) c top p) (hS : SpEq (m2 G c r) c (m2 (trf F r c) c r) c) : KerEq (m2 F r c) (m2 (trf G top r) r top) r := by
 have R2 : Rt c r n := R.turn
 have hGe : El2 (m2 G c r) := qax hG R2
 have hTe : El2 (m2 (trf F r c) c r) := qax (qg1 hF R) R2
 intro d hd
 have cross : ∀ (A B : Nat → Nat → Nat), El2 B → Le A c B c → (∀ l, l < c → dt (B l) d r = 0) → ∀ l, l < c → dt (A l) d r = 0 := fun A B hB hle h0 l hl => by
  obtain ⟨a, ha, e⟩ := hle l hl
  have e2 : dt (A l) d r = dt (lc a B c) d r := qa4 (fun j _ => by rw [e j])
  rw [e2, dt_lc ha hB]
  exact qad (fun i hi => by rw [h0 i hi, qa7])
 have few : ∀ l, l < top → lc d (m2 (trf G top r) r top) r l = dt (m2 G c r l) d r := fun l hl => qa4 (fun i hi => by
  have hlc : l < c := Nat.lt_of_lt_of_le hl hR.kr
  rw [qb1 _ hi hl, qf8 G top r l i hl, qb1 G hlc hi]
  exact qac _ _ (hd i) (hG _ (R2.at hlc hi)))
 constructor
 ·intro h j
  by_cases hj : j < top
  ·rw [few j hj]
   exact cross _ _ hTe hS.1 (fun l hl => by rw [← lc_dt hF R hd hl]; exact h l) j (Nat.lt_of_lt_of_le hj hR.kr)
  ·exact qad (fun i _ => by rw [qaf _ (by omega), qa7])
 ·intro h j
  by_cases hj : j < c
  ·rw [lc_dt hF R hd hj]
   refine cross _ _ hGe hS.2 (fun l hl => ?_) j hj
   by_cases ht : l < top
   ·rw [← few l ht]; exact h l
   ·exact qad (fun i _ => by rw [hR.nul l i (by omega) hl, qaa])
  ·exact qad (fun i _ => by rw [qaf _ (by omega), qa7])
open Go.RowKit Go.Shelf
attribute [local go_sem] Oper.semAt_some
/-- A matrix may be a generator. -/
def GenQ (r c : Int) (n : Nat) : Prop := RightP r c n ∧ 1 ≤ c ∧ c ≤ r
theorem GenQ.nat {r c : Int} {n : Nat} (h : GenQ r c n) : ∃ r' c' : Nat, r = (r' : Int) ∧ c = (c' : Int) ∧ Rt r' c' n ∧ 1 ≤ c' ∧ c' ≤ r' := by
  obtain ⟨⟨h1, h2, h3, h4, h5⟩, h6, h7⟩ := h
  obtain ⟨x, rfl⟩ := Int.eq_ofNat_of_zero_le h1
  obtain ⟨y, rfl⟩ := Int.eq_ofNat_of_zero_le h3
  exact ⟨x, y, rfl, rfl, ⟨by omega, by omega, by have : (n : Int) = ((x * y : Nat) : Int) := by rw [h5]; simp
                                                 omega⟩, by omega, by omega⟩
theorem qmt (w : World) (r c : Int) (n k : Nat) (a : Option Addr) (b : Bool) (hb : b = true ↔ GenQ r c n) :
  Calls Tryz.prog 40 #[mv r c a n k] w fun e w' => e = .returned (.bool b) ∧ Below w.heap.size w w' := by
 obtain ⟨wb, HW⟩ : ∃ wb, Hid (w.alloc (.cells #[.int .i64 r, .int .i64 c, .slice a n k] 24) = wb) := ⟨_, rfl⟩
 have HB0 : Hid (Below w.heap.size w wb) := by rw [← HW.out]; exact qa1 _ _
 have HV : Hid (Vr wb w.heap.size (.int .i64 r) (.int .i64 c) (.slice a n k)) := by rw [← HW.out]; exact Vr.new w _ _ _
 by_cases h : RightP r c n
 ·have HP : Hid (RightP r c n) := h
  have HE : Hid (b = (decide (1 ≤ c) && decide (c ≤ r))) := by
   show b = _
   cases b with
   | true =>
    have := hb.1 rfl
    simp [this.2.1, this.2.2]
   | false =>
    have : ¬ (1 ≤ c ∧ c ≤ r) := fun h2 => by have := hb.2 ⟨h, h2.1, h2.2⟩; cases this
    by_cases h1 : 1 ≤ c
    ·simp [h1]; omega
    ·simp [h1]
  clear h hb
  by_cases h1 : 1 ≤ c
  ·have g0 : decide ((0 : Int) < c) = true := decide_eq_true (by omega)
   have g1 : decide ((1 : Int) ≤ c) = true := decide_eq_true h1
   go_enter Tryz.func40, Tryz.ntmps40
   go_wp2_with (go_at_call 60; rw [HW.out]; refine (qaj _ _ _ _ _ _ HP.out).mono ?_; rintro e w1 ⟨rfl, hb1⟩; have HB1 : Hid (Below wb.heap.size wb w1) := hb1; have v0 := (HV.out.later hb1).c0; have v1 := (HV.out.later hb1).c1; clear hb1)
   go_ret
   exact ⟨by rw [HE.out, g1]; simp, qa0 HB0.out HB1.out⟩
  ·have g0 : decide ((0 : Int) < c) = false := decide_eq_false (by omega)
   have g1 : decide ((1 : Int) ≤ c) = false := decide_eq_false h1
   go_enter Tryz.func40, Tryz.ntmps40
   go_wp2_with (go_at_call 60; rw [HW.out]; refine (qaj _ _ _ _ _ _ HP.out).mono ?_; rintro e w1 ⟨rfl, hb1⟩; have HB1 : Hid (Below wb.heap.size wb w1) := hb1; have v0 := (HV.out.later hb1).c0; have v1 := (HV.out.later hb1).c1; clear hb1)
   go_ret
   exact ⟨by rw [HE.out, g1]; simp, qa0 HB0.out HB1.out⟩
 ·have HP : Hid (¬ RightP r c n) := h
  have HE : Hid (b = false) := by
   show b = _
   cases b with
   | true => exact (h (hb.1 rfl).1).elim
   | false => rfl
  clear h hb
  go_enter Tryz.func40, Tryz.ntmps40
  go_wp2_with (go_at_call 60; rw [HW.out]; refine (qgp _ _ _ _ _ _ HP.out).mono ?_; rintro e w1 ⟨rfl, hb1⟩; have HB1 : Hid (Below wb.heap.size wb w1) := hb1; have v0 := (HV.out.later hb1).c0; have v1 := (HV.out.later hb1).c1; clear hb1)
  go_ret
  exact ⟨by rw [HE.out]; rfl, qa0 HB0.out HB1.out⟩
theorem qk0 (w : World) (r c b : Int) (n k : Nat) (a : Option Addr) (h : 0 ≤ b ∧ b < r) :
  Calls Tryz.prog 50 #[mv r c a n k, .int .i64 b] w fun e w' => e = .returned (.bool true) ∧ Below w.heap.size w w' := by
 have g1 : decide (0 ≤ b) = true := by simpa using h.1
 have g2 : decide (b < r) = true := by simpa using h.2
 go_enter Tryz.func50, Tryz.ntmps50
 go_wp2
 go_ret
 exact ⟨rfl, qa1 _ _⟩
theorem qmu (w : World) (r c b : Int) (n k : Nat) (a : Option Addr) (h : ¬ (0 ≤ b ∧ b < r)) :
  Calls Tryz.prog 50 #[mv r c a n k, .int .i64 b] w fun e w' => e = .returned (.bool false) ∧ Below w.heap.size w w' := by
 by_cases h1 : 0 ≤ b
 ·have g1 : decide (0 ≤ b) = true := by simpa using h1
  have g2 : decide (b < r) = false := decide_eq_false (by omega)
  go_enter Tryz.func50, Tryz.ntmps50
  go_wp2
  go_ret
  exact ⟨rfl, qa1 _ _⟩
 ·have g1 : decide (0 ≤ b) = false := decide_eq_false h1
  go_enter Tryz.func50, Tryz.ntmps50
  go_wp2
  go_ret
  exact ⟨rfl, qa1 _ _⟩
/-- What keeps a block from being searched for. -/
def WrgE (r c b : Int) (n : Nat) (E : Int) : Prop := (¬ GenQ r c n ∧ E = 3) ∨ (GenQ r c n ∧ ¬ (0 ≤ b ∧ b < r) ∧ E = 2) ∨ (GenQ r c n ∧ (0 ≤ b ∧ b < r) ∧ E = 0)
theorem lwrong (w : World) (r c b E : Int) (n k : Nat) (a : Option Addr) (h : WrgE r c b n E) :
  Calls Tryz.prog 25 #[mv r c a n k, .int .i64 b] w fun e w' => e = .returned (.int .i64 E) ∧ Below w.heap.size w w' := by
 rcases h with ⟨h1, rfl⟩ | ⟨h1, h2, rfl⟩ | ⟨h1, h2, rfl⟩
 ·have HP : Hid (∀ w' : World, Calls Tryz.prog 40 #[mv r c a n k] w' fun e w'' => e = .returned (.bool false) ∧ Below w'.heap.size w' w'') := fun w' => qmt w' r c n k a false (by simp [h1])
  clear h1
  go_enter Tryz.func25, Tryz.ntmps25
  go_wp2_with (go_at_call 40; refine (HP.out _).mono ?_; rintro e w1 ⟨rfl, hb⟩; have HB1 : Hid (Below w.heap.size w w1) := qa0 (qa1 _ _) hb; clear hb)
  go_ret
  exact ⟨rfl, HB1.out⟩
 ·have HP : Hid (∀ w' : World, Calls Tryz.prog 40 #[mv r c a n k] w' fun e w'' => e = .returned (.bool true) ∧ Below w'.heap.size w' w'') := fun w' => qmt w' r c n k a true (by simp [h1])
  have HR : Hid (∀ w' : World, Calls Tryz.prog 50 #[mv r c a n k, .int .i64 b] w' fun e w'' => e = .returned (.bool false) ∧ Below w'.heap.size w' w'') := fun w' => qmu w' r c b n k a h2
  clear h1 h2
  go_enter Tryz.func25, Tryz.ntmps25
  go_wp2_with (first
   | (go_at_call 40; refine (HP.out _).mono ?_; rintro e w1 ⟨rfl, hb⟩; have HV1 : Hid (Vr w1 w.heap.size (.int .i64 r) (.int .i64 c) (.slice a n k)) := (Vr.new w _ _ _).later hb; have v0 := HV1.out.c0; have v1 := HV1.out.c1; have v2 := HV1.out.c2; have HB1 : Hid (Below w.heap.size w w1) := qa0 (qa1 _ _) hb; clear hb)
   | (go_at_call 50; refine (HR.out _).mono ?_; rintro e w2 ⟨rfl, hb⟩; have HB2 : Hid (Below w.heap.size w w2) := qa0 HB1.out hb; clear hb))
  go_ret
  exact ⟨rfl, HB2.out⟩
 ·have HP : Hid (∀ w' : World, Calls Tryz.prog 40 #[mv r c a n k] w' fun e w'' => e = .returned (.bool true) ∧ Below w'.heap.size w' w'') := fun w' => qmt w' r c n k a true (by simp [h1])
  have HR : Hid (∀ w' : World, Calls Tryz.prog 50 #[mv r c a n k, .int .i64 b] w' fun e w'' => e = .returned (.bool true) ∧ Below w'.heap.size w' w'') := fun w' => qk0 w' r c b n k a h2
  clear h1 h2
  go_enter Tryz.func25, Tryz.ntmps25
  go_wp2_with (first
   | (go_at_call 40; refine (HP.out _).mono ?_; rintro e w1 ⟨rfl, hb⟩; have HV1 : Hid (Vr w1 w.heap.size (.int .i64 r) (.int .i64 c) (.slice a n k)) := (Vr.new w _ _ _).later hb; have v0 := HV1.out.c0; have v1 := HV1.out.c1; have v2 := HV1.out.c2; have HB1 : Hid (Below w.heap.size w w1) := qa0 (qa1 _ _) hb; clear hb)
   | (go_at_call 50; refine (HR.out _).mono ?_; rintro e w2 ⟨rfl, hb⟩; have HB2 : Hid (Below w.heap.size w w2) := qa0 HB1.out hb; clear hb))
  go_ret
  exact ⟨rfl, HB2.out⟩
theorem qhm (w : World) (r c n k b s : Nat) (a : Option Addr) (F : Nat → Nat) (v : Bool) (ha : Mt w a n k F) (R : Rt r c n) (hb : b < r) (hs : s < 2 ^ r) (hv : v = true ↔ SS (m2 F r c) r s (m2 F r c b)) :
  Calls Tryz.prog 45 #[mv r c a n k, .int .i64 (b : Int), .int .u64 (s : Int)] w fun e w' => e = .returned (.bool v) ∧ Below w.heap.size w w' := by
 have hr := R.r64
 have hM := qax ha.sl.1 R
 obtain ⟨k0, h0⟩ := qg9 hM r s
 obtain ⟨k1, h1⟩ := qg9 hM r (s ||| 2 ^ b)
 have hle := h0.le hM
 have hadd := h0.add hM hb h1
 obtain ⟨z, HZ⟩ : ∃ z : Nat, Hid ((2 ^ b : Nat) = z) := ⟨_, rfl⟩
 obtain ⟨u, HU⟩ : ∃ u : Nat, Hid (s ||| z = u) := ⟨_, rfl⟩
 have hp2 : IntKind.u64.wrap (2 ^ b) = (z : Int) := by rw [← HZ.out]; exact qf1 b (by omega)
 have hor : bits .or .u64 (s : Int) (z : Int) = (u : Int) := j_or7 hr hs hb HZ.out HU.out
 have hu : u < 2 ^ r := by rw [← HU.out, ← HZ.out]; exact or_lt7 hs hb
 have h1u : RS (m2 F r c) r u k1 := by rw [← HU.out, ← HZ.out]; exact h1
 have HR0 := qa2 (qix ha R hs h0)
 have HR1 := qa2 (qix ha R hu h1u)
 obtain ⟨K, HK⟩ : ∃ K, Hid (cn s r = K) := ⟨_, rfl⟩
 have HC : Hid (∀ w' : World, Calls Tryz.prog 41 #[.int .u64 (s : Int)] w' fun e w'' => e = .returned (.int .i64 (K : Int)) ∧ w' = w'') := fun w' => by
  have h := qek s w' (qc7 hr hs)
  rw [qfe hr hs, HK.out] at h
  exact h
 rw [HK.out] at hle
 have hb64 : b < 64 := by omega
 have hvk : v = decide (k1 = k0) := by
  rcases hadd with ⟨e1, e2⟩ | ⟨e1, e2⟩
  ·rw [hv.2 e1, decide_eq_true e2]
  ·have : ¬ v = true := fun h => e1 (hv.1 h)
   rw [decide_eq_false (by omega)]
   cases v
   ·rfl
   ·exact absurd rfl this
 have hk1 : K < k1 → k1 ≠ k0 := fun h => by omega
 clear ha R hb hs hv h0 h1 h1u hadd hM hu HU HZ HK hr
 by_cases hg : K < k1
 ·have g1 : decide ((K : Int) < (k1 : Int)) = true := decide_eq_true (by omega)
  have hv0 : v = false := by rw [hvk]; exact decide_eq_false (hk1 hg)
  subst hv0
  clear hvk hk1
  go_enter Tryz.func45, Tryz.ntmps45
  go_wp2
  go_region_held3 (fun w' => w'.cell? ⟨w.heap.size, 0, none⟩ = some (.int .i64 (r : Int)) ∧ w'.cell? ⟨w.heap.size, 1, none⟩ = some (.int .i64 (c : Int)) ∧ w'.cell? ⟨w.heap.size, 2, none⟩ = some (.slice a n k))
   (first | exact ⟨HV1.out.c0, HV1.out.c1, HV1.out.c2⟩ | go_keep | exact ⟨((Vr.new w (.int .i64 (r : Int)) (.int .i64 (c : Int)) (.slice a n k)).later (Below.refl _ _).drew).c0, ((Vr.new w (.int .i64 (r : Int)) (.int .i64 (c : Int)) (.slice a n k)).later (Below.refl _ _).drew).c1, ((Vr.new w (.int .i64 (r : Int)) (.int .i64 (c : Int)) (.slice a n k)).later (Below.refl _ _).drew).c2⟩)
   (first | (go_at_call 78; refine (HR1.out _ (qa0 (qa1 _ _) (Below.refl _ _).drew)).mono ?_; rintro e w1 ⟨rfl, hb⟩; have HV1 : Hid (Vr w1 w.heap.size (.int .i64 (r : Int)) (.int .i64 (c : Int)) (.slice a n k)) := ((Vr.new w _ _ _).later (Below.refl _ _).drew).later hb; have HB1 : Hid (Below w.heap.size w w1) := qa0 (qa0 (qa1 _ _) (Below.refl _ _).drew) hb; clear hb))
  go_wp2_with (go_at_call 41; refine (HC.out _).mono ?_; rintro e w' ⟨rfl, rfl⟩)
  go_ret
  exact ⟨rfl, HB1.out⟩
 ·have g1 : decide ((K : Int) < (k1 : Int)) = false := decide_eq_false (by omega)
  have hv0 : v = ((k1 : Int) == (k0 : Int)) := by
   rw [hvk]
   by_cases e : k1 = k0
   ·rw [decide_eq_true e, e]; simp
   ·rw [decide_eq_false e, eq_comm, beq_eq_false_iff_ne]; omega
  clear hvk hk1
  go_enter Tryz.func45, Tryz.ntmps45
  go_wp2
  go_region_held3 (fun w' => w'.cell? ⟨w.heap.size, 0, none⟩ = some (.int .i64 (r : Int)) ∧ w'.cell? ⟨w.heap.size, 1, none⟩ = some (.int .i64 (c : Int)) ∧ w'.cell? ⟨w.heap.size, 2, none⟩ = some (.slice a n k))
   (first | exact ⟨HV1.out.c0, HV1.out.c1, HV1.out.c2⟩ | go_keep | exact ⟨((Vr.new w (.int .i64 (r : Int)) (.int .i64 (c : Int)) (.slice a n k)).later (Below.refl _ _).drew).c0, ((Vr.new w (.int .i64 (r : Int)) (.int .i64 (c : Int)) (.slice a n k)).later (Below.refl _ _).drew).c1, ((Vr.new w (.int .i64 (r : Int)) (.int .i64 (c : Int)) (.slice a n k)).later (Below.refl _ _).drew).c2⟩)
   (first | (go_at_call 78; refine (HR1.out _ (qa0 (qa1 _ _) (Below.refl _ _).drew)).mono ?_; rintro e w1 ⟨rfl, hb⟩; have HV1 : Hid (Vr w1 w.heap.size (.int .i64 (r : Int)) (.int .i64 (c : Int)) (.slice a n k)) := ((Vr.new w _ _ _).later (Below.refl _ _).drew).later hb; have HB1 : Hid (Below w.heap.size w w1) := qa0 (qa0 (qa1 _ _) (Below.refl _ _).drew) hb; clear hb))
  have v0 := HV1.out.c0
  have v1 := HV1.out.c1
  have v2 := HV1.out.c2
  go_wp2_with (first
   | (go_at_call 41; refine (HC.out _).mono ?_; rintro e w' ⟨rfl, rfl⟩)
   | (go_at_call 78; refine (HR0.out _ HB1.out).mono ?_; rintro e w2 ⟨rfl, hb⟩; have HB2 : Hid (Below w.heap.size w w2) := qa0 HB1.out hb; clear hb))
  go_ret
  exact ⟨by rw [hv0]; rfl, HB2.out⟩
open Go.RowKit Go.Shelf
attribute [local go_sem] Oper.semAt_some
theorem Mt.pre {w : World} {s : Option Addr} {n k m : Nat} {F : Nat → Nat} (h : Mt w s n k F) (hm : m ≤ n) : Mt w s m k F :=
 ⟨⟨fun i hi => h.sl.1 i (by omega), fun i hi => h.sl.2 i (by omega)⟩, Nat.le_trans hm h.room, fun e => by obtain ⟨h1, h2⟩ := h.nil e; exact ⟨by omega, h2⟩⟩
/-- Rows in fewest columns are answered. -/
def FewP (w w' : World) (e : Ending) (F : Nat → Nat) (r c : Nat) : Prop := ∃ (g top N : Nat) (H : Nat → Nat), e = .returned (mv r top (some ⟨g, 0, none⟩) N N) ∧ RowAt w' g 5 N H ∧ (∀ q, q < N → H q < 256) ∧ Rt r top N ∧ KerEq (m2 F r c) (m2 H r top) r ∧ Below w.heap.size w w'
theorem qmv (w : World) (r c n k : Nat) (a : Option Addr) (F : Nat → Nat) (ha : Mt w a n k F) (R : Rt r c n) :
  Calls Tryz.prog 26 #[mv r c a n k] w fun e w' => FewP w w' e F r c := by
 obtain ⟨wb, HW, HX⟩ : ∃ wb, Hid (wb = (w.alloc (.cells #[.int .i64 (r : Int), .int .i64 (c : Int), .slice a n k] 24)).alloc (.cells #[.int .i64 0, .int .i64 0, .slice none 0 0] 24)) ∧ Hid (Box2 w wb r c n k a) := ⟨_, rfl, box2 w r c n k a⟩
 have HA : Hid (Mt w a n k F) := ha
 have HR : Hid (Rt r c n) := R
 have HR2 : Hid (Rt c r n) := R.turn
 have hr := R.r64
 have hc := R.c64
 have HTe : Hid (∀ q, q < n → trf F r c q < 256) := qg1 ha.sl.1 R
 have HKe : Hid (∀ (G p : Nat → Nat) (top : Nat), (∀ i, i < n → G i < 256) → Rdf (m2 G c r) c top p → SpEq (m2 G c r) c (m2 (trf F r c) c r) c → KerEq (m2 F r c) (m2 (trf G top r) r top) r) := fun G p top hG h1 h2 => few_ker ha.sl.1 R hG h1 h2
 have hn : n ≤ 4096 := R.le
 have hlen := R.len
 have v0 := HX.out.va.c0
 have v1 := HX.out.va.c1
 have v2 := HX.out.va.c2
 have hwb : w.heap.size + 1 < wb.heap.size := HX.out.vr.lt
 clear ha R
 go_enter Tryz.func26, Tryz.ntmps26
 go_wp2_with (first
  | (go_at_call 57; have _x := HTe; rw [← HW.out]; refine (qd9 _ r c n k a F (HA.out.later HX.out.below) HR.out).mono ?_; rintro e w1 ⟨g1, rfl, hr1, _, hb⟩; have HB1 : Hid (Below wb.heap.size wb (w1.alloc (.cells #[.int .i64 (c : Int), .int .i64 (r : Int), .slice (some ⟨g1, 0, none⟩) n n] 24))) := qa0 hb (qa1 _ _); have HM1 : Hid (Mt (w1.alloc (.cells #[.int .i64 (c : Int), .int .i64 (r : Int), .slice (some ⟨g1, 0, none⟩) n n] 24)) (some ⟨g1, 0, none⟩) n n (trf F r c)) := (hr1.mt HTe.out).later (qa1 _ _); clear hr1 hb HTe _x)
  | (go_at_call 58; refine (qm3 _ c r n n (some ⟨g1, 0, none⟩) (trf F r c) HM1.out HR2.out).mono ?_; rintro e w2 ⟨s2, d2, ps, pd, top, p, G, rfl, hm2, _, hrd, hsp, _, hb⟩; have HB2 : Hid (Below wb.heap.size wb w2) := qa0 HB1.out hb; have HM2 : Hid (Mt w2 s2 n d2 G) := hm2; have HKq : Hid (KerEq (m2 F r c) (m2 (trf G top r) r top) r) := HKe.out G p top hm2.sl.1 hrd hsp; have htc : top ≤ c := hrd.kr; have hroom : n ≤ d2 := hm2.room; have HV2 : Hid (Vr (w2.alloc (.cells #[.int .i64 (c : Int), .int .i64 (r : Int), .slice s2 n d2] 24)) w2.heap.size (.int .i64 (c : Int)) (.int .i64 (r : Int)) (.slice s2 n d2)) := Vr.new _ _ _ _; obtain ⟨P, HP⟩ : ∃ P, Hid (top * r = P) := ⟨_, rfl⟩; have hPn : P ≤ n := (by rw [← HP.out, ← hlen, Nat.mul_comm r c]; exact Nat.mul_le_mul_right r htc); have hPw : IntKind.i64.wrap ((top : Int) * (r : Int)) = (P : Int) := (by rw [show ((top : Int) * (r : Int)) = ((top * r : Nat) : Int) by simp, HP.out, IntKind.wrap_i64]; omega); have hP0 : (0 : Int) ≤ (P : Int) := (by omega); have hP1 : (P : Int) ≤ (d2 : Int) := (by omega); have RP : Hid (Rt top r P) := ⟨Nat.le_trans htc hc, hr, HP.out⟩; have HMp : Hid (Mt w2 s2 P d2 G) := hm2.pre hPn; have HTp : Hid (∀ q, q < P → trf G top r q < 256) := qg1 HMp.out.sl.1 RP.out; clear hm2 hrd hsp hb HP)
  | (go_at_call 57; refine (qd9 _ top r P d2 s2 G ((HMp.out.later (qa1 _ _)).later (qa1 _ _)) RP.out).mono ?_; rintro e w3 ⟨g3, rfl, hr3, hg3, hb⟩; have HB3 : Hid (Below wb.heap.size wb (w3.alloc (.cells #[.int .i64 (r : Int), .int .i64 (top : Int), .slice (some ⟨g3, 0, none⟩) P P] 24))) := qa0 (qa0 (qa0 (qa0 HB2.out (qa1 _ _)) (qa1 _ _)) hb) (qa1 _ _); have HR3 : Hid (RowAt (w3.alloc (.cells #[.int .i64 (r : Int), .int .i64 (top : Int), .slice (some ⟨g3, 0, none⟩) P P] 24)) g3 5 P (trf G top r)) := hr3.later (qa1 _ _); have hgb : wb.heap.size ≤ g3 := Nat.le_trans (qa0 (qa0 HB2.out (qa1 _ _)) (qa1 _ _)).size hg3; clear hr3 hg3 hb)
  | (refine qa6 rfl _ _ rfl (w.heap.size + 1) _ _ _ (.int .i64 (r : Int)) (.int .i64 (top : Int)) (.slice (some ⟨g3, 0, none⟩) P P) rfl rfl (HX.out.vr.later HB3.out) rfl rfl rfl ?_; intro w7 HV7 HG7))
 have d0 := HV7.out.c0
 have d1 := HV7.out.c1
 have d2' := HV7.out.c2
 refine bodyPost_ret (v := mv r top (some ⟨g3, 0, none⟩) P P) (by simp [results, Tryz.results26, go_sem, d0, d1, d2', mv]) rfl ?_
 exact ⟨g3, top, P, trf G top r, rfl, HR3.out.kept HG7.out (by omega), HTp.out, RP.out.turn, HKq.out, qa9 (qa0 HX.out.below HB3.out) HG7.out (by omega)⟩
open Go.RowKit Go.Shelf
/-- A variable of one cell. -/
def Cl (w : World) (b : Nat) (v : Value) (T : TypeId) : Prop := w.heap[b]? = some (.cells #[v] T (0, 0))
theorem Cl.lt {w : World} {b : Nat} {v : Value} {T : TypeId} (h : Cl w b v T) : b < w.heap.size := lt_of_block h
theorem Cl.cell {w : World} {b : Nat} {v : Value} {T : TypeId} (h : Cl w b v T) : w.cell? ⟨b, 0, none⟩ = some v := by rw [cell_of_row w b 0 _ _ _ h]; rfl
theorem Cl.free {w : World} {b : Nat} {v : Value} {T : TypeId} (h : Cl w b v T) : w.frozen? ⟨b, 0, none⟩ = false := by
 unfold Cl at h
 simp [World.frozen?, h]
theorem Cl.later {w w' : World} {b : Nat} {v : Value} {T : TypeId} (h : Cl w b v T) (hb : Below w.heap.size w w') : Cl w' b v T := by unfold Cl; rw [hb.block b h.lt]; exact h
theorem Cl.kept {w w' : World} {b : Nat} {v : Value} {T : TypeId} {row : Option Nat} (h : Cl w b v T) (hg : w.grownBy w' row) (hn : row ≠ some b) : Cl w' b v T := by unfold Cl; rw [hg.block b h.lt (fun e => hn e.symm)]; exact h
theorem Cl.set {w : World} {b : Nat} {v : Value} {T : TypeId} (h : Cl w b v T) (v' : Value) : Cl (w.setCell ⟨b, 0, none⟩ v') b v' T := by
 unfold Cl at *
 rw [setCell_eq_setRow w b 0 _ _ (0, 0) _ h, setRow_heap w b _ _ _ (0, 0) h]
 rfl
theorem Cl.new (w : World) (v : Value) (T : TypeId) : Cl (w.alloc (.cells #[v] T)) w.heap.size v T := heap_alloc_new w _
theorem qap (w : World) (g i : Nat) (v : Value) : w.grownBy (w.setCell ⟨g, i, none⟩ v) (some g) :=
 ⟨rfl, rfl, rfl, by simp, fun k _ hk => Below.heap_setCell w ⟨g, i, none⟩ v k (by intro e; apply hk; simpa using e)⟩
/-- The marks that loops over functions have left: blocks from B on and below E. -/
def DOk (W : World) (B : Nat) : Nat → List Deferred → Prop
 | _, [] => True
 | E, d :: ds => ∃ D, d = { target := .collected D, args := #[] } ∧ B ≤ D ∧ D < E ∧ W.heap[D]? = some (.deferred (some [])) ∧ DOk W B D ds
theorem DOk.mono {W : World} {B E E' : Nat} {ds : List Deferred} (h : DOk W B E ds) (hE : E ≤ E') : DOk W B E' ds := by
 cases ds with
 | nil => trivial
 | cons d ds =>
  obtain ⟨D, h1, h2, h3, h4, h5⟩ := h
  exact ⟨D, h1, h2, by omega, h4, h5⟩
theorem DOk.kept {W W' : World} {B : Nat} : ∀ {E : Nat} {ds : List Deferred}, DOk W B E ds → (∀ i, B ≤ i → i < E → i < W.heap.size → W'.heap[i]? = W.heap[i]?) → DOk W' B E ds := by
 intro E ds
 induction ds generalizing E with
 | nil => intro _ _; trivial
 | cons d ds ih =>
  rintro ⟨D, h1, h2, h3, h4, h5⟩ hk
  exact ⟨D, h1, h2, h3, by rw [hk D h2 h3 (lt_of_block h4)]; exact h4, ih h5 (fun i a b c => hk i a (by omega) c)⟩
open Go.RowKit Go.Shelf
attribute [local go_sem] Oper.semAt_some
theorem lothers (w : World) (n b k : Int) :
  Calls Tryz.prog 44 #[.int .i64 n, .int .i64 b, .int .i64 k] w fun e w' => ∃ bn bk bb, e = .returned (.func (.func 76) #[] #[.pointer (some ⟨bn, 0, none⟩), .pointer (some ⟨bk, 0, none⟩), .pointer (some ⟨bb, 0, none⟩)]) ∧ Cl w' bn (.int .i64 n) 3 ∧ Cl w' bk (.int .i64 k) 3 ∧ Cl w' bb (.int .i64 b) 3 ∧ w.heap.size ≤ bn ∧ w.heap.size ≤ bk ∧ w.heap.size ≤ bb ∧ Below w.heap.size w w' := by
 have hmf : ∀ (fn : Fn) (first cap : Array Value) (w : World), (Instr.makeFunc fn first cap).run Tryz.prog w = .ok (.func fn first cap) w := fun _ _ _ _ => rfl
 have e1 : (w.alloc (.cells #[.int .i64 n] 3)).heap.size = w.heap.size + 1 := by simp
 have e2 : ((w.alloc (.cells #[.int .i64 n] 3)).alloc (.cells #[.int .i64 b] 3)).heap.size = w.heap.size + 1 + 1 := by simp
 go_enter Tryz.func44, Tryz.ntmps44
 go_wp2
 go_ret
 have h1 : Cl ((w.alloc (.cells #[.int .i64 n] 3)).alloc (.cells #[.int .i64 b] 3)) (w.heap.size + 1) (.int .i64 b) 3 := by
  rw [← e1]; exact Cl.new _ _ _
 have h2 : Cl (((w.alloc (.cells #[.int .i64 n] 3)).alloc (.cells #[.int .i64 b] 3)).alloc (.cells #[.int .i64 k] 3)) (w.heap.size + 1 + 1) (.int .i64 k) 3 := by
  rw [← e2]; exact Cl.new _ _ _
 exact ⟨w.heap.size, w.heap.size + 1 + 1, w.heap.size + 1, rfl, ((Cl.new w _ _).later (qa1 _ _)).later (qa1 _ _), h2, h1.later (qa1 _ _), by omega, by omega, by omega, qa0 (qa0 (qa1 _ _) (qa1 _ _)) (qa1 _ _)⟩
/-- How a round's body may be left: it goes on, by a break, or by a return. -/
def rndR (Kp : Nat → World → Prop) (Kx : Code → World → Prop) (j B : Nat) (W : World) : Exit → Act → World → Prop
 | .normal, _, W' => Kp (j + 1) W' ∧ W.heap.size ≤ W'.heap.size ∧ ∀ i, B ≤ i → i < W.heap.size → W'.heap[i]? = W.heap[i]?
 | .exit id, _, W' => Kx (.exit id) W' ∧ W.heap.size ≤ W'.heap.size ∧ ∀ i, B ≤ i → i < W.heap.size → W'.heap[i]? = W.heap[i]?
 | .ret, _, W' => Kx .ret W' ∧ W.heap.size ≤ W'.heap.size ∧ ∀ i, B ≤ i → i < W.heap.size → W'.heap[i]? = W.heap[i]?
 | _, _, _ => False
theorem qk1 {gop : Operand} {p : Tmp} {assign body : Code} {Q : Exit → Act → World → Prop} {a : Act} {w : World} {nn C bn bk : Nat} (n k : Int) (f ix : Nat → Nat) (Kp : Nat → World → Prop) (Kx : Code → World → Prop)
  (hnn : 2 ≤ nn) (hix : ∀ j, j < C → ix (f j) = j)
  (hA0 : C = 0 → ∀ w : World, Calls Tryz.prog 95 #[.int .i64 n, .int .i64 k, .int .i64 0] w fun e w' => e = .returned (.tuple #[.int .u64 0, .int .i64 2]) ∧ Below w.heap.size w w')
  (hA1 : 0 < C → ∀ w : World, Calls Tryz.prog 95 #[.int .i64 n, .int .i64 k, .int .i64 0] w fun e w' => e = .returned (.tuple #[.int .u64 (f 0 : Nat), .int .i64 0]) ∧ Below w.heap.size w w')
  (hN1 : ∀ j, j + 1 < C → ∀ w : World, Calls Tryz.prog 96 #[.int .i64 n, .int .u64 (f j : Nat)] w fun e w' => e = .returned (.tuple #[.int .u64 (f (j + 1) : Nat), .bool true]) ∧ Below w.heap.size w w')
  (hN0 : ∀ j, j + 1 = C → ∀ w : World, Calls Tryz.prog 96 #[.int .i64 n, .int .u64 (f j : Nat)] w fun e w' => e = .returned (.tuple #[.int .u64 0, .bool false]) ∧ Below w.heap.size w w')
  (hg : a.eval gop = .func (.func 94) #[] #[.pointer (some ⟨bn, 0, none⟩), .pointer (some ⟨bk, 0, none⟩)])
  (hKp : ∀ j W W' row, Kp j W → W.grownBy W' row → (∀ g, row = some g → w.heap.size ≤ g) → Kp j W')
  (hKx : ∀ c W W' row, Kx c W → W.grownBy W' row → (∀ g, row = some g → w.heap.size ≤ g) → Kx c W')
  (hKc : ∀ j W, Kp j W → W.cell? ⟨bn, 0, none⟩ = some (.int .i64 n) ∧ W.cell? ⟨bk, 0, none⟩ = some (.int .i64 k))
  (h0 : Kp 0 w) (a₁ : Nat → Act)
  (hassign : ∀ (l s : Nat) (W : World) (K : Act → World → Prop), K (a₁ s) W → assign.wpIn (Fence.wide.inRound l) (nn - 1 - 1) Tryz.prog (Exit.then K (fun _ _ _ => False)) { tmps := a.tmps.setIfInBounds p (.int .u64 (s : Int)), defers := [] } W)
  (hbody : ∀ (l j : Nat) (W : World), j < C → Kp j W → body.wpIn (Fence.wide.inRound l) (nn - 1 - 1) Tryz.prog (rndR Kp Kx j w.heap.size W) (a₁ (f j)) W)
  (hdone : ∀ (D : Nat) (W : World), w.heap.size ≤ D → Kp C W → W.heap[D]? = some (.deferred (some [])) → Q .normal { a with defers := { target := .collected D, args := #[] } :: a.defers } W)
  (hstop : ∀ (D : Nat) (c : Code) (W : World), w.heap.size ≤ D → Kx c W → W.heap[D]? = some (.deferred (some [])) → c.wpIn Fence.wide nn Tryz.prog Q { a with defers := { target := .collected D, args := #[] } :: a.defers } W) :
  (Code.rangeFunc gop #[p] assign body).wpIn Fence.wide nn Tryz.prog Q a w := by
 refine wpIn_rangeFunc ?_
 intro fn hfn
 obtain ⟨rc, hrc⟩ : ∃ rc : LoopState → Option Code → Loop, rc = fun st pe => { state := st, pending := pe, fn, tmps := a.tmps, params := #[p], assign, body, defers := w.heap.size } := ⟨_, rfl⟩
 obtain ⟨W1, hW1⟩ : ∃ W1, (w.alloc (.deferred (some []))).alloc (.loop (rc .ready none)) = W1 := ⟨_, rfl⟩
 have hs1 : W1.heap.size = w.heap.size + 2 := by rw [← hW1]; simp
 have hL1 : W1.heap[w.heap.size + 1]? = some (.loop (rc .ready none)) := by rw [← hW1]; exact heap_alloc2_new _ _ _
 have hD1 : W1.heap[w.heap.size]? = some (.deferred (some [])) := by rw [← hW1]; exact heap_alloc2_old _ _ _
 have hb1 : Below w.heap.size w W1 := by rw [← hW1]; exact jtwo (jlow _ _) (jlow _ _)
 have hK1 : Kp 0 W1 := hKp 0 w W1 none h0 (jgrown.mpr hb1) (fun g e => by cases e)
 have put : ∀ (W : World) (o : Obj), W.grownBy (W.putObj (w.heap.size + 1) o) (some (w.heap.size + 1)) := fun W o => grownBy_putObj' W (w.heap.size + 1) o
 refine ⟨w.heap.size + 1, [{ target := .collected w.heap.size, args := #[] }], W1, { target := .fn (.func 94) #[.pointer (some ⟨bn, 0, none⟩), .pointer (some ⟨bk, 0, none⟩)], args := #[.func (.yield (w.heap.size + 1)) #[] #[]] }, W1, 94,
  #[.func (.yield (w.heap.size + 1)) #[] #[]] ++ #[.pointer (some ⟨bn, 0, none⟩), .pointer (some ⟨bk, 0, none⟩)], W1, ?_, ?_, ?_, ?_, fun h => (by cases h), ?_⟩
 ·rw [← hW1, hrc]; exact run_enterLoop_outer _ _ _ _ _
 ·simp only [resolve, hg]
  simp [go_sem]
 ·intro f' _; trivial
 ·simp [invoke, go_sem]
 ·refine (all_in (nn - 1) (w.heap.size + 1) C bn bk n k f ix W1
   (fun j W => Kp j W ∧ W.heap[w.heap.size + 1]? = some (.loop (rc .ready none)) ∧ W.heap[w.heap.size]? = some (.deferred (some [])))
   (fun W => ∃ c, Kx c W ∧ W.heap[w.heap.size + 1]? = some (.loop (rc .done (some c))) ∧ W.heap[w.heap.size]? = some (.deferred (some [])))
   (by omega) hix hA0 hA1 hN1 hN0 ?_ (fun j W h => hKc j W h.1) ?_ ⟨hK1, hL1, hD1⟩).mono ?_
  ·rintro j W W' ⟨h1, h2, h3⟩ hbw
   exact ⟨hKp j W W' none h1 (jgrown.mpr hbw) (fun g e => by cases e), by rw [hbw.block _ (lt_of_block h2)]; exact h2, by rw [hbw.block _ (lt_of_block h3)]; exact h3⟩
  ·rintro j W hj ⟨h1, h2, h3⟩
   have l2 := lt_of_block h2
   have hy := run_yield (P := Tryz.prog) (args := #[.int .u64 (f j : Nat)]) h2 (by rw [hrc]; rfl)
   rw [hrc] at hy
   refine ⟨fn, _, assign, body, hy, roundIn_of_wpIn hfn ?_⟩
   have htm : ((#[p] : Array Tmp).zip #[Value.int .u64 (f j : Nat)]).foldl (fun tmps (t, a) => tmps.setIfInBounds t a) a.tmps = a.tmps.setIfInBounds p (.int .u64 (f j : Nat)) := by simp
   rw [htm]
   refine hassign _ (f j) W _ ?_
   refine ⟨_, run_beginRound h2 (by rw [hrc]), ?_⟩
   obtain ⟨W2, hW2⟩ : ∃ W2, W.putObj (w.heap.size + 1) (.loop { rc .ready none with state := .busy }) = W2 := ⟨_, rfl⟩
   have hg2 : W.grownBy W2 (some (w.heap.size + 1)) := by rw [← hW2]; exact put _ _
   have k2 : Kp j W2 := hKp j W W2 _ h1 hg2 (fun g e => by cases e; omega)
   have h22 : W2.heap[w.heap.size + 1]? = some (.loop { rc .ready none with state := .busy }) := by rw [← hW2]; exact World.putObj_heap_same l2
   have h32 : W2.heap[w.heap.size]? = some (.deferred (some [])) := by rw [hg2.block _ (lt_of_block h3) (fun e => by simp at e)]; exact h3
   rw [hW2]
   refine wpIn_mono (hbody _ j W2 hj k2) ?_
   rintro e a3 W3 hp
   cases e with
   | normal =>
    obtain ⟨hk3, hs3, hbl⟩ := hp
    have hl3 : W3.heap[w.heap.size + 1]? = some (.loop { rc .ready none with state := .busy }) := by rw [hbl _ (by omega) (lt_of_block h22)]; exact h22
    have hd3 : W3.heap[w.heap.size]? = some (.deferred (some [])) := by rw [hbl _ (by omega) (lt_of_block h32)]; exact h32
    have hend := run_endRound (P := Tryz.prog) none hl3
    refine ⟨_, _, hend, .inl ⟨rfl, hKp (j + 1) W3 _ _ hk3 (put _ _) (fun g e => by cases e; omega), ?_, ?_⟩⟩
    ·rw [World.putObj_heap_same (lt_of_block hl3), hrc]; rfl
    ·exact (World.putObj_heap_other (by omega)).trans hd3
   | exit id =>
    obtain ⟨hk3, hs3, hbl⟩ := hp
    have hl3 : W3.heap[w.heap.size + 1]? = some (.loop { rc .ready none with state := .busy }) := by rw [hbl _ (by omega) (lt_of_block h22)]; exact h22
    have hd3 : W3.heap[w.heap.size]? = some (.deferred (some [])) := by rw [hbl _ (by omega) (lt_of_block h32)]; exact h32
    have hend := run_endRound (P := Tryz.prog) (some (.exit id)) hl3
    refine ⟨_, _, hend, .inr ⟨rfl, _, hKx _ W3 _ _ hk3 (put _ _) (fun g e => by cases e; omega), ?_, ?_⟩⟩
    ·rw [World.putObj_heap_same (lt_of_block hl3), hrc]; rfl
    ·exact (World.putObj_heap_other (by omega)).trans hd3
   | ret =>
    obtain ⟨hk3, hs3, hbl⟩ := hp
    have hl3 : W3.heap[w.heap.size + 1]? = some (.loop { rc .ready none with state := .busy }) := by rw [hbl _ (by omega) (lt_of_block h22)]; exact h22
    have hd3 : W3.heap[w.heap.size]? = some (.deferred (some [])) := by rw [hbl _ (by omega) (lt_of_block h32)]; exact h32
    have hend := run_endRound (P := Tryz.prog) (some .ret) hl3
    refine ⟨_, _, hend, .inr ⟨rfl, _, hKx _ W3 _ _ hk3 (put _ _) (fun g e => by cases e; omega), ?_, ?_⟩⟩
    ·rw [World.putObj_heap_same (lt_of_block hl3), hrc]; rfl
    ·exact (World.putObj_heap_other (by omega)).trans hd3
   | goto t => exact hp.elim
   | panic ch => exact hp.elim
   | outgrown => exact hp.elim
  ·rintro e W2 ⟨⟨v, rfl⟩, (⟨h1, h2, h3⟩ | ⟨c, h1, h2, h3⟩)⟩
   ·refine ⟨none, _, by have := run_endLoop (P := Tryz.prog) h2 (by rw [hrc]; simp); rw [hrc] at this; exact this, ?_⟩
    exact hdone _ _ (Nat.le_refl _) (hKp C W2 _ _ h1 (put _ _) (fun g e => by cases e; omega)) ((World.putObj_heap_other (by omega)).trans h3)
   ·refine ⟨some c, _, by have := run_endLoop (P := Tryz.prog) h2 (by rw [hrc]; simp); rw [hrc] at this; exact this, ?_⟩
    exact hstop _ c _ (Nat.le_refl _) (hKx c W2 _ _ h1 (put _ _) (fun g e => by cases e; omega)) ((World.putObj_heap_other (by omega)).trans h3)
open Go.RowKit Go.Shelf
theorem oth_ops {s b : Nat} (hs : s < 9223372036854775808) (hb : b < 64) : ∃ z z1 lo hi h2 g : Nat, IntKind.u64.wrap (2 ^ b) = (z : Int) ∧ IntKind.u64.wrap ((z : Int) - 1) = (z1 : Int) ∧ bits .and .u64 (s : Int) (z1 : Int) = (lo : Int) ∧ bits .xor .u64 (s : Int) (lo : Int) = (hi : Int) ∧ IntKind.u64.wrap ((hi : Int) * 2) = (h2 : Int) ∧ bits .or .u64 (lo : Int) (h2 : Int) = (g : Int) ∧ ∀ i, bt g i = 1 ↔ (i < b ∧ bt s i = 1) ∨ (b < i ∧ bt s (i - 1) = 1) := by
 have hz := qbg hb
 have hz0 := Nat.two_pow_pos b
 have hlo : s &&& (2 ^ b - 1) = s % 2 ^ b := Nat.and_two_pow_sub_one_eq_mod s b
 have hlo2 : s % 2 ^ b ≤ s := Nat.mod_le _ _
 have hhi : s ^^^ (s % 2 ^ b) < 2 ^ 63 := Nat.xor_lt_two_pow hs (Nat.lt_of_le_of_lt hlo2 hs)
 have hbhi : ∀ i, bt (s ^^^ (s % 2 ^ b)) i = 1 ↔ ¬ i < b ∧ bt s i = 1 := fun i => by
  rw [qar, Nat.testBit_xor, Nat.testBit_mod_two_pow, qar]
  by_cases hi : i < b
  ·simp [hi]
  ·simp [hi]
 refine ⟨2 ^ b, 2 ^ b - 1, s % 2 ^ b, s ^^^ (s % 2 ^ b), (s ^^^ (s % 2 ^ b)) * 2, (s % 2 ^ b) ||| ((s ^^^ (s % 2 ^ b)) * 2), qf1 b hb, ?_, ?_, ?_, ?_, ?_, fun i => ?_⟩
 ·rw [IntKind.wrap_u64]
  generalize 2 ^ b = y at hz hz0
  omega
 ·rw [u64_and_nat s (2 ^ b - 1) (by omega) (by omega), hlo]
 ·exact u64_xor_nat s (s % 2 ^ b) (by omega) (by omega)
 ·rw [IntKind.wrap_u64]
  generalize s ^^^ (s % 2 ^ b) = y at hhi
  have : y < 9223372036854775808 := hhi
  omega
 ·refine u64_or_nat _ _ (by omega) ?_
  generalize s ^^^ (s % 2 ^ b) = y at hhi
  have : y < 9223372036854775808 := hhi
  omega
 ·rw [qbj, qm9]
  have h2 : bt ((s ^^^ (s % 2 ^ b)) * 2) i = 1 ↔ 0 < i ∧ bt (s ^^^ (s % 2 ^ b)) (i - 1) = 1 := by
   have e : (s ^^^ (s % 2 ^ b)) * 2 = (s ^^^ (s % 2 ^ b)) <<< 1 := by rw [Nat.shiftLeft_eq]
   rw [e, qar, Nat.testBit_shiftLeft, qar]
   simp only [Bool.and_eq_true, decide_eq_true_eq]
   exact ⟨fun h => ⟨by omega, h.2⟩, fun h => ⟨by omega, h.2⟩⟩
  rw [h2, hbhi]
  constructor
  ·rintro (h | ⟨h1, h3, h4⟩)
   ·exact .inl h
   ·exact .inr ⟨by omega, h4⟩
  ·rintro (h | ⟨h1, h3⟩)
   ·exact .inl h
   ·exact .inr ⟨by omega, by omega, h3⟩
open Go.RowKit Go.Shelf
attribute [local go_sem] Oper.semAt_some
/-- What others makes of All's set s: g. -/
def OthG (b s g : Nat) : Prop := ∃ z z1 lo hi h2 : Nat, IntKind.u64.wrap (2 ^ b) = (z : Int) ∧ IntKind.u64.wrap ((z : Int) - 1) = (z1 : Int) ∧ bits .and .u64 (s : Int) (z1 : Int) = (lo : Int) ∧ bits .xor .u64 (s : Int) (lo : Int) = (hi : Int) ∧ IntKind.u64.wrap ((hi : Int) * 2) = (h2 : Int) ∧ bits .or .u64 (lo : Int) (h2 : Int) = (g : Int)
theorem qmw (m l C bn bk bb n b : Nat) (k : Int) (f ix G : Nat → Nat) (W0 : World) (T : Nat → World → Prop) (Tx : World → Prop) (hn1 : 1 ≤ n) (hn : n ≤ 64) (hb : b < n)
  (AF : AllF ((n : Int) - 1) k C f ix) (hG : ∀ j, j < C → OthG b (f j) (G j))
  (hC : ∀ j W, T j W → W.cell? ⟨bn, 0, none⟩ = some (.int .i64 (n : Int)) ∧ W.cell? ⟨bk, 0, none⟩ = some (.int .i64 k) ∧ W.cell? ⟨bb, 0, none⟩ = some (.int .i64 (b : Int)))
  (hT : ∀ j W W', T j W → Below W0.heap.size W W' → T j W') (hTx : ∀ W W', Tx W → Below W0.heap.size W W' → Tx W') (hsz : ∀ j W, T j W → W0.heap.size ≤ W.heap.size) (hsx : ∀ W, Tx W → W0.heap.size ≤ W.heap.size)
  (hY : ∀ q j W, j < C → T j W → YieldAt Fence.wide q Tryz.prog l #[.int .u64 (G j : Nat)] W (fun e W' => ((e = .returned (.bool true) ∧ T (j + 1) W') ∨ (e = .returned (.bool false) ∧ Tx W')) ∧ W.heap.size ≤ W'.heap.size ∧ ∀ i, W0.heap.size ≤ i → i < W.heap.size → W'.heap[i]? = W.heap[i]?))
  (h0 : T 0 W0) :
  CallsIn Fence.wide m Tryz.prog 76 #[.func (.yield l) #[] #[], .pointer (some ⟨bn, 0, none⟩), .pointer (some ⟨bk, 0, none⟩), .pointer (some ⟨bb, 0, none⟩)] W0 fun e W' => (∃ v, e = .returned v) ∧ (T C W' ∨ Tx W') := by
 have HT := qa2 hT
 have HTx := qa2 hTx
 have HC := qa2 hC
 have HY := qa2 hY
 have HG := qa2 hG
 have HS := qa2 hsz
 have HSx := qa2 hsx
 have H0 : Hid (T 0 W0) := h0
 have hb64 : b < 64 := by omega
 obtain ⟨N1, hN1⟩ : ∃ N1, n - 1 = N1 := ⟨_, rfl⟩
 have en : (n : Int) - 1 = (N1 : Int) := by omega
 rw [en] at AF
 have HAF := qa2 AF
 obtain ⟨wb, HW⟩ : ∃ wb, Hid (wb = W0.alloc (.cells #[.func (.yield l) #[] #[]] 109)) := ⟨_, rfl⟩
 have HBb : Hid (Below W0.heap.size W0 wb) := by rw [HW.out]; exact qa1 _ _
 have HVy : Hid (Cl wb W0.heap.size (.func (.yield l) #[] #[]) 109) := by rw [HW.out]; exact Cl.new _ _ _
 have HTb : Hid (T 0 wb) := hT 0 W0 wb h0 HBb.out
 obtain ⟨c1, c2, c3⟩ := hC 0 wb HTb.out
 rw [HW.out] at c1 c2 c3
 clear hT hTx hC hY hG hsz hsx h0 AF
 refine callsIn_wide.2 ((callsIn_wide (n := 4)).1 (callsIn_of_wp_marks Tryz.func76 rfl trivial ?_ rfl))
 simp only [Tryz.ntmps76, List.size_toArray, List.length_cons, List.length_nil, Nat.reduceAdd, Nat.reduceSub, Array.replicate_succ, Array.replicate_zero, List.push_toArray, List.append_toArray, List.nil_append, List.cons_append]
 refine wpIn_wide.2 ?_
 go_wp2_with (go_at_call 77; rw [← HW.out]; refine (qiy _ _ _).mono ?_; rintro e w1 ⟨rfl, hd1, hd2, hs1, hb1⟩; have HB1 : Hid (Below wb.heap.size wb w1) := hb1; have HD1 := qa2 hd1; have HD2 := qa2 hd2; have HS1 := qa2 hs1; clear hd1 hd2 hs1 hb1)
 obtain ⟨bn2, Hbn2⟩ : ∃ x, Hid (x = wb.heap.size) := ⟨_, rfl⟩
 obtain ⟨bk2, Hbk2⟩ : ∃ x, Hid (x = wb.heap.size + 1) := ⟨_, rfl⟩
 have hwb : W0.heap.size + 1 ≤ wb.heap.size := by have := HVy.out.lt; omega
 have h1s := HS1.out
 have HE1 : Hid (w1.cell? ⟨bn2, 0, none⟩ = some (.int .i64 (N1 : Int))) := by rw [Hbn2.out]; exact HD1.out
 have HE2 : Hid (w1.cell? ⟨bk2, 0, none⟩ = some (.int .i64 k)) := by rw [Hbk2.out]; exact HD2.out
 have hl1 : bn2 < w1.heap.size := by rw [Hbn2.out]; omega
 have hl2 : bk2 < w1.heap.size := by rw [Hbk2.out]; omega
 have hl3 : W0.heap.size ≤ bn2 := by rw [Hbn2.out]; omega
 have hl4 : W0.heap.size ≤ bk2 := by rw [Hbk2.out]; omega
 have HVy1 : Hid (w1.cell? ⟨W0.heap.size, 0, none⟩ = some (.func (.yield l) #[] #[])) := (HVy.out.later HB1.out).cell
 have HT1 : Hid (T 0 w1) := HT.out 0 wb w1 HTb.out (HB1.out.mono (by omega))
 have hyl : W0.heap.size < w1.heap.size := by omega
 rw [← Hbk2.out, ← Hbn2.out]
 clear HD1 HD2 Hbn2 Hbk2 HTb HVy HS1 c1 c2 c3 HW
 refine (wpIn_wide (n := 4)).1 ?_
 refine qk1 (nn := 4) (C := C) (bn := bn2) (bk := bk2) (N1 : Int) k f ix
  (fun j W => T j W ∧ w1.heap.size ≤ W.heap.size ∧ W.cell? ⟨bn2, 0, none⟩ = some (.int .i64 (N1 : Int)) ∧ W.cell? ⟨bk2, 0, none⟩ = some (.int .i64 k) ∧ W.cell? ⟨W0.heap.size, 0, none⟩ = some (.func (.yield l) #[] #[]))
  (fun c W => c = .ret ∧ Tx W ∧ w1.heap.size ≤ W.heap.size) (by omega) HAF.out.ix HAF.out.a0 HAF.out.a1 HAF.out.n1 HAF.out.n0 rfl ?hKp ?hKx ?hKc ?h0
  (fun s => { tmps := #[.func (.yield l) #[] #[], .pointer (some ⟨bn, 0, none⟩), .pointer (some ⟨bk, 0, none⟩), .pointer (some ⟨bb, 0, none⟩), .pointer (some ⟨W0.heap.size, 0, none⟩), .int .u64 (s : Int), undef, .int .i64 (n : Int), .int .i64 (N1 : Int), .int .i64 k, .func (.func 94) #[] #[.pointer (some ⟨bn2, 0, none⟩), .pointer (some ⟨bk2, 0, none⟩)], .int .u64 (s : Int), undef, undef, undef, undef, undef, undef, undef, undef, undef, undef, undef, undef, undef, undef], defers := [] }) ?hassign ?hbody ?hdone ?hstop
 case hKp =>
  rintro j W W' row ⟨h1, h2, h3, h4, h5⟩ hg hrow
  have hbl : Below W0.heap.size W W' := jbelow hg (by omega) (fun g e => by have := hrow g e; omega)
  have kc : ∀ x v, x < w1.heap.size → W.cell? ⟨x, 0, none⟩ = some v → W'.cell? ⟨x, 0, none⟩ = some v := fun x v hx hc => by
   rw [World.cell?_of_block (a := ⟨x, 0, none⟩) (hg.block x (by omega) (fun e => by have := hrow x e.symm; omega))]
   exact hc
  exact ⟨HT.out j W W' h1 hbl, Nat.le_trans h2 hg.size, kc _ _ hl1 h3, kc _ _ hl2 h4, kc _ _ hyl h5⟩
 case hKx =>
  rintro c W W' row ⟨h1, h2, h3⟩ hg hrow
  exact ⟨h1, HTx.out W W' h2 (jbelow hg (by omega) (fun g e => by have := hrow g e; omega)), Nat.le_trans h3 hg.size⟩
 case hKc => exact fun j W h => ⟨h.2.2.1, h.2.2.2.1⟩
 case h0 => exact ⟨HT1.out, Nat.le_refl _, HE1.out, HE2.out, HVy1.out⟩
 case hassign =>
  intro l2 s W K hK
  gi_wp2
  exact hK
 case hbody =>
  rintro l2 j W hj ⟨h1, h2, h3, h4, h5⟩
  obtain ⟨z, z1, lo, hi, h2', q1, q2, q3, q4, q5, q6⟩ := HG.out j hj
  obtain ⟨x, HX⟩ : ∃ x, Hid (f j = x) := ⟨_, rfl⟩
  rw [HX.out] at q3 q4 ⊢
  have c3 := (HC.out j W h1).2.2
  obtain ⟨y, HYy⟩ : ∃ y, Hid (G j = y) := ⟨_, rfl⟩
  rw [HYy.out] at q6
  obtain ⟨fn, tmps, assign, body, hy, hR⟩ := HY.out 1 j W hj h1
  rw [HYy.out] at hy
  have HRd := qa2 hR
  have H3 := qa2 h3
  have H4 := qa2 h4
  have H1 := qa2 h1
  clear hR h1 h3 h4 HX HYy
  gi_wp2
  have hR2 : RoundIn (Fence.wide.inRound l2) 1 Tryz.prog l fn tmps assign body W _ := HRd.out
  refine RoundIn.mono hR2 ?_
  clear hR2 HRd hy
  rintro e W3 ⟨hc, hs3, hbl⟩
  have HK3 : Hid (∀ x v, W0.heap.size ≤ x → x < w1.heap.size → W.cell? ⟨x, 0, none⟩ = some v → W3.cell? ⟨x, 0, none⟩ = some v) := fun x v hx hx2 hcc => by
   rw [World.cell?_of_block (a := ⟨x, 0, none⟩) (hbl x hx (by omega))]
   exact hcc
  have HBl : Hid (∀ i, w1.heap.size ≤ i → i < W.heap.size → W3.heap[i]? = W.heap[i]?) := fun i hi hi2 => hbl i (by omega) hi2
  clear hbl
  rcases hc with ⟨rfl, ht⟩ | ⟨rfl, hx⟩
  ·have HT3 := qa2 ht
   clear ht
   gi_wp2
   exact ⟨⟨HT3.out, by omega, HK3.out _ _ hl3 hl1 H3.out, HK3.out _ _ hl4 hl2 H4.out, HK3.out _ _ (Nat.le_refl _) hyl h5⟩, hs3, HBl.out⟩
  ·have HX3 := qa2 hx
   clear hx
   gi_wp2
   exact ⟨⟨rfl, HX3.out, by omega⟩, hs3, HBl.out⟩
 case hdone =>
  rintro D W hD ⟨h1, h2, _, _, _⟩ hdf
  have HDf := qa2 hdf
  have H1 := qa2 h1
  clear hdf h1
  go_wp2
  refine ⟨by simp, .inl ⟨_, _, rfl, run_takeDeferred HDf.out, ?_⟩⟩
  refine ⟨_, results_none rfl _ _ _, ?_⟩
  exact ⟨⟨_, rfl⟩, .inl (HT.out C W _ H1.out (jbelow (grownBy_putObj' W D (.deferred none)) (by omega) (fun g e => by have h := Option.some.inj e; omega)))⟩
 case hstop =>
  rintro D c W hD ⟨rfl, h1, h2⟩ hdf
  have HDf := qa2 hdf
  have H1 := qa2 h1
  clear hdf h1
  refine wpIn_wide.2 ?_
  go_wp2
  refine ⟨by simp, .inl ⟨_, _, rfl, run_takeDeferred HDf.out, ?_⟩⟩
  refine ⟨_, results_none rfl _ _ _, ?_⟩
  exact ⟨⟨_, rfl⟩, .inr (HTx.out W _ H1.out (jbelow (grownBy_putObj' W D (.deferred none)) (by omega) (fun g e => by have h := Option.some.inj e; omega)))⟩
open Go.RowKit Go.Shelf
attribute [local go_sem] Oper.semAt_some
theorem qgy {gop : Operand} {p : Tmp} {assign body : Code} {Q : Exit → Act → World → Prop} {a : Act} {w : World} {nn C bn bk bb n b : Nat} (k : Int) (f ix G : Nat → Nat) (Kp : Nat → World → Prop) (Kx : Code → World → Prop) (hn1 : 1 ≤ n) (hn : n ≤ 64) (hb : b < n)
  (AF : AllF ((n : Int) - 1) k C f ix) (hG : ∀ j, j < C → OthG b (f j) (G j))
  (hg : a.eval gop = .func (.func 76) #[] #[.pointer (some ⟨bn, 0, none⟩), .pointer (some ⟨bk, 0, none⟩), .pointer (some ⟨bb, 0, none⟩)])
  (hKp : ∀ j W W', Kp j W → Below w.heap.size W W' → Kp j W') (hKx : ∀ c W W', Kx c W → Below w.heap.size W W' → Kx c W')
  (hKc : ∀ j W, Kp j W → W.cell? ⟨bn, 0, none⟩ = some (.int .i64 (n : Int)) ∧ W.cell? ⟨bk, 0, none⟩ = some (.int .i64 k) ∧ W.cell? ⟨bb, 0, none⟩ = some (.int .i64 (b : Int)))
  (h0 : Kp 0 w) (a₁ : Nat → Act)
  (hassign : ∀ (q l s : Nat) (W : World) (K : Act → World → Prop), K (a₁ s) W → assign.wpIn (Fence.wide.inRound l) q Tryz.prog (Exit.then K (fun _ _ _ => False)) { tmps := a.tmps.setIfInBounds p (.int .u64 (s : Int)), defers := [] } W)
  (hbody : ∀ (q l j : Nat) (W : World), j < C → Kp j W → body.wpIn (Fence.wide.inRound l) q Tryz.prog (rndR Kp Kx j w.heap.size W) (a₁ (G j)) W)
  (hdone : ∀ (D : Nat) (W : World), w.heap.size ≤ D → Kp C W → W.heap[D]? = some (.deferred (some [])) → Q .normal { a with defers := { target := .collected D, args := #[] } :: a.defers } W)
  (hstop : ∀ (D : Nat) (c : Code) (W : World), w.heap.size ≤ D → Kx c W → W.heap[D]? = some (.deferred (some [])) → c.wpIn Fence.wide nn Tryz.prog Q { a with defers := { target := .collected D, args := #[] } :: a.defers } W) :
  (Code.rangeFunc gop #[p] assign body).wpIn Fence.wide nn Tryz.prog Q a w := by
 refine wpIn_rangeFunc ?_
 intro fn hfn
 obtain ⟨rc, hrc⟩ : ∃ rc : LoopState → Option Code → Loop, rc = fun st pe => { state := st, pending := pe, fn, tmps := a.tmps, params := #[p], assign, body, defers := w.heap.size } := ⟨_, rfl⟩
 obtain ⟨W1, hW1⟩ : ∃ W1, (w.alloc (.deferred (some []))).alloc (.loop (rc .ready none)) = W1 := ⟨_, rfl⟩
 have hs1 : W1.heap.size = w.heap.size + 2 := by rw [← hW1]; simp
 have hL1 : W1.heap[w.heap.size + 1]? = some (.loop (rc .ready none)) := by rw [← hW1]; exact heap_alloc2_new _ _ _
 have hD1 : W1.heap[w.heap.size]? = some (.deferred (some [])) := by rw [← hW1]; exact heap_alloc2_old _ _ _
 have hb1 : Below w.heap.size w W1 := by rw [← hW1]; exact jtwo (jlow _ _) (jlow _ _)
 have hK1 : Kp 0 W1 := hKp 0 w W1 h0 hb1
 have put : ∀ (W : World) (o : Obj), W.grownBy (W.putObj (w.heap.size + 1) o) (some (w.heap.size + 1)) := fun W o => grownBy_putObj' W (w.heap.size + 1) o
 have putB : ∀ (W : World) (o : Obj), w.heap.size ≤ W.heap.size → Below w.heap.size W (W.putObj (w.heap.size + 1) o) := fun W o h => jbelow (put W o) h (fun g e => by have h := Option.some.inj e; omega)
 refine ⟨w.heap.size + 1, [{ target := .collected w.heap.size, args := #[] }], W1, { target := .fn (.func 76) #[.pointer (some ⟨bn, 0, none⟩), .pointer (some ⟨bk, 0, none⟩), .pointer (some ⟨bb, 0, none⟩)], args := #[.func (.yield (w.heap.size + 1)) #[] #[]] }, W1, 76,
  #[.func (.yield (w.heap.size + 1)) #[] #[]] ++ #[.pointer (some ⟨bn, 0, none⟩), .pointer (some ⟨bk, 0, none⟩), .pointer (some ⟨bb, 0, none⟩)], W1, ?_, ?_, ?_, ?_, fun h => (by cases h), ?_⟩
 ·rw [← hW1, hrc]; exact run_enterLoop_outer _ _ _ _ _
 ·simp only [resolve, hg]
  simp [go_sem]
 ·intro f' _; trivial
 ·simp [invoke, go_sem]
 ·refine (qmw (nn - 1) (w.heap.size + 1) C bn bk bb n b k f ix G W1
   (fun j W => Kp j W ∧ W.heap[w.heap.size + 1]? = some (.loop (rc .ready none)) ∧ W.heap[w.heap.size]? = some (.deferred (some [])))
   (fun W => ∃ c, Kx c W ∧ W.heap[w.heap.size + 1]? = some (.loop (rc .done (some c))) ∧ W.heap[w.heap.size]? = some (.deferred (some [])))
   hn1 hn hb AF hG (fun j W h => hKc j W h.1) ?_ ?_ ?_ ?_ ?_ ⟨hK1, hL1, hD1⟩).mono ?_
  ·rintro j W W' ⟨h1, h2, h3⟩ hbw
   rw [hs1] at hbw
   exact ⟨hKp j W W' h1 (hbw.mono (by omega)), by rw [hbw.block _ (by omega)]; exact h2, by rw [hbw.block _ (by omega)]; exact h3⟩
  ·rintro W W' ⟨c, h1, h2, h3⟩ hbw
   rw [hs1] at hbw
   exact ⟨c, hKx c W W' h1 (hbw.mono (by omega)), by rw [hbw.block _ (by omega)]; exact h2, by rw [hbw.block _ (by omega)]; exact h3⟩
  ·rintro j W ⟨_, h2, _⟩
   have := lt_of_block h2
   omega
  ·rintro W ⟨c, _, h2, _⟩
   have := lt_of_block h2
   omega
  ·rintro q j W hj ⟨h1, h2, h3⟩
   have l2 := lt_of_block h2
   have hy := run_yield (P := Tryz.prog) (args := #[.int .u64 (G j : Nat)]) h2 (by rw [hrc]; rfl)
   rw [hrc] at hy
   refine ⟨fn, _, assign, body, hy, roundIn_of_wpIn hfn ?_⟩
   have htm : ((#[p] : Array Tmp).zip #[Value.int .u64 (G j : Nat)]).foldl (fun tmps (t, a) => tmps.setIfInBounds t a) a.tmps = a.tmps.setIfInBounds p (.int .u64 (G j : Nat)) := by simp
   rw [htm]
   refine hassign _ _ (G j) W _ ?_
   refine ⟨_, run_beginRound h2 (by rw [hrc]), ?_⟩
   obtain ⟨W2, hW2⟩ : ∃ W2, W.putObj (w.heap.size + 1) (.loop { rc .ready none with state := .busy }) = W2 := ⟨_, rfl⟩
   have hg2 : W.grownBy W2 (some (w.heap.size + 1)) := by rw [← hW2]; exact put _ _
   have hz2 : W2.heap.size = W.heap.size := by rw [← hW2]; simp
   have k2 : Kp j W2 := hKp j W W2 h1 (by rw [← hW2]; exact putB W _ (by omega))
   have h22 : W2.heap[w.heap.size + 1]? = some (.loop { rc .ready none with state := .busy }) := by rw [← hW2]; exact World.putObj_heap_same l2
   have h32 : W2.heap[w.heap.size]? = some (.deferred (some [])) := by rw [hg2.block _ (lt_of_block h3) (fun e => by simp at e)]; exact h3
   rw [hW2]
   refine wpIn_mono (hbody _ _ j W2 hj k2) ?_
   rintro e a3 W3 hp
   have keep : ∀ (o : Obj), (∀ i, w.heap.size ≤ i → i < W2.heap.size → W3.heap[i]? = W2.heap[i]?) → W2.heap.size ≤ W3.heap.size → W.heap.size ≤ (W3.putObj (w.heap.size + 1) o).heap.size ∧ ∀ i, W1.heap.size ≤ i → i < W.heap.size → (W3.putObj (w.heap.size + 1) o).heap[i]? = W.heap[i]? := fun o hbl hs3 => by
    refine ⟨by have := (put W3 o).size; omega, fun i hi hi2 => ?_⟩
    rw [(put W3 o).block i (by omega) (fun e => by have h := Option.some.inj e; omega), hbl i (by omega) (by omega), hg2.block i hi2 (fun e => by have h := Option.some.inj e; omega)]
   cases e with
   | normal =>
    obtain ⟨hk3, hs3, hbl⟩ := hp
    have hl3 : W3.heap[w.heap.size + 1]? = some (.loop { rc .ready none with state := .busy }) := by rw [hbl _ (by omega) (lt_of_block h22)]; exact h22
    have hd3 : W3.heap[w.heap.size]? = some (.deferred (some [])) := by rw [hbl _ (by omega) (lt_of_block h32)]; exact h32
    have hend := run_endRound (P := Tryz.prog) none hl3
    refine ⟨_, _, hend, .inl ⟨rfl, hKp (j + 1) W3 _ hk3 (putB W3 _ (by omega)), ?_, ?_⟩, keep _ hbl hs3⟩
    ·rw [World.putObj_heap_same (lt_of_block hl3), hrc]; rfl
    ·exact (World.putObj_heap_other (by omega)).trans hd3
   | exit id =>
    obtain ⟨hk3, hs3, hbl⟩ := hp
    have hl3 : W3.heap[w.heap.size + 1]? = some (.loop { rc .ready none with state := .busy }) := by rw [hbl _ (by omega) (lt_of_block h22)]; exact h22
    have hd3 : W3.heap[w.heap.size]? = some (.deferred (some [])) := by rw [hbl _ (by omega) (lt_of_block h32)]; exact h32
    have hend := run_endRound (P := Tryz.prog) (some (.exit id)) hl3
    refine ⟨_, _, hend, .inr ⟨rfl, _, hKx _ W3 _ hk3 (putB W3 _ (by omega)), ?_, ?_⟩, keep _ hbl hs3⟩
    ·rw [World.putObj_heap_same (lt_of_block hl3), hrc]; rfl
    ·exact (World.putObj_heap_other (by omega)).trans hd3
   | ret =>
    obtain ⟨hk3, hs3, hbl⟩ := hp
    have hl3 : W3.heap[w.heap.size + 1]? = some (.loop { rc .ready none with state := .busy }) := by rw [hbl _ (by omega) (lt_of_block h22)]; exact h22
    have hd3 : W3.heap[w.heap.size]? = some (.deferred (some [])) := by rw [hbl _ (by omega) (lt_of_block h32)]; exact h32
    have hend := run_endRound (P := Tryz.prog) (some .ret) hl3
    refine ⟨_, _, hend, .inr ⟨rfl, _, hKx _ W3 _ hk3 (putB W3 _ (by omega)), ?_, ?_⟩, keep _ hbl hs3⟩
    ·rw [World.putObj_heap_same (lt_of_block hl3), hrc]; rfl
    ·exact (World.putObj_heap_other (by omega)).trans hd3
   | goto t => exact hp.elim
   | panic ch => exact hp.elim
   | outgrown => exact hp.elim
  ·rintro e W2 ⟨⟨v, rfl⟩, (⟨h1, h2, h3⟩ | ⟨c, h1, h2, h3⟩)⟩
   ·have l2 := lt_of_block h2
    refine ⟨none, _, by have := run_endLoop (P := Tryz.prog) h2 (by rw [hrc]; simp); rw [hrc] at this; exact this, ?_⟩
    exact hdone _ _ (Nat.le_refl _) (hKp C W2 _ h1 (putB W2 _ (by omega))) ((World.putObj_heap_other (by omega)).trans h3)
   ·have l2 := lt_of_block h2
    refine ⟨some c, _, by have := run_endLoop (P := Tryz.prog) h2 (by rw [hrc]; simp); rw [hrc] at this; exact this, ?_⟩
    exact hstop _ c _ (Nat.le_refl _) (hKx c W2 _ h1 (putB W2 _ (by omega))) ((World.putObj_heap_other (by omega)).trans h3)
end Go.Proofs.YtblagbghpfopcaaGreat
