/-
  What the checks of stage 7 with a loop over a list need: lists of numbers, bits of numbers.
  Stage 19: the reference's bad, others, repairs, first.
  Stage 19: the reference's first.
-/
import Derived.Test.YtblagbghpfopcaaGreatQffsh00
import Derived.Test.YtblagbghpfopcaaGreatQffsh39
import Derived.Test.YtblagbghpfopcaaGreatQffsh45
import Derived.Test.YtblagbghpfopcaaGreatQffsh40
import Derived.Test.YtblagbghpfopcaaGreatQffsh41
set_option maxRecDepth 100000
set_option maxHeartbeats 16000000
namespace Go.Proofs.YtblagbghpfopcaaGreat
open Go.RowKit
/-- The list of a set. -/
theorem qnc {r s : Nat} (hr : r ≤ 64) (hs : s < 2 ^ r) : ∀ w' : World, Calls Tryz.prog 21 #[.int .u64 (s : Int)] w' fun e w'' => ∃ x d, Il w'' x (cn s r) (fun i => (lf s r i : Int)) ∧ e = .returned (.slice x (cn s r) d) ∧ Below w'.heap.size w' w'' := fun w' =>
 (qgk s w' (qca hr hs)).mono (fun e w'' h => by
  obtain ⟨v, he, ho, hb⟩ := h
  rw [qdw hr hs] at ho
  have ho2 := ho.congr (fun t _ => qh6 hr hs t)
  obtain ⟨x, d, rfl, _⟩ := ho2.form
  exact ⟨x, d, qgo ho2.jl, he, hb⟩)
theorem qnd {m : Nat} (h : m < 64) : min (IntKind.u64.wrap (m : Int)).toNat 64 = m := by
 have e : IntKind.u64.wrap (m : Int) = (m : Int) := by rw [IntKind.wrap_u64]; omega
 rw [e]
 omega
theorem qi5 {s i r : Nat} (hr : r ≤ 64) (hs : s < 2 ^ r) (hi : i < r) {o : Bool} (h : o = true ↔ bt s i = 1) : ∀ w' : World, Calls Tryz.prog 20 #[.int .u64 (s : Int), .int .i64 (i : Int)] w' fun e w'' => e = .returned (.bool o) ∧ Below w'.heap.size w' w'' := fun w' =>
 (qgh s i w' (qca hr hs) (by omega)).mono (fun e w'' h2 => by
  obtain ⟨he, rfl⟩ := h2
  rw [qn2 (b' := o) ⟨fun h => of_decide_eq_true h, fun h => decide_eq_true h⟩ h] at he
  exact ⟨he, Below.refl _ _⟩)
open Go.RowKit Go.Shelf
attribute [local go_sem] Oper.semAt_some
theorem rbad19 (w : World) (r c b E : Int) (n k : Nat) (a : Option Addr) (h : WrgE r c b n E) :
  Calls Tryz.prog 33 #[mv r c a n k, .int .i64 b] w fun e w' => e = .returned (.int .i64 E) ∧ Below w.heap.size w w' := by
 rcases h with ⟨h1, rfl⟩ | ⟨h1, h2, rfl⟩ | ⟨h1, h2, rfl⟩
 ·have HP : Hid (∀ w' : World, Calls Tryz.prog 42 #[mv r c a n k] w' fun e w'' => e = .returned (.bool false) ∧ Below w'.heap.size w' w'') := fun w' => qn4 w' r c n k a false (by simp [h1])
  clear h1
  go_enter Tryz.func33, Tryz.ntmps33
  go_wp2_with (go_at_call 42; refine (HP.out _).mono ?_; rintro e w1 ⟨rfl, hb⟩; have HB1 : Hid (Below w.heap.size w w1) := qa1 (qa0 _ _) hb; clear hb)
  go_ret
  exact ⟨rfl, HB1.out⟩
 ·have HP : Hid (∀ w' : World, Calls Tryz.prog 42 #[mv r c a n k] w' fun e w'' => e = .returned (.bool true) ∧ Below w'.heap.size w' w'') := fun w' => qn4 w' r c n k a true (by simp [h1])
  by_cases h0 : b < 0
  ·have g1 : decide (b < 0) = true := decide_eq_true h0
   clear h1 h2
   go_enter Tryz.func33, Tryz.ntmps33
   go_wp2_with (go_at_call 42; refine (HP.out _).mono ?_; rintro e w1 ⟨rfl, hb⟩; have HV1 : Hid (Vr w1 w.heap.size (.int .i64 r) (.int .i64 c) (.slice a n k)) := (Vr.new w _ _ _).later hb; have v0 := HV1.out.c0; have HB1 : Hid (Below w.heap.size w w1) := qa1 (qa0 _ _) hb; clear hb)
   go_ret
   exact ⟨rfl, HB1.out⟩
  ·have g1 : decide (b < 0) = false := decide_eq_false h0
   have g2 : decide (r ≤ b) = true := decide_eq_true (by omega)
   clear h1 h2
   go_enter Tryz.func33, Tryz.ntmps33
   go_wp2_with (go_at_call 42; refine (HP.out _).mono ?_; rintro e w1 ⟨rfl, hb⟩; have HV1 : Hid (Vr w1 w.heap.size (.int .i64 r) (.int .i64 c) (.slice a n k)) := (Vr.new w _ _ _).later hb; have v0 := HV1.out.c0; have HB1 : Hid (Below w.heap.size w w1) := qa1 (qa0 _ _) hb; clear hb)
   go_ret
   exact ⟨rfl, HB1.out⟩
 ·have HP : Hid (∀ w' : World, Calls Tryz.prog 42 #[mv r c a n k] w' fun e w'' => e = .returned (.bool true) ∧ Below w'.heap.size w' w'') := fun w' => qn4 w' r c n k a true (by simp [h1])
  have g1 : decide (b < 0) = false := decide_eq_false (by omega)
  have g2 : decide (r ≤ b) = false := decide_eq_false (by omega)
  clear h1 h2
  go_enter Tryz.func33, Tryz.ntmps33
  go_wp2_with (go_at_call 42; refine (HP.out _).mono ?_; rintro e w1 ⟨rfl, hb⟩; have HV1 : Hid (Vr w1 w.heap.size (.int .i64 r) (.int .i64 c) (.slice a n k)) := (Vr.new w _ _ _).later hb; have v0 := HV1.out.c0; have HB1 : Hid (Below w.heap.size w w1) := qa1 (qa0 _ _) hb; clear hb)
  go_ret
  exact ⟨rfl, HB1.out⟩
theorem roth19 (w : World) (r b D : Nat) (c : Int) (n k : Nat) (a : Option Addr) (hr : r ≤ 64) (hb : b < r) (hD : D = rem (2 ^ r - 1) b) :
  Calls Tryz.prog 35 #[mv r c a n k, .int .i64 (b : Int)] w fun e w' => e = .returned (.int .u64 (D : Int)) ∧ Below w.heap.size w w' := by
 have hp := Nat.two_pow_pos r
 obtain ⟨A, hA⟩ : ∃ A, 2 ^ r - 1 = A := ⟨_, rfl⟩
 have hA2 : A < 2 ^ r := by omega
 have hb6 : b < 64 := by omega
 obtain ⟨T, HT⟩ : ∃ T : Nat, Hid (2 ^ b = T) := ⟨_, rfl⟩
 have hp2 : IntKind.u64.wrap (2 ^ b) = (T : Int) := by rw [← HT.out]; exact qgg b hb6
 have hp3 : IntKind.u64.wrap (2 ^ min (IntKind.u64.wrap (b : Int)).toNat 64) = (T : Int) := by rw [qnd hb6]; exact hp2
 have hmin : min b 64 = b := by omega
 have han : bits .andNot .u64 (A : Int) (T : Int) = (D : Int) := j_rem7 hr hA2 hb HT.out (by rw [hD, hA])
 have HFu : Hid (∀ w' : World, Calls Tryz.prog 67 #[.int .i64 (r : Int)] w' fun e w'' => e = .returned (.tuple #[.int .u64 (A : Int), .int .i64 0]) ∧ Below w'.heap.size w' w'') := fun w' => (qec r w' hr).mono (fun e w'' h => by obtain ⟨h1, rfl⟩ := h; rw [hA] at h1; exact ⟨h1, Below.refl _ _⟩)
 clear hA hA2 hD HT
 go_enter Tryz.func35, Tryz.ntmps35
 go_wp2_with (go_at_call 67; refine (HFu.out _).mono ?_; rintro e w1 ⟨rfl, hb⟩; have HB1 : Hid (Below w.heap.size w w1) := qa1 (qa0 _ _) hb; clear hb)
 go_ret
 exact ⟨rfl, HB1.out⟩
theorem rrep19 (w : World) (r c n k b s : Nat) (a : Option Addr) (F : Nat → Nat) (v : Bool) (ha : Mt w a n k F) (R : Rt r c n) (hb : b < r) (hs : s < 2 ^ r) (hbs : ¬ bt s b = 1) (hv : v = true ↔ SS (m2 F r c) r s (m2 F r c b)) :
  Calls Tryz.prog 34 #[mv r c a n k, .int .i64 (b : Int), .int .u64 (s : Int)] w fun e w' => e = .returned (.bool v) ∧ Below w.heap.size w w' := by
 have hr := R.r64
 have hM := qax ha.sl.1 R
 have hb6 : b < 64 := by omega
 obtain ⟨k0, h0⟩ := qfc hM r s
 obtain ⟨k1, h1⟩ := qfc hM r (s ||| 2 ^ b)
 have hadd := h0.add hM hb h1
 obtain ⟨z, HZ⟩ : ∃ z : Nat, Hid ((2 ^ b : Nat) = z) := ⟨_, rfl⟩
 obtain ⟨u, HU⟩ : ∃ u : Nat, Hid (s ||| z = u) := ⟨_, rfl⟩
 have hp2 : IntKind.u64.wrap (2 ^ b) = (z : Int) := by rw [← HZ.out]; exact qgg b (by omega)
 have hp3 : IntKind.u64.wrap (2 ^ min (IntKind.u64.wrap (b : Int)).toNat 64) = (z : Int) := by rw [qnd hb6]; exact hp2
 have hmin : min b 64 = b := by omega
 have hor : bits .or .u64 (s : Int) (z : Int) = (u : Int) := j_or7 hr hs hb HZ.out HU.out
 have hu : u < 2 ^ r := by rw [← HU.out, ← HZ.out]; exact or_lt7 hs hb
 have h1u : RS (m2 F r c) r u k1 := by rw [← HU.out, ← HZ.out]; exact h1
 have HR0 : Hid (∀ w' : World, Below w.heap.size w w' → Calls Tryz.prog 53 #[mv r c a n k, .int .u64 (s : Int)] w' fun e w'' => e = .returned (.tuple #[.int .i64 (k0 : Int), .int .i64 0]) ∧ Below w'.heap.size w' w'') := fun w' h => (qjg w' r c n k s a F (ha.later h).sl R hs).mono (fun e w'' hh => by
  obtain ⟨t, he, ht, hb⟩ := hh
  rw [ht.one hM h0] at he
  exact ⟨he, hb⟩)
 have HR1 : Hid (∀ w' : World, Below w.heap.size w w' → Calls Tryz.prog 53 #[mv r c a n k, .int .u64 (u : Int)] w' fun e w'' => e = .returned (.tuple #[.int .i64 (k1 : Int), .int .i64 0]) ∧ Below w'.heap.size w' w'') := fun w' h => (qjg w' r c n k u a F (ha.later h).sl R hu).mono (fun e w'' hh => by
  obtain ⟨t, he, ht, hb⟩ := hh
  rw [ht.one hM h1u] at he
  exact ⟨he, hb⟩)
 have HHa := jhid7 (qi5 (o := false) hr hs hb ⟨fun h => (by cases h), fun h => absurd h hbs⟩)
 have hvk : ((k0 : Int) == (k1 : Int)) = v := by
  rcases hadd with ⟨e1, e2⟩ | ⟨e1, e2⟩
  ·rw [hv.2 e1, e2]; simp
  ·have : ¬ v = true := fun h => e1 (hv.1 h)
   have h3 : v = false := by cases v; rfl; exact absurd rfl this
   rw [h3]
   simp; omega
 clear ha R hb hs hv h0 h1 h1u hadd hM hu HU HZ hr hbs
 go_enter Tryz.func34, Tryz.ntmps34
 go_wp2_with (first
  | (go_at_call 20; refine (HHa.out _).mono ?_; rintro e w1 ⟨rfl, hb⟩; have HV1 : Hid (Vr w1 w.heap.size (.int .i64 (r : Int)) (.int .i64 (c : Int)) (.slice a n k)) := (Vr.new w _ _ _).later hb; have v0 := HV1.out.c0; have v1 := HV1.out.c1; have v2 := HV1.out.c2; have HB1 : Hid (Below w.heap.size w w1) := qa1 (qa0 _ _) hb; clear hb)
  | (go_at_call 53; have _x := HB2; refine (HR1.out _ HB2.out).mono ?_; rintro e w3 ⟨rfl, hb⟩; have HB3 : Hid (Below w.heap.size w w3) := qa1 HB2.out hb; clear hb)
  | (go_at_call 53; refine (HR0.out _ HB1.out).mono ?_; rintro e w2 ⟨rfl, hb⟩; have HV2 : Hid (Vr w2 w.heap.size (.int .i64 (r : Int)) (.int .i64 (c : Int)) (.slice a n k)) := HV1.out.later hb; have x0 := HV2.out.c0; have x1 := HV2.out.c1; have x2 := HV2.out.c2; have HB2 : Hid (Below w.heap.size w w2) := qa1 HB1.out hb; clear hb))
 go_ret
 exact ⟨rfl, HB3.out⟩
/-! The order of the reference's search. -/
/-- Of the sets of size k the first i were gone through, j of them without b. -/
def RfI (r _k i j C : Nat) (G : Nat → Nat) : Prop := (∀ j', j' < j → pla (G j') r < i) ∧ ∀ j', j ≤ j' → j' < C → i ≤ pla (G j') r
theorem RfI.zero (r k C : Nat) (G : Nat → Nat) : RfI r k 0 0 C G := ⟨fun j' h => by omega, fun j' _ _ => Nat.zero_le _⟩
theorem OthA.aset {r b k C : Nat} {f ix G : Nat → Nat} (O : OthA r b k C f ix G) {j : Nat} (hj : j < C) : aset r k (pla (G j) r) = G j := by
 have h := qcr r (G j) (O.lt j hj)
 rw [O.size j hj] at h
 exact h
theorem RfI.skip {r b k i j C : Nat} {f ix G : Nat → Nat} (O : OthA r b k C f ix G) (h : RfI r k i j C G) (hb : bt (Go.Proofs.YtblagbghpfopcaaGreat.aset r k i) b = 1) : RfI r k (i + 1) j C G :=
 ⟨fun j' h1 => by have := h.1 j' h1; omega, fun j' h1 h2 => by
  have h3 := h.2 j' h1 h2
  by_cases e : pla (G j') r = i
  ·have h4 := O.aset h2
   rw [e] at h4
   rw [h4] at hb
   exact absurd hb (O.none j' h2)
  ·omega⟩
theorem RfI.take {r b k i j C : Nat} {f ix G : Nat → Nat} (O : OthA r b k C f ix G) (h : RfI r k i j C G) (hi : i < bin r k) (hb : ¬ bt (Go.Proofs.YtblagbghpfopcaaGreat.aset r k i) b = 1) : j < C ∧ G j = Go.Proofs.YtblagbghpfopcaaGreat.aset r k i ∧ RfI r k (i + 1) (j + 1) C G := by
 obtain ⟨hc, hp⟩ := qb6 r k i hi
 obtain ⟨q, hq, e⟩ := O.every _ (qbk r k i) hb hc
 have hpq : pla (G q) r = i := by rw [e]; exact hp
 have h1 : ¬ q < j := fun hl => by have := h.1 q hl; omega
 have h2 : ¬ j < q := fun hl => by
  have h3 := O.ord j q hl hq
  have h4 := h.2 j (Nat.le_refl _) (by omega)
  omega
 obtain rfl : q = j := by omega
 refine ⟨hq, e, fun j' hl => ?_, fun j' hl hc => ?_⟩
 ·by_cases e2 : j' = q
  ·rw [e2]; omega
  ·have := h.1 j' (by omega); omega
 ·have := O.ord q j' (by omega) hc
  omega
theorem RfI.done {r b k i j C : Nat} {f ix G : Nat → Nat} (O : OthA r b k C f ix G) (h : RfI r k i j C G) (hi : i = bin r k) (hj : j ≤ C) : j = C := by
 refine Classical.byContradiction (fun hn => ?_)
 have h1 := h.2 j (Nat.le_refl _) (by omega)
 have h2 := qh3 r (G j)
 rw [O.size j (by omega)] at h2
 omega
open Go.RowKit Go.Shelf
attribute [local go_sem] Oper.semAt_some
/-- What the reference's search finds. -/
def FsA (M : Nat → Nat → Nat) (r b : Nat) (C : Nat → Nat) (G : Nat → Nat → Nat) (x : Nat) (v : Bool) : Prop :=
 (v = true ∧ ∃ k j, k < r ∧ j < C k ∧ x = G k j ∧ sm19 C k + j < 16384 ∧ SS M r x (M b) ∧ NoneB M r b C G k j) ∨
 (v = false ∧ x = 0 ∧ ((∃ k j, k < r ∧ j < C k ∧ sm19 C k + j = 16384 ∧ NoneB M r b C G k j) ∨ NoneB M r b C G r 0))
/-- How many sets of a size are still to come. -/
def qi6 (B r : Nat) (s t : Value) : Nat := match t with | .bool true => B - pla (intOf s).toNat r | _ => 0
theorem next19 {r k i s : Nat} (hr : r ≤ 64) (hi : i < bin r k) (hs : aset r k i = s) : ∃ (s' : Nat) (t' : Bool), (∀ w' : World, Calls Tryz.prog 48 #[.int .i64 (r : Int), .int .u64 (s : Int)] w' fun e w'' => e = .returned (.tuple #[.int .u64 (s' : Int), .bool t']) ∧ Below w'.heap.size w' w'') ∧ (t' = true → i + 1 < bin r k ∧ aset r k (i + 1) = s') ∧ (t' = false → i + 1 = bin r k) ∧ ∀ t : Int, t = (s : Int) → qi6 (bin r k) r (.int .u64 (s' : Int)) (.bool t') < qi6 (bin r k) r (.int .u64 t) (.bool true) := by
 have hsl : s < 2 ^ r := by rw [← hs]; exact qbk r k i
 have hp : pla s r = i := by rw [← hs]; exact (qb6 r k i hi).2
 by_cases h : i + 1 < bin r k
 ·refine ⟨aset r k (i + 1), true, fun w' => (qjk r s w' hr hsl).mono (fun e w'' hh => ?_), fun _ => ⟨h, rfl⟩, fun e => (by cases e), fun t ht => ?_⟩
  ·obtain ⟨h1, h2⟩ := hh
   rw [← hs, qdu h] at h1
   exact ⟨h1, h2⟩
  ·subst ht
   have h1 := (qb6 r k (i + 1) h).2
   simp only [qi6, intOf, Int.toNat_natCast]
   omega
 ·refine ⟨0, false, fun w' => (qjk r s w' hr hsl).mono (fun e w'' hh => ?_), fun e => (by cases e), fun _ => by omega, fun t ht => ?_⟩
  ·obtain ⟨h1, h2⟩ := hh
   rw [← hs, qdv (by omega)] at h1
   exact ⟨h1, h2⟩
  ·subst ht
   simp only [qi6, intOf, Int.toNat_natCast]
   omega
theorem rfirst19 (w : World) (r c n k0 b : Nat) (a : Option Addr) (F : Nat → Nat) (ha : Mt w a n k0 F) (R : Rt r c n) (hb : b < r) (C : Nat → Nat) (f ix G : Nat → Nat → Nat) (O : qcn r b C f ix G) :
  Calls Tryz.prog 36 #[mv r c a n k0, .int .i64 (b : Int)] w fun e w' => ∃ (x : Nat) (v : Bool), e = .returned (.tuple #[.int .u64 (x : Int), .bool v]) ∧ FsA (m2 F r c) r b C G x v ∧ Below w.heap.size w w' := by
 have hr := R.r64
 obtain ⟨wb, HW⟩ : ∃ wb, Hid (wb = w.alloc (.cells #[.int .i64 (r : Int), .int .i64 (c : Int), .slice a n k0] 24)) := ⟨_, rfl⟩
 have HVa : Hid (Vr wb w.heap.size (.int .i64 (r : Int)) (.int .i64 (c : Int)) (.slice a n k0)) := by show Vr _ _ _ _ _; rw [HW.out]; exact Vr.new _ _ _ _
 have HB0 : Hid (Below w.heap.size w wb) := by rw [HW.out]; exact qa0 _ _
 have HA := qa3 ha
 have HR := qa3 R
 have HO := qa3 O
 obtain ⟨M, HM⟩ : ∃ M, Hid (m2 F r c = M) := ⟨_, rfl⟩
 have HRp : Hid (∀ (w' : World) (s : Nat) (v : Bool), Below wb.heap.size wb w' → s < 2 ^ r → ¬ bt s b = 1 → (v = true ↔ SS M r s (M b)) → Calls Tryz.prog 34 #[mv r c a n k0, .int .i64 (b : Int), .int .u64 (s : Int)] w' fun e w'' => e = .returned (.bool v) ∧ Below w'.heap.size w' w'') := fun w' s v hB hs hbs hv => rrep19 w' r c n k0 b s a F v (HA.out.later (qa1 HB0.out hB)) HR.out hb hs hbs (by rw [HM.out]; exact hv)
 rw [HM.out]
 clear ha R O HA HR HM
 go_enter Tryz.func36, Tryz.ntmps36
 go_wp2
 rw [← HW.out]
 go_loopw [6, 7] (fun v6 v7 wi => ∃ k q : Nat, k ≤ r ∧ v7 = .int .i64 (k : Int) ∧ v6 = .int .i64 (q : Int) ∧ Hid (q = sm19 C k) ∧ q ≤ 16384 ∧ Hid (NoneB M r b C G k 0) ∧ Below wb.heap.size wb wi) (fun _ v7 _ => r - (intOf v7).toNat)
 case atStart => exact ⟨0, 0, Nat.zero_le _, rfl, rfl, rfl, by omega, NoneB.zero _ _ _ _ _, Below.refl _ _⟩
 case round =>
  obtain ⟨k, q, hk, rfl, rfl, hq, hq16, hN, hB⟩ := hrel
  have HB := qa3 hB
  have m0 := (HVa.out.later hB).c0
  clear hB
  by_cases hlt : k < r
  ·have d1 : decide ((k : Int) < (r : Int)) = true := decide_eq_true (by omega)
   have d2 : decide (k < r) = true := decide_eq_true hlt
   obtain ⟨x0, HX0⟩ : ∃ x : Nat, Hid ((2 ^ k - 1 : Nat) = x) := ⟨_, rfl⟩
   have HFi : Hid (∀ w' : World, Calls Tryz.prog 47 #[.int .i64 (k : Int)] w' fun e w'' => e = .returned (.int .u64 (x0 : Int)) ∧ Below w'.heap.size w' w'') := fun w' => (qkj k w' (by omega)).mono (fun e w'' h => by obtain ⟨h1, rfl⟩ := h; rw [HX0.out] at h1; exact ⟨h1, Below.refl _ _⟩)
   have HOk := qa3 (HO.out k hlt)
   have HS0 : Hid (0 < bin r k ∧ aset r k 0 = x0) := ⟨qm2 r k hk, by rw [← HX0.out]; exact qka hk⟩
   obtain ⟨Bk, HBk⟩ : ∃ Bk, Hid (bin r k = Bk) := ⟨_, rfl⟩
   clear HX0
   go_wp2_with (go_at_call 47; refine (HFi.out _).mono ?_; rintro e w1 ⟨rfl, hb1⟩; have HB1 : Hid (Below wb.heap.size wb w1) := qa1 HB.out hb1; clear hb1)
   clear m0 HFi
   go_loopw [6, 8, 9] (fun v6 v8 v9 wi => ∃ (i j s q : Nat) (t : Bool), v6 = .int .i64 (q : Int) ∧ v8 = .int .u64 (s : Int) ∧ v9 = .bool t ∧ j ≤ C k ∧ Hid (q = sm19 C k + j) ∧ q ≤ 16384 ∧ Hid (NoneB M r b C G k j) ∧ Hid (t = true → i < bin r k ∧ aset r k i = s ∧ RfI r k i j (C k) (G k)) ∧ Hid (t = false → j = C k) ∧ Below wb.heap.size wb wi) (fun _ v8 v9 _ => qi6 Bk r v8 v9)
   case atStart => exact ⟨0, 0, x0, q, true, rfl, rfl, rfl, Nat.zero_le _, by rw [hq.out]; rfl, hq16, hN, fun _ => ⟨HS0.out.1, HS0.out.2, RfI.zero _ _ _ _⟩, fun e => (by cases e), HB1.out⟩
   case round =>
    obtain ⟨i, j, s, q, t, rfl, rfl, rfl, hj, hq, hq16, hN, hT, hF, hB⟩ := hrel
    have HB := qa3 hB
    have m0 := (HVa.out.later hB).c0
    have m1 := (HVa.out.later hB).c1
    have m2' := (HVa.out.later hB).c2
    clear hB HS0 HB1
    cases t
    ·have HE := hF.out rfl
     go_wp2
     exact ⟨⟨k + 1, q, by omega, by go_num, rfl, by rw [hq.out, HE]; rfl, hq16, by rw [HE] at hN; exact hN.out.size, HB.out⟩, by simp [intOf]; omega⟩
    ·obtain ⟨hi, hs, hI⟩ := hT.out rfl
     have hsl : s < 2 ^ r := by rw [← hs]; exact qbk r k i
     obtain ⟨s', t', hNx, hN1, hN2, hms⟩ := next19 hr hi hs
     have HNx := qa3 hNx
     have HN1 := qa3 hN1
     have HN2 := qa3 hN2
     have HMs : Hid (qi6 Bk r (.int .u64 (s' : Int)) (.bool t') < qi6 Bk r (.int .u64 (s : Int)) (.bool true)) := by rw [← HBk.out]; exact hms _ rfl
     clear hNx hN1 hN2 hms
     by_cases hbt : bt s b = 1
     ·have HHa := jhid7 (qi5 (o := true) hr hsl hb ⟨fun _ => hbt, fun _ => rfl⟩)
      have HI : Hid (RfI r k (i + 1) j (C k) (G k)) := hI.skip HOk.out (by rw [hs]; exact hbt)
      have HJ : Hid (t' = false → j = C k) := fun e => HI.out.done HOk.out (HN2.out e) hj
      have hnb : (!true) = false := rfl
      clear hT hF hi hs hI hsl hbt
      go_wp2_with (first
       | (go_at_call 20; refine (HHa.out _).mono ?_; rintro e w2 ⟨rfl, hb2⟩; have HB2 : Hid (Below wb.heap.size wb w2) := qa1 HB.out hb2; have n0 := (HVa.out.later HB2.out).c0; clear hb2)
       | (go_at_call 48; refine (HNx.out _).mono ?_; rintro e w3 ⟨rfl, hb3⟩; have HB3 : Hid (Below wb.heap.size wb w3) := qa1 HB2.out hb3; clear hb3))
      exact ⟨⟨i + 1, j, s', q, t', rfl, rfl, rfl, hj, hq, hq16, hN, fun e => ⟨(HN1.out e).1, (HN1.out e).2, HI.out⟩, HJ.out, HB3.out⟩, HMs.out⟩
     ·have HHa := jhid7 (qi5 (o := false) hr hsl hb ⟨fun h => (by cases h), fun h => absurd h hbt⟩)
      obtain ⟨hjC, hG, hI2⟩ := hI.take HOk.out hi (by rw [hs]; exact hbt)
      have hGs : G k j = s := hG.trans hs
      have hnb : (!false) = true := rfl
      by_cases h16 : q = 16384
      ·have k1 : ((q : Int) == 16384) = true := by simp [h16]; try rfl
       have HX : Hid (FsA M r b C G 0 false) := .inr ⟨rfl, rfl, .inl ⟨k, j, hlt, hjC, by have := hq.out; omega, hN.out⟩⟩
       clear hT hF hi hs hI hI2 hG hGs hsl hbt h16 hq
       go_wp2_with (first
        | (go_at_call 20; refine (HHa.out _).mono ?_; rintro e w2 ⟨rfl, hb2⟩; have HB2 : Hid (Below wb.heap.size wb w2) := qa1 HB.out hb2; clear hb2))
       refine bodyPost_ret (v := .tuple #[.int .u64 0, .bool false]) (by simp [results, Tryz.results36, go_sem]) rfl ?_
       exact ⟨0, false, rfl, HX.out, qa1 HB0.out HB2.out⟩
      ·have k1 : ((q : Int) == 16384) = false := by simp; omega
       obtain ⟨q', hq'⟩ : ∃ q', q + 1 = q' := ⟨_, rfl⟩
       have e1 : (q : Int) + 1 = (q' : Int) := by omega
       have hq6 : q' ≤ 16384 := by omega
       obtain ⟨v, hv⟩ : ∃ v : Bool, v = true ↔ SS M r s (M b) := by
        by_cases h : SS M r s (M b)
        ·exact ⟨true, fun _ => h, fun _ => rfl⟩
        ·exact ⟨false, fun e => absurd e (by decide), fun e => absurd e h⟩
       have HRs : Hid (∀ w' : World, Below wb.heap.size wb w' → Calls Tryz.prog 34 #[mv r c a n k0, .int .i64 (b : Int), .int .u64 (s : Int)] w' fun e w'' => e = .returned (.bool v) ∧ Below w'.heap.size w' w'') := fun w' h => HRp.out w' s v h hsl hbt hv
       cases v
       ·have HN3 : Hid (NoneB M r b C G k (j + 1)) := hN.out.step (by rw [hGs]; exact fun h => absurd (hv.2 h) (by decide))
        have HI := qa3 hI2
        have HJ : Hid (t' = false → j + 1 = C k) := fun e => HI.out.done HOk.out (HN2.out e) (by omega)
        have HQ : Hid (q' = sm19 C k + (j + 1)) := by show _ = _; have := hq.out; omega
        clear hT hF hi hs hI hI2 hG hGs hsl hbt h16 hq hv hq' hN hq16
        go_wp2_with (first
         | (go_at_call 20; refine (HHa.out _).mono ?_; rintro e w2 ⟨rfl, hb2⟩; have HB2 : Hid (Below wb.heap.size wb w2) := qa1 HB.out hb2; have n0 := (HVa.out.later HB2.out).c0; have n1 := (HVa.out.later HB2.out).c1; have n2 := (HVa.out.later HB2.out).c2; clear hb2)
         | (go_at_call 34; refine (HRs.out _ HB2.out).mono ?_; rintro e w4 ⟨rfl, hb4⟩; have HB4 : Hid (Below wb.heap.size wb w4) := qa1 HB2.out hb4; have o0 := (HVa.out.later HB4.out).c0; clear hb4)
         | (go_at_call 48; refine (HNx.out _).mono ?_; rintro e w3 ⟨rfl, hb3⟩; have HB3 : Hid (Below wb.heap.size wb w3) := qa1 HB4.out hb3; clear hb3))
        exact ⟨⟨i + 1, j + 1, s', q', t', rfl, rfl, rfl, by omega, HQ.out, hq6, HN3.out, fun e => ⟨(HN1.out e).1, (HN1.out e).2, HI.out⟩, HJ.out, HB3.out⟩, HMs.out⟩
       ·have HX : Hid (FsA M r b C G s true) := .inl ⟨rfl, k, j, hlt, hjC, hGs.symm, by have := hq.out; omega, hv.1 rfl, hN.out⟩
        clear hT hF hi hs hI hI2 hG hGs hsl hbt h16 hq hv hq' hN hq16
        go_wp2_with (first
         | (go_at_call 20; refine (HHa.out _).mono ?_; rintro e w2 ⟨rfl, hb2⟩; have HB2 : Hid (Below wb.heap.size wb w2) := qa1 HB.out hb2; have n0 := (HVa.out.later HB2.out).c0; have n1 := (HVa.out.later HB2.out).c1; have n2 := (HVa.out.later HB2.out).c2; clear hb2)
         | (go_at_call 34; refine (HRs.out _ HB2.out).mono ?_; rintro e w4 ⟨rfl, hb4⟩; have HB4 : Hid (Below wb.heap.size wb w4) := qa1 HB2.out hb4; clear hb4))
        refine bodyPost_ret (v := .tuple #[.int .u64 (s : Int), .bool true]) (by simp [results, Tryz.results36, go_sem]) rfl ?_
        exact ⟨s, true, rfl, HX.out, qa1 HB0.out HB4.out⟩
  ·have HE : k = r := by omega
   have d1 : decide ((k : Int) < (r : Int)) = false := decide_eq_false (by omega)
   have d2 : decide (k < r) = false := decide_eq_false hlt
   have HX : Hid (FsA M r b C G 0 false) := .inr ⟨rfl, rfl, .inr (by have hN2 := hN.out; rw [HE] at hN2; exact hN2)⟩
   clear HE
   go_wp2
   refine bodyPost_ret (v := .tuple #[.int .u64 0, .bool false]) (by simp [results, Tryz.results36, go_sem]) rfl ?_
   exact ⟨0, false, rfl, HX.out, qa1 HB0.out HB.out⟩
end Go.Proofs.YtblagbghpfopcaaGreat
