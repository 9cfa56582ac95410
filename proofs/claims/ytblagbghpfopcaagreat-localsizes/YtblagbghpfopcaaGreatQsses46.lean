/-
  What the checks of stage 7 with a loop over a list need: lists of numbers, bits of numbers.
  Stage 19: the reference's bad, others, repairs, first.
  Stage 19: the reference's first.
  Stage 19: the reference's Least.
-/
import Derived.Test.YtblagbghpfopcaaGreatQsses00
import Derived.Test.YtblagbghpfopcaaGreatQsses37
import Derived.Test.YtblagbghpfopcaaGreatQsses38
import Derived.Test.YtblagbghpfopcaaGreatQsses45
import Derived.Test.YtblagbghpfopcaaGreatQsses39
import Derived.Test.YtblagbghpfopcaaGreatQsses40
set_option maxRecDepth 100000
set_option maxHeartbeats 16000000
namespace Go.Proofs.YtblagbghpfopcaaGreat
open Go.RowKit
/-- The list of a set. -/
theorem qmo {r s : Nat} (hr : r ≤ 64) (hs : s < 2 ^ r) : ∀ w' : World, Calls Tryz.prog 21 #[.int .u64 (s : Int)] w' fun e w'' => ∃ x d, Il w'' x (cn s r) (fun i => (lf s r i : Int)) ∧ e = .returned (.slice x (cn s r) d) ∧ Below w'.heap.size w' w'' := fun w' =>
 (qe8 s w' (qc0 hr hs)).mono (fun e w'' h => by
  obtain ⟨v, he, ho, hb⟩ := h
  rw [qdp hr hs] at ho
  have ho2 := ho.congr (fun t _ => qiz hr hs t)
  obtain ⟨x, d, rfl, _⟩ := ho2.form
  exact ⟨x, d, qgb ho2.jl, he, hb⟩)
theorem qmp {m : Nat} (h : m < 64) : min (IntKind.u64.wrap (m : Int)).toNat 64 = m := by
 have e : IntKind.u64.wrap (m : Int) = (m : Int) := by rw [IntKind.wrap_u64]; omega
 rw [e]
 omega
theorem qgf {s i r : Nat} (hr : r ≤ 64) (hs : s < 2 ^ r) (hi : i < r) {o : Bool} (h : o = true ↔ bt s i = 1) : ∀ w' : World, Calls Tryz.prog 20 #[.int .u64 (s : Int), .int .i64 (i : Int)] w' fun e w'' => e = .returned (.bool o) ∧ Below w'.heap.size w' w'' := fun w' =>
 (qg5 s i w' (qc0 hr hs) (by omega)).mono (fun e w'' h2 => by
  obtain ⟨he, rfl⟩ := h2
  rw [qme (b' := o) ⟨fun h => of_decide_eq_true h, fun h => decide_eq_true h⟩ h] at he
  exact ⟨he, Below.refl _ _⟩)
open Go.RowKit Go.Shelf
attribute [local go_sem] Oper.semAt_some
theorem rbad19 (w : World) (r c b E : Int) (n k : Nat) (a : Option Addr) (h : WrgE r c b n E) :
  Calls Tryz.prog 33 #[mv r c a n k, .int .i64 b] w fun e w' => e = .returned (.int .i64 E) ∧ Below w.heap.size w w' := by
 rcases h with ⟨h1, rfl⟩ | ⟨h1, h2, rfl⟩ | ⟨h1, h2, rfl⟩
 ·have HP : Hid (∀ w' : World, Calls Tryz.prog 42 #[mv r c a n k] w' fun e w'' => e = .returned (.bool false) ∧ Below w'.heap.size w' w'') := fun w' => qh2 w' r c n k a false (by simp [h1])
  clear h1
  go_enter Tryz.func33, Tryz.ntmps33
  go_wp2_with (go_at_call 42; refine (HP.out _).mono ?_; rintro e w1 ⟨rfl, hb⟩; have HB1 : Hid (Below w.heap.size w w1) := qa0 (qa1 _ _) hb; clear hb)
  go_ret
  exact ⟨rfl, HB1.out⟩
 ·have HP : Hid (∀ w' : World, Calls Tryz.prog 42 #[mv r c a n k] w' fun e w'' => e = .returned (.bool true) ∧ Below w'.heap.size w' w'') := fun w' => qh2 w' r c n k a true (by simp [h1])
  by_cases h0 : b < 0
  ·have g1 : decide (b < 0) = true := decide_eq_true h0
   clear h1 h2
   go_enter Tryz.func33, Tryz.ntmps33
   go_wp2_with (go_at_call 42; refine (HP.out _).mono ?_; rintro e w1 ⟨rfl, hb⟩; have HV1 : Hid (Vr w1 w.heap.size (.int .i64 r) (.int .i64 c) (.slice a n k)) := (Vr.new w _ _ _).later hb; have v0 := HV1.out.c0; have HB1 : Hid (Below w.heap.size w w1) := qa0 (qa1 _ _) hb; clear hb)
   go_ret
   exact ⟨rfl, HB1.out⟩
  ·have g1 : decide (b < 0) = false := decide_eq_false h0
   have g2 : decide (r ≤ b) = true := decide_eq_true (by omega)
   clear h1 h2
   go_enter Tryz.func33, Tryz.ntmps33
   go_wp2_with (go_at_call 42; refine (HP.out _).mono ?_; rintro e w1 ⟨rfl, hb⟩; have HV1 : Hid (Vr w1 w.heap.size (.int .i64 r) (.int .i64 c) (.slice a n k)) := (Vr.new w _ _ _).later hb; have v0 := HV1.out.c0; have HB1 : Hid (Below w.heap.size w w1) := qa0 (qa1 _ _) hb; clear hb)
   go_ret
   exact ⟨rfl, HB1.out⟩
 ·have HP : Hid (∀ w' : World, Calls Tryz.prog 42 #[mv r c a n k] w' fun e w'' => e = .returned (.bool true) ∧ Below w'.heap.size w' w'') := fun w' => qh2 w' r c n k a true (by simp [h1])
  have g1 : decide (b < 0) = false := decide_eq_false (by omega)
  have g2 : decide (r ≤ b) = false := decide_eq_false (by omega)
  clear h1 h2
  go_enter Tryz.func33, Tryz.ntmps33
  go_wp2_with (go_at_call 42; refine (HP.out _).mono ?_; rintro e w1 ⟨rfl, hb⟩; have HV1 : Hid (Vr w1 w.heap.size (.int .i64 r) (.int .i64 c) (.slice a n k)) := (Vr.new w _ _ _).later hb; have v0 := HV1.out.c0; have HB1 : Hid (Below w.heap.size w w1) := qa0 (qa1 _ _) hb; clear hb)
  go_ret
  exact ⟨rfl, HB1.out⟩
theorem roth19 (w : World) (r b D : Nat) (c : Int) (n k : Nat) (a : Option Addr) (hr : r ≤ 64) (hb : b < r) (hD : D = rem (2 ^ r - 1) b) :
  Calls Tryz.prog 35 #[mv r c a n k, .int .i64 (b : Int)] w fun e w' => e = .returned (.int .u64 (D : Int)) ∧ Below w.heap.size w w' := by
 have hp := Nat.two_pow_pos r
 obtain ⟨A, hA⟩ : ∃ A, 2 ^ r - 1 = A := ⟨_, rfl⟩
 have hA2 : A < 2 ^ r := by omega
 have hb6 : b < 64 := by omega
 obtain ⟨T, HT⟩ : ∃ T : Nat, Hid (2 ^ b = T) := ⟨_, rfl⟩
 have hp2 : IntKind.u64.wrap (2 ^ b) = (T : Int) := by rw [← HT.out]; exact qg4 b hb6
 have hp3 : IntKind.u64.wrap (2 ^ min (IntKind.u64.wrap (b : Int)).toNat 64) = (T : Int) := by rw [qmp hb6]; exact hp2
 have hmin : min b 64 = b := by omega
 have han : bits .andNot .u64 (A : Int) (T : Int) = (D : Int) := j_rem7 hr hA2 hb HT.out (by rw [hD, hA])
 have HFu : Hid (∀ w' : World, Calls Tryz.prog 67 #[.int .i64 (r : Int)] w' fun e w'' => e = .returned (.tuple #[.int .u64 (A : Int), .int .i64 0]) ∧ Below w'.heap.size w' w'') := fun w' => (qe7 r w' hr).mono (fun e w'' h => by obtain ⟨h1, rfl⟩ := h; rw [hA] at h1; exact ⟨h1, Below.refl _ _⟩)
 clear hA hA2 hD HT
 go_enter Tryz.func35, Tryz.ntmps35
 go_wp2_with (go_at_call 67; refine (HFu.out _).mono ?_; rintro e w1 ⟨rfl, hb⟩; have HB1 : Hid (Below w.heap.size w w1) := qa0 (qa1 _ _) hb; clear hb)
 go_ret
 exact ⟨rfl, HB1.out⟩
theorem qmq (w : World) (r c n k b s : Nat) (a : Option Addr) (F : Nat → Nat) (v : Bool) (ha : Mt w a n k F) (R : Rt r c n) (hb : b < r) (hs : s < 2 ^ r) (hbs : ¬ bt s b = 1) (hv : v = true ↔ SS (m2 F r c) r s (m2 F r c b)) :
  Calls Tryz.prog 34 #[mv r c a n k, .int .i64 (b : Int), .int .u64 (s : Int)] w fun e w' => e = .returned (.bool v) ∧ Below w.heap.size w w' := by
 have hr := R.r64
 have hM := qbl ha.sl.1 R
 have hb6 : b < 64 := by omega
 obtain ⟨k0, h0⟩ := qf3 hM r s
 obtain ⟨k1, h1⟩ := qf3 hM r (s ||| 2 ^ b)
 have hadd := h0.add hM hb h1
 obtain ⟨z, HZ⟩ : ∃ z : Nat, Hid ((2 ^ b : Nat) = z) := ⟨_, rfl⟩
 obtain ⟨u, HU⟩ : ∃ u : Nat, Hid (s ||| z = u) := ⟨_, rfl⟩
 have hp2 : IntKind.u64.wrap (2 ^ b) = (z : Int) := by rw [← HZ.out]; exact qg4 b (by omega)
 have hp3 : IntKind.u64.wrap (2 ^ min (IntKind.u64.wrap (b : Int)).toNat 64) = (z : Int) := by rw [qmp hb6]; exact hp2
 have hmin : min b 64 = b := by omega
 have hor : bits .or .u64 (s : Int) (z : Int) = (u : Int) := j_or7 hr hs hb HZ.out HU.out
 have hu : u < 2 ^ r := by rw [← HU.out, ← HZ.out]; exact or_lt7 hs hb
 have h1u : RS (m2 F r c) r u k1 := by rw [← HU.out, ← HZ.out]; exact h1
 have HR0 : Hid (∀ w' : World, Below w.heap.size w w' → Calls Tryz.prog 53 #[mv r c a n k, .int .u64 (s : Int)] w' fun e w'' => e = .returned (.tuple #[.int .i64 (k0 : Int), .int .i64 0]) ∧ Below w'.heap.size w' w'') := fun w' h => (qj6 w' r c n k s a F (ha.later h).sl R hs).mono (fun e w'' hh => by
  obtain ⟨t, he, ht, hb⟩ := hh
  rw [ht.one hM h0] at he
  exact ⟨he, hb⟩)
 have HR1 : Hid (∀ w' : World, Below w.heap.size w w' → Calls Tryz.prog 53 #[mv r c a n k, .int .u64 (u : Int)] w' fun e w'' => e = .returned (.tuple #[.int .i64 (k1 : Int), .int .i64 0]) ∧ Below w'.heap.size w' w'') := fun w' h => (qj6 w' r c n k u a F (ha.later h).sl R hu).mono (fun e w'' hh => by
  obtain ⟨t, he, ht, hb⟩ := hh
  rw [ht.one hM h1u] at he
  exact ⟨he, hb⟩)
 have HHa := jhid7 (qgf (o := false) hr hs hb ⟨fun h => (by cases h), fun h => absurd h hbs⟩)
 have hvk : ((k0 : Int) == (k1 : Int)) = v := by
  rcases hadd with ⟨e1, e2⟩ | ⟨e1, e2⟩
  ·rw [hv.2 e1, e2]; simp
  ·have : ¬ v = true := fun h => e1 (hv.1 h)
   have h3 : v = false := by cases v; rfl; exact absurd rfl this
   rw [h3]
   simp; omega
 clear ha R hb hs hv h0 h1 h1u hadd hM hu HU HZ hr hbs
 go_enter Tryz.func34, Tryz.ntmps34
 go_wp2_with (first
  | (go_at_call 20; refine (HHa.out _).mono ?_; rintro e w1 ⟨rfl, hb⟩; have HV1 : Hid (Vr w1 w.heap.size (.int .i64 (r : Int)) (.int .i64 (c : Int)) (.slice a n k)) := (Vr.new w _ _ _).later hb; have v0 := HV1.out.c0; have v1 := HV1.out.c1; have v2 := HV1.out.c2; have HB1 : Hid (Below w.heap.size w w1) := qa0 (qa1 _ _) hb; clear hb)
  | (go_at_call 53; have _x := HB2; refine (HR1.out _ HB2.out).mono ?_; rintro e w3 ⟨rfl, hb⟩; have HB3 : Hid (Below w.heap.size w w3) := qa0 HB2.out hb; clear hb)
  | (go_at_call 53; refine (HR0.out _ HB1.out).mono ?_; rintro e w2 ⟨rfl, hb⟩; have HV2 : Hid (Vr w2 w.heap.size (.int .i64 (r : Int)) (.int .i64 (c : Int)) (.slice a n k)) := HV1.out.later hb; have x0 := HV2.out.c0; have x1 := HV2.out.c1; have x2 := HV2.out.c2; have HB2 : Hid (Below w.heap.size w w2) := qa0 HB1.out hb; clear hb))
 go_ret
 exact ⟨rfl, HB3.out⟩
/-! The order of the reference's search. -/
/-- Of the sets of size k the first i were gone through, j of them without b. -/
def RfI (r _k i j C : Nat) (G : Nat → Nat) : Prop := (∀ j', j' < j → pla (G j') r < i) ∧ ∀ j', j ≤ j' → j' < C → i ≤ pla (G j') r
theorem RfI.zero (r k C : Nat) (G : Nat → Nat) : RfI r k 0 0 C G := ⟨fun j' h => by omega, fun j' _ _ => Nat.zero_le _⟩
theorem OthA.aset {r b k C : Nat} {f ix G : Nat → Nat} (O : OthA r b k C f ix G) {j : Nat} (hj : j < C) : aset r k (pla (G j) r) = G j := by
 have h := qcl r (G j) (O.lt j hj)
 rw [O.size j hj] at h
 exact h
theorem RfI.skip {r b k i j C : Nat} {f ix G : Nat → Nat} (O : OthA r b k C f ix G) (h : RfI r k i j C G) (hb : bt (Go.Proofs.YtblagbghpfopcaaGreat.aset r k i) b = 1) : RfI r k (i + 1) j C G :=
 ⟨fun j' h1 => by have := h.1 j' h1; omega, fun j' h1 h2 => by
  have h3 := h.2 j' h1 h2
  by_cases e : pla (G j') r = i
  ·have h4 := O.aset h2
   rw [e] at h4
   rw [h4] at hb
   exact absurd hb (O.none j' h2)
  ·omega⟩
theorem RfI.take {r b k i j C : Nat} {f ix G : Nat → Nat} (O : OthA r b k C f ix G) (h : RfI r k i j C G) (hi : i < bin r k) (hb : ¬ bt (Go.Proofs.YtblagbghpfopcaaGreat.aset r k i) b = 1) : j < C ∧ G j = Go.Proofs.YtblagbghpfopcaaGreat.aset r k i ∧ RfI r k (i + 1) (j + 1) C G := by
 obtain ⟨hc, hp⟩ := qb2 r k i hi
 obtain ⟨q, hq, e⟩ := O.every _ (qb8 r k i) hb hc
 have hpq : pla (G q) r = i := by rw [e]; exact hp
 have h1 : ¬ q < j := fun hl => by have := h.1 q hl; omega
 have h2 : ¬ j < q := fun hl => by
  have h3 := O.ord j q hl hq
  have h4 := h.2 j (Nat.le_refl _) (by omega)
  omega
 obtain rfl : q = j := by omega
 refine ⟨hq, e, fun j' hl => ?_, fun j' hl hc => ?_⟩
 ·by_cases e2 : j' = q
  ·rw [e2]; omega
  ·have := h.1 j' (by omega); omega
 ·have := O.ord q j' (by omega) hc
  omega
theorem RfI.done {r b k i j C : Nat} {f ix G : Nat → Nat} (O : OthA r b k C f ix G) (h : RfI r k i j C G) (hi : i = bin r k) (hj : j ≤ C) : j = C := by
 refine Classical.byContradiction (fun hn => ?_)
 have h1 := h.2 j (Nat.le_refl _) (by omega)
 have h2 := qgt r (G j)
 rw [O.size j (by omega)] at h2
 omega
open Go.RowKit Go.Shelf
attribute [local go_sem] Oper.semAt_some
/-- What the reference's search finds. -/
def FsA (M : Nat → Nat → Nat) (r b : Nat) (C : Nat → Nat) (G : Nat → Nat → Nat) (x : Nat) (v : Bool) : Prop :=
 (v = true ∧ ∃ k j, k < r ∧ j < C k ∧ x = G k j ∧ sm19 C k + j < 16384 ∧ SS M r x (M b) ∧ NoneB M r b C G k j) ∨
 (v = false ∧ x = 0 ∧ ((∃ k j, k < r ∧ j < C k ∧ sm19 C k + j = 16384 ∧ NoneB M r b C G k j) ∨ NoneB M r b C G r 0))
/-- How many sets of a size are still to come. -/
def qf4 (B r : Nat) (s t : Value) : Nat := match t with | .bool true => B - pla (intOf s).toNat r | _ => 0
theorem next19 {r k i s : Nat} (hr : r ≤ 64) (hi : i < bin r k) (hs : aset r k i = s) : ∃ (s' : Nat) (t' : Bool), (∀ w' : World, Calls Tryz.prog 48 #[.int .i64 (r : Int), .int .u64 (s : Int)] w' fun e w'' => e = .returned (.tuple #[.int .u64 (s' : Int), .bool t']) ∧ Below w'.heap.size w' w'') ∧ (t' = true → i + 1 < bin r k ∧ aset r k (i + 1) = s') ∧ (t' = false → i + 1 = bin r k) ∧ ∀ t : Int, t = (s : Int) → qf4 (bin r k) r (.int .u64 (s' : Int)) (.bool t') < qf4 (bin r k) r (.int .u64 t) (.bool true) := by
 have hsl : s < 2 ^ r := by rw [← hs]; exact qb8 r k i
 have hp : pla s r = i := by rw [← hs]; exact (qb2 r k i hi).2
 by_cases h : i + 1 < bin r k
 ·refine ⟨aset r k (i + 1), true, fun w' => (qjb r s w' hr hsl).mono (fun e w'' hh => ?_), fun _ => ⟨h, rfl⟩, fun e => (by cases e), fun t ht => ?_⟩
  ·obtain ⟨h1, h2⟩ := hh
   rw [← hs, qdn h] at h1
   exact ⟨h1, h2⟩
  ·subst ht
   have h1 := (qb2 r k (i + 1) h).2
   simp only [qf4, intOf, Int.toNat_natCast]
   omega
 ·refine ⟨0, false, fun w' => (qjb r s w' hr hsl).mono (fun e w'' hh => ?_), fun e => (by cases e), fun _ => by omega, fun t ht => ?_⟩
  ·obtain ⟨h1, h2⟩ := hh
   rw [← hs, qdo (by omega)] at h1
   exact ⟨h1, h2⟩
  ·subst ht
   simp only [qf4, intOf, Int.toNat_natCast]
   omega
theorem rfirst19 (w : World) (r c n k0 b : Nat) (a : Option Addr) (F : Nat → Nat) (ha : Mt w a n k0 F) (R : Rt r c n) (hb : b < r) (C : Nat → Nat) (f ix G : Nat → Nat → Nat) (O : qc7 r b C f ix G) :
  Calls Tryz.prog 36 #[mv r c a n k0, .int .i64 (b : Int)] w fun e w' => ∃ (x : Nat) (v : Bool), e = .returned (.tuple #[.int .u64 (x : Int), .bool v]) ∧ FsA (m2 F r c) r b C G x v ∧ Below w.heap.size w w' := by
 have hr := R.r64
 obtain ⟨wb, HW⟩ : ∃ wb, Hid (wb = w.alloc (.cells #[.int .i64 (r : Int), .int .i64 (c : Int), .slice a n k0] 24)) := ⟨_, rfl⟩
 have HVa : Hid (Vr wb w.heap.size (.int .i64 (r : Int)) (.int .i64 (c : Int)) (.slice a n k0)) := by show Vr _ _ _ _ _; rw [HW.out]; exact Vr.new _ _ _ _
 have HB0 : Hid (Below w.heap.size w wb) := by rw [HW.out]; exact qa1 _ _
 have HA := qa3 ha
 have HR := qa3 R
 have HO := qa3 O
 obtain ⟨M, HM⟩ : ∃ M, Hid (m2 F r c = M) := ⟨_, rfl⟩
 have HRp : Hid (∀ (w' : World) (s : Nat) (v : Bool), Below wb.heap.size wb w' → s < 2 ^ r → ¬ bt s b = 1 → (v = true ↔ SS M r s (M b)) → Calls Tryz.prog 34 #[mv r c a n k0, .int .i64 (b : Int), .int .u64 (s : Int)] w' fun e w'' => e = .returned (.bool v) ∧ Below w'.heap.size w' w'') := fun w' s v hB hs hbs hv => qmq w' r c n k0 b s a F v (HA.out.later (qa0 HB0.out hB)) HR.out hb hs hbs (by rw [HM.out]; exact hv)
 rw [HM.out]
 clear ha R O HA HR HM
 go_enter Tryz.func36, Tryz.ntmps36
 go_wp2
 rw [← HW.out]
 go_loopw [6, 7] (fun v6 v7 wi => ∃ k q : Nat, k ≤ r ∧ v7 = .int .i64 (k : Int) ∧ v6 = .int .i64 (q : Int) ∧ Hid (q = sm19 C k) ∧ q ≤ 16384 ∧ Hid (NoneB M r b C G k 0) ∧ Below wb.heap.size wb wi) (fun _ v7 _ => r - (intOf v7).toNat)
 case atStart => exact ⟨0, 0, Nat.zero_le _, rfl, rfl, rfl, by omega, NoneB.zero _ _ _ _ _, Below.refl _ _⟩
 case round =>
  obtain ⟨k, q, hk, rfl, rfl, hq, hq16, hN, hB⟩ := hrel
  have HB := qa3 hB
  have m0 := (HVa.out.later hB).c0
  clear hB
  by_cases hlt : k < r
  ·have d1 : decide ((k : Int) < (r : Int)) = true := decide_eq_true (by omega)
   have d2 : decide (k < r) = true := decide_eq_true hlt
   obtain ⟨x0, HX0⟩ : ∃ x : Nat, Hid ((2 ^ k - 1 : Nat) = x) := ⟨_, rfl⟩
   have HFi : Hid (∀ w' : World, Calls Tryz.prog 47 #[.int .i64 (k : Int)] w' fun e w'' => e = .returned (.int .u64 (x0 : Int)) ∧ Below w'.heap.size w' w'') := fun w' => (qfk k w' (by omega)).mono (fun e w'' h => by obtain ⟨h1, rfl⟩ := h; rw [HX0.out] at h1; exact ⟨h1, Below.refl _ _⟩)
   have HOk := qa3 (HO.out k hlt)
   have HS0 : Hid (0 < bin r k ∧ aset r k 0 = x0) := ⟨qhm r k hk, by rw [← HX0.out]; exact qfe hk⟩
   obtain ⟨Bk, HBk⟩ : ∃ Bk, Hid (bin r k = Bk) := ⟨_, rfl⟩
   clear HX0
   go_wp2_with (go_at_call 47; refine (HFi.out _).mono ?_; rintro e w1 ⟨rfl, hb1⟩; have HB1 : Hid (Below wb.heap.size wb w1) := qa0 HB.out hb1; clear hb1)
   clear m0 HFi
   go_loopw [6, 8, 9] (fun v6 v8 v9 wi => ∃ (i j s q : Nat) (t : Bool), v6 = .int .i64 (q : Int) ∧ v8 = .int .u64 (s : Int) ∧ v9 = .bool t ∧ j ≤ C k ∧ Hid (q = sm19 C k + j) ∧ q ≤ 16384 ∧ Hid (NoneB M r b C G k j) ∧ Hid (t = true → i < bin r k ∧ aset r k i = s ∧ RfI r k i j (C k) (G k)) ∧ Hid (t = false → j = C k) ∧ Below wb.heap.size wb wi) (fun _ v8 v9 _ => qf4 Bk r v8 v9)
   case atStart => exact ⟨0, 0, x0, q, true, rfl, rfl, rfl, Nat.zero_le _, by rw [hq.out]; rfl, hq16, hN, fun _ => ⟨HS0.out.1, HS0.out.2, RfI.zero _ _ _ _⟩, fun e => (by cases e), HB1.out⟩
   case round =>
    obtain ⟨i, j, s, q, t, rfl, rfl, rfl, hj, hq, hq16, hN, hT, hF, hB⟩ := hrel
    have HB := qa3 hB
    have m0 := (HVa.out.later hB).c0
    have m1 := (HVa.out.later hB).c1
    have m2' := (HVa.out.later hB).c2
    clear hB HS0 HB1
    cases t
    ·have HE := hF.out rfl
     go_wp2
     exact ⟨⟨k + 1, q, by omega, by go_num, rfl, by rw [hq.out, HE]; rfl, hq16, by rw [HE] at hN; exact hN.out.size, HB.out⟩, by simp [intOf]; omega⟩
    ·obtain ⟨hi, hs, hI⟩ := hT.out rfl
     have hsl : s < 2 ^ r := by rw [← hs]; exact qb8 r k i
     obtain ⟨s', t', hNx, hN1, hN2, hms⟩ := next19 hr hi hs
     have HNx := qa3 hNx
     have HN1 := qa3 hN1
     have HN2 := qa3 hN2
     have HMs : Hid (qf4 Bk r (.int .u64 (s' : Int)) (.bool t') < qf4 Bk r (.int .u64 (s : Int)) (.bool true)) := by rw [← HBk.out]; exact hms _ rfl
     clear hNx hN1 hN2 hms
     by_cases hbt : bt s b = 1
     ·have HHa := jhid7 (qgf (o := true) hr hsl hb ⟨fun _ => hbt, fun _ => rfl⟩)
      have HI : Hid (RfI r k (i + 1) j (C k) (G k)) := hI.skip HOk.out (by rw [hs]; exact hbt)
      have HJ : Hid (t' = false → j = C k) := fun e => HI.out.done HOk.out (HN2.out e) hj
      have hnb : (!true) = false := rfl
      clear hT hF hi hs hI hsl hbt
      go_wp2_with (first
       | (go_at_call 20; refine (HHa.out _).mono ?_; rintro e w2 ⟨rfl, hb2⟩; have HB2 : Hid (Below wb.heap.size wb w2) := qa0 HB.out hb2; have n0 := (HVa.out.later HB2.out).c0; clear hb2)
       | (go_at_call 48; refine (HNx.out _).mono ?_; rintro e w3 ⟨rfl, hb3⟩; have HB3 : Hid (Below wb.heap.size wb w3) := qa0 HB2.out hb3; clear hb3))
      exact ⟨⟨i + 1, j, s', q, t', rfl, rfl, rfl, hj, hq, hq16, hN, fun e => ⟨(HN1.out e).1, (HN1.out e).2, HI.out⟩, HJ.out, HB3.out⟩, HMs.out⟩
     ·have HHa := jhid7 (qgf (o := false) hr hsl hb ⟨fun h => (by cases h), fun h => absurd h hbt⟩)
      obtain ⟨hjC, hG, hI2⟩ := hI.take HOk.out hi (by rw [hs]; exact hbt)
      have hGs : G k j = s := hG.trans hs
      have hnb : (!false) = true := rfl
      by_cases h16 : q = 16384
      ·have k1 : ((q : Int) == 16384) = true := by simp [h16]; try rfl
       have HX : Hid (FsA M r b C G 0 false) := .inr ⟨rfl, rfl, .inl ⟨k, j, hlt, hjC, by have := hq.out; omega, hN.out⟩⟩
       clear hT hF hi hs hI hI2 hG hGs hsl hbt h16 hq
       go_wp2_with (first
        | (go_at_call 20; refine (HHa.out _).mono ?_; rintro e w2 ⟨rfl, hb2⟩; have HB2 : Hid (Below wb.heap.size wb w2) := qa0 HB.out hb2; clear hb2))
       refine bodyPost_ret (v := .tuple #[.int .u64 0, .bool false]) (by simp [results, Tryz.results36, go_sem]) rfl ?_
       exact ⟨0, false, rfl, HX.out, qa0 HB0.out HB2.out⟩
      ·have k1 : ((q : Int) == 16384) = false := by simp; omega
       obtain ⟨q', hq'⟩ : ∃ q', q + 1 = q' := ⟨_, rfl⟩
       have e1 : (q : Int) + 1 = (q' : Int) := by omega
       have hq6 : q' ≤ 16384 := by omega
       obtain ⟨v, hv⟩ : ∃ v : Bool, v = true ↔ SS M r s (M b) := by
        by_cases h : SS M r s (M b)
        ·exact ⟨true, fun _ => h, fun _ => rfl⟩
        ·exact ⟨false, fun e => absurd e (by decide), fun e => absurd e h⟩
       have HRs : Hid (∀ w' : World, Below wb.heap.size wb w' → Calls Tryz.prog 34 #[mv r c a n k0, .int .i64 (b : Int), .int .u64 (s : Int)] w' fun e w'' => e = .returned (.bool v) ∧ Below w'.heap.size w' w'') := fun w' h => HRp.out w' s v h hsl hbt hv
       cases v
       ·have HN3 : Hid (NoneB M r b C G k (j + 1)) := hN.out.step (by rw [hGs]; exact fun h => absurd (hv.2 h) (by decide))
        have HI := qa3 hI2
        have HJ : Hid (t' = false → j + 1 = C k) := fun e => HI.out.done HOk.out (HN2.out e) (by omega)
        have HQ : Hid (q' = sm19 C k + (j + 1)) := by show _ = _; have := hq.out; omega
        clear hT hF hi hs hI hI2 hG hGs hsl hbt h16 hq hv hq' hN hq16
        go_wp2_with (first
         | (go_at_call 20; refine (HHa.out _).mono ?_; rintro e w2 ⟨rfl, hb2⟩; have HB2 : Hid (Below wb.heap.size wb w2) := qa0 HB.out hb2; have n0 := (HVa.out.later HB2.out).c0; have n1 := (HVa.out.later HB2.out).c1; have n2 := (HVa.out.later HB2.out).c2; clear hb2)
         | (go_at_call 34; refine (HRs.out _ HB2.out).mono ?_; rintro e w4 ⟨rfl, hb4⟩; have HB4 : Hid (Below wb.heap.size wb w4) := qa0 HB2.out hb4; have o0 := (HVa.out.later HB4.out).c0; clear hb4)
         | (go_at_call 48; refine (HNx.out _).mono ?_; rintro e w3 ⟨rfl, hb3⟩; have HB3 : Hid (Below wb.heap.size wb w3) := qa0 HB4.out hb3; clear hb3))
        exact ⟨⟨i + 1, j + 1, s', q', t', rfl, rfl, rfl, by omega, HQ.out, hq6, HN3.out, fun e => ⟨(HN1.out e).1, (HN1.out e).2, HI.out⟩, HJ.out, HB3.out⟩, HMs.out⟩
       ·have HX : Hid (FsA M r b C G s true) := .inl ⟨rfl, k, j, hlt, hjC, hGs.symm, by have := hq.out; omega, hv.1 rfl, hN.out⟩
        clear hT hF hi hs hI hI2 hG hGs hsl hbt h16 hq hv hq' hN hq16
        go_wp2_with (first
         | (go_at_call 20; refine (HHa.out _).mono ?_; rintro e w2 ⟨rfl, hb2⟩; have HB2 : Hid (Below wb.heap.size wb w2) := qa0 HB.out hb2; have n0 := (HVa.out.later HB2.out).c0; have n1 := (HVa.out.later HB2.out).c1; have n2 := (HVa.out.later HB2.out).c2; clear hb2)
         | (go_at_call 34; refine (HRs.out _ HB2.out).mono ?_; rintro e w4 ⟨rfl, hb4⟩; have HB4 : Hid (Below wb.heap.size wb w4) := qa0 HB2.out hb4; clear hb4))
        refine bodyPost_ret (v := .tuple #[.int .u64 (s : Int), .bool true]) (by simp [results, Tryz.results36, go_sem]) rfl ?_
        exact ⟨s, true, rfl, HX.out, qa0 HB0.out HB4.out⟩
  ·have HE : k = r := by omega
   have d1 : decide ((k : Int) < (r : Int)) = false := decide_eq_false (by omega)
   have d2 : decide (k < r) = false := decide_eq_false hlt
   have HX : Hid (FsA M r b C G 0 false) := .inr ⟨rfl, rfl, .inr (by have hN2 := hN.out; rw [HE] at hN2; exact hN2)⟩
   clear HE
   go_wp2
   refine bodyPost_ret (v := .tuple #[.int .u64 0, .bool false]) (by simp [results, Tryz.results36, go_sem]) rfl ?_
   exact ⟨0, false, rfl, HX.out, qa0 HB0.out HB.out⟩
open Go.RowKit Go.Shelf
attribute [local go_sem] Oper.semAt_some
/-- What the reference's first answers. -/
def FsP (w w' : World) (e : Ending) (M : Nat → Nat → Nat) (r b : Nat) (C : Nat → Nat) (G : Nat → Nat → Nat) : Prop := ∃ (x : Nat) (v : Bool), e = .returned (.tuple #[.int .u64 (x : Int), .bool v]) ∧ FsA M r b C G x v ∧ Below w.heap.size w w'
theorem qmr (w : World) (r c n k0 b : Nat) (a : Option Addr) (F : Nat → Nat) (ha : Mt w a n k0 F) (R : Rt r c n) (hb : b < r) (C : Nat → Nat) (f ix G : Nat → Nat → Nat) (O : qc7 r b C f ix G) :
  Calls Tryz.prog 36 #[mv r c a n k0, .int .i64 (b : Int)] w fun e w' => FsP w w' e (m2 F r c) r b C G := rfirst19 w r c n k0 b a F ha R hb C f ix G O
theorem qh7 (w : World) (r c b E : Int) (n k : Nat) (a : Option Addr) (h : WrgE r c b n E) (hE : E ≠ 0) :
  Calls Tryz.prog 8 #[mv r c a n k, .int .i64 b] w fun e w' => e = .returned (.tuple #[.int .u64 0, .slice none 0 0, .bool false, .int .i64 E]) ∧ Below w.heap.size w w' := by
 have HP : Hid (∀ w' : World, Calls Tryz.prog 33 #[mv r c a n k, .int .i64 b] w' fun e w'' => e = .returned (.int .i64 E) ∧ Below w'.heap.size w' w'') := fun w' => rbad19 w' r c b E n k a h
 have g1 : (E != 0) = true := by simpa using hE
 have g2 : (E == 0) = false := by simpa using hE
 clear h hE
 go_enter Tryz.func8, Tryz.ntmps8
 go_wp2_with (go_at_call 33; refine (HP.out _).mono ?_; rintro e w1 ⟨rfl, hb⟩; have HB1 : Hid (Below w.heap.size w w1) := qa0 (qa1 _ _) hb; clear hb)
 refine bodyPost_ret (v := .tuple #[.int .u64 0, .slice none 0 0, .bool false, .int .i64 E]) (by simp [results, Tryz.results8, go_sem]) rfl ?_
 exact ⟨rfl, HB1.out⟩
theorem qf0 (w : World) (r c n k b : Nat) (a : Option Addr) (F : Nat → Nat) (ha : Mt w a n k F) (R : Rt r c n) (hg : GenQ r c n) (hb : b < r) (C : Nat → Nat) (f ix G : Nat → Nat → Nat) (O : qc7 r b C f ix G) :
  Calls Tryz.prog 8 #[mv r c a n k, .int .i64 (b : Int)] w fun e w' => LeaP w w' e (m2 F r c) r b C G := by
 have hr := R.r64
 have hc := R.c64
 have hM := qbl ha.sl.1 R
 have hb6 : b < 64 := by omega
 have HWr : Hid (∀ w' : World, Calls Tryz.prog 33 #[mv r c a n k, .int .i64 (b : Int)] w' fun e w'' => e = .returned (.int .i64 0) ∧ Below w'.heap.size w' w'') := fun w' => rbad19 w' r c b 0 n k a (.inr (.inr ⟨hg, ⟨by omega, by omega⟩, rfl⟩))
 obtain ⟨wb, HW⟩ : ∃ wb, Hid (wb = w.alloc (.cells #[.int .i64 (r : Int), .int .i64 (c : Int), .slice a n k] 24)) := ⟨_, rfl⟩
 have HVa : Hid (Vr wb w.heap.size (.int .i64 (r : Int)) (.int .i64 (c : Int)) (.slice a n k)) := by show Vr _ _ _ _ _; rw [HW.out]; exact Vr.new _ _ _ _
 have HB0 : Hid (Below w.heap.size w wb) := by rw [HW.out]; exact qa1 _ _
 have hA2 : 2 ^ r - 1 < 2 ^ r := by have := Nat.two_pow_pos r; omega
 obtain ⟨D, hD⟩ : ∃ D, rem (2 ^ r - 1) b = D := ⟨_, rfl⟩
 have hDl : D < 2 ^ r := by rw [← hD]; exact qm7 hA2
 have hDb : ∀ i, i < r → (bt D i = 1 ↔ i ≠ b) := fun i hi => by
  rw [← hD, qdr (qc0 hr hA2) hb6 i]
  have h1 : bt (2 ^ r - 1) i = 1 := by
   rw [qav, Nat.testBit_two_pow_sub_one]
   exact decide_eq_true hi
  exact ⟨fun h => h.2, fun h => ⟨h1, h⟩⟩
 have hDn : ¬ bt D b = 1 := fun e => (hDb b hb).1 e rfl
 have HOt : Hid (∀ w' : World, Calls Tryz.prog 35 #[mv r c a n k, .int .i64 (b : Int)] w' fun e w'' => e = .returned (.int .u64 (D : Int)) ∧ Below w'.heap.size w' w'') := fun w' => roth19 w' r b D c n k a hr hb hD.symm
 obtain ⟨v0, hv0⟩ : ∃ v0 : Bool, v0 = true ↔ SS (m2 F r c) r D (m2 F r c b) := by
  by_cases h : SS (m2 F r c) r D (m2 F r c b)
  ·exact ⟨true, fun _ => h, fun _ => rfl⟩
  ·exact ⟨false, fun e => absurd e (by decide), fun e => absurd e h⟩
 have HRp : Hid (∀ w' : World, Below wb.heap.size wb w' → Calls Tryz.prog 34 #[mv r c a n k, .int .i64 (b : Int), .int .u64 (D : Int)] w' fun e w'' => e = .returned (.bool v0) ∧ Below w'.heap.size w' w'') := fun w' h => qmq w' r c n k b D a F v0 (ha.later (qa0 HB0.out h)) R hb hDl hDn hv0
 have HA := qa3 ha
 have HR := qa3 R
 have HO := qa3 O
 have HMe := qa3 hM
 have HV0 := qa3 hv0
 have HDl := qa3 hDl
 have HDb := qa3 hDb
 have HDn := qa3 hDn
 clear ha R O hg hD hDl hDb hDn hA2 hv0 hM
 go_enter Tryz.func8, Tryz.ntmps8
 go_wp2_with (go_at_call 33; rw [← HW.out]; refine (HWr.out _).mono ?_; rintro e w1 ⟨rfl, hb1⟩; have HV1 : Hid (Vr w1 w.heap.size (.int .i64 (r : Int)) (.int .i64 (c : Int)) (.slice a n k)) := HVa.out.later hb1; have HB1 : Hid (Below wb.heap.size wb w1) := hb1; clear hb1)
 have hq2 : w1.drew.cell? ⟨w.heap.size, 0, none⟩ = some (.int .i64 (r : Int)) := (HV1.out.later (Below.refl _ _).drew).c0
 have hq3 : w1.drew.cell? ⟨w.heap.size, 1, none⟩ = some (.int .i64 (c : Int)) := (HV1.out.later (Below.refl _ _).drew).c1
 have hq4 : w1.drew.cell? ⟨w.heap.size, 2, none⟩ = some (.slice a n k) := (HV1.out.later (Below.refl _ _).drew).c2
 go_region_held3 (fun w' => w'.cell? ⟨w.heap.size, 0, none⟩ = some (.int .i64 (r : Int)) ∧ w'.cell? ⟨w.heap.size, 1, none⟩ = some (.int .i64 (c : Int)) ∧ w'.cell? ⟨w.heap.size, 2, none⟩ = some (.slice a n k))
   (first | exact ⟨HV3.out.c0, HV3.out.c1, HV3.out.c2⟩ | exact ⟨HV2.out.c0, HV2.out.c1, HV2.out.c2⟩ | go_keep | exact ⟨(HV1.out.later (Below.refl _ _).drew).c0, (HV1.out.later (Below.refl _ _).drew).c1, (HV1.out.later (Below.refl _ _).drew).c2⟩)
   (first
    | (go_at_call 35; refine (HOt.out _).mono ?_; rintro e w2 ⟨rfl, hb2⟩; have HB2 : Hid (Below wb.heap.size wb w2) := qa0 (qa0 HB1.out (Below.refl _ _).drew) hb2; have HV2 : Hid (Vr w2 w.heap.size (.int .i64 (r : Int)) (.int .i64 (c : Int)) (.slice a n k)) := HVa.out.later HB2.out; clear hb2)
    | (go_at_call 34; refine (HRp.out _ HB2.out).mono ?_; rintro e w3 ⟨rfl, hb3⟩; have HB3 : Hid (Below wb.heap.size wb w3) := qa0 HB2.out hb3; have HV3 : Hid (Vr w3 w.heap.size (.int .i64 (r : Int)) (.int .i64 (c : Int)) (.slice a n k)) := HVa.out.later HB3.out; clear hb3))
 clear hq2 hq3 hq4
 have v_0 := HV3.out.c0
 have v_1 := HV3.out.c1
 have v_2 := HV3.out.c2
 cases v0
 ·have hnv : (!false) = true := rfl
  have HX : Hid (SrP (m2 F r c) r b C G 0 false 0) := .inl ⟨rfl, rfl, rfl, qh4 HMe.out HDb.out (fun h => absurd (HV0.out.2 h) (by decide))⟩
  go_wp2
  refine bodyPost_ret (v := .tuple #[.int .u64 0, .slice none 0 0, .bool false, .int .i64 0]) (by simp [results, Tryz.results8, go_sem]) rfl ?_
  exact .inl ⟨0, rfl, HX.out, qa0 HB0.out HB3.out⟩
 ·have hnv : (!true) = false := rfl
  have HSD : Hid (SS (m2 F r c) r D (m2 F r c b)) := HV0.out.1 (by trivial)
  go_wp2_with (go_at_call 36; refine (qmr _ r c n k b a F (HA.out.later (qa0 HB0.out HB3.out)) HR.out hb C f ix G HO.out).mono ?_)
  rintro e w4 ⟨x, v, rfl, hfs, hb4⟩
  have HB4 : Hid (Below w.heap.size w w4) := qa0 (qa0 HB0.out HB3.out) hb4
  have HV4 : Hid (Vr w4 w.heap.size (.int .i64 (r : Int)) (.int .i64 (c : Int)) (.slice a n k)) := HV3.out.later hb4
  clear hb4 HV1 HV2 HV3 HB1 HB2 HB3 HOt HRp HWr HV0
  rcases hfs with ⟨rfl, k1, j1, hk1, hj1, hx, hsm, hss, hnb⟩ | ⟨rfl, rfl, hex⟩
  ·have HX : Hid (SrP (m2 F r c) r b C G x true 0) := .inr (.inl ⟨rfl, rfl, k1, j1, hk1, hj1, hx, hsm, hss, hnb⟩)
   have hl : LstS (m2 F r c) r b x := by
    rcases HX.out.lst HO.out hb with ⟨_, h1, _⟩ | ⟨_, _, hl⟩ | ⟨_, h1, _⟩
    ·exact absurd h1 (by decide)
    ·exact hl
    ·exact absurd h1 (by decide)
   have HLs := qa3 hl
   have HLi0 := qa3 (qmo hr hl.lt)
   obtain ⟨K, hK⟩ : ∃ K, cn x r = K := ⟨_, rfl⟩
   obtain ⟨q, hq⟩ : ∃ q, lf x r = q := ⟨_, rfl⟩
   rw [hK, hq] at HLi0
   have hKr : K ≤ 64 := by rw [← hK]; exact Nat.le_trans (qb5 r x) hr
   have HQ : Hid (∀ i, i < K → q i < r) := fun i hi => by rw [← hq]; exact (qai (by rw [hK]; exact hi)).1
   have HU : Hid (∀ i t, i < t → t < K → q i < q t) := fun i t h1 h2 => by rw [← hq]; exact qmm h1 (by rw [hK]; exact h2)
   obtain ⟨NP, HNP⟩ : ∃ NP, Hid (K * c = NP) := ⟨_, rfl⟩
   have HRP : Hid (Rt K c NP) := ⟨hKr, hc, HNP.out⟩
   have HPl : Hid (∀ i, i < NP → pkf F q c i < 256) := fun i hi => qei HA.out.sl.1 HR.out HQ.out i (by rw [HNP.out]; exact hi)
   have HSp : Hid (Spn (m2 (pkf F q c) K c) K (ext0 (fun j => F (b * c + j)) c)) := by
    rw [qje hb, ← hq, ← hK]
    exact (pick_ss HA.out.sl.1 HR.out).2 hl.is
   have HEq : Hid (∀ X, CmbA (pkf F q c) (fun j => F (b * c + j)) K c X → CmbS (m2 F r c) r b x (spr x X)) := fun X hX => by
    refine cmbs_of HMe.out hr HLs.out hX.1.1 (fun j => ?_)
    have h1 := hX.2 j
    rw [qje hb] at h1
    rw [h1, hq, hK]
    exact qb3 (fun _ _ => rfl) (fun i hi => by rw [qgc HQ.out hi])
   have HPP : Hid (∀ X i, i < r → pp q K X i = spr x X i) := fun X i hi => by rw [← hq, ← hK]; exact pp_spr X hi
   have HRe : Hid (∀ i, i < c → F (b * c + i) < 256) := fun i hi => HA.out.sl.1 _ (HR.out.at hb hi)
   obtain ⟨Y, HY⟩ : ∃ Y, Hid ((fun j => F (b * c + j)) = Y) := ⟨_, rfl⟩
   rw [HY.out] at HSp HEq
   have HYe : Hid (∀ i, i < c → Y i < 256) := fun i hi => by rw [← HY.out]; exact HRe.out i hi
   obtain ⟨i0, hi0, hz0, hz1, hz2⟩ := info_parts qeh
   have hml : r ≤ maxLen := by unfold maxLen; omega
   have hKi : (0 : Int) ≤ (K : Int) := by omega
   have u_0 := HV4.out.c0
   have u_1 := HV4.out.c1
   have u_2 := HV4.out.c2
   clear hl hK hq hx hss hnb hsm hk1 hj1 v_0 v_1 v_2
   go_wp2_with (first
    | (go_at_call 21; refine (HLi0.out _).mono ?_; rintro e w14 ⟨xs, xd, hil, rfl, hb⟩; have HB14 : Hid (Below w.heap.size w w14) := qa0 HB4.out hb; have HV14 : Hid (Vr w14 w.heap.size (.int .i64 (r : Int)) (.int .i64 (c : Int)) (.slice a n k)) := HV4.out.later hb; have HIl14 := qa3 hil; have d0 := HV14.out.c0; have d1 := HV14.out.c1; have d2 := HV14.out.c2; clear hb hil)
    | (go_at_call 37; refine (qbv _ r c n k K xd NP a xs F q (HA.out.later HB14.out).sl HR.out HIl14.out HQ.out hKr HNP).mono ?_; rintro e w5 ⟨s5, d5, rfl, ho5, hb5⟩; have HB5 : Hid (Below w.heap.size w (w5.alloc (.cells #[.int .i64 (K : Int), .int .i64 (c : Int), .slice s5 NP d5] 24))) := qa0 (qa0 HB14.out hb5) (qa1 _ _); have HP5 : Hid (Mt (w5.alloc (.cells #[.int .i64 (K : Int), .int .i64 (c : Int), .slice s5 NP d5] 24)) s5 NP d5 (pkf F q c)) := (qem ho5 HPl.out).later (qa1 _ _); have HVc5 : Hid (Vr (w5.alloc (.cells #[.int .i64 (K : Int), .int .i64 (c : Int), .slice s5 NP d5] 24)) w5.heap.size (.int .i64 (K : Int)) (.int .i64 (c : Int)) (.slice s5 NP d5)) := Vr.new _ _ _ _; have HV5 : Hid (Vr (w5.alloc (.cells #[.int .i64 (K : Int), .int .i64 (c : Int), .slice s5 NP d5] 24)) w.heap.size (.int .i64 (r : Int)) (.int .i64 (c : Int)) (.slice a n k)) := (HV14.out.later hb5).later (qa1 _ _); have HIl5 : Hid (Il (w5.alloc (.cells #[.int .i64 (K : Int), .int .i64 (c : Int), .slice s5 NP d5] 24)) xs K (fun i => (q i : Int))) := (HIl14.out.later hb5).later (qa1 _ _); have x0 := HV5.out.c0; have x1 := HV5.out.c1; have x2 := HV5.out.c2; clear ho5 hb5)
    | (go_at_call 38; refine (qfy _ r c n k b a F (HA.out.later HB5.out).sl HR.out hb).mono ?_; rintro e w6 ⟨v6, rfl, ho, hb6⟩; rw [HY.out] at ho; obtain ⟨ys, yd, rfl, hy, _⟩ := qku ho HYe.out; have HB6 : Hid (Below w.heap.size w w6) := qa0 HB5.out hb6; have HY6 : Hid (Sl w6 ys c Y) := hy; have HP6 : Hid (Mt w6 s5 NP d5 (pkf F q c)) := HP5.out.later hb6; have HVc6 : Hid (Vr w6 w5.heap.size (.int .i64 (K : Int)) (.int .i64 (c : Int)) (.slice s5 NP d5)) := HVc5.out.later hb6; have HV6 : Hid (Vr w6 w.heap.size (.int .i64 (r : Int)) (.int .i64 (c : Int)) (.slice a n k)) := HV5.out.later hb6; have HIl6 : Hid (Il w6 xs K (fun i => (q i : Int))) := HIl5.out.later hb6; have z0 := HVc6.out.c0; have z1 := HVc6.out.c1; have z2 := HVc6.out.c2; clear hy hb6 ho)
    | (go_at_call 39; refine (qlg _ K c NP d5 yd s5 ys (pkf F q c) Y HP6.out HRP.out HY6.out HSp.out).mono ?_; rintro e w7 ⟨cs, cd, X, rfl, hm7, hX, hb7⟩; have HB7 : Hid (Below w.heap.size w w7) := qa0 HB6.out hb7; have HM7 : Hid (Sl w7 cs K X) := hm7.sl; have HX7 := qa3 (HEq.out X hX); have HV7 : Hid (Vr w7 w.heap.size (.int .i64 (r : Int)) (.int .i64 (c : Int)) (.slice a n k)) := HV6.out.later hb7; have HIl7 : Hid (Il w7 xs K (fun i => (q i : Int))) := HIl6.out.later hb7; have y0 := HV7.out.c0; clear hm7 hX hb7)
    | (at_make; refine wpList_make_full _ rfl _ _ 22 rfl w7.heap.size 5 i0 (.int .u8 0) 1 Tryz.underlying22 hi0 hz0 hz1 .i64 .i64 _ _ r rfl rfl rfl rfl (by rw [hz2]; omega) hml (Nat.le_refl _) ?_; intro w8 hown hgrow; have HR8 : Hid (RowAt w8 w7.heap.size 5 r (fun _ => 0)) := qdh hown; have HB8' : Hid (Below w7.heap.size w7 w8) := qa5.mp hgrow; clear hown hgrow))
   go_loopw [20] (fun si wi => ∃ i : Nat, i ≤ K ∧ si = .int .i64 (i : Int) ∧ RowAt wi w7.heap.size 5 r (pp q i X) ∧ Below w7.heap.size w7 wi) (fun si _ => K - (intOf si).toNat)
   case atStart => exact ⟨0, by omega, rfl, HR8.out.congr (fun l _ => rfl), HB8'.out⟩
   case round =>
    clear HR8 HB8'
    obtain ⟨i, hit, rfl, hRow, hB⟩ := hrel
    have HRow : Hid (RowAt wr w7.heap.size 5 r (pp q i X)) := hRow
    have HB : Hid (Below w7.heap.size w7 wr) := hB
    clear hRow hB
    by_cases hlt : i < K
    ·obtain ⟨px, po, eps, hpc⟩ := (HIl7.out.later HB.out) i hlt
     obtain ⟨qi, HQI⟩ : ∃ x, Hid (q i = x) := ⟨_, rfl⟩
     dsimp only at hpc
     rw [HQI.out] at hpc
     subst eps
     obtain ⟨g5, o5, efs, hxc⟩ := (HM7.out.later HB.out).2 i hlt
     obtain ⟨xi, HXI⟩ : ∃ z, Hid (X i = z) := ⟨_, rfl⟩
     rw [HXI.out] at hxc
     subst efs
     have hqi : qi < r := by rw [← HQI.out]; exact HQ.out i hlt
     have p0 : (0 : Int) ≤ (i : Int) := by omega
     have p1 : (i : Int) < (K : Int) := by omega
     have p2 : (0 : Int) ≤ (qi : Int) := by omega
     have p3 : (qi : Int) < (r : Int) := by omega
     have HD : Hid (wr.drew.cell? ⟨px, po + i, none⟩ = some (.int .i64 (qi : Int)) ∧ wr.drew.cell? ⟨g5, o5 + i, none⟩ = some (.int .u8 (xi : Int))) := ⟨hpc, hxc⟩
     clear hpc hxc
     go_wp2
     refine qae (k := 10) (n := 10) (fun w' => w'.cell? ⟨px, po + i, none⟩ = some (.int .i64 (qi : Int)) ∧ w'.cell? ⟨g5, o5 + i, none⟩ = some (.int .u8 (xi : Int))) (by kernel_rfl) (by kernel_rfl) (by decide) (by rfl) ?_
     refine wtkq 0 ?v0 rfl (by kernel_rfl) (fun _ _ _ h => h) (by rfl) ?y0 HD.out ?z0
     case y0 => (intro w hSw; (try dsimp only at hSw); go_simp; try with_reducible rfl)
     try simp only [mz1, mz3, Act.put, mz4, mz5, mz6]
     refine wtkq 1 ?v1 rfl (by kernel_rfl) (fun _ _ _ h => h) (by rfl) ?y1 HD.out ?z1
     case y1 => (intro w hSw; (try dsimp only at hSw); go_simp; try with_reducible rfl)
     try simp only [mz1, mz2, mz3, Act.put, mz4, mz5, mz6]
     refine wtkq 2 ?v2 rfl (by kernel_rfl) (fun _ _ _ h => h) (by rfl) ?y2 HD.out ?z2
     case y2 => (intro w hSw; (try dsimp only at hSw); go_simp; try with_reducible rfl)
     try simp only [mz1, mz2, mz3, Act.put, mz4, mz5, mz6]
     refine wtkq 3 ?v3 rfl (by kernel_rfl) (fun _ _ _ h => h) (by rfl) ?y3 HD.out ?z3
     case y3 => (intro w hSw; (try dsimp only at hSw); go_simp; try with_reducible rfl)
     try simp only [mz1, mz2, mz3, Act.put, mz4, mz5, mz6]
     refine wtkq 4 ?v4 rfl (by kernel_rfl) (fun _ _ _ h => h) (by rfl) ?y4 HD.out ?z4
     case y4 => (intro w hSw; (try dsimp only at hSw); go_simp; try with_reducible rfl)
     try simp only [mz1, mz2, mz3, Act.put, mz4, mz5, mz6]
     refine wtkq 5 ?v5 rfl (by kernel_rfl) (fun _ _ _ h => h) (by rfl) ?y5 HD.out ?z5
     case y5 => (intro w hSw; (try dsimp only at hSw); go_simp; try with_reducible rfl)
     try simp only [mz1, mz2, mz3, Act.put, mz4, mz5, mz6]
     refine wtkq 6 ?v6 rfl (by kernel_rfl) (fun _ _ _ h => h) (by rfl) ?y6 HD.out ?z6
     case y6 => (intro w hSw; (try dsimp only at hSw); go_simp; try with_reducible rfl)
     try simp only [mz1, mz2, mz3, Act.put, mz4, mz5, mz6]
     refine wtkq 7 ?v7 rfl (by kernel_rfl) (fun _ _ _ h => h) (by rfl) ?y7 HD.out ?z7
     case y7 => (intro w hSw; (try dsimp only at hSw); go_simp; try with_reducible rfl)
     try simp only [mz1, mz2, mz3, Act.put, mz4, mz5, mz6]
     refine wtkq 8 ?v8 rfl (by kernel_rfl) (fun _ _ _ h => h) (by rfl) ?y8 HD.out ?z8
     case y8 => (intro w hSw; (try dsimp only at hSw); go_simp; try with_reducible rfl)
     try simp only [mz1, mz2, mz3, Act.put, mz4, mz5, mz6]
     refine wtkq 9 ?v9 rfl (by kernel_rfl) (fun _ _ _ h => h) (by rfl) ?y9 HD.out ?z9
     case y9 => (intro w hSw; (try dsimp only at hSw); go_simp; try with_reducible rfl)
     try simp only [mz1, mz2, mz3, Act.put, mz4, mz5, mz6]
     refine wpAnyH_done (by kernel_rfl) ?_ _
     have hcl : wr.drew.cell? ⟨w7.heap.size, qi, none⟩ = some (.int .u8 ((pp q i X qi : Nat) : Int)) := HRow.out.cell qi hqi
     have hfl : wr.drew.frozen? ⟨w7.heap.size, qi, none⟩ = false := HRow.out.free qi
     refine qaw rfl (fun K hK => ?_)
     go_simp
     refine hK.out _ _ ?_
     clear hK K
     try simp only [mz1, mz3, Act.put, mz4, mz5, mz6]
     go_wp2
     exact ⟨⟨i + 1, by omega, by go_num, ((HRow.out.later (Below.refl _ _).drew).set qi xi).congr (fun l _ => by rw [← HQI.out, ← HXI.out]; exact qhk HU.out hlt X l), qa6 (qa0 HB.out (Below.refl _ _).drew) (qa2 _ _ _ _) (Nat.le_refl _)⟩, by simp [intOf]; omega⟩
    ·have HIT : Hid (i = K) := Nat.le_antisymm hit (by omega)
     go_wp2
     have ho := HRow.out
     rw [HIT.out] at ho
     refine bodyPost_ret (v := .tuple #[.int .u64 (x : Int), .slice (some ⟨w7.heap.size, 0, none⟩) r r, .bool true, .int .i64 0]) (by simp [results, Tryz.results8, go_sem]) rfl ?_
     exact .inr ⟨x, w7.heap.size, spr x X, rfl, HX.out, HX7.out, ho.congr (fun l hl => HPP.out X l hl), HB7.out.size, qa0 HB7.out HB.out⟩
  ·have HX : Hid (SrP (m2 F r c) r b C G 0 false 4) := by
    rcases hex with ⟨k1, j1, h1, h2, h3, h4⟩ | hn
    ·exact .inr (.inr ⟨rfl, rfl, rfl, k1, j1, h1, h2, h3, h4, D, HDl.out, HDn.out, HSD.out⟩)
    ·exact absurd HSD.out (hn.end HO.out hb HDl.out HDn.out)
   have hnv2 : (!false) = true := rfl
   clear hex
   go_wp2
   refine bodyPost_ret (v := .tuple #[.int .u64 0, .slice none 0 0, .bool false, .int .i64 4]) (by simp [results, Tryz.results8, go_sem]) rfl ?_
   exact .inl ⟨4, rfl, HX.out, HB4.out⟩
end Go.Proofs.YtblagbghpfopcaaGreat
