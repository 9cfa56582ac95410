/-
  The reference's Next: what its loop knows; of.
  Sets of a matrix's rows, each as a number whose bits say which rows it has: what they span, their ranks, bases and circuits. No Go in sight.
  Contracts of the rows' reference: bad, rank, Rank, Free, Covers.
  Contracts of the rows' reference: Rank, Free, Covers.
-/
import Derived.Test.YtlmanliinncdiaaGreatQggps00
import Derived.Test.YtlmanliinncdiaaGreatQggps28
import Derived.Test.YtlmanliinncdiaaGreatQggps10
import Derived.Test.YtlmanliinncdiaaGreatQggps01
import Derived.Test.YtlmanliinncdiaaGreatQggps23
import Derived.Test.YtlmanliinncdiaaGreatQggps18
set_option maxRecDepth 100000
set_option maxHeartbeats 16000000
namespace Go.Proofs.YtlmanliinncdiaaGreat
open Go.RowKit
theorem qf8 {s n : Nat} (hs : s < 18446744073709551616) (hn : n ≤ 64) : s &&& (18446744073709551615 - (2 ^ n - 1)) = 2 ^ n * (s / 2 ^ n) := by
 have h1 := Nat.two_pow_pos n
 have h2 : (18446744073709551616 : Nat) = 2 ^ n * 2 ^ (64 - n) := by rw [← Nat.pow_add, show n + (64 - n) = 64 by omega]
 have h3 := Nat.two_pow_pos (64 - n)
 have h4 : 18446744073709551615 - (2 ^ n - 1) = 2 ^ n * (2 ^ (64 - n) - 1) := by
  rw [Nat.mul_sub, ← h2]
  omega
 have h5 := qea n s (18446744073709551615 - (2 ^ n - 1))
 rw [h4, Nat.mul_mod_right, Nat.and_zero, Nat.mul_div_cancel_left _ h1, Nat.and_two_pow_sub_one_eq_mod, Nat.zero_add] at h5
 rw [h4, h5, Nat.mod_eq_of_lt]
 rw [Nat.div_lt_iff_lt_mul h1, Nat.mul_comm, ← h2]
 exact hs
theorem qg3 {s n A : Nat} (hs : s < 18446744073709551616) (hn : n ≤ 64) (hA : 2 ^ n - 1 = A) : ∃ z : Nat, bits .andNot .u64 (s : Int) (A : Int) = (z : Int) ∧ (z = 0 ↔ s < 2 ^ n) := by
 have h1 := qeo hn
 have h2 := Nat.two_pow_pos n
 refine ⟨2 ^ n * (s / 2 ^ n), ?_, ?_⟩
 ·rw [u64_andNot_nat s A hs (by omega), ← hA, qf8 hs hn]
 ·constructor
  ·intro h
   rcases Nat.mul_eq_zero.1 h with h3 | h3
   ·omega
   ·apply Classical.byContradiction
    intro hn
    have := Nat.div_pos (Nat.le_of_not_lt hn) h2
    omega
  ·intro h
   rw [Nat.div_eq_of_lt h, Nat.mul_zero]
theorem lf_all {s n : Nat} (hn : n ≤ 64) (h : s < 2 ^ n) (t : Nat) : lf s 64 t = lf s n t := by
 have h1 := (qd0 (s := s) (i := n) (64 - n) h).2 t
 rwa [show n + (64 - n) = 64 by omega] at h1
theorem qbo (s i : Nat) : bt s i = 1 ↔ s.testBit i = true := by
 rw [Nat.testBit_eq_decide_div_mod_eq]
 simp [bt]
theorem bt_ext {s t : Nat} (h : ∀ i, bt s i = 1 ↔ bt t i = 1) : s = t := by
 apply Nat.eq_of_testBit_eq
 intro i
 have h1 := h i
 rw [qbo, qbo] at h1
 cases hs : s.testBit i <;> cases ht : t.testBit i <;> simp_all
theorem qip (s t i : Nat) : bt (s ||| t) i = 1 ↔ bt s i = 1 ∨ bt t i = 1 := by
 rw [qbo, qbo, qbo, Nat.testBit_or]
 simp
theorem bt_and (s t i : Nat) : bt (s &&& t) i = 1 ↔ bt s i = 1 ∧ bt t i = 1 := by
 rw [qbo, qbo, qbo, Nat.testBit_and]
 simp
theorem qer (i j : Nat) : bt (2 ^ i) j = 1 ↔ j = i := by
 rw [qbo, Nat.testBit_two_pow]
 simp [eq_comm]
theorem qg4 {s n i : Nat} (h : s < 2 ^ n) (hi : n ≤ i) : bt s i = 0 := by
 unfold bt
 rw [Nat.div_eq_of_lt (Nat.lt_of_lt_of_le h (Nat.pow_le_pow_right (by decide) hi))]
theorem bt_diff {s t : Nat} (hs : s < 2 ^ 64) (ht : t < 2 ^ 64) (i : Nat) : bt (s &&& (18446744073709551615 - t)) i = 1 ↔ bt s i = 1 ∧ ¬ bt t i = 1 := by
 rw [bt_and]
 by_cases hi : i < 64
 ·have e : (18446744073709551615 : Nat) - t = 2 ^ 64 - (t + 1) := by omega
  rw [e, qbo (2 ^ 64 - (t + 1)), Nat.testBit_two_pow_sub_succ ht, qbo t]
  simp [hi]
 ·have h1 := qg4 hs (show 64 ≤ i by omega)
  constructor
  ·rintro ⟨h, _⟩; omega
  ·rintro ⟨h, _⟩; omega
theorem lf_cn {s R i : Nat} (hi : i < R) (h : bt s i = 1) : cn s i < cn s R ∧ lf s R (cn s i) = i := by
 have h1 := qbd i s
 have h2 := qbe (s := s) (show i + 1 ≤ R by omega)
 have h3 : cn s i < cn s R := by omega
 obtain ⟨a, b, c⟩ := qar h3
 refine ⟨h3, ?_⟩
 rcases Nat.lt_trichotomy (lf s R (cn s i)) i with h4 | h4 | h4
 ·have h5 := qbd (lf s R (cn s i)) s
  have h6 := qbe (s := s) (show lf s R (cn s i) + 1 ≤ i by omega)
  omega
 ·exact h4
 ·have h6 := qbe (s := s) (show i + 1 ≤ lf s R (cn s i) by omega)
  omega
/-- The rows of a set, the others noughts. -/
def mk (M : Nat → Nat → Nat) (s i j : Nat) : Nat := if bt s i = 1 then M i j else 0
theorem qiq {M : Nat → Nat → Nat} (hM : El2 M) (s : Nat) : El2 (mk M s) := fun i j => by unfold mk; split; exact hM i j; decide
theorem mk_in {M : Nat → Nat → Nat} {s i : Nat} (h : bt s i = 1) : mk M s i = M i := funext fun _ => if_pos h
theorem mk_out {M : Nat → Nat → Nat} {s i : Nat} (h : ¬ bt s i = 1) : mk M s i = fun _ => 0 := funext fun _ => if_neg h
/-- A combination of the rows of a set. -/
def SS (M : Nat → Nat → Nat) (R s : Nat) (y : Nat → Nat) : Prop := Spn (mk M s) R y
theorem qes {M : Nat → Nat → Nat} (hM : El2 M) {R s i : Nat} (hi : i < R) (h : bt s i = 1) : SS M R s (M i) := by
 have h1 := qa6 (qiq hM s) hi
 rw [mk_in h] at h1
 exact h1
theorem ss_le {M N : Nat → Nat → Nat} {R s r : Nat} (h : ∀ i, i < R → bt s i = 1 → Spn N r (M i)) : Le (mk M s) R N r := fun i hi => by
 by_cases hb : bt s i = 1
 ·rw [mk_in hb]; exact h i hi hb
 ·rw [mk_out hb]; exact qcq N r
theorem qg5 {M : Nat → Nat → Nat} (hM : El2 M) {R s t : Nat} (h : ∀ i, i < R → bt s i = 1 → bt t i = 1) : Le (mk M s) R (mk M t) R := ss_le (fun i hi hb => qes hM hi (h i hi hb))
theorem SS.sub {M : Nat → Nat → Nat} (hM : El2 M) {R s t : Nat} {y : Nat → Nat} (hy : SS M R s y) (h : ∀ i, i < R → bt s i = 1 → bt t i = 1) : SS M R t y := Spn.trans hy (qg5 hM h)
/-- The rank of the rows of a set. -/
def RS (M : Nat → Nat → Nat) (R s k : Nat) : Prop := Rk (mk M s) R k
theorem rs_ex {M : Nat → Nat → Nat} (hM : El2 M) (R s : Nat) : ∃ k, RS M R s k := rk_ex (qiq hM s) R
theorem RS.one {M : Nat → Nat → Nat} (hM : El2 M) {R s k l : Nat} (h : RS M R s k) (h2 : RS M R s l) : k = l := Rk.unique h h2 (SpEq.refl (qiq hM s) R)
theorem RS.congr {M : Nat → Nat → Nat} {R s t k : Nat} (h : RS M R s k) (e : ∀ i, i < R → (bt s i = 1 ↔ bt t i = 1)) : RS M R t k := Rk.at h (fun i j hi => by
 unfold mk
 by_cases hb : bt s i = 1
 ·rw [if_pos hb, if_pos ((e i hi).1 hb)]
 ·rw [if_neg hb, if_neg (fun h => hb ((e i hi).2 h))])
theorem SS.congr {M : Nat → Nat → Nat} (hM : El2 M) {R s t : Nat} {y : Nat → Nat} (h : SS M R s y) (e : ∀ i, i < R → (bt s i = 1 ↔ bt t i = 1)) : SS M R t y := h.sub hM (fun i hi hb => (e i hi).1 hb)
/-- The rows of a set, and one more behind them. -/
def mkx (M : Nat → Nat → Nat) (R s i t : Nat) : Nat → Nat := if t = R then M i else mk M s t
theorem qg6 {M : Nat → Nat → Nat} (hM : El2 M) (R s i : Nat) : El2 (mkx M R s i) := fun t j => by unfold mkx; split; exact hM i j; exact qiq hM s t j
theorem qcl (M : Nat → Nat → Nat) {R s i t : Nat} (ht : t < R) : mkx M R s i t = mk M s t := if_neg (by omega)
theorem qef (M : Nat → Nat → Nat) (R s i : Nat) : mkx M R s i R = M i := if_pos rfl
theorem qg7 {M : Nat → Nat → Nat} (hM : El2 M) {R s i : Nat} (hi : i < R) : SpEq (mkx M R s i) (R + 1) (mk M (s ||| 2 ^ i)) R := by
 constructor
 ·intro t ht
  by_cases e : t = R
  ·subst e
   rw [qef]
   exact qes hM hi ((qip _ _ _).2 (.inr ((qer i i).2 rfl)))
  ·rw [qcl M (by omega)]
   exact qg5 hM (fun j _ hb => (qip _ _ _).2 (.inl hb)) t (by omega)
 ·refine ss_le (fun t ht hb => ?_)
  rcases (qip _ _ _).1 hb with h | h
  ·have h1 := qa6 (qg6 hM R s i) (r := R + 1) (show t < R + 1 by omega)
   rw [qcl M ht, mk_in h] at h1
   exact h1
  ·rw [qer] at h
   subst h
   have h1 := qa6 (qg6 hM R s t) (r := R + 1) (show R < R + 1 by omega)
   rw [qef] at h1
   exact h1
theorem RS.same {M : Nat → Nat → Nat} (hM : El2 M) {R s i k : Nat} (hi : i < R) (h : RS M R s k) (hs : SS M R s (M i)) : RS M R (s ||| 2 ^ i) k := by
 have h1 : Rk (mkx M R s i) R k := Rk.at h (fun t j ht => by rw [qcl M ht])
 have h2 : Spn (mkx M R s i) R (mkx M R s i R) := by
  rw [qef]
  exact Spn.rows hs (fun t j ht => by rw [qcl M ht])
 exact (h1.same (qg6 hM R s i) h2).span (qg7 hM hi)
theorem RS.more {M : Nat → Nat → Nat} (hM : El2 M) {R s i k : Nat} (hi : i < R) (h : RS M R s k) (hs : ¬ SS M R s (M i)) : RS M R (s ||| 2 ^ i) (k + 1) := by
 have h1 : Rk (mkx M R s i) R k := Rk.at h (fun t j ht => by rw [qcl M ht])
 have h2 : ¬ Spn (mkx M R s i) R (mkx M R s i R) := by
  rw [qef]
  exact fun h => hs (Spn.rows h (fun t j ht => by rw [qcl M ht]))
 exact (h1.more (qg6 hM R s i) h2).span (qg7 hM hi)
theorem RS.add {M : Nat → Nat → Nat} (hM : El2 M) {R s i k l : Nat} (hi : i < R) (h : RS M R s k) (h2 : RS M R (s ||| 2 ^ i) l) : (SS M R s (M i) ∧ l = k) ∨ (¬ SS M R s (M i) ∧ l = k + 1) := by
 by_cases hs : SS M R s (M i)
 ·exact .inl ⟨hs, h2.one hM (h.same hM hi hs)⟩
 ·exact .inr ⟨hs, h2.one hM (h.more hM hi hs)⟩
theorem RS.mono {M : Nat → Nat → Nat} (hM : El2 M) {R s t k l : Nat} (h : RS M R s k) (h2 : RS M R t l) (hst : ∀ i, i < R → bt s i = 1 → bt t i = 1) : k ≤ l := Rk.mono h2 h (qg5 hM hst)
/-- The picked rows span what the set's rows span. -/
theorem qet {M : Nat → Nat → Nat} (hM : El2 M) (R s : Nat) : SpEq (fun t => M (lf s R t)) (cn s R) (mk M s) R := by
 constructor
 ·intro t ht
  obtain ⟨a, b, c⟩ := qar ht
  exact qes hM a b
 ·refine ss_le (fun i hi hb => ?_)
  obtain ⟨a, b⟩ := lf_cn hi hb
  have h1 := qa6 (M := fun t => M (lf s R t)) (fun t j => hM _ j) a
  rw [← b]
  exact h1
theorem qir {M : Nat → Nat → Nat} (hM : El2 M) {R s k : Nat} : Rk (fun t => M (lf s R t)) (cn s R) k ↔ RS M R s k :=
 ⟨fun h => h.span (qet hM R s), fun h => Rk.span h (qet hM R s).symm⟩
theorem RS.le {M : Nat → Nat → Nat} (hM : El2 M) {R s k : Nat} (h : RS M R s k) : k ≤ cn s R := Rk.rows (M := fun t => M (lf s R t)) (fun _ j => hM _ j) ((qir hM).2 h)
/-- p is the span of s. -/
def SpS (M : Nat → Nat → Nat) (R s p : Nat) : Prop := p < 2 ^ R ∧ ∀ i, i < R → (bt p i = 1 ↔ SS M R s (M i))
theorem SpS.one {M : Nat → Nat → Nat} {R s p q : Nat} (h : SpS M R s p) (h2 : SpS M R s q) : p = q := by
 apply bt_ext
 intro i
 by_cases hi : i < R
 ·rw [h.2 i hi, h2.2 i hi]
 ·rw [qg4 h.1 (by omega), qg4 h2.1 (by omega)]
theorem SpS.has {M : Nat → Nat → Nat} (hM : El2 M) {R s p : Nat} (h : SpS M R s p) : ∀ i, i < R → bt s i = 1 → bt p i = 1 := fun i hi hb => (h.2 i hi).2 (qes hM hi hb)
theorem SpS.span {M : Nat → Nat → Nat} (hM : El2 M) {R s p : Nat} (h : SpS M R s p) : SpEq (mk M p) R (mk M s) R := ⟨ss_le (fun i hi hb => (h.2 i hi).1 hb), qg5 hM (h.has hM)⟩
theorem SpS.rank {M : Nat → Nat → Nat} (hM : El2 M) {R s p k : Nat} (h : SpS M R s p) (hk : RS M R s k) : RS M R p k := Rk.span hk (h.span hM).symm
theorem sps_same {M : Nat → Nat → Nat} {R s t p : Nat} (h : SpS M R s p) (e : SpEq (mk M s) R (mk M t) R) : SpS M R t p := ⟨h.1, fun i hi => (h.2 i hi).trans ⟨fun h => Spn.trans h e.1, fun h => Spn.trans h e.2⟩⟩
theorem SpS.again {M : Nat → Nat → Nat} (hM : El2 M) {R s p : Nat} (h : SpS M R s p) : SpS M R p p := sps_same h (h.span hM).symm
/-- A set without one number. -/
def rem (s i : Nat) : Nat := s &&& (2 ^ 64 - 1 - 2 ^ i)
theorem qis {s i : Nat} (hs : s < 2 ^ 64) (hi : i < 64) (j : Nat) : bt (rem s i) j = 1 ↔ bt s j = 1 ∧ j ≠ i := by
 have h1 : 2 ^ i < 2 ^ 64 := Nat.pow_lt_pow_right (by decide) hi
 have h2 := bt_diff hs h1 j
 rw [qer] at h2
 exact h2
/-- A set that is made number by number, up to i: it has those that keep P. -/
def Bld (P : Nat → Prop) (i z : Nat) : Prop := z < 2 ^ i ∧ ∀ j, j < i → (bt z j = 1 ↔ P j)
theorem Bld.start (P : Nat → Prop) : Bld P 0 0 := ⟨by decide, fun j hj => by omega⟩
theorem Bld.yes {P : Nat → Prop} {i z : Nat} (h : Bld P i z) (hp : P i) : Bld P (i + 1) (z ||| 2 ^ i) := by
 refine ⟨Nat.or_lt_two_pow (Nat.lt_of_lt_of_le h.1 (Nat.pow_le_pow_right (by decide) (by omega))) (Nat.pow_lt_pow_right (by decide) (by omega)), fun j hj => ?_⟩
 rw [qip, qer]
 by_cases e : j = i
 ·rw [e]; exact ⟨fun _ => hp, fun _ => .inr rfl⟩
 ·rw [h.2 j (by omega)]; exact ⟨fun h => h.elim id (fun h => absurd h e), .inl⟩
theorem Bld.no {P : Nat → Prop} {i z : Nat} (h : Bld P i z) (hp : ¬ P i) : Bld P (i + 1) z := by
 refine ⟨Nat.lt_of_lt_of_le h.1 (Nat.pow_le_pow_right (by decide) (by omega)), fun j hj => ?_⟩
 by_cases e : j = i
 ·rw [e, qg4 h.1 (Nat.le_refl _)]; exact ⟨fun h => by omega, fun h => absurd h hp⟩
 ·exact h.2 j (by omega)
open Go.RowKit
theorem il_of_jl {w : World} {b : Option Addr} {m : Nat} {q : Nat → Int} (h : Jl w b .i64 m q) : Il w b m q := h
theorem m2_pick7 {F q : Nat → Nat} {k c r i : Nat} (hq : ∀ i, i < k → q i < r) (hi : i < k) : m2 (pkf F q c) k c i = m2 F r c (q i) := funext fun j => by
 by_cases hj : j < c
 ·rw [qb6 _ hi hj, qb6 _ (hq i hi) hj, qdk F q c i j hj]
 ·rw [qaj _ (by omega), qaj _ (by omega)]
theorem pick_rs {F : Nat → Nat} {r c n s t : Nat} (hF : ∀ i, i < n → F i < 256) (R : Rt r c n) (h : Rk (m2 (pkf F (lf s r) c) (cn s r) c) (cn s r) t) : RS (m2 F r c) r s t :=
 (qir (qe5 hF R)).1 (h.at (fun i j hi => by rw [m2_pick7 (fun t ht => (qar ht).1) hi]))
theorem qgv (w : World) (r c : Int) (n k s : Nat) (a : Option Addr) (h : ¬ RightP r c n) :
  Calls Tryz.prog 80 #[mv r c a n k, .int .u64 (s : Int)] w fun e w' => e = .returned (.int .i64 3) ∧ Below w.heap.size w w' := by
 have HP : Hid (¬ RightP r c n) := h
 clear h
 go_enter Tryz.func80, Tryz.ntmps80
 go_wp2_with (go_at_call 65; refine (qfp _ _ _ _ _ _ HP.out).mono ?_; rintro e w1 ⟨rfl, hb⟩; have HB1 : Hid (Below w.heap.size w w1) := qa0 (qa1 _ _) hb; clear hb)
 go_ret
 exact ⟨rfl, HB1.out⟩
theorem rbad_arg (w : World) (r c n k s : Nat) (a : Option Addr) (R : Rt r c n) (hs6 : s < 18446744073709551616) (h : ¬ s < 2 ^ r) :
  Calls Tryz.prog 80 #[mv r c a n k, .int .u64 (s : Int)] w fun e w' => e = .returned (.int .i64 2) ∧ Below w.heap.size w w' := by
 have HP : Hid (RightP r c n) := R.p
 have hr := R.r64
 obtain ⟨A, HA⟩ : ∃ A : Nat, Hid ((2 ^ r - 1 : Nat) = A) := ⟨_, rfl⟩
 obtain ⟨z, hz1, hz2⟩ := qg3 hs6 hr HA.out
 have hz3 : ((z : Int) == 0) = false := by
  simp only [beq_eq_false_iff_ne, ne_eq]
  intro e
  exact h (hz2.1 (by omega))
 clear R hz2 h hs6
 go_enter Tryz.func80, Tryz.ntmps80
 go_wp2_with (first
  | (go_at_call 65; refine (qav _ _ _ _ _ _ HP.out).mono ?_; rintro e w1 ⟨rfl, hb⟩; have HV1 := (Vr.new w (.int .i64 (r : Int)) (.int .i64 (c : Int)) (.slice a n k)).later hb; have v0 := HV1.c0; have HB1 : Hid (Below w.heap.size w w1) := qa0 (qa1 _ _) hb; clear hb HV1)
  | (go_at_call 64; refine (qfv r _ hr).mono ?_; rintro e w' ⟨rfl, rfl⟩; rw [HA.out]))
 go_ret
 exact ⟨rfl, HB1.out⟩
theorem rbad_ok (w : World) (r c n k s : Nat) (a : Option Addr) (R : Rt r c n) (h : s < 2 ^ r) :
  Calls Tryz.prog 80 #[mv r c a n k, .int .u64 (s : Int)] w fun e w' => e = .returned (.int .i64 0) ∧ Below w.heap.size w w' := by
 have HP : Hid (RightP r c n) := R.p
 have hr := R.r64
 have hs6 := qec hr h
 obtain ⟨A, HA⟩ : ∃ A : Nat, Hid ((2 ^ r - 1 : Nat) = A) := ⟨_, rfl⟩
 obtain ⟨z, hz1, hz2⟩ := qg3 hs6 hr HA.out
 have han : bits .andNot .u64 (s : Int) (A : Int) = 0 := by rw [hz1, hz2.2 h]; rfl
 clear R hz1 hz2 h hs6
 go_enter Tryz.func80, Tryz.ntmps80
 go_wp2_with (first
  | (go_at_call 65; refine (qav _ _ _ _ _ _ HP.out).mono ?_; rintro e w1 ⟨rfl, hb⟩; have HV1 := (Vr.new w (.int .i64 (r : Int)) (.int .i64 (c : Int)) (.slice a n k)).later hb; have v0 := HV1.c0; have HB1 : Hid (Below w.heap.size w w1) := qa0 (qa1 _ _) hb; clear hb HV1)
  | (go_at_call 64; refine (qfv r _ hr).mono ?_; rintro e w' ⟨rfl, rfl⟩; rw [HA.out]))
 go_ret
 exact ⟨rfl, HB1.out⟩
theorem qdc (w : World) (r c n k s : Nat) (a : Option Addr) (F : Nat → Nat) (ha : Sl w a n F) (R : Rt r c n) (hs : s < 2 ^ r) :
  Calls Tryz.prog 52 #[mv r c a n k, .int .u64 (s : Int)] w fun e w' => ∃ t : Nat, e = .returned (.int .i64 (t : Int)) ∧ RS (m2 F r c) r s t ∧ Below w.heap.size w w' := by
 have hr := R.r64
 have hs6 := qec hr hs
 have HA : Hid (Sl w a n F) := ha
 have HRt : Hid (Rt r c n) := R
 have HS : Hid (s < 2 ^ r) := hs
 obtain ⟨K, f, hK, HFr, HConv, HL⟩ : ∃ (K : Nat) (f : Nat → Nat), K ≤ r ∧ Hid (∀ i, i < K → f i < r) ∧ Hid (∀ t, Rk (m2 (pkf F f c) K c) K t → RS (m2 F r c) r s t) ∧ Hid (∀ w' : World, Calls Tryz.prog 22 #[.int .u64 (s : Int)] w' fun e w'' => ∃ x d, e = .returned (.slice x K d) ∧ Il w'' x K (fun i => (f i : Int)) ∧ Below w'.heap.size w' w'') := by
  refine ⟨cn s r, lf s r, qay r s, fun i hi => (qar hi).1, fun t h => pick_rs ha.1 R h, fun w' => (rlist_ok s w' hs6).mono (fun e w'' h => ?_)⟩
  obtain ⟨v, he, ho, hb⟩ := h
  rw [cn_all hr hs] at ho
  have ho2 := ho.congr (fun t _ => lf_all hr hs t)
  obtain ⟨x, d, rfl, _⟩ := ho2.form
  exact ⟨x, d, he, il_of_jl ho2.jl, hb⟩
 obtain ⟨N, HN⟩ : ∃ N, Hid (K * c = N) := ⟨_, rfl⟩
 have HRk : Hid (Rt K c N) := ⟨by omega, R.c64, HN.out⟩
 have HPF : Hid (∀ i, i < N → pkf F f c i < 256) := fun i hi => qfq ha.1 R HFr.out i (by rw [HN.out]; exact hi)
 clear ha R hs hs6
 go_enter Tryz.func52, Tryz.ntmps52
 go_wp2
 -- REGION
 refine wp_region_held (S := fun w' => w'.cell? ⟨w.heap.size, 0, none⟩ = some (.int .i64 (r : Int)) ∧ w'.cell? ⟨w.heap.size, 1, none⟩ = some (.int .i64 (c : Int)) ∧ w'.cell? ⟨w.heap.size, 2, none⟩ = some (.slice a n k)) (by kernel_rfl) ?_
 change wpAnyH _ _ _ _ _ _ _ _ (World.drew _)
 obtain ⟨W0, HW0⟩ : ∃ W0, Hid ((w.alloc (.cells #[.int .i64 (r : Int), .int .i64 (c : Int), .slice a n k] 24)).drew = W0) := ⟨_, rfl⟩
 rw [HW0.out]
 have HX0 : Hid (Vr W0 w.heap.size (.int .i64 (r : Int)) (.int .i64 (c : Int)) (.slice a n k)) := by rw [← HW0.out]; exact (Vr.new w _ _ _).later (Below.refl _ _).drew
 have HB0 : Hid (Below w.heap.size w W0) := by rw [← HW0.out]; exact qa0 (qa1 _ _) (Below.refl _ _).drew
 refine wtkq 0 ?vq1 rfl (by kernel_rfl) (fun _ _ _ h => h) (by rfl) ?yq1 ⟨HX0.out.c0, HX0.out.c1, HX0.out.c2⟩ ?zq1
 case yq1 => (intro w hSw; (try dsimp only at hSw); go_simp; try with_reducible rfl)
 try simp only [mz1, mz3, Act.put, mz4, mz5, mz6]
 refine wtkq 1 ?vq2 rfl (by kernel_rfl) (fun _ _ _ h => h) (by rfl) ?yq2 ⟨HX0.out.c0, HX0.out.c1, HX0.out.c2⟩ ?zq2
 case yq2 => (intro w hSw; (try dsimp only at hSw); go_simp; try with_reducible rfl)
 try simp only [mz1, mz2, mz3, Act.put, mz4, mz5, mz6]
 refine wpAnyH_ready (rs := [2, 7]) (by kernel_rfl) (by simp) ?_
 refine AllReadyH.cons rfl (fun KK hKK => ?_) (AllReadyH.cons rfl (fun KK hKK => ?_) AllReadyH.nil)
 ·go_simp
  refine (HL.out _).mono ?_
  rintro e w1 ⟨xs1, d1, rfl, hj1, hb1⟩
  have HI1 : Hid (Il w1 xs1 K (fun i => (f i : Int))) := hj1
  have HB1 : Hid (Below w.heap.size w w1) := qa0 HB0.out hb1
  have HV1 : Hid (Vr w1 w.heap.size (.int .i64 (r : Int)) (.int .i64 (c : Int)) (.slice a n k)) := HX0.out.later hb1
  clear hj1 hb1
  refine hKK.out _ _ ⟨HV1.out.c0, HV1.out.c1, HV1.out.c2⟩ (fun _ => ?_)
  clear hKK KK
  try simp only [mz1, mz2, mz3, Act.put, mz4, mz5, mz6]
  refine wpAnyH_ready (rs := [3, 7]) (by kernel_rfl) (by simp) ?_
  refine AllReadyH.cons rfl (fun KK hKK => ?_) (AllReadyH.cons rfl (fun KK hKK => ?_) AllReadyH.nil)
  ·go_simp
   refine (qcs _ r c n k K d1 N a xs1 F f (HA.out.later HB1.out) HRt.out HI1.out HFr.out (by omega) HN).mono ?_
   rintro e w2 ⟨s2, d2, rfl, ho2, hb2⟩
   have HB2 : Hid (Below w.heap.size w w2) := qa0 HB1.out hb2
   have HV2 : Hid (Vr w2 w.heap.size (.int .i64 (r : Int)) (.int .i64 (c : Int)) (.slice a n k)) := HV1.out.later hb2
   have HO2 : Hid (w2.ownsRow w1.heap.size 5 1 (.slice s2 N d2) N (row N (pkf F f c)).toList) := ho2
   clear ho2 hb2
   refine hKK.out _ _ ⟨HV2.out.c0, HV2.out.c1, HV2.out.c2⟩ (fun _ => ?_)
   clear hKK KK
   try simp only [mz1, mz2, mz3, Act.put, mz4, mz5, mz6]
   refine wtkq 4 ?vq3 rfl (by kernel_rfl) (fun _ _ _ h => h) (by rfl) ?yq3 ⟨HV2.out.c0, HV2.out.c1, HV2.out.c2⟩ ?zq3
   case yq3 => (intro w hSw; (try dsimp only at hSw); go_simp; try with_reducible rfl)
   try simp only [mz1, mz2, mz3, Act.put, mz4, mz5, mz6]
   refine wtkq 5 ?vq4 rfl (by kernel_rfl) (fun _ _ _ h => h) (by rfl) ?yq4 ⟨HV2.out.c0, HV2.out.c1, HV2.out.c2⟩ ?zq4
   case yq4 => (intro w hSw; (try dsimp only at hSw); go_simp; try with_reducible rfl)
   try simp only [mz1, mz2, mz3, Act.put, mz4, mz5, mz6]
   refine wtkq 6 ?vq5 rfl (by kernel_rfl) (fun _ _ _ h => h) (by rfl) ?yq5 ⟨HV2.out.c0, HV2.out.c1, HV2.out.c2⟩ ?zq5
   case yq5 => (intro w hSw; (try dsimp only at hSw); go_simp; try with_reducible rfl)
   try simp only [mz1, mz2, mz3, Act.put, mz4, mz5, mz6]
   refine wpAnyH_ready (rs := [7]) (by kernel_rfl) (by simp) ?_
   refine AllReadyH.cons rfl (fun KK hKK => ?_) AllReadyH.nil
   go_simp
   have HZa2 : Hid (Vr (w2.alloc (.cells #[.int .i64 0, .int .i64 0, .slice none 0 0] 24)) w2.heap.size (.int .i64 0) (.int .i64 0) (.slice none 0 0)) := Vr.new _ _ _ _
   have HBa2 : Hid (Below w.heap.size w (w2.alloc (.cells #[.int .i64 0, .int .i64 0, .slice none 0 0] 24))) := qa0 HB2.out (qa1 _ _)
   have HVa2 : Hid (Vr (w2.alloc (.cells #[.int .i64 0, .int .i64 0, .slice none 0 0] 24)) w.heap.size (.int .i64 (r : Int)) (.int .i64 (c : Int)) (.slice a n k)) := HV2.out.later (qa1 _ _)
   have HOa2 : Hid ((w2.alloc (.cells #[.int .i64 0, .int .i64 0, .slice none 0 0] 24)).ownsRow w1.heap.size 5 1 (.slice s2 N d2) N (row N (pkf F f c)).toList) := World.ownsRow.alloc HO2.out _
   refine hKK.out _ _ ⟨HVa2.out.c0, HVa2.out.c1, HVa2.out.c2⟩ (fun _ => ?_)
   clear hKK KK
   try simp only [mz1, mz2, mz3, Act.put, mz4, mz5, mz6]
   refine wpAnyH_ready (rs := [8]) (by kernel_rfl) (by simp) ?_
   refine AllReadyH.cons rfl (fun KK hKK => ?_) AllReadyH.nil
   refine qal rfl _ _ rfl (w2.heap.size) _ _ _ (.int .i64 (K : Int)) (.int .i64 (c : Int)) (.slice s2 N d2) rfl rfl HZa2.out rfl rfl rfl ?_
   intro w4 HV4 HG4
   have hne4 : (Value.slice s2 N d2).ownBlock ≠ some (w2.heap.size) := own_lt HO2.out
   have HO4 : Hid (w4.ownsRow w1.heap.size 5 1 (.slice s2 N d2) N (row N (pkf F f c)).toList) := qe4 HOa2.out HG4.out hne4
   have HW4 : Hid (Vr w4 w.heap.size (.int .i64 (r : Int)) (.int .i64 (c : Int)) (.slice a n k)) := HVa2.out.kept HG4.out (by have := HV2.out.lt; omega)
   refine hKK.out _ _ ⟨HW4.out.c0, HW4.out.c1, HW4.out.c2⟩ (fun _ => ?_)
   clear hKK KK
   try simp only [mz1, mz2, mz3, Act.put]
   refine wtkq 9 ?vq6 rfl (by kernel_rfl) (fun _ _ _ h => h) (by rfl) ?yq6 ⟨HW4.out.c0, HW4.out.c1, HW4.out.c2⟩ ?zq6
   case yq6 => (intro w hSw; (try dsimp only at hSw); go_simp; try with_reducible rfl)
   try simp only [mz1, mz2, mz3, Act.put, mz4, mz5, mz6]
   refine wpAnyH_done (by kernel_rfl) ?_ _
   have HP4 : Hid (Sl w4 s2 N (pkf F f c)) := qcj HO4.out HPF.out
   have HN4 : Hid (s2 = none → N = 0 ∧ d2 = 0) := qbq HO4.out
   have x0 := HV4.out.c0
   have x1 := HV4.out.c1
   have x2 := HV4.out.c2
   have HB4 : Hid (Below w.heap.size w w4) := HBa2.out.trans (jbelow HG4.out HBa2.out.size (fun g e => by cases e; have := HV2.out.lt; omega))
   go_wp2_with (go_at_call 81; refine (qe9 _ K c N d2 s2 (pkf F f c) HP4.out HN4.out HRk.out).mono ?_; rintro e w5 ⟨t, rfl, hk, hb5⟩; have HT : Hid (RS (m2 F r c) r s t) := HConv.out t hk; have HB5 : Hid (Below w.heap.size w w5) := qa0 HB4.out hb5; clear hk hb5)
   go_ret
   exact ⟨t, rfl, HT.out, HB5.out⟩
  ·go_simp
   have HZa1 : Hid (Vr (w1.alloc (.cells #[.int .i64 0, .int .i64 0, .slice none 0 0] 24)) w1.heap.size (.int .i64 0) (.int .i64 0) (.slice none 0 0)) := Vr.new _ _ _ _
   have HBa1 : Hid (Below w.heap.size w (w1.alloc (.cells #[.int .i64 0, .int .i64 0, .slice none 0 0] 24))) := qa0 HB1.out (qa1 _ _)
   have HVa1 : Hid (Vr (w1.alloc (.cells #[.int .i64 0, .int .i64 0, .slice none 0 0] 24)) w.heap.size (.int .i64 (r : Int)) (.int .i64 (c : Int)) (.slice a n k)) := HV1.out.later (qa1 _ _)
   have HIa1 : Hid (Il (w1.alloc (.cells #[.int .i64 0, .int .i64 0, .slice none 0 0] 24)) xs1 K (fun i => (f i : Int))) := HI1.out.later (qa1 _ _)
   refine hKK.out _ _ ⟨HVa1.out.c0, HVa1.out.c1, HVa1.out.c2⟩ (fun _ => ?_)
   clear hKK KK
   try simp only [mz1, mz2, mz3, Act.put, mz4, mz5, mz6]
   refine wpAnyH_ready (rs := [3]) (by kernel_rfl) (by simp) ?_
   refine AllReadyH.cons rfl (fun KK hKK => ?_) AllReadyH.nil
   go_simp
   refine (qcs _ r c n k K d1 N a xs1 F f (HA.out.later HBa1.out) HRt.out HIa1.out HFr.out (by omega) HN).mono ?_
   rintro e w2 ⟨s2, d2, rfl, ho2, hb2⟩
   have HB2 : Hid (Below w.heap.size w w2) := qa0 HBa1.out hb2
   have HV2 : Hid (Vr w2 w.heap.size (.int .i64 (r : Int)) (.int .i64 (c : Int)) (.slice a n k)) := HVa1.out.later hb2
   have HO2 : Hid (w2.ownsRow (w1.alloc (.cells #[.int .i64 0, .int .i64 0, .slice none 0 0] 24)).heap.size 5 1 (.slice s2 N d2) N (row N (pkf F f c)).toList) := ho2
   have HZ2 : Hid (Vr w2 w1.heap.size (.int .i64 0) (.int .i64 0) (.slice none 0 0)) := HZa1.out.later hb2
   have hbz : w1.heap.size < (w1.alloc (.cells #[.int .i64 0, .int .i64 0, .slice none 0 0] 24)).heap.size := HZa1.out.lt
   clear ho2 hb2
   refine hKK.out _ _ ⟨HV2.out.c0, HV2.out.c1, HV2.out.c2⟩ (fun _ => ?_)
   clear hKK KK
   try simp only [mz1, mz2, mz3, Act.put, mz4, mz5, mz6]
   refine wtkq 4 ?vq7 rfl (by kernel_rfl) (fun _ _ _ h => h) (by rfl) ?yq7 ⟨HV2.out.c0, HV2.out.c1, HV2.out.c2⟩ ?zq7
   case yq7 => (intro w hSw; (try dsimp only at hSw); go_simp; try with_reducible rfl)
   try simp only [mz1, mz2, mz3, Act.put, mz4, mz5, mz6]
   refine wtkq 5 ?vq8 rfl (by kernel_rfl) (fun _ _ _ h => h) (by rfl) ?yq8 ⟨HV2.out.c0, HV2.out.c1, HV2.out.c2⟩ ?zq8
   case yq8 => (intro w hSw; (try dsimp only at hSw); go_simp; try with_reducible rfl)
   try simp only [mz1, mz2, mz3, Act.put, mz4, mz5, mz6]
   refine wtkq 6 ?vq9 rfl (by kernel_rfl) (fun _ _ _ h => h) (by rfl) ?yq9 ⟨HV2.out.c0, HV2.out.c1, HV2.out.c2⟩ ?zq9
   case yq9 => (intro w hSw; (try dsimp only at hSw); go_simp; try with_reducible rfl)
   try simp only [mz1, mz2, mz3, Act.put, mz4, mz5, mz6]
   refine wpAnyH_ready (rs := [8]) (by kernel_rfl) (by simp) ?_
   refine AllReadyH.cons rfl (fun KK hKK => ?_) AllReadyH.nil
   refine qal rfl _ _ rfl (w1.heap.size) _ _ _ (.int .i64 (K : Int)) (.int .i64 (c : Int)) (.slice s2 N d2) rfl rfl HZ2.out rfl rfl rfl ?_
   intro w4 HV4 HG4
   have hne4 : (Value.slice s2 N d2).ownBlock ≠ some (w1.heap.size) := fun e => by have := qaa HO2.out _ e; omega
   have HO4 : Hid (w4.ownsRow (w1.alloc (.cells #[.int .i64 0, .int .i64 0, .slice none 0 0] 24)).heap.size 5 1 (.slice s2 N d2) N (row N (pkf F f c)).toList) := qe4 HO2.out HG4.out hne4
   have HW4 : Hid (Vr w4 w.heap.size (.int .i64 (r : Int)) (.int .i64 (c : Int)) (.slice a n k)) := HV2.out.kept HG4.out (by have := HV1.out.lt; omega)
   refine hKK.out _ _ ⟨HW4.out.c0, HW4.out.c1, HW4.out.c2⟩ (fun _ => ?_)
   clear hKK KK
   try simp only [mz1, mz2, mz3, Act.put]
   refine wtkq 9 ?vq10 rfl (by kernel_rfl) (fun _ _ _ h => h) (by rfl) ?yq10 ⟨HW4.out.c0, HW4.out.c1, HW4.out.c2⟩ ?zq10
   case yq10 => (intro w hSw; (try dsimp only at hSw); go_simp; try with_reducible rfl)
   try simp only [mz1, mz2, mz3, Act.put, mz4, mz5, mz6]
   refine wpAnyH_done (by kernel_rfl) ?_ _
   have HP4 : Hid (Sl w4 s2 N (pkf F f c)) := qcj HO4.out HPF.out
   have HN4 : Hid (s2 = none → N = 0 ∧ d2 = 0) := qbq HO4.out
   have x0 := HV4.out.c0
   have x1 := HV4.out.c1
   have x2 := HV4.out.c2
   have HB4 : Hid (Below w.heap.size w w4) := HB2.out.trans (jbelow HG4.out HB2.out.size (fun g e => by cases e; have := HV1.out.lt; omega))
   go_wp2_with (go_at_call 81; refine (qe9 _ K c N d2 s2 (pkf F f c) HP4.out HN4.out HRk.out).mono ?_; rintro e w5 ⟨t, rfl, hk, hb5⟩; have HT : Hid (RS (m2 F r c) r s t) := HConv.out t hk; have HB5 : Hid (Below w.heap.size w w5) := qa0 HB4.out hb5; clear hk hb5)
   go_ret
   exact ⟨t, rfl, HT.out, HB5.out⟩
 ·go_simp
  have HZa0 : Hid (Vr (W0.alloc (.cells #[.int .i64 0, .int .i64 0, .slice none 0 0] 24)) W0.heap.size (.int .i64 0) (.int .i64 0) (.slice none 0 0)) := Vr.new _ _ _ _
  have HBa0 : Hid (Below w.heap.size w (W0.alloc (.cells #[.int .i64 0, .int .i64 0, .slice none 0 0] 24))) := qa0 HB0.out (qa1 _ _)
  have HVa0 : Hid (Vr (W0.alloc (.cells #[.int .i64 0, .int .i64 0, .slice none 0 0] 24)) w.heap.size (.int .i64 (r : Int)) (.int .i64 (c : Int)) (.slice a n k)) := HX0.out.later (qa1 _ _)
  refine hKK.out _ _ ⟨HVa0.out.c0, HVa0.out.c1, HVa0.out.c2⟩ (fun _ => ?_)
  clear hKK KK
  try simp only [mz1, mz2, mz3, Act.put, mz4, mz5, mz6]
  refine wpAnyH_ready (rs := [2]) (by kernel_rfl) (by simp) ?_
  refine AllReadyH.cons rfl (fun KK hKK => ?_) AllReadyH.nil
  go_simp
  refine (HL.out _).mono ?_
  rintro e w1 ⟨xs1, d1, rfl, hj1, hb1⟩
  have HI1 : Hid (Il w1 xs1 K (fun i => (f i : Int))) := hj1
  have HB1 : Hid (Below w.heap.size w w1) := qa0 HBa0.out hb1
  have HV1 : Hid (Vr w1 w.heap.size (.int .i64 (r : Int)) (.int .i64 (c : Int)) (.slice a n k)) := HVa0.out.later hb1
  have HZ1 : Hid (Vr w1 W0.heap.size (.int .i64 0) (.int .i64 0) (.slice none 0 0)) := HZa0.out.later hb1
  clear hj1 hb1
  refine hKK.out _ _ ⟨HV1.out.c0, HV1.out.c1, HV1.out.c2⟩ (fun _ => ?_)
  clear hKK KK
  try simp only [mz1, mz2, mz3, Act.put, mz4, mz5, mz6]
  refine wpAnyH_ready (rs := [3]) (by kernel_rfl) (by simp) ?_
  refine AllReadyH.cons rfl (fun KK hKK => ?_) AllReadyH.nil
  go_simp
  refine (qcs _ r c n k K d1 N a xs1 F f (HA.out.later HB1.out) HRt.out HI1.out HFr.out (by omega) HN).mono ?_
  rintro e w2 ⟨s2, d2, rfl, ho2, hb2⟩
  have HB2 : Hid (Below w.heap.size w w2) := qa0 HB1.out hb2
  have HV2 : Hid (Vr w2 w.heap.size (.int .i64 (r : Int)) (.int .i64 (c : Int)) (.slice a n k)) := HV1.out.later hb2
  have HO2 : Hid (w2.ownsRow w1.heap.size 5 1 (.slice s2 N d2) N (row N (pkf F f c)).toList) := ho2
  have HZ2 : Hid (Vr w2 W0.heap.size (.int .i64 0) (.int .i64 0) (.slice none 0 0)) := HZ1.out.later hb2
  have hbz : W0.heap.size < w1.heap.size := HZ1.out.lt
  clear ho2 hb2
  refine hKK.out _ _ ⟨HV2.out.c0, HV2.out.c1, HV2.out.c2⟩ (fun _ => ?_)
  clear hKK KK
  try simp only [mz1, mz2, mz3, Act.put, mz4, mz5, mz6]
  refine wtkq 4 ?vq11 rfl (by kernel_rfl) (fun _ _ _ h => h) (by rfl) ?yq11 ⟨HV2.out.c0, HV2.out.c1, HV2.out.c2⟩ ?zq11
  case yq11 => (intro w hSw; (try dsimp only at hSw); go_simp; try with_reducible rfl)
  try simp only [mz1, mz2, mz3, Act.put, mz4, mz5, mz6]
  refine wtkq 5 ?vq12 rfl (by kernel_rfl) (fun _ _ _ h => h) (by rfl) ?yq12 ⟨HV2.out.c0, HV2.out.c1, HV2.out.c2⟩ ?zq12
  case yq12 => (intro w hSw; (try dsimp only at hSw); go_simp; try with_reducible rfl)
  try simp only [mz1, mz2, mz3, Act.put, mz4, mz5, mz6]
  refine wtkq 6 ?vq13 rfl (by kernel_rfl) (fun _ _ _ h => h) (by rfl) ?yq13 ⟨HV2.out.c0, HV2.out.c1, HV2.out.c2⟩ ?zq13
  case yq13 => (intro w hSw; (try dsimp only at hSw); go_simp; try with_reducible rfl)
  try simp only [mz1, mz2, mz3, Act.put, mz4, mz5, mz6]
  refine wpAnyH_ready (rs := [8]) (by kernel_rfl) (by simp) ?_
  refine AllReadyH.cons rfl (fun KK hKK => ?_) AllReadyH.nil
  refine qal rfl _ _ rfl (W0.heap.size) _ _ _ (.int .i64 (K : Int)) (.int .i64 (c : Int)) (.slice s2 N d2) rfl rfl HZ2.out rfl rfl rfl ?_
  intro w4 HV4 HG4
  have hne4 : (Value.slice s2 N d2).ownBlock ≠ some (W0.heap.size) := fun e => by have := qaa HO2.out _ e; omega
  have HO4 : Hid (w4.ownsRow w1.heap.size 5 1 (.slice s2 N d2) N (row N (pkf F f c)).toList) := qe4 HO2.out HG4.out hne4
  have HW4 : Hid (Vr w4 w.heap.size (.int .i64 (r : Int)) (.int .i64 (c : Int)) (.slice a n k)) := HV2.out.kept HG4.out (by have := HX0.out.lt; omega)
  refine hKK.out _ _ ⟨HW4.out.c0, HW4.out.c1, HW4.out.c2⟩ (fun _ => ?_)
  clear hKK KK
  try simp only [mz1, mz2, mz3, Act.put]
  refine wtkq 9 ?vq14 rfl (by kernel_rfl) (fun _ _ _ h => h) (by rfl) ?yq14 ⟨HW4.out.c0, HW4.out.c1, HW4.out.c2⟩ ?zq14
  case yq14 => (intro w hSw; (try dsimp only at hSw); go_simp; try with_reducible rfl)
  try simp only [mz1, mz2, mz3, Act.put, mz4, mz5, mz6]
  refine wpAnyH_done (by kernel_rfl) ?_ _
  have HP4 : Hid (Sl w4 s2 N (pkf F f c)) := qcj HO4.out HPF.out
  have HN4 : Hid (s2 = none → N = 0 ∧ d2 = 0) := qbq HO4.out
  have x0 := HV4.out.c0
  have x1 := HV4.out.c1
  have x2 := HV4.out.c2
  have HB4 : Hid (Below w.heap.size w w4) := HB2.out.trans (jbelow HG4.out HB2.out.size (fun g e => by cases e; have := HX0.out.lt; omega))
  go_wp2_with (go_at_call 81; refine (qe9 _ K c N d2 s2 (pkf F f c) HP4.out HN4.out HRk.out).mono ?_; rintro e w5 ⟨t, rfl, hk, hb5⟩; have HT : Hid (RS (m2 F r c) r s t) := HConv.out t hk; have HB5 : Hid (Below w.heap.size w w5) := qa0 HB4.out hb5; clear hk hb5)
  go_ret
  exact ⟨t, rfl, HT.out, HB5.out⟩
open Go.RowKit
/-- Why a matrix and a set may not be. -/
def BadE (r c : Int) (n s : Nat) (E : Int) : Prop := (¬ RightP r c n ∧ E = 3) ∨ (RightP r c n ∧ ¬ s < 2 ^ r.toNat ∧ E = 2)
theorem rbad_e (w : World) (r c E : Int) (n k s : Nat) (a : Option Addr) (hs6 : s < 18446744073709551616) (h : BadE r c n s E) :
  Calls Tryz.prog 80 #[mv r c a n k, .int .u64 (s : Int)] w fun e w' => e = .returned (.int .i64 E) ∧ Below w.heap.size w w' := by
 rcases h with ⟨h1, rfl⟩ | ⟨h1, h2, rfl⟩
 ·exact qgv w r c n k s a h1
 ·obtain ⟨r', c', rfl, rfl, R⟩ := right_rt h1
  exact rbad_arg w r' c' n k s a R hs6 h2
theorem BadE.ne {r c E : Int} {n s : Nat} (h : BadE r c n s E) : (E == 0) = false := by
 rcases h with ⟨_, rfl⟩ | ⟨_, _, rfl⟩ <;> rfl
theorem qit (w : World) (r c E : Int) (n k s : Nat) (a : Option Addr) (hs6 : s < 18446744073709551616) (h : BadE r c n s E) :
  Calls Tryz.prog 51 #[mv r c a n k, .int .u64 (s : Int)] w fun e w' => e = .returned (.tuple #[.int .i64 0, .int .i64 E]) ∧ Below w.heap.size w w' := by
 have HC : Hid (∀ w' : World, Calls Tryz.prog 80 #[mv r c a n k, .int .u64 (s : Int)] w' fun e w'' => e = .returned (.int .i64 E) ∧ Below w'.heap.size w' w'') := fun w' => rbad_e w' r c E n k s a hs6 h
 have hE := h.ne
 clear h hs6
 go_enter Tryz.func51, Tryz.ntmps51
 go_wp2_with (go_at_call 80; refine (HC.out _).mono ?_; rintro e w1 ⟨rfl, hb⟩; have HB1 : Hid (Below w.heap.size w w1) := qa0 (qa1 _ _) hb; clear hb)
 go_ret2
 exact ⟨rfl, HB1.out⟩
theorem qg8 (w : World) (r c n k s : Nat) (a : Option Addr) (F : Nat → Nat) (ha : Sl w a n F) (R : Rt r c n) (hs : s < 2 ^ r) :
  Calls Tryz.prog 51 #[mv r c a n k, .int .u64 (s : Int)] w fun e w' => ∃ t : Nat, e = .returned (.tuple #[.int .i64 (t : Int), .int .i64 0]) ∧ RS (m2 F r c) r s t ∧ Below w.heap.size w w' := by
 have HC : Hid (∀ w' : World, Calls Tryz.prog 80 #[mv r c a n k, .int .u64 (s : Int)] w' fun e w'' => e = .returned (.int .i64 0) ∧ Below w'.heap.size w' w'') := fun w' => rbad_ok w' r c n k s a R hs
 have HK : Hid (∀ w' : World, Below w.heap.size w w' → Calls Tryz.prog 52 #[mv r c a n k, .int .u64 (s : Int)] w' fun e w'' => ∃ t : Nat, e = .returned (.int .i64 (t : Int)) ∧ RS (m2 F r c) r s t ∧ Below w'.heap.size w' w'') := fun w' hb => qdc w' r c n k s a F (ha.later hb) R hs
 clear ha R hs
 go_enter Tryz.func51, Tryz.ntmps51
 go_wp2_with (first
  | (go_at_call 80; refine (HC.out _).mono ?_; rintro e w1 ⟨rfl, hb⟩; have HV1 := (Vr.new w (.int .i64 (r : Int)) (.int .i64 (c : Int)) (.slice a n k)).later hb; have v0 := HV1.c0; have v1 := HV1.c1; have v2 := HV1.c2; have HB1 : Hid (Below w.heap.size w w1) := qa0 (qa1 _ _) hb; clear hb HV1)
  | (go_at_call 52; refine (HK.out _ HB1.out).mono ?_; rintro e w2 ⟨t, rfl, ht, hb⟩; have HT : Hid (RS (m2 F r c) r s t) := ht; have HB2 : Hid (Below w.heap.size w w2) := qa0 HB1.out hb; clear hb ht))
 go_ret2
 exact ⟨t, rfl, HT.out, HB2.out⟩
end Go.Proofs.YtlmanliinncdiaaGreat
