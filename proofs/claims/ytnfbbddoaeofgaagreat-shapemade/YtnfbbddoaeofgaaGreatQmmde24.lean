/-
  Contracts of the generators' reference: Cauchy's errors.
  Degrees, values, roots and divisors of polynomials: no Go in sight.
  Matrices that send nothing but nothing to nothing: Vandermonde's, Cauchy's, and the identity above Cauchy's.
  Divisors of polynomials, and the greatest common one: no Go in sight.
  Lagrange's polynomials: no Go in sight.
  What a check's rows tell.
  Any k rows of the generators; what a check's rows tell.
  Contracts of the generators' reference: fits, Reed.
  Contract of the generators' reference: Cross.
-/
import Derived.Test.YtnfbbddoaeofgaaGreatQmmde00
import Derived.Test.YtnfbbddoaeofgaaGreatQmmde23
import Derived.Test.YtnfbbddoaeofgaaGreatQmmde02
import Derived.Test.YtnfbbddoaeofgaaGreatQmmde04
set_option maxRecDepth 100000
set_option maxHeartbeats 16000000
namespace Go.Proofs.YtnfbbddoaeofgaaGreat

/-- No coefficient from n on. -/
def Above (n : Nat) (p : Nat → Nat) : Prop := ∀ i, n ≤ i → p i = 0
theorem Above.mono {n m : Nat} {p : Nat → Nat} (h : Above n p) (hnm : n ≤ m) : Above m p := fun i hi => h i (by omega)
theorem Above.pa {n : Nat} {p q : Nat → Nat} (hp : Above n p) (hq : Above n q) : Above n (pa p q) := fun i hi => by
 show p i ^^^ q i = 0
 rw [hp i hi, hq i hi]; rfl
theorem pm_above {n m : Nat} {p q : Nat → Nat} (hp : Above n p) (hq : Above m q) (i : Nat) (hi : n + m ≤ i + 1) : pm p q i = 0 := by
 refine qao (fun k _ => ?_)
 by_cases h : n ≤ k
 ·rw [hp k h, qad]
 ·rw [hq (i - k) (by omega), qaa]
theorem Above.pm {n m : Nat} {p q : Nat → Nat} (hp : Above n p) (hq : Above m q) : Above (n + m) (pm p q) := fun i hi => pm_above hp hq i (by omega)
theorem top_exists {N : Nat} {p : Nat → Nat} (h : Above N p) : (∀ i, p i = 0) ∨ ∃ n, n < N ∧ p n ≠ 0 ∧ Above (n + 1) p := by
 induction N with
 | zero => exact .inl (fun i => h i (by omega))
 | succ N ih =>
  by_cases e : p N = 0
  ·have h' : Above N p := fun i hi => by
    by_cases ei : i = N
    ·rw [ei]; exact e
    ·exact h i (by omega)
   rcases ih h' with h0 | ⟨n, hn, h1, h2⟩
   ·exact .inl h0
   ·exact .inr ⟨n, by omega, h1, h2⟩
  ·exact .inr ⟨N, by omega, e, h⟩
theorem qc9 (a b : Nat) : a ^^^ b = 0 ↔ a = b := by
 constructor
 ·intro h
  have : a ^^^ b ^^^ b = 0 ^^^ b := by rw [h]
  rw [Nat.xor_assoc, Nat.xor_self, Nat.xor_zero, Nat.zero_xor] at this
  exact this
 ·rintro rfl; exact Nat.xor_self a
/-! ### Values -/
theorem fpow_add (x a b : Nat) : fpow x (a + b) = fm (fpow x a) (fpow x b) := by
 induction b with
 | zero => rw [Nat.add_zero]; simp only [fpow]; rw [qax _ (qba x a)]
 | succ b ih => rw [← Nat.add_assoc]; simp only [fpow]; rw [ih, qai _ _ _ (qba x a) (qba x b)]
/-- The value of a polynomial of n coefficients at x. -/
def ev (p : Nat → Nat) (n x : Nat) : Nat := xs (fun i => fm (p i) (fpow x i)) n
theorem ev_lt {p : Nat → Nat} (hp : El p) (n x : Nat) : ev p n x < 256 := qeo (fun k _ => qam _ _ (hp k))
theorem qkg {p : Nat → Nat} {n m : Nat} (hp : Above n p) (h : n ≤ m) (x : Nat) : ev p m x = ev p n x :=
 qji h (fun k h1 _ => by rw [hp k h1, qad])
theorem ev_congr {p q : Nat → Nat} {n : Nat} (h : ∀ i, i < n → p i = q i) (x : Nat) : ev p n x = ev q n x := qa8 (fun k hk => by rw [h k hk])
theorem ev_pm {p q : Nat → Nat} {n m x : Nat} (hp : El p) (hq : El q) (hn : Above n p) (hm : Above m q) : ev (pm p q) (n + m) x = fm (ev p n x) (ev q m x) := by
 have e1 : ev (pm p q) (n + m) x = xs (fun i => xs (fun a => xs (fun b => if a + b = i then fm (fm (p a) (q b)) (fpow x i) else 0) (n + m)) (n + m)) (n + m) := by
  refine qa8 (fun i hi => ?_)
  rw [pm_pairs p q i (n + m) hi, qce _ _ _ (fun a _ => qeo (fun b _ => qfo _ _ (qam _ _ (hp a))))]
  refine qa8 (fun a _ => ?_)
  rw [qce _ _ _ (fun b _ => qfo _ _ (qam _ _ (hp a)))]
  exact qa8 (fun b _ => fm_ite _ _ _)
 rw [e1, qe1]
 have e2 : ∀ a, a < n + m → xs (fun i => xs (fun b => if a + b = i then fm (fm (p a) (q b)) (fpow x i) else 0) (n + m)) (n + m) = xs (fun b => fm (fm (p a) (fpow x a)) (fm (q b) (fpow x b))) (n + m) := by
  intro a ha
  rw [qe1]
  refine qa8 (fun b hb => ?_)
  by_cases h : a + b < n + m
  ·rw [qb6 (k0 := a + b) h (fun i _ hi => if_neg (by omega)), if_pos rfl, fpow_add x a b]
   rw [qai _ _ _ (hp a) (hq b), qai _ _ _ (hp a) (qba x a)]
   rw [← qai (q b) _ _ (hq b) (qba x a), qan (q b) _ (hq b) (qba x a), qai _ _ _ (qba x a) (hq b)]
  ·rw [qao (fun i hi => if_neg (by omega))]
   by_cases h2 : n ≤ a
   ·rw [hn a h2, qad, qad]
   ·rw [hm b (by omega), qad, qaa]
 rw [qa8 e2]
 rw [← qkg hn (by omega : n ≤ n + m) x, ← qkg hm (by omega : m ≤ n + m) x]
 unfold ev
 rw [qce _ _ _ (fun k _ => qam _ _ (hp k))]
 exact qa8 (fun a _ => (qcd _ _ _).symm)

/-! ### Roots -/
/-- x and r. -/
def lin (r : Nat) (i : Nat) : Nat := if i = 0 then r else if i = 1 then 1 else 0
theorem lin_el {r : Nat} (h : r < 256) : El (lin r) := fun i => by unfold lin; split; exact h; split <;> decide
theorem qfx (r : Nat) : Above 2 (lin r) := fun i hi => by unfold lin; rw [if_neg (by omega), if_neg (by omega)]
theorem ev_lin (r x : Nat) (hr : r < 256) (hx : x < 256) : ev (lin r) 2 x = r ^^^ x := by
 simp only [ev, xs, lin, fpow, Nat.zero_xor]
 simp only [if_true, if_neg (show ¬ 1 = 0 by decide)]
 rw [qax r hr, qb5 x hx, qb5 x hx]
theorem lin_pm (r : Nat) (q : Nat → Nat) (hq : El q) : (∀ i, pm (lin r) q (i + 1) = fm r (q (i + 1)) ^^^ q i) ∧ pm (lin r) q 0 = fm r (q 0) := by
 constructor
 ·intro i
  have z : xs (fun k => fm (lin r (k + 1 + 1)) (q (i + 1 - (k + 1 + 1)))) i = 0 := qao (fun k _ => by
   rw [show lin r (k + 1 + 1) = 0 from qfx r _ (by omega), qad])
  unfold pm
  rw [qf4, qf4, z, Nat.xor_zero]
  show fm (lin r 0) (q (i + 1 - 0)) ^^^ fm (lin r 1) (q (i + 1 - 1)) = _
  rw [show lin r 0 = r from rfl, show lin r 1 = 1 from rfl, Nat.sub_zero, Nat.add_sub_cancel, qb5 _ (hq i)]
 ·simp only [pm, xs, Nat.zero_xor]
  rfl
/-- A root splits off a factor. -/
theorem factor {n : Nat} {p : Nat → Nat} {r : Nat} (hp : El p) (hr : r < 256) (hn : Above (n + 1) p) (h0 : ev p (n + 1) r = 0) : ∃ q, El q ∧ Above n q ∧ ∀ i, p i = pm (lin r) q i := by
 -- q i: the sum of p (i + 1 + j) times r to the power j
 refine ⟨fun i => xs (fun j => fm (p (i + 1 + j)) (fpow r j)) (n - i), fun i => qeo (fun k _ => qam _ _ (hp _)), fun i hi => by show xs _ (n - i) = 0; rw [show n - i = 0 by omega]; rfl, ?_⟩
 have hel : El (fun i => xs (fun j => fm (p (i + 1 + j)) (fpow r j)) (n - i)) := fun i => qeo (fun k _ => qam _ _ (hp _))
 have step : ∀ i k, fm r (xs (fun j => fm (p (i + 1 + j)) (fpow r j)) k) = xs (fun j => fm (p (i + 1 + j)) (fpow r (j + 1))) k := by
  intro i k
  rw [qcd]
  refine qa8 (fun j _ => ?_)
  simp only [fpow]
  rw [← qai r _ _ hr (hp _), qan r _ hr (hp _), qai _ _ _ (hp _) hr, qan r _ hr (qba r j)]
 have head : ∀ i k, xs (fun j => fm (p (i + j)) (fpow r j)) (k + 1) = p i ^^^ xs (fun j => fm (p (i + 1 + j)) (fpow r (j + 1))) k := by
  intro i k
  rw [qf4]
  show fm (p (i + 0)) (fpow r 0) ^^^ _ = _
  rw [show fpow r 0 = 1 from rfl, Nat.add_zero, qax _ (hp i)]
  congr 1
  refine qa8 (fun j _ => ?_)
  rw [show i + (j + 1) = i + 1 + j by omega]
 intro i
 cases i with
 | zero =>
  rw [(lin_pm r _ hel).2]
  show p 0 = fm r (xs (fun j => fm (p (0 + 1 + j)) (fpow r j)) (n - 0))
  rw [step, Nat.sub_zero]
  have e := head 0 n
  have e2 : xs (fun j => fm (p (0 + j)) (fpow r j)) (n + 1) = 0 := by
   exact (qa8 (fun k _ => by rw [Nat.zero_add])).trans h0
  rw [e2] at e
  exact (qc9 _ _).mp e.symm
 | succ i =>
  rw [(lin_pm r _ hel).1 i]
  show p (i + 1) = fm r (xs (fun j => fm (p (i + 1 + 1 + j)) (fpow r j)) (n - (i + 1))) ^^^ xs (fun j => fm (p (i + 1 + j)) (fpow r j)) (n - i)
  rw [step]
  by_cases h : i < n
  ·rw [show n - i = n - (i + 1) + 1 by omega, head (i + 1) (n - (i + 1)), Nat.xor_comm (p (i + 1)), ← Nat.xor_assoc, Nat.xor_self, Nat.zero_xor]
  ·rw [show n - (i + 1) = 0 by omega, show n - i = 0 by omega, hn (i + 1) (by omega)]
   simp [xs]
/-- n roots, all unlike, of a polynomial with n coefficients: it is 0. -/
theorem qiz (n : Nat) : ∀ (p rt : Nat → Nat), El p → Above n p → (∀ k, k < n → rt k < 256) → (∀ j k, j < n → k < n → rt j = rt k → j = k) → (∀ k, k < n → ev p n (rt k) = 0) → ∀ i, p i = 0 := by
 induction n with
 | zero => intro p rt _ ha _ _ _ i; exact ha i (by omega)
 | succ n ih =>
  intro p rt hp ha hb hi hr i
  obtain ⟨q, hq, hqa, hpq⟩ := factor hp (hb n (by omega)) ha (hr n (by omega))
  have hz : ∀ i, q i = 0 := by
   refine ih q rt hq hqa (fun k hk => hb k (by omega)) (fun j k hj hk => hi j k (by omega) (by omega)) (fun k hk => ?_)
   have e := hr k (by omega)
   have e2 : ev p (2 + n) (rt k) = 0 := by rw [qkg ha (by omega)]; exact e
   rw [ev_congr (q := pm (lin (rt n)) q) (fun i _ => hpq i), ev_pm (lin_el (hb n (by omega))) hq (qfx _) hqa, ev_lin _ _ (hb n (by omega)) (hb k (by omega))] at e2
   rcases (qig _ _ (qb1 _ _ (hb n (by omega)) (hb k (by omega))) (ev_lt hq _ _)).mp e2 with h | h
   ·have := hi n k (by omega) (by omega) ((qc9 _ _).mp h)
    omega
   ·exact h
  rw [hpq i]
  exact qao (fun k _ => by rw [hz, qaa])
/-- A matrix that sends nothing else to nothing has rank as many as columns. -/
theorem qkh {N : Nat → Nat → Nat} (hN : El2 N) {r c : Nat} (hc : ∀ i j, i < r → c ≤ j → N i j = 0) (h : ∀ x, El x → (∀ i, i < r → dt (N i) x c = 0) → ∀ j, j < c → x j = 0) : Rk N r c := by
 have hT : Rk (tpo N r) c c := by
  refine ⟨tpo N r, tpo_el hN r, fun a ha hz j hj => ?_, SpEq.refl (tpo_el hN r) c⟩
  refine h a ha (fun i hi => ?_) j hj
  rw [← hz i]
  exact qa8 (fun t ht => by unfold tpo; rw [if_pos hi, qan _ _ (hN i t) (ha t)])
 obtain ⟨k, hk⟩ := rk_ex hN r
 have := rk_tpo hc hk hT
 subst this
 exact hk
/-- Powers of unlike elements. -/
theorem vdm_ker {q : Nat → Nat} {k : Nat} (hq : ∀ i, i < k → q i < 256) (hi : ∀ i j, i < k → j < k → q i = q j → i = j) {x : Nat → Nat} (hx : El x) (h : ∀ i, i < k → dt (fpow (q i)) x k = 0) : ∀ j, j < k → x j = 0 := fun j hj => by
 have hp : El (fun j => if j < k then x j else 0) := fun j => qfo _ _ (hx j)
 have := qiz k (fun j => if j < k then x j else 0) q hp (fun i hi => if_neg (by omega)) hq hi (fun i hik => by
  rw [← h i hik]
  exact qa8 (fun t ht => by dsimp only; rw [if_pos ht, qan _ _ (hx t) (qba _ _)])) j
 simpa [hj] using this
/-- A constant. -/
def kc (c i : Nat) : Nat := if i = 0 then c else 0
open Go.RowKit
theorem qfy (w : World) (k m : Nat) (hk : 1 ≤ k) (h : k + m ≤ 64) : Calls Tryz.prog 74 #[.int .i64 (k : Int), .int .i64 (m : Int)] w fun e w' => e = .returned (.bool true) ∧ w = w' := by
 have g1 : decide (1 ≤ k) = true := by simpa using hk
 have g2 : decide (k ≤ 64) = true := by simp; omega
 have g3 : decide (m ≤ 64) = true := by simp; omega
 have e1 : IntKind.i64.wrap ((k : Int) + (m : Int)) = (k : Int) + (m : Int) := by rw [IntKind.wrap_i64]; omega
 have g4 : decide ((k : Int) + (m : Int) ≤ 64) = true := by simp; omega
 go_enter Tryz.func74, Tryz.ntmps74
 go_wp2
 go_ret
 exact ⟨rfl, rfl⟩
theorem vdf_m2 {r k i : Nat} (hi : i < r) {x : Nat → Nat} : dt (m2 (vdf k) r k i) x k = dt (fpow i) x k := qh8 (fun j hj => by rw [qaw _ hi hj, qk4 hj])
/-- The first k rows of Vandermonde's matrix have an inverse. -/
theorem qgj {k : Nat} (hk : k ≤ 64) : Rk (m2 (vdf k) k k) k k :=
 qkh (qbu (n := k * k) (fun p _ => qhn k p) ⟨hk, hk, rfl⟩) (fun i j _ hj => qar _ hj) (fun x hx h => vdm_ker (q := fun i => i) (fun i hi => by show i < 256; omega) (fun i j _ _ e => e) hx (fun i hi => by rw [← h i hi]; exact (vdf_m2 hi).symm))
theorem rreed_ok (w : World) (k m n : Nat) (hk : 1 ≤ k) (h : k + m ≤ 64) (HN : Hid ((k + m) * k = n)) :
  Calls Tryz.prog 36 #[.int .i64 (k : Int), .int .i64 (m : Int)] w fun e w' => ∃ g X, e = .returned (.tuple #[mv ((k + m : Nat) : Int) k (some ⟨g, 0, none⟩) n n, .int .i64 0]) ∧ RowAt w' g 5 n (prk (vdf k) X k k k) ∧ (∀ q, q < k * k → X q < 256) ∧ (∀ i j, i < k → j < k → pr (m2 (vdf k) k k) (m2 X k k) k i j = dl i j) ∧ w.heap.size ≤ g ∧ Below w.heap.size w w' := by
 obtain ⟨r, HRR⟩ : ∃ r, Hid (k + m = r) := ⟨_, rfl⟩
 have hrr := HRR.out
 rw [hrr] at h HN ⊢
 have HRt : Hid (Rt r k n) := ⟨h, by omega, HN.out⟩
 have e1 : IntKind.i64.wrap ((k : Int) + (m : Int)) = (r : Int) := by rw [IntKind.wrap_i64]; omega
 have HV0 : Hid (Vr (w.alloc (.cells #[.int .i64 0, .int .i64 0, .slice none 0 0] 24)) w.heap.size (.int .i64 0) (.int .i64 0) (.slice none 0 0)) := Vr.new w _ _ _
 have hkr : k ≤ r := by omega
 have hk64 : k ≤ 64 := by omega
 have hkm : k + m ≤ 64 := by omega
 have HKm : Hid (k + m ≤ 64) := hkm
 clear hrr hkm
 go_enter Tryz.func36, Tryz.ntmps36
 go_wp2_with (first
  | (go_at_call 74; refine (qfy _ k m hk HKm.out).mono ?_; rintro e w' ⟨rfl, rfl⟩)
  | (go_at_call 75; refine (rvdm_ok _ r k n h hk64 HN).mono ?_; rintro e w1 ⟨g1, rfl, hr1, hg1, hb1⟩; have HM1 : Hid (Mt (w1.alloc (.cells #[.int .i64 (r : Int), .int .i64 (k : Int), .slice (some ⟨g1, 0, none⟩) n n] 24)) (some ⟨g1, 0, none⟩) n n (vdf k)) := (hr1.mt (fun p _ => qhn k p)).later (qa0 _ _); have HB1 : Hid (Below w.heap.size w (w1.alloc (.cells #[.int .i64 (r : Int), .int .i64 (k : Int), .slice (some ⟨g1, 0, none⟩) n n] 24))) := qa1 (qa1 (qa0 _ _) hb1) (qa0 _ _); have HV1 : Hid (Vr (w1.alloc (.cells #[.int .i64 (r : Int), .int .i64 (k : Int), .slice (some ⟨g1, 0, none⟩) n n] 24)) w.heap.size (.int .i64 0) (.int .i64 0) (.slice none 0 0)) := (HV0.out.later hb1).later (qa0 _ _); clear hr1 hg1 hb1)
  | (go_at_call 76; refine (rsys_ok _ r k n n _ (vdf k) HM1.out HRt.out hkr (qgj hk64)).mono ?_; rintro e w2 ⟨g2, X, rfl, hr2, hX2, hp2, hg2, hb2⟩; have HR2 : Hid (RowAt w2 g2 5 n (prk (vdf k) X k k k)) := hr2; have HX2 : Hid ((∀ q, q < k * k → X q < 256) ∧ (∀ i j, i < k → j < k → pr (m2 (vdf k) k k) (m2 X k k) k i j = dl i j)) := ⟨hX2, hp2⟩; have hg3 : w.heap.size < g2 := Nat.lt_of_lt_of_le HV1.out.lt hg2; have HB2 : Hid (Below w.heap.size w w2) := qa1 HB1.out hb2; have HV2 : Hid (Vr w2 w.heap.size (.int .i64 0) (.int .i64 0) (.slice none 0 0)) := HV1.out.later hb2; clear hr2 hX2 hp2 hg2 hb2)
  | (refine qa5 rfl _ _ rfl w.heap.size _ _ _ (.int .i64 (r : Int)) (.int .i64 (k : Int)) (.slice (some ⟨g2, 0, none⟩) n n) rfl rfl HV2.out rfl rfl rfl ?_; intro w5 HV5 HG5))
 have d0 := HV5.out.c0
 have d1 := HV5.out.c1
 have d2 := HV5.out.c2
 refine bodyPost_ret (v := .tuple #[mv r k (some ⟨g2, 0, none⟩) n n, .int .i64 0]) (by simp [results, Tryz.results36, go_sem, d0, d1, d2, mv]) rfl ?_
 exact ⟨g2, X, rfl, HR2.out.kept HG5.out (by omega), HX2.out.1, HX2.out.2, by omega, qa2 HB2.out HG5.out (Nat.le_refl _)⟩
open Go.RowKit
theorem ob_nil (w : World) (B : Nat) (f : Nat → Nat) : Ob w B (.slice none 0 0) 0 f := by show World.ownsRow _ _ _ _ _ _ _; rw [qb2]; exact World.ownsRow_nil _ _ _ _
/-- Cross's entries. -/
def crf (k : Nat) : Nat → Nat := stf (idf k) (cauf (fun p => k + p) (fun p => p) k) (k * k)
theorem qki (k m : Nat) : Dst (fun p => k + p) m (fun p => p) k := fun i j hi hj => by
 unfold stf
 by_cases h1 : i < m
 ·rw [if_pos h1, if_pos (by omega)]; intro e; dsimp only at e; omega
 ·rw [if_neg h1]
  by_cases h2 : j < m
  ·rw [if_pos h2]; intro e; dsimp only at e; omega
  ·rw [if_neg h2]; intro e; dsimp only at e; omega
theorem qeg (w : World) (k m A B : Nat) (hk : 1 ≤ k) (h : k + m ≤ 64) (HA : Hid (k * k = A)) (HB : Hid (m * k = B)) :
  Calls Tryz.prog 38 #[.int .i64 (k : Int), .int .i64 (m : Int)] w fun e w' => ∃ s d, e = .returned (.tuple #[mv ((k + m : Nat) : Int) k s (A + B) d, .int .i64 0]) ∧ Mt w' s (A + B) d (crf k) ∧ Below w.heap.size w w' := by
 obtain ⟨i0, hi0, hz0, hz1, hz2⟩ := info_parts qcp
 have HRA : Hid (Rt k k A) := ⟨by omega, by omega, HA.out⟩
 have HRB : Hid (Rt m k B) := ⟨by omega, by omega, HB.out⟩
 have hA4 := HRA.out.le
 have hB4 := HRB.out.le
 have HKm : Hid (k + m ≤ 64) := h
 obtain ⟨w0, HW⟩ : ∃ x, Hid (x = w.alloc (.cells #[.int .i64 0, .int .i64 0, .slice none 0 0] 24)) := ⟨_, rfl⟩
 have HV0 : Hid (Vr w0 w.heap.size (.int .i64 0) (.int .i64 0) (.slice none 0 0)) := by rw [HW.out]; exact Vr.new w _ _ _
 have HB0 : Hid (Below w.heap.size w w0) := by rw [HW.out]; exact qa0 _ _
 go_enter Tryz.func38, Tryz.ntmps38
 go_wp2_with (go_at_call 74; refine (qfy _ k m hk HKm.out).mono ?_; rintro e w' ⟨rfl, rfl⟩)
 rw [← HW.out]
 go_loopw [7, 8] (fun sy si wr => ∃ (i d : Nat) (s : Option Addr), i ≤ k ∧ si = .int .i64 (i : Int) ∧ sy = .slice s i d ∧ Ob wr w0.heap.size (.slice s i d) i (fun p => p) ∧ Below w0.heap.size w0 wr) (fun _ si _ => k - (intOf si).toNat)
 case atStart => exact ⟨0, 0, none, by omega, rfl, rfl, ob_nil _ _ _, Below.refl _ _⟩
 case round =>
  obtain ⟨i, d, s, hi, rfl, rfl, ho, hb⟩ := hrel
  have HO : Hid (Ob wr w0.heap.size (.slice s i d) i (fun p => p)) := ho
  have HBr : Hid (Below w0.heap.size w0 wr) := hb
  have hsz := hb.size
  clear ho hb
  by_cases hlt : i < k
  ·have hml : i + 1 ≤ maxLen := by unfold maxLen; omega
   have w3' : IntKind.u8.wrap (i : Int) = (i : Int) := by rw [IntKind.wrap_u8]; omega
   go_wp2_with (at_builtin; refine wpList_append_lies _ rfl _ _ 22 rfl w0.heap.size 5 i0 (.int .u8 0) 1 1 Tryz.underlying22 hi0 hz0 hz1 hz2 rfl (by decide) _ i (row i (fun p => p)).toList rfl (World.ownsRow.alloc HO.out _) ⟨wr.heap.size, 0, none⟩ 1 1 [.int .u8 (i : Int)] rfl rfl (qbd _ _ i) (one_one i) (by omega) hml (by omega) (by simp; omega) (wr.heap.size + 1) (by simp) ?_; intro gg cap w3 hown3 hgrow3 hat3 hlt3; have HO3 : Hid (Ob w3 w0.heap.size (.slice (some ⟨gg, 0, none⟩) (i + 1) cap) (i + 1) (fun p => p)) := (by { show World.ownsRow _ _ _ _ _ _ _; rw [← qb7]; exact hown3 }); have HB3 : Hid (Below w0.heap.size w0 w3) := grow_step (base := 0) HBr.out HO.out hgrow3 rfl; clear hown3 hgrow3 hat3 hlt3)
   exact ⟨⟨i + 1, cap, some ⟨gg, 0, none⟩, by omega, by go_num, rfl, HO3.out, HB3.out⟩, by simp [intOf]; omega⟩
  ·obtain rfl : i = k := by omega
   obtain ⟨w6, HW6⟩ : ∃ x, Hid (x = wr) := ⟨_, rfl⟩
   have HO6 : Hid (Ob w6 w0.heap.size (.slice s i d) i (fun p => p)) := by rw [HW6.out]; exact HO.out
   have HB6 : Hid (Below w0.heap.size w0 w6) := by rw [HW6.out]; exact HBr.out
   have hs6 : w6 = wr := HW6.out
   subst hs6
   clear HO HBr hsz HW6
   go_wp2
   go_loopw [6, 9] (fun sx si wr => ∃ (j e : Nat) (q : Option Addr), j ≤ m ∧ si = .int .i64 (j : Int) ∧ sx = .slice q j e ∧ Ob wr w6.heap.size (.slice q j e) j (fun p => i + p) ∧ Below w6.heap.size w6 wr) (fun _ si _ => m - (intOf si).toNat)
   case atStart => exact ⟨0, 0, none, by omega, rfl, rfl, ob_nil _ _ _, Below.refl _ _⟩
   case round =>
    obtain ⟨j, e, q, hj, rfl, rfl, ho, hb⟩ := hrel
    have HO : Hid (Ob wr w6.heap.size (.slice q j e) j (fun p => i + p)) := ho
    have HBr : Hid (Below w6.heap.size w6 wr) := hb
    have hsz := hb.size
    clear ho hb
    by_cases hlj : j < m
    ·have hml : j + 1 ≤ maxLen := by unfold maxLen; omega
     obtain ⟨x, HX⟩ : ∃ x, Hid (i + j = x) := ⟨_, rfl⟩
     have hx := HX.out
     have w4' : IntKind.i64.wrap ((i : Int) + (j : Int)) = (x : Int) := by rw [IntKind.wrap_i64]; omega
     have w3' : IntKind.u8.wrap (x : Int) = (x : Int) := by rw [IntKind.wrap_u8]; omega
     clear hx
     go_wp2_with (at_builtin; refine wpList_append_lies _ rfl _ _ 22 rfl w6.heap.size 5 i0 (.int .u8 0) 1 1 Tryz.underlying22 hi0 hz0 hz1 hz2 rfl (by decide) _ j (row j (fun p => i + p)).toList rfl (World.ownsRow.alloc HO.out _) ⟨wr.heap.size, 0, none⟩ 1 1 [.int .u8 (x : Int)] rfl rfl (qbd _ _ x) (one_one x) (by omega) hml (by omega) (by simp; omega) (wr.heap.size + 1) (by simp) ?_; intro gg cap w3 hown3 hgrow3 hat3 hlt3; have HO3 : Hid (Ob w3 w6.heap.size (.slice (some ⟨gg, 0, none⟩) (j + 1) cap) (j + 1) (fun p => i + p)) := (by { show World.ownsRow _ _ _ _ _ _ _; rw [← qb7]; rw [← HX.out] at hown3; exact hown3 }); have HB3 : Hid (Below w6.heap.size w6 w3) := grow_step (base := 0) HBr.out HO.out hgrow3 rfl; clear hown3 hgrow3 hat3 hlt3)
     exact ⟨⟨j + 1, cap, some ⟨gg, 0, none⟩, by omega, by go_num, rfl, HO3.out, HB3.out⟩, by simp [intOf]; omega⟩
    ·obtain rfl : j = m := by omega
     have HMx : Hid (Mt wr q j e (fun p => i + p)) := qef HO.out (fun p hp => by show i + p < 256; omega)
     have HMy : Hid (Mt wr s i d (fun p => p)) := qef (HO6.out.later HBr.out) (fun p hp => by show p < 256; omega)
     have HVr : Hid (Vr wr w.heap.size (.int .i64 0) (.int .i64 0) (.slice none 0 0)) := HV0.out.later (qa1 HB6.out HBr.out)
     have HBw : Hid (Below w.heap.size w wr) := qa1 HB0.out (qa1 HB6.out HBr.out)
     have hj64 : j ≤ 64 := by omega
     have hi64 : i ≤ 64 := by omega
     go_wp2_with (first
      | (go_at_call 81; refine (rcau_ok _ j i B e d q s _ _ HMx.out HMy.out hj64 hi64 HB (qki i j)).mono ?_; rintro e1 x1 ⟨g1, rfl, hr1, hg1, hb1⟩; have HR1 : Hid (RowAt (x1.alloc (.cells #[.int .i64 (j : Int), .int .i64 (i : Int), .slice (some ⟨g1, 0, none⟩) B B] 24)) g1 5 B (cauf (fun p => i + p) (fun p => p) i)) := hr1.later (qa0 _ _); have HB1 : Hid (Below w.heap.size w (x1.alloc (.cells #[.int .i64 (j : Int), .int .i64 (i : Int), .slice (some ⟨g1, 0, none⟩) B B] 24))) := qa1 (qa1 HBw.out hb1) (qa0 _ _); have HV1 : Hid (Vr (x1.alloc (.cells #[.int .i64 (j : Int), .int .i64 (i : Int), .slice (some ⟨g1, 0, none⟩) B B] 24)) w.heap.size (.int .i64 0) (.int .i64 0) (.slice none 0 0)) := (HVr.out.later hb1).later (qa0 _ _); have HC1 : Hid (Vr (x1.alloc (.cells #[.int .i64 (j : Int), .int .i64 (i : Int), .slice (some ⟨g1, 0, none⟩) B B] 24)) x1.heap.size (.int .i64 (j : Int)) (.int .i64 (i : Int)) (.slice (some ⟨g1, 0, none⟩) B B)) := Vr.new x1 _ _ _; clear hr1 hg1 hb1)
      | (go_at_call 82; have _x := HB1; refine (qe9 _ i A hi64 HA).mono ?_; rintro e1 x2 ⟨g2, rfl, hr2, hg2, hb2⟩; have HR2 : Hid (RowAt (x2.alloc (.cells #[.int .i64 (i : Int), .int .i64 (i : Int), .slice (some ⟨g2, 0, none⟩) A A] 24)) g2 5 A (idf i)) := hr2.later (qa0 _ _); have HR1' : Hid (RowAt (x2.alloc (.cells #[.int .i64 (i : Int), .int .i64 (i : Int), .slice (some ⟨g2, 0, none⟩) A A] 24)) g1 5 B (cauf (fun p => i + p) (fun p => p) i)) := (HR1.out.later hb2).later (qa0 _ _); have HB2 : Hid (Below w.heap.size w (x2.alloc (.cells #[.int .i64 (i : Int), .int .i64 (i : Int), .slice (some ⟨g2, 0, none⟩) A A] 24))) := qa1 (qa1 HB1.out hb2) (qa0 _ _); have HV2 : Hid (Vr (x2.alloc (.cells #[.int .i64 (i : Int), .int .i64 (i : Int), .slice (some ⟨g2, 0, none⟩) A A] 24)) w.heap.size (.int .i64 0) (.int .i64 0) (.slice none 0 0)) := (HV1.out.later hb2).later (qa0 _ _); have HC2 := (HC1.out.later hb2).later (qa0 x2 (.cells #[.int .i64 (i : Int), .int .i64 (i : Int), .slice (some ⟨g2, 0, none⟩) A A] 24)); have y0 := HC2.c0; have y1 := HC2.c1; have y2 := HC2.c2; clear hr2 hg2 hb2 HC2)
      | (go_at_call 83; have _x := HB2; refine (qjy _ i j i A B (i + j) A B _ _ _ _ (HR2.out.sl (fun p _ => qe8 i p)) (by omega) (fun e => by cases e) (HR1'.out.sl (fun p _ => qae _)) (fun e => by cases e) HRA.out HRB.out rfl HKm.out).mono ?_; rintro e1 x3 ⟨s3, d3, rfl, ho3, hb3⟩; have HO3 : Hid (Ob x3 (w.heap.size + 1) (.slice s3 (A + B) d3) (A + B) (stf (idf i) (cauf (fun p => i + p) (fun p => p) i) A)) := Ob.mono (B' := w.heap.size + 1) ho3 HV2.out.lt; have HB3 : Hid (Below w.heap.size w x3) := qa1 HB2.out hb3; have HV3 : Hid (Vr x3 w.heap.size (.int .i64 0) (.int .i64 0) (.slice none 0 0)) := HV2.out.later hb3; clear ho3 hb3)
      | (refine qa5 rfl _ _ rfl w.heap.size _ _ _ (.int .i64 ((i + j : Nat) : Int)) (.int .i64 (i : Int)) (.slice s3 (A + B) d3) rfl rfl HV3.out rfl rfl rfl ?_; intro x5 HV5 HG5))
     have d0 := HV5.out.c0
     have d1 := HV5.out.c1
     have d2 := HV5.out.c2
     refine bodyPost_ret (v := .tuple #[mv ((i + j : Nat) : Int) i s3 (A + B) d3, .int .i64 0]) (by simp [results, Tryz.results38, go_sem, d0, d1, d2, mv]) rfl ?_
     have HO5 := HO3.out.kept HG5.out (.inr (qag HO3.out HV3.out))
     refine ⟨s3, d3, rfl, ?_, qa2 HB3.out HG5.out (Nat.le_refl _)⟩
     unfold crf
     rw [HA.out]
     exact qef HO5 (qgi (fun p _ => qe8 i p) (fun p _ => qae _))
end Go.Proofs.YtnfbbddoaeofgaaGreat
