/-
  Degrees, values, roots and divisors of polynomials: no Go in sight.
  What a check's rows tell.
  What the program's matroid rests on: spans told by kernels, rows of noughts, factors of combinations. No Go in sight.
  Contracts of the program's gauss: freeColumns.
  Contracts of the program's gauss: Kernel.
  Contracts of the program's matroid: rowsOf, ofNoughts.
  Contracts of the program's matroid: ofNoughts.
  Contracts of the program's matroid: Rank, Free, Covers.
  Contracts of the program's matroid: Span, Needed.
  Contracts of the program's matroid: Basis.
  Contracts of the program's matroid: Circuit.
  Contracts of the rows' reference: the errors of Span, Basis, Needed, Circuit.
  The program's matroid and the rows' reference, together.
  The program's calls on sets of rows and the reference's answer the same.
  The checks' own anchor: one rank and one circuit that the document fixes.
  What the checks of stage 7 need besides: right; ranks as numbers; lists' lengths.
  The program's Span, Basis, Free and Needed as numbers; a set that lies in another.
  For what stays: a copy; two lists or matrices that are alike.
  Contracts of the program's verdict: isGenerator, areRows, left's function; and the reference's Generator, left.
  Contracts of the program's verdict.areRows and of the reference's left.
-/
import Derived.Test.YtokdejhbjoglcaaGreatQddes00
import Derived.Test.YtokdejhbjoglcaaGreatQddes05
import Derived.Test.YtokdejhbjoglcaaGreatQddes07
import Derived.Test.YtokdejhbjoglcaaGreatQddes29
import Derived.Test.YtokdejhbjoglcaaGreatQddes31
import Derived.Test.YtokdejhbjoglcaaGreatQddes40
import Derived.Test.YtokdejhbjoglcaaGreatQddes36
import Derived.Test.YtokdejhbjoglcaaGreatQddes27
import Derived.Test.YtokdejhbjoglcaaGreatQddes37
import Derived.Test.YtokdejhbjoglcaaGreatQddes03
import Derived.Test.YtokdejhbjoglcaaGreatQddes16
import Derived.Test.YtokdejhbjoglcaaGreatQddes14
set_option maxRecDepth 100000
set_option maxHeartbeats 16000000
namespace Go.Proofs.YtokdejhbjoglcaaGreat

/-- No coefficient from n on. -/
def Above (n : Nat) (p : Nat → Nat) : Prop := ∀ i, n ≤ i → p i = 0
theorem Above.mono {n m : Nat} {p : Nat → Nat} (h : Above n p) (hnm : n ≤ m) : Above m p := fun i hi => h i (by omega)
theorem Above.pa {n : Nat} {p q : Nat → Nat} (hp : Above n p) (hq : Above n q) : Above n (pa p q) := fun i hi => by
 show p i ^^^ q i = 0
 rw [hp i hi, hq i hi]; rfl
theorem pm_above {n m : Nat} {p q : Nat → Nat} (hp : Above n p) (hq : Above m q) (i : Nat) (hi : n + m ≤ i + 1) : pm p q i = 0 := by
 refine qaf (fun k _ => ?_)
 by_cases h : n ≤ k
 ·rw [hp k h, qah]
 ·rw [hq (i - k) (by omega), qa8]
theorem Above.pm {n m : Nat} {p q : Nat → Nat} (hp : Above n p) (hq : Above m q) : Above (n + m) (pm p q) := fun i hi => pm_above hp hq i (by omega)
theorem qeb (a b : Nat) : a ^^^ b = 0 ↔ a = b := by
 constructor
 ·intro h
  have : a ^^^ b ^^^ b = 0 ^^^ b := by rw [h]
  rw [Nat.xor_assoc, Nat.xor_self, Nat.xor_zero, Nat.zero_xor] at this
  exact this
 ·rintro rfl; exact Nat.xor_self a
/-! ### Values -/
/-- The value of a polynomial of n coefficients at x. -/
def ev (p : Nat → Nat) (n x : Nat) : Nat := xs (fun i => fm (p i) (fpow x i)) n
/-! ### Roots -/
/-- x and r. -/
def lin (r : Nat) (i : Nat) : Nat := if i = 0 then r else if i = 1 then 1 else 0
theorem qke (r : Nat) : Above 2 (lin r) := fun i hi => by unfold lin; rw [if_neg (by omega), if_neg (by omega)]
theorem lin_pm (r : Nat) (q : Nat → Nat) (hq : El q) : (∀ i, pm (lin r) q (i + 1) = fm r (q (i + 1)) ^^^ q i) ∧ pm (lin r) q 0 = fm r (q 0) := by
 constructor
 ·intro i
  have z : xs (fun k => fm (lin r (k + 1 + 1)) (q (i + 1 - (k + 1 + 1)))) i = 0 := qaf (fun k _ => by
   rw [show lin r (k + 1 + 1) = 0 from qke r _ (by omega), qah])
  unfold pm
  rw [qey, qey, z, Nat.xor_zero]
  show fm (lin r 0) (q (i + 1 - 0)) ^^^ fm (lin r 1) (q (i + 1 - 1)) = _
  rw [show lin r 0 = r from rfl, show lin r 1 = 1 from rfl, Nat.sub_zero, Nat.add_sub_cancel, qb3 _ (hq i)]
 ·simp only [pm, xs, Nat.zero_xor]
  rfl
/-- A root splits off a factor. -/
theorem factor {n : Nat} {p : Nat → Nat} {r : Nat} (hp : El p) (hr : r < 256) (hn : Above (n + 1) p) (h0 : ev p (n + 1) r = 0) : ∃ q, El q ∧ Above n q ∧ ∀ i, p i = pm (lin r) q i := by
 -- q i: the sum of p (i + 1 + j) times r to the power j
 refine ⟨fun i => xs (fun j => fm (p (i + 1 + j)) (fpow r j)) (n - i), fun i => qex (fun k _ => qao _ _ (hp _)), fun i hi => by show xs _ (n - i) = 0; rw [show n - i = 0 by omega]; rfl, ?_⟩
 have hel : El (fun i => xs (fun j => fm (p (i + 1 + j)) (fpow r j)) (n - i)) := fun i => qex (fun k _ => qao _ _ (hp _))
 have step : ∀ i k, fm r (xs (fun j => fm (p (i + 1 + j)) (fpow r j)) k) = xs (fun j => fm (p (i + 1 + j)) (fpow r (j + 1))) k := by
  intro i k
  rw [qcr]
  refine qa7 (fun j _ => ?_)
  simp only [fpow]
  rw [← qat r _ _ hr (hp _), qaj r _ hr (hp _), qat _ _ _ (hp _) hr, qaj r _ hr (fpow_lt r j)]
 have head : ∀ i k, xs (fun j => fm (p (i + j)) (fpow r j)) (k + 1) = p i ^^^ xs (fun j => fm (p (i + 1 + j)) (fpow r (j + 1))) k := by
  intro i k
  rw [qey]
  show fm (p (i + 0)) (fpow r 0) ^^^ _ = _
  rw [show fpow r 0 = 1 from rfl, Nat.add_zero, qaw _ (hp i)]
  congr 1
  refine qa7 (fun j _ => ?_)
  rw [show i + (j + 1) = i + 1 + j by omega]
 intro i
 cases i with
 | zero =>
  rw [(lin_pm r _ hel).2]
  show p 0 = fm r (xs (fun j => fm (p (0 + 1 + j)) (fpow r j)) (n - 0))
  rw [step, Nat.sub_zero]
  have e := head 0 n
  have e2 : xs (fun j => fm (p (0 + j)) (fpow r j)) (n + 1) = 0 := by
   exact (qa7 (fun k _ => by rw [Nat.zero_add])).trans h0
  rw [e2] at e
  exact (qeb _ _).mp e.symm
 | succ i =>
  rw [(lin_pm r _ hel).1 i]
  show p (i + 1) = fm r (xs (fun j => fm (p (i + 1 + 1 + j)) (fpow r j)) (n - (i + 1))) ^^^ xs (fun j => fm (p (i + 1 + j)) (fpow r j)) (n - i)
  rw [step]
  by_cases h : i < n
  ·rw [show n - i = n - (i + 1) + 1 by omega, head (i + 1) (n - (i + 1)), Nat.xor_comm (p (i + 1)), ← Nat.xor_assoc, Nat.xor_self, Nat.zero_xor]
  ·rw [show n - (i + 1) = 0 by omega, show n - i = 0 by omega, hn (i + 1) (by omega)]
   simp [xs]
open Go.RowKit
theorem cn_mod {s m : Nat} : ∀ n, cn (s % 2 ^ m) n = cn s (min n m) := by
 intro n
 induction n with
 | zero => rw [Nat.zero_min]; rfl
 | succ n ih =>
  rw [qas, ih]
  by_cases h : n < m
  ·rw [show min n m = n by omega, show min (n + 1) m = n + 1 by omega, qas]
   congr 1
   have h1 := qhv s m n
   have h2 := qdh (s % 2 ^ m) n
   have h3 := qdh s n
   omega
  ·rw [show min n m = m by omega, show min (n + 1) m = m by omega]
   have h1 := qhv s m n
   have h2 := qdh (s % 2 ^ m) n
   omega
theorem lf_mod {s R m t : Nat} (ht : t < cn s m) (hm : m ≤ R) : lf (s % 2 ^ m) R t = lf s R t := by
 have h0 : t < cn s R := Nat.lt_of_lt_of_le ht (qdb hm)
 obtain ⟨a, b, c⟩ := qae h0
 have h1 : lf s R t < m := Classical.byContradiction fun hn => by
  have := qdb (s := s) (show m ≤ lf s R t by omega)
  omega
 have h2 : bt (s % 2 ^ m) (lf s R t) = 1 := (qhv _ _ _).2 ⟨h1, b⟩
 have h3 := (qit a h2).2
 rwa [cn_mod, show min (lf s R t) m = lf s R t by omega, c] at h3
/-- A picked row is no combination of those above just if it is none of those of s with lesser numbers. -/
theorem qku {F : Nat → Nat} {r c n s v : Nat} (hF : ∀ i, i < n → F i < 256) (R : Rt r c n) (hv : v < cn s r) : Fst (m2 (pkf F (lf s r) c) (cn s r) c) v ↔ ¬ SS (m2 F r c) r (s % 2 ^ lf s r v) (m2 F r c (lf s r v)) := by
 have hM := qaq hF R
 obtain ⟨a, b, e⟩ := qae hv
 have e1 : ∀ i, i < cn s r → m2 (pkf F (lf s r) c) (cn s r) c i = m2 F r c (lf s r i) := fun i hi => qhz (fun t ht => (qae ht).1) hi
 have e2 : cn (s % 2 ^ lf s r v) r = v := by rw [cn_mod, show min r (lf s r v) = lf s r v by omega, e]
 have hsp := qee hM r (s % 2 ^ lf s r v)
 rw [e2] at hsp
 have e3 : ∀ t j, t < v → m2 F r c (lf (s % 2 ^ lf s r v) r t) j = m2 (pkf F (lf s r) c) (cn s r) c t j := fun t j ht => by rw [lf_mod (by omega) (by omega), e1 t (by omega)]
 unfold Fst
 rw [e1 v hv]
 refine not_congr ⟨fun h => ?_, fun h => ?_⟩
 ·exact Spn.trans (h.rows (fun t j ht => (e3 t j ht).symm)) hsp.1
 ·exact (Spn.trans h hsp.2).rows e3
/-- What Basis has gathered of the first u places. -/
def Bsu (s R : Nat) (q : Nat → Nat) (u z : Nat) : Prop := z < 2 ^ R ∧ ∀ i, i < R → (bt z i = 1 ↔ ∃ v, v < u ∧ lf s R (q v) = i)
theorem Bsu.start (s R : Nat) (q : Nat → Nat) : Bsu s R q 0 0 := ⟨Nat.two_pow_pos R, fun i _ => by
 rw [qdf (n := 0) (by decide) (Nat.zero_le _)]
 exact ⟨fun h => by omega, fun ⟨v, h, _⟩ => by omega⟩⟩
theorem Bsu.step {s R u z : Nat} {q : Nat → Nat} (h : Bsu s R q u z) (hq : q u < cn s R) : Bsu s R q (u + 1) (z ||| 2 ^ lf s R (q u)) := by
 obtain ⟨a, b, c⟩ := qae hq
 refine ⟨Nat.or_lt_two_pow h.1 (Nat.pow_lt_pow_right (by decide) a), fun i hi => ?_⟩
 rw [qbo, qbs, h.2 i hi]
 constructor
 ·rintro (⟨v, h1, h2⟩ | e)
  ·exact ⟨v, by omega, h2⟩
  ·exact ⟨u, by omega, e.symm⟩
 ·rintro ⟨v, h1, h2⟩
  by_cases e : v = u
  ·subst e; exact .inr h2.symm
  ·exact .inl ⟨v, by omega, h2⟩
theorem Bsu.base {F q : Nat → Nat} {r c n s t z : Nat} (hF : ∀ i, i < n → F i < 256) (R : Rt r c n) (h : Bsu s r q t z) (hL : FstL (m2 (pkf F (lf s r) c) (cn s r) c) (cn s r) t q) : BaS (m2 F r c) r s z := by
 refine ⟨h.1, fun i hi => ?_⟩
 rw [h.2 i hi]
 constructor
 ·rintro ⟨v, hv, e⟩
  have h1 := hL.lt v hv
  have h2 := (qku hF R h1).1 (hL.is v hv)
  rw [e] at h2
  refine ⟨?_, h2⟩
  rw [← e]
  exact (qae h1).2.1
 ·rintro ⟨h1, h2⟩
  obtain ⟨h3, h4⟩ := qit hi h1
  have h5 : Fst (m2 (pkf F (lf s r) c) (cn s r) c) (cn s i) := (qku hF R h3).2 (by rw [h4]; exact h2)
  obtain ⟨u, hu, e⟩ := hL.all _ h3 h5
  exact ⟨u, hu, by rw [e]; exact h4⟩
open Go.RowKit
theorem rows_any (w : World) (r c r' c' E : Int) (n k s kq n' : Nat) (a : Option Addr) (q : Nat → Int) (Q : World → Option Addr → Nat → Prop)
  (HL : Hid (∀ w' : World, Calls Tryz.prog 23 #[.int .u64 (s : Int)] w' fun e w'' => ∃ x d, e = .returned (.slice x kq d) ∧ Il w'' x kq q ∧ Below w'.heap.size w' w''))
  (HP : Hid (∀ (w' : World) (x : Option Addr) (d : Nat), Below w.heap.size w w' → w.heap.size + 2 ≤ w'.heap.size → Il w' x kq q → Calls Tryz.prog 22 #[mv r c a n k, .slice x kq d] w' fun e w'' => ∃ a' k', e = .returned (.tuple #[mv r' c' a' n' k', .int .i64 E]) ∧ Q w'' a' k' ∧ Below w'.heap.size w' w''))
  (HQ : Hid (∀ (w1 w2 : World) (a' : Option Addr) (k' : Nat), Q w1 a' k' → w1.grownBy w2 (some (w.heap.size + 1)) → Q w2 a' k')) :
  Calls Tryz.prog 80 #[mv r c a n k, .int .u64 (s : Int)] w fun e w' => ∃ a' k', e = .returned (.tuple #[mv r' c' a' n' k', .int .i64 E]) ∧ Q w' a' k' ∧ Below w.heap.size w w' := by
 go_enter Tryz.func80, Tryz.ntmps80
 go_wp2
 refine wp_region_held (S := fun w' => w'.cell? ⟨w.heap.size, 0, none⟩ = some (.int .i64 r) ∧ w'.cell? ⟨w.heap.size, 1, none⟩ = some (.int .i64 c) ∧ w'.cell? ⟨w.heap.size, 2, none⟩ = some (.slice a n k)) (by kernel_rfl) ?_
 change wpAnyH _ _ _ _ _ _ _ _ (World.drew _)
 obtain ⟨W0, HW0⟩ : ∃ W0, Hid (((w.alloc (.cells #[.int .i64 r, .int .i64 c, .slice a n k] 24)).alloc (.cells #[.int .i64 0, .int .i64 0, .slice none 0 0] 24)).drew = W0) := ⟨_, rfl⟩
 rw [HW0.out]
 have HX0 : Hid (Vr W0 w.heap.size (.int .i64 r) (.int .i64 c) (.slice a n k)) := by rw [← HW0.out]; exact ((Vr.new w _ _ _).later (qa1 _ _)).later (Below.refl _ _).drew
 have HY0 : Hid (Vr W0 (w.heap.size + 1) (.int .i64 0) (.int .i64 0) (.slice none 0 0)) := by rw [← HW0.out]; show Vr _ _ _ _ _; have := (Vr.new (w.alloc (.cells #[.int .i64 r, .int .i64 c, .slice a n k] 24)) (.int .i64 0) (.int .i64 0) (.slice none 0 0)).later (Below.refl _ _).drew; simpa using this
 have HB0 : Hid (Below w.heap.size w W0) := by rw [← HW0.out]; exact qa0 (qa0 (qa1 _ _) (qa1 _ _)) (Below.refl _ _).drew
 have hz0 : w.heap.size + 2 ≤ W0.heap.size := HY0.out.lt
 refine wtkq 0 ?v0 rfl (by kernel_rfl) (fun _ _ _ h => h) (by rfl) ?y0 ⟨HX0.out.c0, HX0.out.c1, HX0.out.c2⟩ ?z0
 case y0 => (intro w hSw; (try dsimp only at hSw); go_simp; try with_reducible rfl)
 try simp only [mz1, mz3, Act.put, mz4, mz5, mz6]
 refine wtkq 1 ?v1 rfl (by kernel_rfl) (fun _ _ _ h => h) (by rfl) ?y1 ⟨HX0.out.c0, HX0.out.c1, HX0.out.c2⟩ ?z1
 case y1 => (intro w hSw; (try dsimp only at hSw); go_simp; try with_reducible rfl)
 try simp only [mz1, mz2, mz3, Act.put, mz4, mz5, mz6]
 refine wpAnyH_ready (rs := [2]) (by kernel_rfl) (by simp) ?_
 refine AllReadyH.cons rfl (fun K hK => ?_) AllReadyH.nil
 go_simp
 refine (HL.out _).mono ?_
 rintro e w1 ⟨x1, d1, rfl, hj1, hb1⟩
 have HI1 : Hid (Il w1 x1 kq q) := hj1
 have HB1 : Hid (Below w.heap.size w w1) := qa0 HB0.out hb1
 have HV1 : Hid (Vr w1 w.heap.size (.int .i64 r) (.int .i64 c) (.slice a n k)) := HX0.out.later hb1
 have HY1 : Hid (Vr w1 (w.heap.size + 1) (.int .i64 0) (.int .i64 0) (.slice none 0 0)) := HY0.out.later hb1
 have hz1 : w.heap.size + 2 ≤ w1.heap.size := Nat.le_trans hz0 hb1.size
 clear hj1 hb1
 refine hK.out _ _ ⟨HV1.out.c0, HV1.out.c1, HV1.out.c2⟩ (fun _ => ?_)
 clear hK K
 try simp only [mz1, mz2, mz3, Act.put, mz4, mz5, mz6]
 refine wpAnyH_ready (rs := [3]) (by kernel_rfl) (by simp) ?_
 refine AllReadyH.cons rfl (fun K hK => ?_) AllReadyH.nil
 go_simp
 refine (HP.out _ _ _ HB1.out hz1 HI1.out).mono ?_
 rintro e w2 ⟨a2, k2, rfl, hq2, hb2⟩
 have HQ2 : Hid (Q w2 a2 k2) := hq2
 have HB2 : Hid (Below w.heap.size w w2) := qa0 HB1.out hb2
 have HV2 : Hid (Vr w2 w.heap.size (.int .i64 r) (.int .i64 c) (.slice a n k)) := HV1.out.later hb2
 have HY2 : Hid (Vr w2 (w.heap.size + 1) (.int .i64 0) (.int .i64 0) (.slice none 0 0)) := HY1.out.later hb2
 clear hq2 hb2
 refine hK.out _ _ ⟨HV2.out.c0, HV2.out.c1, HV2.out.c2⟩ (fun _ => ?_)
 clear hK K
 try simp only [mz1, mz2, mz3, Act.put, mz4, mz5, mz6]
 refine wtkq 4 ?v4 rfl (by kernel_rfl) (fun _ _ _ h => h) (by rfl) ?y4 ⟨HV2.out.c0, HV2.out.c1, HV2.out.c2⟩ ?z4
 case y4 => (intro w hSw; (try dsimp only at hSw); go_simp; try with_reducible rfl)
 try simp only [mz1, mz2, mz3, Act.put, mz4, mz5, mz6]
 refine wtkq 5 ?v5 rfl (by kernel_rfl) (fun _ _ _ h => h) (by rfl) ?y5 ⟨HV2.out.c0, HV2.out.c1, HV2.out.c2⟩ ?z5
 case y5 => (intro w hSw; (try dsimp only at hSw); go_simp; try with_reducible rfl)
 try simp only [mz1, mz2, mz3, Act.put, mz4, mz5, mz6]
 refine wpAnyH_ready (rs := [6]) (by kernel_rfl) (by simp) ?_
 refine AllReadyH.cons rfl (fun K hK => ?_) AllReadyH.nil
 refine qa9 rfl _ _ rfl (w.heap.size + 1) _ _ _ (.int .i64 r') (.int .i64 c') (.slice a2 n' k2) rfl rfl HY2.out rfl rfl rfl ?_
 intro w4 HV4 HG4
 have HQ4 : Hid (Q w4 a2 k2) := HQ.out _ _ _ _ HQ2.out HG4.out
 have HW4 : Hid (Vr w4 w.heap.size (.int .i64 r) (.int .i64 c) (.slice a n k)) := HV2.out.kept HG4.out (by omega)
 have HB4 : Hid (Below w.heap.size w w4) := HB2.out.trans (jbelow HG4.out HB2.out.size (fun g e => by cases e; omega))
 refine hK.out _ _ ⟨HW4.out.c0, HW4.out.c1, HW4.out.c2⟩ (fun _ => ?_)
 clear hK K
 try simp only [mz1, mz2, mz3, Act.put]
 refine wtkq 7 ?v7 rfl (by kernel_rfl) (fun _ _ _ h => h) (by rfl) ?y7 ⟨HW4.out.c0, HW4.out.c1, HW4.out.c2⟩ ?z7
 case y7 => (intro w hSw; (try dsimp only at hSw); go_simp; try with_reducible rfl)
 try simp only [mz1, mz2, mz3, Act.put, mz4, mz5, mz6]
 refine wpAnyH_done (by kernel_rfl) ?_ _
 have x0 := HV4.out.c0
 have x1 := HV4.out.c1
 have x2 := HV4.out.c2
 go_wp2
 refine bodyPost_ret (v := .tuple #[mv r' c' a2 n' k2, .int .i64 E]) (by simp [results, Tryz.results80, go_sem, x0, x1, x2, mv]) rfl ?_
 exact ⟨a2, k2, rfl, HQ4.out, HB4.out⟩
theorem qfm {s K : Nat} {f : Nat → Nat} (hs : s < 18446744073709551616) (hK : cn s 64 = K) (hf : ∀ i, i < K → lf s 64 i = f i) : Hid (∀ w' : World, Calls Tryz.prog 23 #[.int .u64 (s : Int)] w' fun e w'' => ∃ x d, e = .returned (.slice x K d) ∧ Il w'' x K (fun i => (f i : Int)) ∧ Below w'.heap.size w' w'') :=
 fun w' => (jlist_ok s w' hs).mono (fun e w'' h => by
  obtain ⟨v, he, ho, hb⟩ := h
  rw [hK] at ho
  have ho2 := ho.congr hf
  obtain ⟨x, d, rfl, _⟩ := ho2.form
  exact ⟨x, d, he, qdw ho2.jl, hb⟩)
/-- The rows of a set. -/
theorem rows_ok (w : World) (r c n k s N : Nat) (a : Option Addr) (F : Nat → Nat) (ha : Mt w a n k F) (R : Rt r c n) (hs : s < 2 ^ r) (HN : Hid (cn s r * c = N)) :
  Calls Tryz.prog 80 #[mv r c a n k, .int .u64 (s : Int)] w fun e w' => ∃ g, e = .returned (.tuple #[mv (cn s r : Nat) c (some ⟨g, 0, none⟩) N N, .int .i64 0]) ∧ RowAt w' g 5 N (pkf F (lf s r) c) ∧ Below w.heap.size w w' := by
 have hr := R.r64
 have hs6 := qb2 hr hs
 have hcl := qbe r s
 refine (rows_any w r c (cn s r : Nat) c 0 n k s (cn s r) N a (fun i => (lf s r i : Int)) (fun w' a' k' => k' = N ∧ ∃ g, a' = some ⟨g, 0, none⟩ ∧ RowAt w' g 5 N (pkf F (lf s r) c) ∧ w.heap.size + 2 ≤ g) (qfm hs6 (qbr hr hs) (fun i _ => qed hr hs i)) (fun w' x d hb hz hi => ?_) (fun w1 w2 a' k' h hg => ?_)).mono (fun e w' h => ?_)
 ·refine (qcg w' r c n k (cn s r) d N a x F (lf s r) (ha.later hb) R hi (fun i hi => (qae hi).1) (by omega) HN).mono (fun e w'' h => ?_)
  obtain ⟨g, he, hr, hg, hb2⟩ := h
  exact ⟨some ⟨g, 0, none⟩, N, he, ⟨rfl, g, rfl, hr, by omega⟩, hb2⟩
 ·obtain ⟨rfl, g, rfl, hr, hg2⟩ := h
  exact ⟨rfl, g, rfl, hr.kept hg (by omega), hg2⟩
 ·obtain ⟨a', k', rfl, ⟨rfl, g, rfl, hr, _⟩, hb⟩ := h
  exact ⟨g, rfl, hr, hb⟩
open Go.RowKit
theorem qix (w : World) (r c n k s : Nat) (a : Option Addr) (F : Nat → Nat) (ha : Mt w a n k F) (R : Rt r c n) (hs : s < 2 ^ r) :
  ∃ (K N : Nat) (P : Nat → Nat), K ≤ 64 ∧ Hid (K = cn s r) ∧ Hid (P = pkf F (lf s r) c) ∧ Hid (Rt K c N) ∧ Hid (∀ i, i < N → P i < 256) ∧ Hid (∀ w' : World, Below w.heap.size w w' → Calls Tryz.prog 80 #[mv r c a n k, .int .u64 (s : Int)] w' fun e w'' => ∃ g, e = .returned (.tuple #[mv K c (some ⟨g, 0, none⟩) N N, .int .i64 0]) ∧ Mt w'' (some ⟨g, 0, none⟩) N N P ∧ Below w'.heap.size w' w'') := by
 have hr := R.r64
 have hcl := qbe r s
 have hP : ∀ i, i < cn s r * c → pkf F (lf s r) c i < 256 := fun i hi => qcx ha.sl.1 R (fun i hi => (qae hi).1) i hi
 refine ⟨cn s r, cn s r * c, pkf F (lf s r) c, by omega, rfl, rfl, ⟨by omega, R.c64, rfl⟩, hP, fun w' hb => ?_⟩
 refine (rows_ok w' r c n k s _ a F (ha.later hb) R hs rfl).mono (fun e w'' h => ?_)
 obtain ⟨g, he, hr, hb⟩ := h
 exact ⟨g, he, hr.mt hP, hb⟩
open Go.RowKit
theorem tBase_ok (w : World) (r c n k s : Nat) (a : Option Addr) (F : Nat → Nat) (ha : Mt w a n k F) (R : Rt r c n) (hs : s < 2 ^ r) :
  Calls Tryz.prog 57 #[mv r c a n k, .int .u64 (s : Int)] w fun e w' => ∃ p : Nat, e = .returned (.tuple #[.int .u64 (p : Int), .int .i64 0]) ∧ BaS (m2 F r c) r s p ∧ Below w.heap.size w w' := by
 have hr := R.r64
 have hs6 := qb2 hr hs
 obtain ⟨K, N, P, hK, HK, HP, HRk, _, HC⟩ := qix w r c n k s a F ha R hs
 obtain ⟨f, Bs, HF, HL, HB0, HBz, HBs, HBe⟩ : ∃ (f : Nat → Nat) (Bs : (Nat → Nat) → Nat → Nat → Prop), Hid (∀ i, i < K → f i < 64) ∧ Hid (∀ w' : World, Calls Tryz.prog 23 #[.int .u64 (s : Int)] w' fun e w'' => ∃ x d, e = .returned (.slice x K d) ∧ Il w'' x K (fun i => (f i : Int)) ∧ Below w'.heap.size w' w'') ∧ Hid (∀ q, Bs q 0 0) ∧ Hid (∀ q u z, Bs q u z → z < 18446744073709551616) ∧ Hid (∀ q u z, Bs q u z → q u < K → Bs q (u + 1) (z ||| 2 ^ f (q u))) ∧ Hid (∀ q t z, Bs q t z → FstL (m2 P K c) K t q → BaS (m2 F r c) r s z) := by
  refine ⟨lf s r, Bsu s r, fun i hi => ?_, qfm hs6 (by rw [HK.out]; exact qbr hr hs) (fun i _ => qed hr hs i), fun q => Bsu.start s r q, fun q u z h => qb2 hr h.1, fun q u z h hq => h.step (by rw [← HK.out]; exact hq), fun q t z h hL => ?_⟩
  ·rw [HK.out] at hi
   have := (qae hi).1
   omega
  ·rw [HK.out, HP.out] at hL
   exact h.base ha.sl.1 R hL
 clear ha R hs HK HP hs6
 go_enter Tryz.func57, Tryz.ntmps57
 go_wp2_with (first
  | (go_at_call 80; refine (HC.out _ (qa1 _ _)).mono ?_; rintro e w1 ⟨g, rfl, hm1, hb1⟩; have HM1 : Hid (Mt w1 (some ⟨g, 0, none⟩) N N P) := hm1; have HB1 : Hid (Below w.heap.size w w1) := qa0 (qa1 _ _) hb1; clear hm1 hb1 HC)
  | (go_at_call 23; refine (HL.out _).mono ?_; rintro e w2 ⟨x2, d2, rfl, hj2, hb2⟩; have HI2 : Hid (Il w2 x2 K (fun i => (f i : Int))) := hj2; have HM2 : Hid (Mt w2 (some ⟨g, 0, none⟩) N N P) := (HM1.out.later (qa1 _ _)).later hb2; have HB2 : Hid (Below w.heap.size w w2) := qa0 (qa0 HB1.out (qa1 _ _)) hb2; have va := (Vr.new w1 (.int .i64 (K : Int)) (.int .i64 (c : Int)) (.slice (some ⟨g, 0, none⟩) N N)).later hb2; have a0 := va.c0; have a1 := va.c1; have a2 := va.c2; clear hj2 hb2 va HL HM1 HB1)
  | (go_at_call 81; refine (ql1 _ K c N N (some ⟨g, 0, none⟩) P HM2.out HRk.out).mono ?_; rintro e w3 ⟨ps, pd, t, q, rfl, hp3, hL3, _, ht3, hb3⟩; have HI3 : Hid (Il w3 x2 K (fun i => (f i : Int))) := HI2.out.later hb3; have HJ3 : Hid (Il w3 ps t (fun i => (q i : Int))) := hp3; have HL3 : Hid (FstL (m2 P K c) K t q) := hL3; have HB3 : Hid (Below w.heap.size w w3) := qa0 HB2.out hb3; clear hp3 hL3 hb3 HB2 HM2 HI2))
 go_loop [11, 13, 32] (fun vz _ vi => ∃ u z : Nat, u ≤ t ∧ vi = .int .i64 (u : Int) ∧ vz = .int .u64 (z : Int) ∧ Hid (Bs q u z)) (fun _ _ vi => t - (intOf vi).toNat)
 case atStart => exact ⟨0, 0, by omega, rfl, rfl, HB0.out q⟩
 case round =>
  obtain ⟨u, z, hu, rfl, rfl, HZ⟩ := hrel
  by_cases hlt : u < t
  ·obtain ⟨bp, op, ep, hcp⟩ := HJ3.out u hlt
   have hqK := HL3.out.lt u hlt
   obtain ⟨v, HV⟩ : ∃ v, Hid (q u = v) := ⟨_, rfl⟩
   dsimp only at hcp
   rw [HV.out] at hcp hqK
   obtain ⟨bx, ox, ex, hcx⟩ := HI3.out v hqK
   have hf6 := HF.out v hqK
   obtain ⟨m, HM⟩ : ∃ m, Hid (f v = m) := ⟨_, rfl⟩
   dsimp only at hcx
   rw [HM.out] at hcx hf6
   subst ep
   subst ex
   obtain ⟨T, HT⟩ : ∃ T : Nat, Hid (2 ^ m = T) := ⟨_, rfl⟩
   have hp2 : IntKind.u64.wrap (2 ^ m) = (T : Int) := by rw [← HT.out]; exact qis m hf6
   have hT6 : T < 18446744073709551616 := by rw [← HT.out]; exact qd2 hf6
   obtain ⟨y, HU⟩ : ∃ y, Hid (z ||| T = y) := ⟨_, rfl⟩
   have hor : bits .or .u64 (z : Int) (T : Int) = (y : Int) := by rw [← HU.out]; exact u64_or_nat z T (HBz.out q u z HZ.out) hT6
   have p0 : (0 : Int) ≤ (u : Int) := by omega
   have p1 : (u : Int) < (t : Int) := by omega
   have p2 : (0 : Int) ≤ (v : Int) := by omega
   have p3 : (v : Int) < (K : Int) := by omega
   have HN : Hid (Bs q (u + 1) y) := by
    have := HBs.out q u z HZ.out (by rw [HV.out]; exact hqK)
    rw [HV.out, HM.out, HT.out, HU.out] at this
    exact this
   clear hT6
   go_wp2
   exact ⟨⟨u + 1, y, by omega, by go_num, by go_num, HN⟩, by simp [intOf]; omega⟩
  ·obtain rfl : u = t := by omega
   go_wp2
   go_ret2
   exact ⟨z, rfl, HBe.out q u z HZ.out HL3.out, HB3.out⟩
open Go.RowKit
theorem ql2 {b b' : Bool} {P : Prop} (h : b = true ↔ P) (h' : b' = true ↔ P) : b = b' := by
 cases b <;> cases b' <;> simp_all
theorem bld_ex (P : Nat → Prop) : ∀ n, ∃ p, Bld P n p := by
 intro n
 induction n with
 | zero => exact ⟨0, Bld.start P⟩
 | succ n ih =>
  obtain ⟨p, hp⟩ := ih
  by_cases h : P n
  ·exact ⟨_, hp.yes h⟩
  ·exact ⟨_, hp.no h⟩
open Go.RowKit
/-- The document's five rows. -/
def g5 (i : Nat) : Nat := if i = 0 then 1 else if i = 3 then 1 else if i = 4 then 1 else if i = 5 then 1 else if i = 6 then 2 else if i = 7 then 2 else 0
open Go.RowKit
theorem base_num {w : World} {r c n k s p : Nat} {a : Option Addr} {F : Nat → Nat} (ha : Mt w a n k F) (R : Rt r c n) (hs : s < 2 ^ r) (hp : BaS (m2 F r c) r s p) :
  ∀ w' : World, Below w.heap.size w w' → Calls Tryz.prog 57 #[mv r c a n k, .int .u64 (s : Int)] w' fun e w'' => e = .returned (.tuple #[.int .u64 (p : Int), .int .i64 0]) ∧ Below w'.heap.size w' w'' := fun w' hb =>
 (tBase_ok w' r c n k s a F (ha.later hb) R hs).mono (fun e w'' h => by
  obtain ⟨t', he, ht', hbb⟩ := h
  rw [ht'.one hp] at he
  exact ⟨he, hbb⟩)
open Go.RowKit
theorem like7 (w : World) (r c : Int) (a b : Option Addr) (n k d : Nat) (f : Nat → Nat) (ha : Mt w a n k f) (hb : Mt w b n d f) : Calls Tryz.prog 9 #[mv r c a n k, mv r c b n d] w fun e w' => e = .returned (.bool true) ∧ Below w.heap.size w w' := by
 have := qii w r c r c a b n n k d f f ha.sl hb.sl
 rw [qik (fun _ _ => rfl)] at this
 exact this
theorem qfn {w : World} {base n d : Nat} {s : Option Addr} {f : Nat → Nat} (h : w.ownsRow base 5 1 (.slice s n d) n (row n f).toList) (hf : ∀ i, i < n → f i < 256) : Mt w s n d f := by
 refine ⟨qby h hf, ?_, qbf h⟩
 rcases h.2 with ⟨e, h0⟩ | ⟨g, cap, cur, e, _, _, hc, _⟩
 ·cases e; omega
 ·cases e; omega
open Go.RowKit Go.Shelf
attribute [local go_sem] Oper.semAt_some
theorem qan {p : Prop} (h : p) : Hid p := h
/-- A matrix may be a generator. -/
def GenP (r c : Int) (n : Nat) : Prop := RightP r c n ∧ 1 ≤ c ∧ c ≤ r
theorem GenP.nat {r c : Int} {n : Nat} (h : GenP r c n) : ∃ r' c' : Nat, r = (r' : Int) ∧ c = (c' : Int) ∧ Rt r' c' n ∧ 1 ≤ c' ∧ c' ≤ r' := by
  obtain ⟨⟨h1, h2, h3, h4, h5⟩, h6, h7⟩ := h
  obtain ⟨x, rfl⟩ := Int.eq_ofNat_of_zero_le h1
  obtain ⟨y, rfl⟩ := Int.eq_ofNat_of_zero_le h3
  exact ⟨x, y, rfl, rfl, ⟨by omega, by omega, by have : (n : Int) = ((x * y : Nat) : Int) := by rw [h5]; simp
                                                 omega⟩, by omega, by omega⟩
theorem qc9 (w : World) (r c : Int) (n k : Nat) (a : Option Addr) (b : Bool) (hb : b = true ↔ GenP r c n) :
  Calls Tryz.prog 30 #[mv r c a n k] w fun e w' => e = .returned (.bool b) ∧ Below w.heap.size w w' := by
 obtain ⟨wb, HW⟩ : ∃ wb, Hid (w.alloc (.cells #[.int .i64 r, .int .i64 c, .slice a n k] 24) = wb) := ⟨_, rfl⟩
 have HB0 : Hid (Below w.heap.size w wb) := by rw [← HW.out]; exact qa1 _ _
 have HV : Hid (Vr wb w.heap.size (.int .i64 r) (.int .i64 c) (.slice a n k)) := by rw [← HW.out]; exact Vr.new w _ _ _
 by_cases h : RightP r c n
 ·have HP : Hid (RightP r c n) := h
  have HE : Hid (b = (decide (1 ≤ c) && decide (c ≤ r))) := by
   show b = _
   cases b with
   | true =>
    have := hb.1 rfl
    simp [this.2.1, this.2.2]
   | false =>
    have : ¬ (1 ≤ c ∧ c ≤ r) := fun h2 => by have := hb.2 ⟨h, h2.1, h2.2⟩; cases this
    by_cases h1 : 1 ≤ c
    ·simp [h1]; omega
    ·simp [h1]
  clear h hb
  by_cases h1 : 1 ≤ c
  ·have g0 : decide ((0 : Int) < c) = true := decide_eq_true (by omega)
   have g1 : decide ((1 : Int) ≤ c) = true := decide_eq_true h1
   go_enter Tryz.func30, Tryz.ntmps30
   go_wp2_with (go_at_call 45; rw [HW.out]; refine (qax _ _ _ _ _ _ HP.out).mono ?_; rintro e w1 ⟨rfl, hb1⟩; have HB1 : Hid (Below wb.heap.size wb w1) := hb1; have v0 := (HV.out.later hb1).c0; have v1 := (HV.out.later hb1).c1; clear hb1)
   go_ret
   exact ⟨by rw [HE.out, g1]; simp, qa0 HB0.out HB1.out⟩
  ·have g0 : decide ((0 : Int) < c) = false := decide_eq_false (by omega)
   have g1 : decide ((1 : Int) ≤ c) = false := decide_eq_false h1
   go_enter Tryz.func30, Tryz.ntmps30
   go_wp2_with (go_at_call 45; rw [HW.out]; refine (qax _ _ _ _ _ _ HP.out).mono ?_; rintro e w1 ⟨rfl, hb1⟩; have HB1 : Hid (Below wb.heap.size wb w1) := hb1; have v0 := (HV.out.later hb1).c0; have v1 := (HV.out.later hb1).c1; clear hb1)
   go_ret
   exact ⟨by rw [HE.out, g1]; simp, qa0 HB0.out HB1.out⟩
 ·have HP : Hid (¬ RightP r c n) := h
  have HE : Hid (b = false) := by
   show b = _
   cases b with
   | true => exact (h (hb.1 rfl).1).elim
   | false => rfl
  clear h hb
  go_enter Tryz.func30, Tryz.ntmps30
  go_wp2_with (go_at_call 45; rw [HW.out]; refine (qjx _ _ _ _ _ _ HP.out).mono ?_; rintro e w1 ⟨rfl, hb1⟩; have HB1 : Hid (Below wb.heap.size wb w1) := hb1; have v0 := (HV.out.later hb1).c0; have v1 := (HV.out.later hb1).c1; clear hb1)
  go_ret
  exact ⟨by rw [HE.out]; rfl, qa0 HB0.out HB1.out⟩
theorem ql3 (w : World) (r c : Int) (n k : Nat) (a : Option Addr) (b : Bool) (hb : b = true ↔ GenP r c n) :
  Calls Tryz.prog 65 #[mv r c a n k] w fun e w' => e = .returned (.bool b) ∧ Below w.heap.size w w' := by
 obtain ⟨wb, HW⟩ : ∃ wb, Hid (w.alloc (.cells #[.int .i64 r, .int .i64 c, .slice a n k] 24) = wb) := ⟨_, rfl⟩
 have HB0 : Hid (Below w.heap.size w wb) := by rw [← HW.out]; exact qa1 _ _
 have HV : Hid (Vr wb w.heap.size (.int .i64 r) (.int .i64 c) (.slice a n k)) := by rw [← HW.out]; exact Vr.new w _ _ _
 by_cases h : RightP r c n
 ·have HP : Hid (RightP r c n) := h
  have HE : Hid (b = (decide (1 ≤ c) && decide (c ≤ r))) := by
   show b = _
   cases b with
   | true =>
    have := hb.1 rfl
    simp [this.2.1, this.2.2]
   | false =>
    have : ¬ (1 ≤ c ∧ c ≤ r) := fun h2 => by have := hb.2 ⟨h, h2.1, h2.2⟩; cases this
    by_cases h1 : 1 ≤ c
    ·simp [h1]; omega
    ·simp [h1]
  clear h hb
  by_cases h1 : 1 ≤ c
  ·have g0 : decide ((0 : Int) < c) = true := decide_eq_true (by omega)
   have g1 : decide ((1 : Int) ≤ c) = true := decide_eq_true h1
   go_enter Tryz.func65, Tryz.ntmps65
   go_wp2_with (go_at_call 40; rw [HW.out]; refine (qam _ _ _ _ _ _ HP.out).mono ?_; rintro e w1 ⟨rfl, hb1⟩; have HB1 : Hid (Below wb.heap.size wb w1) := hb1; have v0 := (HV.out.later hb1).c0; have v1 := (HV.out.later hb1).c1; clear hb1)
   go_ret
   exact ⟨by rw [HE.out, g1]; simp, qa0 HB0.out HB1.out⟩
  ·have g0 : decide ((0 : Int) < c) = false := decide_eq_false (by omega)
   have g1 : decide ((1 : Int) ≤ c) = false := decide_eq_false h1
   go_enter Tryz.func65, Tryz.ntmps65
   go_wp2_with (go_at_call 40; rw [HW.out]; refine (qam _ _ _ _ _ _ HP.out).mono ?_; rintro e w1 ⟨rfl, hb1⟩; have HB1 : Hid (Below wb.heap.size wb w1) := hb1; have v0 := (HV.out.later hb1).c0; have v1 := (HV.out.later hb1).c1; clear hb1)
   go_ret
   exact ⟨by rw [HE.out, g1]; simp, qa0 HB0.out HB1.out⟩
 ·have HP : Hid (¬ RightP r c n) := h
  have HE : Hid (b = false) := by
   show b = _
   cases b with
   | true => exact (h (hb.1 rfl).1).elim
   | false => rfl
  clear h hb
  go_enter Tryz.func65, Tryz.ntmps65
  go_wp2_with (go_at_call 40; rw [HW.out]; refine (right_no _ _ _ _ _ _ HP.out).mono ?_; rintro e w1 ⟨rfl, hb1⟩; have HB1 : Hid (Below wb.heap.size wb w1) := hb1; have v0 := (HV.out.later hb1).c0; have v1 := (HV.out.later hb1).c1; clear hb1)
  go_ret
  exact ⟨by rw [HE.out]; rfl, qa0 HB0.out HB1.out⟩
open Go.RowKit Go.Shelf
theorem qca (w : World) (r s n k : Nat) (c : Int) (a : Option Addr) (hr : r ≤ 64) (hs6 : s < 18446744073709551616) :
  Calls Tryz.prog 31 #[mv r c a n k, .int .u64 (s : Int)] w fun e w' => e = .returned (.bool (decide (s < 2 ^ r))) ∧ Below w.heap.size w w' := by
 obtain ⟨A, HA⟩ : ∃ A : Nat, Hid ((2 ^ r - 1 : Nat) = A) := ⟨_, rfl⟩
 obtain ⟨z, hz1, hz2⟩ := qdv hs6 hr HA.out
 have HZ : Hid (((z : Int) == 0) = decide (s < 2 ^ r)) := by
  show _ = _
  by_cases h : s < 2 ^ r
  ·rw [decide_eq_true h, hz2.2 h]; rfl
  ·rw [decide_eq_false h, beq_eq_false_iff_ne]
   intro e
   exact h (hz2.1 (by omega))
 clear hz2 hs6
 go_enter Tryz.func31, Tryz.ntmps31
 go_wp2_with (go_at_call 55; refine (jfull_ok r _ hr).mono ?_; rintro e w' ⟨rfl, rfl⟩; rw [HA.out])
 go_ret
 exact ⟨by rw [← HZ.out]; rfl, qa1 _ _⟩
theorem qgu (w : World) (r c : Int) (n k s : Nat) (a : Option Addr) (h : ¬ GenP r c n) :
  Calls Tryz.prog 37 #[mv r c a n k, .int .u64 (s : Int)] w fun e w' => e = .returned (.tuple #[.int .u64 0, .int .i64 3]) ∧ Below w.heap.size w w' := by
 have HP : Hid (∀ w' : World, Calls Tryz.prog 65 #[mv r c a n k] w' fun e w'' => e = .returned (.bool false) ∧ Below w'.heap.size w' w'') := fun w' => ql3 w' r c n k a false (by simp [h])
 clear h
 go_enter Tryz.func37, Tryz.ntmps37
 go_wp2_with (go_at_call 65; refine (HP.out _).mono ?_; rintro e w1 ⟨rfl, hb⟩; have HB1 : Hid (Below w.heap.size w w1) := qa0 (qa1 _ _) hb; clear hb)
 go_ret2
 exact ⟨rfl, HB1.out⟩
theorem ql4 (w : World) (r c n k s : Nat) (a : Option Addr) (G : GenP r c n) (hr : r ≤ 64) (hs6 : s < 18446744073709551616) (h : ¬ s < 2 ^ r) :
  Calls Tryz.prog 37 #[mv r c a n k, .int .u64 (s : Int)] w fun e w' => e = .returned (.tuple #[.int .u64 0, .int .i64 2]) ∧ Below w.heap.size w w' := by
 have HP : Hid (∀ w' : World, Calls Tryz.prog 65 #[mv r c a n k] w' fun e w'' => e = .returned (.bool true) ∧ Below w'.heap.size w' w'') := fun w' => ql3 w' r c n k a true (by simp [G])
 obtain ⟨A, HA⟩ : ∃ A : Nat, Hid ((2 ^ r - 1 : Nat) = A) := ⟨_, rfl⟩
 obtain ⟨z, hz1, hz2⟩ := qdv hs6 hr HA.out
 have hz3 : ((z : Int) == 0) = false := by
  simp only [beq_eq_false_iff_ne, ne_eq]
  intro e
  exact h (hz2.1 (by omega))
 clear G hz2 h hs6
 go_enter Tryz.func37, Tryz.ntmps37
 go_wp2_with (first
  | (go_at_call 65; refine (HP.out _).mono ?_; rintro e w1 ⟨rfl, hb⟩; have HV1 := (Vr.new w (.int .i64 (r : Int)) (.int .i64 (c : Int)) (.slice a n k)).later hb; have v0 := HV1.c0; have HB1 : Hid (Below w.heap.size w w1) := qa0 (qa1 _ _) hb; clear hb HV1)
  | (go_at_call 66; refine (qfh r _ hr).mono ?_; rintro e w' ⟨rfl, rfl⟩; rw [HA.out]))
 go_ret2
 exact ⟨rfl, HB1.out⟩
/-- The blocks that are left, as a number: those of r that are not in s. -/
theorem left_num {r s : Nat} (hr : r ≤ 64) (hs : s < 2 ^ r) : ∃ t : Nat, bits .andNot .u64 ((2 ^ r - 1 : Nat) : Int) (s : Int) = (t : Int) ∧ t < 2 ^ r ∧ ∀ i, i < r → (bt t i = 1 ↔ ¬ bt s i = 1) := by
 have hs6 := qb2 hr hs
 have hp : 0 < 2 ^ r := Nat.two_pow_pos r
 have hA : 2 ^ r - 1 < 2 ^ r := by omega
 have hA6 := qb2 hr hA
 refine ⟨_, u64_andNot_nat _ s hA6 hs6, Nat.lt_of_le_of_lt Nat.and_le_left hA, fun i hi => ?_⟩
 rw [bt_diff hA6 hs6]
 have : bt (2 ^ r - 1) i = 1 := by
  have := Nat.testBit_two_pow_sub_one r i
  simp [Nat.testBit, hi, Nat.shiftRight_eq_div_pow, Nat.one_and_eq_mod_two] at this
  unfold bt
  omega
 exact ⟨fun h => h.2, fun h => ⟨this, h⟩⟩
theorem rleft_ok (w : World) (r c n k s t : Nat) (a : Option Addr) (G : GenP r c n) (hr : r ≤ 64) (hs : s < 2 ^ r) (ht : bits .andNot .u64 ((2 ^ r - 1 : Nat) : Int) (s : Int) = (t : Int)) :
  Calls Tryz.prog 37 #[mv r c a n k, .int .u64 (s : Int)] w fun e w' => e = .returned (.tuple #[.int .u64 (t : Int), .int .i64 0]) ∧ Below w.heap.size w w' := by
 have HP : Hid (∀ w' : World, Calls Tryz.prog 65 #[mv r c a n k] w' fun e w'' => e = .returned (.bool true) ∧ Below w'.heap.size w' w'') := fun w' => ql3 w' r c n k a true (by simp [G])
 obtain ⟨A, HA⟩ : ∃ A : Nat, Hid ((2 ^ r - 1 : Nat) = A) := ⟨_, rfl⟩
 obtain ⟨z, hz1, hz2⟩ := qdv (qb2 hr hs) hr HA.out
 have han : bits .andNot .u64 (s : Int) (A : Int) = 0 := by rw [hz1, hz2.2 hs]; rfl
 rw [HA.out] at ht
 clear G hz1 hz2 hs
 go_enter Tryz.func37, Tryz.ntmps37
 go_wp2_with (first
  | (go_at_call 65; refine (HP.out _).mono ?_; rintro e w1 ⟨rfl, hb⟩; have HV1 := (Vr.new w (.int .i64 (r : Int)) (.int .i64 (c : Int)) (.slice a n k)).later hb; have v0 := HV1.c0; have HB1 : Hid (Below w.heap.size w w1) := qa0 (qa1 _ _) hb; clear hb HV1)
  | (go_at_call 66; refine (qfh r _ hr).mono ?_; rintro e w' ⟨rfl, rfl⟩; rw [HA.out]))
 go_ret2
 exact ⟨rfl, HB1.out⟩
end Go.Proofs.YtokdejhbjoglcaaGreat
