/-
  Degrees, values, roots and divisors of polynomials: no Go in sight.
  What a check's rows tell.
  What the program's matroid rests on: spans told by kernels, rows of noughts, factors of combinations. No Go in sight.
  Contracts of the program's gauss: freeColumns.
  Contracts of the program's gauss: Kernel.
  Contracts of the program's matroid: rowsOf, ofNoughts.
-/
import Derived.Test.YtokdejhbjoglcaaQgges00
import Derived.Test.YtokdejhbjoglcaaQgges04
import Derived.Test.YtokdejhbjoglcaaQgges13
import Derived.Test.YtokdejhbjoglcaaQgges27
import Derived.Test.YtokdejhbjoglcaaQgges29
import Derived.Test.YtokdejhbjoglcaaQgges41
import Derived.Test.YtokdejhbjoglcaaQgges36
import Derived.Test.YtokdejhbjoglcaaQgges25
import Derived.Test.YtokdejhbjoglcaaQgges37
set_option maxRecDepth 100000
set_option maxHeartbeats 16000000
namespace Go.Proofs.Ytokdejhbjoglcaa

/-- No coefficient from n on. -/
def Above (n : Nat) (p : Nat → Nat) : Prop := ∀ i, n ≤ i → p i = 0
theorem Above.mono {n m : Nat} {p : Nat → Nat} (h : Above n p) (hnm : n ≤ m) : Above m p := fun i hi => h i (by omega)
theorem Above.pa {n : Nat} {p q : Nat → Nat} (hp : Above n p) (hq : Above n q) : Above n (pa p q) := fun i hi => by
 show p i ^^^ q i = 0
 rw [hp i hi, hq i hi]; rfl
theorem pm_above {n m : Nat} {p q : Nat → Nat} (hp : Above n p) (hq : Above m q) (i : Nat) (hi : n + m ≤ i + 1) : pm p q i = 0 := by
 refine qad (fun k _ => ?_)
 by_cases h : n ≤ k
 ·rw [hp k h, qaf]
 ·rw [hq (i - k) (by omega), qa7]
theorem Above.pm {n m : Nat} {p q : Nat → Nat} (hp : Above n p) (hq : Above m q) : Above (n + m) (pm p q) := fun i hi => pm_above hp hq i (by omega)
theorem qdt (a b : Nat) : a ^^^ b = 0 ↔ a = b := by
 constructor
 ·intro h
  have : a ^^^ b ^^^ b = 0 ^^^ b := by rw [h]
  rw [Nat.xor_assoc, Nat.xor_self, Nat.xor_zero, Nat.zero_xor] at this
  exact this
 ·rintro rfl; exact Nat.xor_self a
/-! ### Values -/
/-- The value of a polynomial of n coefficients at x. -/
def ev (p : Nat → Nat) (n x : Nat) : Nat := xs (fun i => fm (p i) (fpow x i)) n
/-! ### Roots -/
/-- x and r. -/
def lin (r : Nat) (i : Nat) : Nat := if i = 0 then r else if i = 1 then 1 else 0
theorem qj1 (r : Nat) : Above 2 (lin r) := fun i hi => by unfold lin; rw [if_neg (by omega), if_neg (by omega)]
theorem lin_pm (r : Nat) (q : Nat → Nat) (hq : El q) : (∀ i, pm (lin r) q (i + 1) = fm r (q (i + 1)) ^^^ q i) ∧ pm (lin r) q 0 = fm r (q 0) := by
 constructor
 ·intro i
  have z : xs (fun k => fm (lin r (k + 1 + 1)) (q (i + 1 - (k + 1 + 1)))) i = 0 := qad (fun k _ => by
   rw [show lin r (k + 1 + 1) = 0 from qj1 r _ (by omega), qaf])
  unfold pm
  rw [qeh, qeh, z, Nat.xor_zero]
  show fm (lin r 0) (q (i + 1 - 0)) ^^^ fm (lin r 1) (q (i + 1 - 1)) = _
  rw [show lin r 0 = r from rfl, show lin r 1 = 1 from rfl, Nat.sub_zero, Nat.add_sub_cancel, qaz _ (hq i)]
 ·simp only [pm, xs, Nat.zero_xor]
  rfl
/-- A root splits off a factor. -/
theorem factor {n : Nat} {p : Nat → Nat} {r : Nat} (hp : El p) (hr : r < 256) (hn : Above (n + 1) p) (h0 : ev p (n + 1) r = 0) : ∃ q, El q ∧ Above n q ∧ ∀ i, p i = pm (lin r) q i := by
 -- q i: the sum of p (i + 1 + j) times r to the power j
 refine ⟨fun i => xs (fun j => fm (p (i + 1 + j)) (fpow r j)) (n - i), fun i => qe1 (fun k _ => qah _ _ (hp _)), fun i hi => by show xs _ (n - i) = 0; rw [show n - i = 0 by omega]; rfl, ?_⟩
 have hel : El (fun i => xs (fun j => fm (p (i + 1 + j)) (fpow r j)) (n - i)) := fun i => qe1 (fun k _ => qah _ _ (hp _))
 have step : ∀ i k, fm r (xs (fun j => fm (p (i + 1 + j)) (fpow r j)) k) = xs (fun j => fm (p (i + 1 + j)) (fpow r (j + 1))) k := by
  intro i k
  rw [qci]
  refine qa6 (fun j _ => ?_)
  simp only [fpow]
  rw [← qan r _ _ hr (hp _), qag r _ hr (hp _), qan _ _ _ (hp _) hr, qag r _ hr (fpow_lt r j)]
 have head : ∀ i k, xs (fun j => fm (p (i + j)) (fpow r j)) (k + 1) = p i ^^^ xs (fun j => fm (p (i + 1 + j)) (fpow r (j + 1))) k := by
  intro i k
  rw [qeh]
  show fm (p (i + 0)) (fpow r 0) ^^^ _ = _
  rw [show fpow r 0 = 1 from rfl, Nat.add_zero, qai _ (hp i)]
  congr 1
  refine qa6 (fun j _ => ?_)
  rw [show i + (j + 1) = i + 1 + j by omega]
 intro i
 cases i with
 | zero =>
  rw [(lin_pm r _ hel).2]
  show p 0 = fm r (xs (fun j => fm (p (0 + 1 + j)) (fpow r j)) (n - 0))
  rw [step, Nat.sub_zero]
  have e := head 0 n
  have e2 : xs (fun j => fm (p (0 + j)) (fpow r j)) (n + 1) = 0 := by
   exact (qa6 (fun k _ => by rw [Nat.zero_add])).trans h0
  rw [e2] at e
  exact (qdt _ _).mp e.symm
 | succ i =>
  rw [(lin_pm r _ hel).1 i]
  show p (i + 1) = fm r (xs (fun j => fm (p (i + 1 + 1 + j)) (fpow r j)) (n - (i + 1))) ^^^ xs (fun j => fm (p (i + 1 + j)) (fpow r j)) (n - i)
  rw [step]
  by_cases h : i < n
  ·rw [show n - i = n - (i + 1) + 1 by omega, head (i + 1) (n - (i + 1)), Nat.xor_comm (p (i + 1)), ← Nat.xor_assoc, Nat.xor_self, Nat.zero_xor]
  ·rw [show n - (i + 1) = 0 by omega, show n - i = 0 by omega, hn (i + 1) (by omega)]
   simp [xs]
open Go.RowKit
theorem cn_mod {s m : Nat} : ∀ n, cn (s % 2 ^ m) n = cn s (min n m) := by
 intro n
 induction n with
 | zero => rw [Nat.zero_min]; rfl
 | succ n ih =>
  rw [qak, ih]
  by_cases h : n < m
  ·rw [show min n m = n by omega, show min (n + 1) m = n + 1 by omega, qak]
   congr 1
   have h1 := qgv s m n
   have h2 := qcw (s % 2 ^ m) n
   have h3 := qcw s n
   omega
  ·rw [show min n m = m by omega, show min (n + 1) m = m by omega]
   have h1 := qgv s m n
   have h2 := qcw (s % 2 ^ m) n
   omega
theorem lf_mod {s R m t : Nat} (ht : t < cn s m) (hm : m ≤ R) : lf (s % 2 ^ m) R t = lf s R t := by
 have h0 : t < cn s R := Nat.lt_of_lt_of_le ht (qcx hm)
 obtain ⟨a, b, c⟩ := qab h0
 have h1 : lf s R t < m := Classical.byContradiction fun hn => by
  have := qcx (s := s) (show m ≤ lf s R t by omega)
  omega
 have h2 : bt (s % 2 ^ m) (lf s R t) = 1 := (qgv _ _ _).2 ⟨h1, b⟩
 have h3 := (lf_cn a h2).2
 rwa [cn_mod, show min (lf s R t) m = lf s R t by omega, c] at h3
/-- A picked row is no combination of those above just if it is none of those of s with lesser numbers. -/
theorem qjg {F : Nat → Nat} {r c n s v : Nat} (hF : ∀ i, i < n → F i < 256) (R : Rt r c n) (hv : v < cn s r) : Fst (m2 (pkf F (lf s r) c) (cn s r) c) v ↔ ¬ SS (m2 F r c) r (s % 2 ^ lf s r v) (m2 F r c (lf s r v)) := by
 have hM := qap hF R
 obtain ⟨a, b, e⟩ := qab hv
 have e1 : ∀ i, i < cn s r → m2 (pkf F (lf s r) c) (cn s r) c i = m2 F r c (lf s r i) := fun i hi => qh0 (fun t ht => (qab ht).1) hi
 have e2 : cn (s % 2 ^ lf s r v) r = v := by rw [cn_mod, show min r (lf s r v) = lf s r v by omega, e]
 have hsp := qdv hM r (s % 2 ^ lf s r v)
 rw [e2] at hsp
 have e3 : ∀ t j, t < v → m2 F r c (lf (s % 2 ^ lf s r v) r t) j = m2 (pkf F (lf s r) c) (cn s r) c t j := fun t j ht => by rw [lf_mod (by omega) (by omega), e1 t (by omega)]
 unfold Fst
 rw [e1 v hv]
 refine not_congr ⟨fun h => ?_, fun h => ?_⟩
 ·exact Spn.trans (h.rows (fun t j ht => (e3 t j ht).symm)) hsp.1
 ·exact (Spn.trans h hsp.2).rows e3
/-- What Basis has gathered of the first u places. -/
def Bsu (s R : Nat) (q : Nat → Nat) (u z : Nat) : Prop := z < 2 ^ R ∧ ∀ i, i < R → (bt z i = 1 ↔ ∃ v, v < u ∧ lf s R (q v) = i)
theorem Bsu.start (s R : Nat) (q : Nat → Nat) : Bsu s R q 0 0 := ⟨Nat.two_pow_pos R, fun i _ => by
 rw [qcq (n := 0) (by decide) (Nat.zero_le _)]
 exact ⟨fun h => by omega, fun ⟨v, h, _⟩ => by omega⟩⟩
theorem Bsu.step {s R u z : Nat} {q : Nat → Nat} (h : Bsu s R q u z) (hq : q u < cn s R) : Bsu s R q (u + 1) (z ||| 2 ^ lf s R (q u)) := by
 obtain ⟨a, b, c⟩ := qab hq
 refine ⟨Nat.or_lt_two_pow h.1 (Nat.pow_lt_pow_right (by decide) a), fun i hi => ?_⟩
 rw [qbi, qbd, h.2 i hi]
 constructor
 ·rintro (⟨v, h1, h2⟩ | e)
  ·exact ⟨v, by omega, h2⟩
  ·exact ⟨u, by omega, e.symm⟩
 ·rintro ⟨v, h1, h2⟩
  by_cases e : v = u
  ·subst e; exact .inr h2.symm
  ·exact .inl ⟨v, by omega, h2⟩
theorem Bsu.base {F q : Nat → Nat} {r c n s t z : Nat} (hF : ∀ i, i < n → F i < 256) (R : Rt r c n) (h : Bsu s r q t z) (hL : FstL (m2 (pkf F (lf s r) c) (cn s r) c) (cn s r) t q) : BaS (m2 F r c) r s z := by
 refine ⟨h.1, fun i hi => ?_⟩
 rw [h.2 i hi]
 constructor
 ·rintro ⟨v, hv, e⟩
  have h1 := hL.lt v hv
  have h2 := (qjg hF R h1).1 (hL.is v hv)
  rw [e] at h2
  refine ⟨?_, h2⟩
  rw [← e]
  exact (qab h1).2.1
 ·rintro ⟨h1, h2⟩
  obtain ⟨h3, h4⟩ := lf_cn hi h1
  have h5 : Fst (m2 (pkf F (lf s r) c) (cn s r) c) (cn s i) := (qjg hF R h3).2 (by rw [h4]; exact h2)
  obtain ⟨u, hu, e⟩ := hL.all _ h3 h5
  exact ⟨u, hu, by rw [e]; exact h4⟩
open Go.RowKit
theorem rows_any (w : World) (r c r' c' E : Int) (n k s kq n' : Nat) (a : Option Addr) (q : Nat → Int) (Q : World → Option Addr → Nat → Prop)
  (HL : Hid (∀ w' : World, Calls Try.prog 33 #[.int .u64 (s : Int)] w' fun e w'' => ∃ x d, e = .returned (.slice x kq d) ∧ Il w'' x kq q ∧ Below w'.heap.size w' w''))
  (HP : Hid (∀ (w' : World) (x : Option Addr) (d : Nat), Below w.heap.size w w' → w.heap.size + 2 ≤ w'.heap.size → Il w' x kq q → Calls Try.prog 32 #[mv r c a n k, .slice x kq d] w' fun e w'' => ∃ a' k', e = .returned (.tuple #[mv r' c' a' n' k', .int .i64 E]) ∧ Q w'' a' k' ∧ Below w'.heap.size w' w''))
  (HQ : Hid (∀ (w1 w2 : World) (a' : Option Addr) (k' : Nat), Q w1 a' k' → w1.grownBy w2 (some (w.heap.size + 1)) → Q w2 a' k')) :
  Calls Try.prog 81 #[mv r c a n k, .int .u64 (s : Int)] w fun e w' => ∃ a' k', e = .returned (.tuple #[mv r' c' a' n' k', .int .i64 E]) ∧ Q w' a' k' ∧ Below w.heap.size w w' := by
 go_enter Try.func81, Try.ntmps81
 go_wp2
 refine wp_region_held (S := fun w' => w'.cell? ⟨w.heap.size, 0, none⟩ = some (.int .i64 r) ∧ w'.cell? ⟨w.heap.size, 1, none⟩ = some (.int .i64 c) ∧ w'.cell? ⟨w.heap.size, 2, none⟩ = some (.slice a n k)) (by kernel_rfl) ?_
 change wpAnyH _ _ _ _ _ _ _ _ (World.drew _)
 obtain ⟨W0, HW0⟩ : ∃ W0, Hid (((w.alloc (.cells #[.int .i64 r, .int .i64 c, .slice a n k] 24)).alloc (.cells #[.int .i64 0, .int .i64 0, .slice none 0 0] 24)).drew = W0) := ⟨_, rfl⟩
 rw [HW0.out]
 have HX0 : Hid (Vr W0 w.heap.size (.int .i64 r) (.int .i64 c) (.slice a n k)) := by rw [← HW0.out]; exact ((Vr.new w _ _ _).later (qa1 _ _)).later (Below.refl _ _).drew
 have HY0 : Hid (Vr W0 (w.heap.size + 1) (.int .i64 0) (.int .i64 0) (.slice none 0 0)) := by rw [← HW0.out]; show Vr _ _ _ _ _; have := (Vr.new (w.alloc (.cells #[.int .i64 r, .int .i64 c, .slice a n k] 24)) (.int .i64 0) (.int .i64 0) (.slice none 0 0)).later (Below.refl _ _).drew; simpa using this
 have HB0 : Hid (Below w.heap.size w W0) := by rw [← HW0.out]; exact qa0 (qa0 (qa1 _ _) (qa1 _ _)) (Below.refl _ _).drew
 have hz0 : w.heap.size + 2 ≤ W0.heap.size := HY0.out.lt
 refine wtkq 0 ?v0 rfl (by kernel_rfl) (fun _ _ _ h => h) (by rfl) ?y0 ⟨HX0.out.c0, HX0.out.c1, HX0.out.c2⟩ ?z0
 case y0 => (intro w hSw; (try dsimp only at hSw); go_simp; try with_reducible rfl)
 try simp only [mz1, mz3, Act.put, mz4, mz5, mz6]
 refine wtkq 1 ?v1 rfl (by kernel_rfl) (fun _ _ _ h => h) (by rfl) ?y1 ⟨HX0.out.c0, HX0.out.c1, HX0.out.c2⟩ ?z1
 case y1 => (intro w hSw; (try dsimp only at hSw); go_simp; try with_reducible rfl)
 try simp only [mz1, mz2, mz3, Act.put, mz4, mz5, mz6]
 refine wpAnyH_ready (rs := [2]) (by kernel_rfl) (by simp) ?_
 refine AllReadyH.cons rfl (fun K hK => ?_) AllReadyH.nil
 go_simp
 refine (HL.out _).mono ?_
 rintro e w1 ⟨x1, d1, rfl, hj1, hb1⟩
 have HI1 : Hid (Il w1 x1 kq q) := hj1
 have HB1 : Hid (Below w.heap.size w w1) := qa0 HB0.out hb1
 have HV1 : Hid (Vr w1 w.heap.size (.int .i64 r) (.int .i64 c) (.slice a n k)) := HX0.out.later hb1
 have HY1 : Hid (Vr w1 (w.heap.size + 1) (.int .i64 0) (.int .i64 0) (.slice none 0 0)) := HY0.out.later hb1
 have hz1 : w.heap.size + 2 ≤ w1.heap.size := Nat.le_trans hz0 hb1.size
 clear hj1 hb1
 refine hK.out _ _ ⟨HV1.out.c0, HV1.out.c1, HV1.out.c2⟩ (fun _ => ?_)
 clear hK K
 try simp only [mz1, mz2, mz3, Act.put, mz4, mz5, mz6]
 refine wpAnyH_ready (rs := [3]) (by kernel_rfl) (by simp) ?_
 refine AllReadyH.cons rfl (fun K hK => ?_) AllReadyH.nil
 go_simp
 refine (HP.out _ _ _ HB1.out hz1 HI1.out).mono ?_
 rintro e w2 ⟨a2, k2, rfl, hq2, hb2⟩
 have HQ2 : Hid (Q w2 a2 k2) := hq2
 have HB2 : Hid (Below w.heap.size w w2) := qa0 HB1.out hb2
 have HV2 : Hid (Vr w2 w.heap.size (.int .i64 r) (.int .i64 c) (.slice a n k)) := HV1.out.later hb2
 have HY2 : Hid (Vr w2 (w.heap.size + 1) (.int .i64 0) (.int .i64 0) (.slice none 0 0)) := HY1.out.later hb2
 clear hq2 hb2
 refine hK.out _ _ ⟨HV2.out.c0, HV2.out.c1, HV2.out.c2⟩ (fun _ => ?_)
 clear hK K
 try simp only [mz1, mz2, mz3, Act.put, mz4, mz5, mz6]
 refine wtkq 4 ?v4 rfl (by kernel_rfl) (fun _ _ _ h => h) (by rfl) ?y4 ⟨HV2.out.c0, HV2.out.c1, HV2.out.c2⟩ ?z4
 case y4 => (intro w hSw; (try dsimp only at hSw); go_simp; try with_reducible rfl)
 try simp only [mz1, mz2, mz3, Act.put, mz4, mz5, mz6]
 refine wtkq 5 ?v5 rfl (by kernel_rfl) (fun _ _ _ h => h) (by rfl) ?y5 ⟨HV2.out.c0, HV2.out.c1, HV2.out.c2⟩ ?z5
 case y5 => (intro w hSw; (try dsimp only at hSw); go_simp; try with_reducible rfl)
 try simp only [mz1, mz2, mz3, Act.put, mz4, mz5, mz6]
 refine wpAnyH_ready (rs := [6]) (by kernel_rfl) (by simp) ?_
 refine AllReadyH.cons rfl (fun K hK => ?_) AllReadyH.nil
 refine qaa rfl _ _ rfl (w.heap.size + 1) _ _ _ (.int .i64 r') (.int .i64 c') (.slice a2 n' k2) rfl rfl HY2.out rfl rfl rfl ?_
 intro w4 HV4 HG4
 have HQ4 : Hid (Q w4 a2 k2) := HQ.out _ _ _ _ HQ2.out HG4.out
 have HW4 : Hid (Vr w4 w.heap.size (.int .i64 r) (.int .i64 c) (.slice a n k)) := HV2.out.kept HG4.out (by omega)
 have HB4 : Hid (Below w.heap.size w w4) := HB2.out.trans (jbelow HG4.out HB2.out.size (fun g e => by cases e; omega))
 refine hK.out _ _ ⟨HW4.out.c0, HW4.out.c1, HW4.out.c2⟩ (fun _ => ?_)
 clear hK K
 try simp only [mz1, mz2, mz3, Act.put]
 refine wtkq 7 ?v7 rfl (by kernel_rfl) (fun _ _ _ h => h) (by rfl) ?y7 ⟨HW4.out.c0, HW4.out.c1, HW4.out.c2⟩ ?z7
 case y7 => (intro w hSw; (try dsimp only at hSw); go_simp; try with_reducible rfl)
 try simp only [mz1, mz2, mz3, Act.put, mz4, mz5, mz6]
 refine wpAnyH_done (by kernel_rfl) ?_ _
 have x0 := HV4.out.c0
 have x1 := HV4.out.c1
 have x2 := HV4.out.c2
 go_wp2
 refine bodyPost_ret (v := .tuple #[mv r' c' a2 n' k2, .int .i64 E]) (by simp [results, Try.results81, go_sem, x0, x1, x2, mv]) rfl ?_
 exact ⟨a2, k2, rfl, HQ4.out, HB4.out⟩
theorem qf0 {s K : Nat} {f : Nat → Nat} (hs : s < 18446744073709551616) (hK : cn s 64 = K) (hf : ∀ i, i < K → lf s 64 i = f i) : Hid (∀ w' : World, Calls Try.prog 33 #[.int .u64 (s : Int)] w' fun e w'' => ∃ x d, e = .returned (.slice x K d) ∧ Il w'' x K (fun i => (f i : Int)) ∧ Below w'.heap.size w' w'') :=
 fun w' => (jlist_ok s w' hs).mono (fun e w'' h => by
  obtain ⟨v, he, ho, hb⟩ := h
  rw [hK] at ho
  have ho2 := ho.congr hf
  obtain ⟨x, d, rfl, _⟩ := ho2.form
  exact ⟨x, d, he, qgz ho2.jl, hb⟩)
/-- The rows of a set. -/
theorem rows_ok (w : World) (r c n k s N : Nat) (a : Option Addr) (F : Nat → Nat) (ha : Mt w a n k F) (R : Rt r c n) (hs : s < 2 ^ r) (HN : Hid (cn s r * c = N)) :
  Calls Try.prog 81 #[mv r c a n k, .int .u64 (s : Int)] w fun e w' => ∃ g, e = .returned (.tuple #[mv (cn s r : Nat) c (some ⟨g, 0, none⟩) N N, .int .i64 0]) ∧ RowAt w' g 5 N (pkf F (lf s r) c) ∧ Below w.heap.size w w' := by
 have hr := R.r64
 have hs6 := qay hr hs
 have hcl := qax r s
 refine (rows_any w r c (cn s r : Nat) c 0 n k s (cn s r) N a (fun i => (lf s r i : Int)) (fun w' a' k' => k' = N ∧ ∃ g, a' = some ⟨g, 0, none⟩ ∧ RowAt w' g 5 N (pkf F (lf s r) c) ∧ w.heap.size + 2 ≤ g) (qf0 hs6 (qcb hr hs) (fun i _ => qff hr hs i)) (fun w' x d hb hz hi => ?_) (fun w1 w2 a' k' h hg => ?_)).mono (fun e w' h => ?_)
 ·refine (qby w' r c n k (cn s r) d N a x F (lf s r) (ha.later hb) R hi (fun i hi => (qab hi).1) (by omega) HN).mono (fun e w'' h => ?_)
  obtain ⟨g, he, hr, hg, hb2⟩ := h
  exact ⟨some ⟨g, 0, none⟩, N, he, ⟨rfl, g, rfl, hr, by omega⟩, hb2⟩
 ·obtain ⟨rfl, g, rfl, hr, hg2⟩ := h
  exact ⟨rfl, g, rfl, hr.kept hg (by omega), hg2⟩
 ·obtain ⟨a', k', rfl, ⟨rfl, g, rfl, hr, _⟩, hb⟩ := h
  exact ⟨g, rfl, hr, hb⟩
end Go.Proofs.Ytokdejhbjoglcaa
