/-
  Matrices that send nothing but nothing to nothing: Vandermonde's, Cauchy's, and the identity above Cauchy's.
  Divisors of polynomials, and the greatest common one: no Go in sight.
  Lagrange's polynomials: no Go in sight.
  Any k rows of the generators; what a check's rows tell.
-/
import Derived.Test.YtnfbbddoaeofgabGreatQlles00
import Derived.Test.YtnfbbddoaeofgabGreatQlles05
import Derived.Test.YtnfbbddoaeofgabGreatQlles17
import Derived.Test.YtnfbbddoaeofgabGreatQlles18
set_option maxRecDepth 100000
set_option maxHeartbeats 16000000
namespace Go.Proofs.YtnfbbddoaeofgabGreat
/-- A matrix that sends nothing else to nothing has rank as many as columns. -/
theorem qj8 {N : Nat → Nat → Nat} (hN : El2 N) {r c : Nat} (hc : ∀ i j, i < r → c ≤ j → N i j = 0) (h : ∀ x, El x → (∀ i, i < r → dt (N i) x c = 0) → ∀ j, j < c → x j = 0) : Rk N r c := by
 have hT : Rk (tpo N r) c c := by
  refine ⟨tpo N r, tpo_el hN r, fun a ha hz j hj => ?_, SpEq.refl (tpo_el hN r) c⟩
  refine h a ha (fun i hi => ?_) j hj
  rw [← hz i]
  exact qa7 (fun t ht => by unfold tpo; rw [if_pos hi, qab _ _ (hN i t) (ha t)])
 obtain ⟨k, hk⟩ := rk_ex hN r
 have := rk_tpo hc hk hT
 subst this
 exact hk
theorem qfs {a : Nat} (h : a < 256) (h0 : a ≠ 0) : finv a ≠ 0 := fun e => by
 have := qak a h h0
 rw [e, qaa] at this
 cases this
theorem xor_ne {a b : Nat} (h : a ≠ b) : a ^^^ b ≠ 0 := fun e => h ((qag _ _).mp e)
theorem finv_sum {a b : Nat} (ha : a < 256) (hb : b < 256) (a0 : a ≠ 0) (b0 : b ≠ 0) : finv a ^^^ finv b = fm (a ^^^ b) (fm (finv a) (finv b)) := by
 rw [qg8 _ _ _ ha hb, ← qae _ _ _ ha (qa9 a), qak a ha a0, qao _ (qa9 b), qab (finv a) (finv b) (qa9 a) (qa9 b), ← qae _ _ _ hb (qa9 b), qak b hb b0, qao _ (qa9 a), Nat.xor_comm]
theorem xor_mid (a b c : Nat) : (a ^^^ c) ^^^ (b ^^^ c) = a ^^^ b := by
 rw [xor4, Nat.xor_self, Nat.xor_zero]
/-- Cauchy's matrix, square. -/
theorem qft : ∀ (n : Nat) (c u v : Nat → Nat), (∀ j, j < n → c j < 256) → (∀ i, i < n → u i < 256) → (∀ j, j < n → v j < 256) → (∀ i j, i < n → j < n → u i = u j → i = j) → (∀ i j, i < n → j < n → v i = v j → i = j) → (∀ i j, i < n → j < n → u i ≠ v j) → (∀ i, i < n → xs (fun j => fm (c j) (finv (u i ^^^ v j))) n = 0) → ∀ j, j < n → c j = 0 := by
 intro n
 induction n with
 | zero => intro c u v _ _ _ _ _ _ _ j hj; omega
 | succ n ih =>
  intro c u v hc hu hv iu iv huv h
  have lt : ∀ i j, i < n + 1 → j < n + 1 → u i ^^^ v j < 256 := fun i j hi hj => qaw _ _ (hu i hi) (hv j hj)
  have ne : ∀ i j, i < n + 1 → j < n + 1 → u i ^^^ v j ≠ 0 := fun i j hi hj => xor_ne (huv i j hi hj)
  have dlt : ∀ j, j < n → fm (v j ^^^ v n) (c j) < 256 := fun j hj => qam _ _ (qaw _ _ (hv j (by omega)) (hv n (by omega)))
  have key : ∀ i, i < n + 1 → c n = xs c n ^^^ xs (fun j => fm (fm (v j ^^^ v n) (c j)) (finv (u i ^^^ v j))) n := fun i hi => by
   have e := h i hi
   have e1 : xs (fun j => fm (c j) (finv (u i ^^^ v j))) n = fm (c n) (finv (u i ^^^ v n)) := (qag _ _).mp (by simpa [xs] using e)
   have e2 : fm (u i ^^^ v n) (xs (fun j => fm (c j) (finv (u i ^^^ v j))) n) = c n := by
    rw [e1, qab (c n) _ (hc n (by omega)) (qa9 _), ← qae _ _ _ (lt i n hi (by omega)) (qa9 _), qak _ (lt i n hi (by omega)) (ne i n hi (by omega)), qao _ (hc n (by omega))]
   rw [← e2, qbl, ← qdm]
   refine qa7 (fun j hj => ?_)
   have hcj := hc j (by omega)
   have hv2 : v j ^^^ v n < 256 := qaw _ _ (hv j (by omega)) (hv n (by omega))
   rw [show u i ^^^ v n = (u i ^^^ v j) ^^^ (v j ^^^ v n) by rw [Nat.xor_assoc, ← Nat.xor_assoc (v j), Nat.xor_self, Nat.zero_xor], qg8 _ _ _ (lt i j hi (by omega)) hv2, qae _ _ _ hv2 hcj]
   congr 1
   rw [qab (c j) _ hcj (qa9 _), ← qae _ _ _ (lt i j hi (by omega)) (qa9 _), qak _ (lt i j hi (by omega)) (ne i j hi (by omega)), qao _ hcj]
  have sub : ∀ i, i < n → xs (fun j => fm (fm (fm (v j ^^^ v n) (c j)) (finv (u n ^^^ v j))) (finv (u i ^^^ v j))) n = 0 := fun i hi => by
   have e1 := key i (by omega)
   have e2 := key n (by omega)
   have e3 : xs (fun j => fm (fm (v j ^^^ v n) (c j)) (finv (u i ^^^ v j))) n ^^^ xs (fun j => fm (fm (v j ^^^ v n) (c j)) (finv (u n ^^^ v j))) n = 0 := by
    have : xs c n ^^^ xs (fun j => fm (fm (v j ^^^ v n) (c j)) (finv (u i ^^^ v j))) n = xs c n ^^^ xs (fun j => fm (fm (v j ^^^ v n) (c j)) (finv (u n ^^^ v j))) n := by rw [← e1, ← e2]
    have h2 := congrArg (fun z => xs c n ^^^ z) this
    simp only [← Nat.xor_assoc, Nat.xor_self, Nat.zero_xor] at h2
    rw [h2, Nat.xor_self]
   rw [← qdm] at e3
   have hui : u i ^^^ u n < 256 := qaw _ _ (hu i (by omega)) (hu n (by omega))
   have e4 : fm (u i ^^^ u n) (xs (fun j => fm (fm (fm (v j ^^^ v n) (c j)) (finv (u n ^^^ v j))) (finv (u i ^^^ v j))) n) = 0 := by
    rw [qbl, ← e3]
    refine qa7 (fun j hj => ?_)
    have hd := dlt j hj
    rw [← qdi, finv_sum (lt i j (by omega) (by omega)) (lt n j (by omega) (by omega)) (ne i j (by omega) (by omega)) (ne n j (by omega) (by omega)), xor_mid,
     qae _ _ _ hd (qa9 _), qab (finv (u n ^^^ v j)) _ (qa9 _) (qa9 _), ← qae (u i ^^^ u n) _ _ hui hd, qab (u i ^^^ u n) _ hui hd, qae _ _ _ hd hui]
   rcases (qbe _ _ hui (qf1 (fun j hj => qam _ _ (qam _ _ (dlt j hj))))).mp e4 with h0 | h0
   ·exact absurd (iu i n (by omega) (by omega) ((qag _ _).mp h0)) (by omega)
   ·exact h0
  have z := ih (fun j => fm (fm (v j ^^^ v n) (c j)) (finv (u n ^^^ v j))) u v (fun j hj => qam _ _ (dlt j hj)) (fun i hi => hu i (by omega)) (fun i hi => hv i (by omega)) (fun i j hi hj => iu i j (by omega) (by omega)) (fun i j hi hj => iv i j (by omega) (by omega)) (fun i j hi hj => huv i j (by omega) (by omega)) sub
  have zc : ∀ j, j < n → c j = 0 := fun j hj => by
   have hv2 : v j ^^^ v n < 256 := qaw _ _ (hv j (by omega)) (hv n (by omega))
   rcases (qbe _ _ (dlt j hj) (qa9 _)).mp (z j hj) with h0 | h0
   ·rcases (qbe _ _ hv2 (hc j (by omega))).mp h0 with h1 | h1
    ·exact absurd (iv j n (by omega) (by omega) ((qag _ _).mp h1)) (by omega)
    ·exact h1
   ·exact absurd h0 (qfs (lt n j (by omega) (by omega)) (ne n j (by omega) (by omega)))
  intro j hj
  by_cases e : j = n
  ·subst e
   have e1 := h j hj
   have e2 : xs (fun l => fm (c l) (finv (u j ^^^ v l))) j = 0 := qai (fun l hl => by rw [zc l hl, qad])
   have e3 : fm (c j) (finv (u j ^^^ v j)) = 0 := by
    have : xs (fun l => fm (c l) (finv (u j ^^^ v l))) j ^^^ fm (c j) (finv (u j ^^^ v j)) = 0 := by simpa [xs] using e1
    rwa [e2, Nat.zero_xor] at this
   rcases (qbe _ _ (hc j hj) (qa9 _)).mp e3 with h0 | h0
   ·exact h0
   ·exact absurd h0 (qfs (lt j j hj hj) (ne j j hj hj))
  ·exact zc j (by omega)
/-- No more than m numbers below m are unlike. -/
theorem pigeon (m : Nat) : ∀ (n : Nat) (f : Nat → Nat), (∀ i, i < n → f i < m) → (∀ i j, i < n → j < n → f i = f j → i = j) → n ≤ m := by
 induction m with
 | zero => intro n f hb _; cases n with
  | zero => exact Nat.le_refl _
  | succ n => exact absurd (hb 0 (by omega)) (by omega)
 | succ m ih =>
  intro n f hb hi
  by_cases h : ∃ i, i < n ∧ f i = m
  ·obtain ⟨i0, h0, e0⟩ := h
   have := ih (n - 1) (fun i => if i < i0 then f i else f (i + 1)) (fun i hin => by
    show (if i < i0 then f i else f (i + 1)) < m
    split
    ·have h1 := hb i (by omega)
     have h2 : f i ≠ m := fun e => by have := hi i i0 (by omega) h0 (by rw [e, e0]); omega
     omega
    ·have h1 := hb (i + 1) (by omega)
     have h2 : f (i + 1) ≠ m := fun e => by have := hi (i + 1) i0 (by omega) h0 (by rw [e, e0]); omega
     omega) (fun i j hin hjn e => by
    have e : (if i < i0 then f i else f (i + 1)) = (if j < i0 then f j else f (j + 1)) := e
    split at e <;> split at e
    ·exact hi i j (by omega) (by omega) e
    ·have := hi i (j + 1) (by omega) (by omega) e; omega
    ·have := hi (i + 1) j (by omega) (by omega) e; omega
    ·have := hi (i + 1) (j + 1) (by omega) (by omega) e; omega)
   omega
  ·have := ih n f (fun i hin => by
    have h1 := hb i hin
    have h2 : f i ≠ m := fun e => h ⟨i, hin, e⟩
    omega) hi
   omega
/-- A sum of which only some are not 0. -/
theorem xs_nth (P : Nat → Bool) (f : Nat → Nat) : ∀ n, (∀ j, j < n → P j = false → f j = 0) → xs f n = xs (fun t => f (nth P n t)) (cnt P n) := by
 intro n
 induction n with
 | zero => intro _; rfl
 | succ n ih =>
  intro h
  have e := ih (fun j hj => h j (by omega))
  have hlow : ∀ t, t < cnt P n → f (nth P (n + 1) t) = f (nth P n t) := fun t ht => by
   show f (if P n = true ∧ t = cnt P n then n else nth P n t) = _
   rw [if_neg (by omega)]
  cases hp : P n with
  | false =>
   rw [qcz hp, qa7 hlow, ← e]
   show xs f n ^^^ f n = _
   rw [h n (by omega) hp, Nat.xor_zero]
  | true =>
   rw [qbn hp]
   show xs f n ^^^ f n = xs (fun t => f (nth P (n + 1) t)) (cnt P n) ^^^ f (nth P (n + 1) (cnt P n))
   rw [qa7 hlow, ← e]
   congr 1
   show f n = f (if P n = true ∧ cnt P n = cnt P n then n else nth P n (cnt P n))
   rw [if_pos ⟨hp, rfl⟩]
/-- The identity above Cauchy's matrix of the columns' numbers and the rows'. -/
def crs (k i j : Nat) : Nat := if i < k then dl i j else finv (i ^^^ j)
theorem crs_ker {k n : Nat} {q : Nat → Nat} (hk : k ≤ 256) (hn : n ≤ 256) (hq : ∀ i, i < k → q i < n) (hi : ∀ i j, i < k → j < k → q i = q j → i = j) {x : Nat → Nat} (hx : El x) (h : ∀ i, i < k → dt (crs k (q i)) x k = 0) : ∀ j, j < k → x j = 0 := by
 have low : ∀ j, j < k → pvt q k j = true → x j = 0 := fun j hj hp => by
  obtain ⟨i, hik, e⟩ := (qbc q k j).mp hp
  have h1 := h i hik
  rw [e] at h1
  rw [← h1]
  have : dt (crs k j) x k = fm (crs k j j) (x j) := qb2 hj (fun t _ hne => by
   show fm (crs k j t) (x t) = 0
   unfold crs
   rw [if_pos hj, qdz hne, qad])
  rw [this]
  unfold crs
  rw [if_pos hj, qbb, qao _ (hx j)]
 obtain ⟨fr, hfr⟩ : ∃ P : Nat → Bool, P = fun j => !pvt q k j := ⟨_, rfl⟩
 obtain ⟨B, hB⟩ : ∃ P : Nat → Bool, P = fun i => decide (k ≤ q i) := ⟨_, rfl⟩
 have le : cnt fr k ≤ cnt B k := by
  have h1 := qbw (pvt q k) k
  have h2 := qbw B k
  rw [← hfr] at h1
  have h3 : cnt (fun i => !B i) k ≤ cnt (pvt q k) k := by
   have key : ∀ s, s < cnt (fun i => !B i) k → nth (fun i => !B i) k s < k ∧ q (nth (fun i => !B i) k s) < k ∧ pvt q k (q (nth (fun i => !B i) k s)) = true ∧ cnt (fun i => !B i) (nth (fun i => !B i) k s) = s := fun s hs => by
    obtain ⟨a1, a2, a3⟩ := qal (fun i => !B i) k s hs
    refine ⟨a1, ?_, (qbc q k _).mpr ⟨_, a1, rfl⟩, a3⟩
    generalize nth (fun i => !B i) k s = z at a2
    rw [hB] at a2
    simp at a2
    exact a2
   refine pigeon (cnt (pvt q k) k) _ (fun s => cnt (pvt q k) (q (nth (fun i => !B i) k s))) (fun s hs => cnt_lt (key s hs).2.1 (key s hs).2.2.1) (fun s t hs ht e => ?_)
   obtain ⟨a1, a2, a3, a4⟩ := key s hs
   obtain ⟨b1, b2, b3, b4⟩ := key t ht
   have e1 : q (nth (fun i => !B i) k s) = q (nth (fun i => !B i) k t) := by
    rw [← qbv a2 a3, ← qbv b2 b3]
    exact congrArg _ e
   have e2 := hi _ _ a1 b1 e1
   rw [← a4, ← b4, e2]
  omega
 have sB : ∀ s, s < cnt B k → nth B k s < k ∧ k ≤ q (nth B k s) ∧ cnt B (nth B k s) = s := fun s hs => by
  obtain ⟨a1, a2, a3⟩ := qal B k s hs
  refine ⟨a1, ?_, a3⟩
  generalize nth B k s = z at a2
  rw [hB] at a2
  simpa using a2
 have sF : ∀ t, t < cnt fr k → nth fr k t < k ∧ cnt fr (nth fr k t) = t := fun t ht => ⟨(qal fr k t ht).1, (qal fr k t ht).2.2⟩
 have z := qft (cnt fr k) (fun t => x (nth fr k t)) (fun s => q (nth B k s)) (fun t => nth fr k t) (fun t _ => hx _) (fun s hs => by have := hq _ (sB s (by omega)).1; omega) (fun t ht => by have := (sF t ht).1; omega)
  (fun s t hs ht e => by
   have e2 := hi _ _ (sB s (by omega)).1 (sB t (by omega)).1 e
   rw [← (sB s (by omega)).2.2, ← (sB t (by omega)).2.2, e2])
  (fun s t hs ht e => by rw [← (sF s hs).2, ← (sF t ht).2]; exact congrArg _ e)
  (fun s t hs ht e => by have := (sB s (by omega)).2.1; have := (sF t ht).1; omega)
  (fun s hs => by
   obtain ⟨a1, a2, _⟩ := sB s (by omega)
   rw [← h _ a1]
   unfold dt
   rw [xs_nth fr (fun j => fm (crs k (q (nth B k s)) j) (x j)) k (fun j hj hf => by
    have : pvt q k j = true := by rw [hfr] at hf; simpa using hf
    rw [low j hj this, qaa])]
   refine qa7 (fun t ht => ?_)
   unfold crs
   rw [if_neg (by omega), qab _ _ (hx _) (qa9 _)])
 intro j hj
 cases hp : pvt q k j with
 | true => exact low j hj hp
 | false =>
  have hf : fr j = true := by rw [hfr]; simp [hp]
  have := z (cnt fr j) (cnt_lt hj hf)
  rwa [qbv hj hf] at this
end Go.Proofs.YtnfbbddoaeofgabGreat
