/-
  Stage 10: what is the same has one text; brackets. No Go in sight.
-/
import Derived.Test.YtdimkfcanegahaaDoorCp
namespace Go.Proofs.YtdimkfcanegahaaDoor
open Go.RowKit
theorem xlk_by : ∀ (d : Nat) (T U : Xt), MX d T → MX d U → xlk d T U → xby d T = xby d U := by
  intro d
  induction d with
  | zero => intro T U h; obtain ⟨left, _, h⟩ := h; rw [xleft_zero] at h; omega
  | succ d ih =>
    intro T U hT hU h
    obtain ⟨hk, hn, hnm, hl, hkid⟩ := h
    rcases xby_ways hT with ⟨u, k1, n1, m1, l1, e1⟩ | ⟨k1, n1, m1, l1, e1⟩ | ⟨k1, n1, m1, l1, e1⟩ | ⟨o, k1, k1', n1, m1, l1, o1, e1⟩ <;>
      rcases xby_ways hU with ⟨v, k2, n2, m2, l2, e2⟩ | ⟨k2, n2, m2, l2, e2⟩ | ⟨k2, n2, m2, l2, e2⟩ | ⟨q, k2, k2', n2, m2, l2, o2, e2⟩
    · rw [e1, e2, show u = v by omega]
    · omega
    · omega
    · omega
    · omega
    · rw [e1, e2, hnm]
    · omega
    · omega
    · omega
    · omega
    · rw [e1, e2, ih _ _ (hT.kid (by omega)) (hU.kid (by omega)) (hkid 0 (by omega))]
    · omega
    · omega
    · omega
    · omega
    · have ho : o = q := by
        rw [hk] at o1
        rw [o1] at o2
        injection o2
      rw [e1, e2, ho, ih _ _ (hT.kid (by omega)) (hU.kid (by omega)) (hkid 0 (by omega)), ih _ _ (hT.kid (by omega)) (hU.kid (by omega)) (hkid 1 (by omega))]
theorem rtr_like (d : Nat) (F G : Nat → Xt) : ∀ (n i j : Nat), (∀ k, k < n → MX d (F (i + k))) → (∀ k, k < n → MX d (G (j + k))) → (∀ k, k < n → xlk d (F (i + k)) (G (j + k))) → rtr d F n i = rtr d G n j := by
  intro n
  induction n with
  | zero => intro i j _ _ _; rfl
  | succ n ih =>
    intro i j hF hG h
    have e0 : xby d (F i) = xby d (G j) := xlk_by d _ _ (by have := hF 0 (by omega); exact this) (by have := hG 0 (by omega); exact this) (by have := h 0 (by omega); exact this)
    have e1 := ih (i + 1) (j + 1) (fun k hk => by have := hF (k + 1) (by omega); rw [show i + (k + 1) = i + 1 + k by omega] at this; exact this) (fun k hk => by have := hG (k + 1) (by omega); rw [show j + (k + 1) = j + 1 + k by omega] at this; exact this) (fun k hk => by have := h (k + 1) (by omega); rw [show i + (k + 1) = i + 1 + k by omega, show j + (k + 1) = j + 1 + k by omega] at this; exact this)
    show xby d (F i) ++ _ = xby d (G j) ++ _
    rw [e0, e1]
theorem mtr_like (len len' : Nat → Nat) (F G : Nat → Nat → Xt) : ∀ (n i j : Nat), (∀ k, k < n → ∀ q, q < len (i + k) → MX 16 (F (i + k) q)) → (∀ k, k < n → ∀ q, q < len' (j + k) → MX 16 (G (j + k) q)) → (∀ k, k < n → len (i + k) = len' (j + k) ∧ ∀ q, q < len (i + k) → xlk 16 (F (i + k) q) (G (j + k) q)) → mtr len F n i = mtr len' G n j := by
  intro n
  induction n with
  | zero => intro i j _ _ _; rfl
  | succ n ih =>
    intro i j hF hG h
    have f0 := hF 0 (by omega)
    have g0 := hG 0 (by omega)
    have h0 := h 0 (by omega)
    rw [Nat.add_zero] at f0 g0
    rw [Nat.add_zero, Nat.add_zero] at h0
    have e0 : rtr 16 (F i) (len i) 0 = rtr 16 (G j) (len' j) 0 := by
      rw [← h0.1]
      exact rtr_like 16 _ _ _ 0 0 (fun k hk => by rw [Nat.zero_add]; exact f0 k hk) (fun k hk => by rw [Nat.zero_add]; exact g0 k (by omega)) (fun k hk => by rw [Nat.zero_add]; exact h0.2 k hk)
    have e1 := ih (i + 1) (j + 1) (fun k hk => by have := hF (k + 1) (by omega); rw [show i + (k + 1) = i + 1 + k by omega] at this; exact this) (fun k hk => by have := hG (k + 1) (by omega); rw [show j + (k + 1) = j + 1 + k by omega] at this; exact this) (fun k hk => by have := h (k + 1) (by omega); rw [show i + (k + 1) = i + 1 + k by omega, show j + (k + 1) = j + 1 + k by omega] at this; exact this)
    show rtr 16 (F i) (len i) 0 ++ _ = rtr 16 (G j) (len' j) 0 ++ _
    rw [e0, e1]
theorem slk_by : ∀ (d : Nat) (S U : St), MS d S → MS d U → slk d S U → sby d S = sby d U := by
  intro d
  induction d with
  | zero => intro S U h; obtain ⟨left, _, h⟩ := h; exact absurd h (by show ¬ (0 : Int) ≤ -1; omega)
  | succ d ih =>
    intro S U hS hU h
    obtain ⟨hk, hnm, hna, ha, hnr, hr, hnp, hp⟩ := h
    obtain ⟨sw, sa, sr, sp⟩ := hS.parts
    obtain ⟨uw, ua, ur, up⟩ := hU.parts
    rcases swant_cases sw with ⟨k1, _, a1, p1, q1⟩ | ⟨k1, k1', _, a1, p1, q1⟩ | ⟨k1, k1', _, a1, p1, q1⟩ | ⟨k1, _, a1, p1, q1⟩
    · have e : ∀ V : St, (V []).k = 1 → sby (d + 1) V = (V []).nm.data.toList := fun V hV => by
        show (if _ then _ else _) = _
        rw [if_pos hV]
      rw [e S k1, e U (by omega), hnm]
    · rw [sby_args (by omega) k1', sby_args (by omega) (by omega), hk, ← hna]
      rw [rtr_like 16 (S []).args (U []).args (S []).na 0 0 (fun k hk => by rw [Nat.zero_add]; exact sa k hk) (fun k hk => by rw [Nat.zero_add]; exact ua k (by omega)) (fun k hk => by rw [Nat.zero_add]; exact ha k hk)]
    · rw [sby_two k1 k1', sby_two (by omega) (by omega), hk, ih _ _ (sp 0 (by omega)) (up 0 (by omega)) (hp 0 (by omega)), ih _ _ (sp 1 (by omega)) (up 1 (by omega)) (hp 1 (by omega))]
    · rw [sby_rows k1, sby_rows (by omega), hk, ← hnr]
      rw [mtr_like (S []).rl (U []).rl (S []).rows (U []).rows (S []).nr 0 0 (fun k hk => by rw [Nat.zero_add]; exact (sr k hk).2.2) (fun k hk => by rw [Nat.zero_add]; exact (ur k (by omega)).2.2) (fun k hk => by rw [Nat.zero_add]; exact hr k hk)]
/-- How many opening brackets bytes have. -/
def brk (l : List UInt8) : Nat := l.count 40
theorem brk_app (a b : List UInt8) : brk (a ++ b) = brk a + brk b := List.count_append
/-- How many expressions of two parts there are. -/
def x2s (f : Xt → Nat) (F : Nat → Xt) : Nat → Nat
  | 0 => 0
  | k + 1 => x2s f F k + f (F k)
def xtwo : Nat → Xt → Nat
  | 0, _ => 0
  | d + 1, T => (if (T []).len = 2 then 1 else 0) + x2s (xtwo d) (kid T) (T []).len
theorem brk_none {l : List UInt8} (h : ∀ b ∈ l, b ≠ 40) : brk l = 0 := List.count_eq_zero.2 (fun hm => h 40 hm rfl)
/-- A text has as many opening brackets as there are expressions of two parts. -/
theorem brk_two : ∀ (d : Nat) (T : Xt), MX d T → brk (xby d T) = xtwo d T := by
  intro d
  induction d with
  | zero => intro T h; obtain ⟨left, _, h⟩ := h; rw [xleft_zero] at h; omega
  | succ d ih =>
    intro T hT
    have e : xtwo (d + 1) T = (if (T []).len = 2 then 1 else 0) + x2s (xtwo d) (kid T) (T []).len := rfl
    rw [e]
    rcases xby_ways hT with ⟨u, k1, n1, m1, l1, e1⟩ | ⟨k1, n1, m1, l1, e1⟩ | ⟨k1, n1, m1, l1, e1⟩ | ⟨o, k1, k1', n1, m1, l1, o1, e1⟩
    · rw [e1, l1, brk_none (fun b hb e => by have := (ddg u).1 b hb; rw [e] at this; exact absurd this (by decide))]
      rfl
    · have hb : ∀ b ∈ (T []).nm.data.toList, b ≠ 40 := fun b hm e => by
        obtain ⟨i, hi, rfl⟩ := List.getElem_of_mem hm
        rw [Array.length_toList] at hi
        have h1 := tb_at (s := (T []).nm) (i := i) hi
        have h2 := m1.all i hi
        rw [← h1] at h2
        have h3 : ((T []).nm[i]'hi).toNat = 40 := by
          have : (T []).nm[i]'hi = 40 := e
          rw [this]
          rfl
        rw [h3] at h2
        exact absurd h2 (by decide)
      rw [e1, l1, brk_none hb]
      rfl
    · have h0 := ih _ (hT.kid (i := 0) (by omega))
      rw [e1, l1]
      show brk ([45, 32] ++ xby d (kid T 0)) = 0 + (0 + xtwo d (kid T 0))
      rw [brk_app, h0]
      have : brk [45, 32] = 0 := by decide
      omega
    · have h0 := ih _ (hT.kid (i := 0) (by omega))
      have h1 := ih _ (hT.kid (i := 1) (by omega))
      rw [e1, l1]
      have ho : brk [o] = 0 := by
        rw [← o1]
        unfold opb
        repeat' split
        all_goals decide
      show brk ([40, 32] ++ (xby d (kid T 0) ++ ([32] ++ ([o] ++ ([32] ++ (xby d (kid T 1) ++ [32, 41])))))) = 1 + (0 + xtwo d (kid T 0) + xtwo d (kid T 1))
      simp only [brk_app, h0, h1, ho]
      have z1 : brk [40, 32] = 1 := by decide
      have z2 : brk [32] = 0 := by decide
      have z3 : brk [32, 41] = 0 := by decide
      omega
end Go.Proofs.YtdimkfcanegahaaDoor
