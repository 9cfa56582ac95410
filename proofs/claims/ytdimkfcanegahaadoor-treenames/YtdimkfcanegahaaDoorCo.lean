/-
  Stage 10: a shape is told by its text. No Go in sight.
-/
import Derived.Test.YtdimkfcanegahaaDoorCn
namespace Go.Proofs.YtdimkfcanegahaaDoor
open Go.RowKit
/-- A shape may be, d deep at most. -/
def MS (d : Nat) (S : St) : Prop := ∃ left : Int, left ≤ 8192 ∧ 0 ≤ sleft d S left
theorem rks_stop {len : Nat → Nat} {F : Nat → Nat → Xt} {k : Nat} {left : Int} (h : rks len F k left < 0) : ∀ j, rks len F (k + j) left = rks len F k left := by
  intro j
  induction j with
  | zero => rfl
  | succ j ih =>
    rw [← Nat.add_assoc]
    show (if rks len F (k + j) left < 0 then _ else _) = _
    rw [ih, if_pos h]
theorem sks_stop {f : St → Int → Int} {F : Nat → St} {k : Nat} {left : Int} (h : sks f F k left < 0) : ∀ j, sks f F (k + j) left = sks f F k left := by
  intro j
  induction j with
  | zero => rfl
  | succ j ih =>
    rw [← Nat.add_assoc]
    show (if sks f F (k + j) left < 0 then _ else _) = _
    rw [ih, if_pos h]
theorem rks_mid {len : Nat → Nat} {F : Nat → Nat → Xt} {m : Nat} {left : Int} (h : 0 ≤ rks len F m left) : ∀ i, i ≤ m → 0 ≤ rks len F i left := by
  intro i hi
  rcases Int.lt_or_le (rks len F i left) 0 with g | g
  · have := rks_stop g (m - i)
    rw [show i + (m - i) = m by omega] at this
    omega
  · exact g
theorem sks_mid {f : St → Int → Int} {F : Nat → St} {m : Nat} {left : Int} (h : 0 ≤ sks f F m left) : ∀ i, i ≤ m → 0 ≤ sks f F i left := by
  intro i hi
  rcases Int.lt_or_le (sks f F i left) 0 with g | g
  · have := sks_stop g (m - i)
    rw [show i + (m - i) = m by omega] at this
    omega
  · exact g
theorem rks_le {len : Nat → Nat} {F : Nat → Nat → Xt} : ∀ k left, 0 ≤ left → -1 ≤ rks len F k left ∧ rks len F k left ≤ left := by
  intro k left h0
  induction k with
  | zero => show -1 ≤ left ∧ left ≤ left; omega
  | succ k ih =>
    show -1 ≤ (if _ then _ else _) ∧ (if _ then _ else _) ≤ left
    split
    · exact ih
    · split
      · omega
      · have := xks_le (xleft_le 16) (F := F k) (len k) (rks len F k left) (by omega)
        omega
theorem sks_le {f : St → Int → Int} {F : Nat → St} (hf : ∀ T l, 0 ≤ l → -1 ≤ f T l ∧ f T l ≤ l) : ∀ k left, 0 ≤ left → -1 ≤ sks f F k left ∧ sks f F k left ≤ left := by
  intro k left h0
  induction k with
  | zero => show -1 ≤ left ∧ left ≤ left; omega
  | succ k ih =>
    show -1 ≤ (if _ then _ else _) ∧ (if _ then _ else _) ≤ left
    split
    · exact ih
    · have := hf (F k) (sks f F k left) (by omega)
      omega
theorem exprs_mx {F : Nat → Xt} {n : Nat} {left : Int} (h0 : 0 ≤ left) (hl : left ≤ 8192) (h : 0 ≤ xks (xleft 16) F n left) : ∀ i, i < n → MX 16 (F i) := by
  intro i hi
  have h1 := xks_mid h i (by omega)
  have h2 := xks_mid h (i + 1) (by omega)
  rw [xks_succ, if_neg (by omega)] at h2
  have := xks_top (F := F) (xleft_le 16) h0 i
  exact ⟨_, by omega, h2⟩
/-- What holds of the parts of a shape that may be. -/
theorem MS.parts {d : Nat} {S : St} (h : MS (d + 1) S) : swant (S []) = true ∧ (∀ i, i < (S []).na → MX 16 ((S []).args i)) ∧ (∀ i, i < (S []).nr → 1 ≤ (S []).rl i ∧ (S []).rl i ≤ 64 ∧ ∀ q, q < (S []).rl i → MX 16 ((S []).rows i q)) ∧ ∀ i, i < (S []).np → MS d (part S i) := by
  obtain ⟨left, hl, h⟩ := h
  have e : sleft (d + 1) S left = if left - 1 < 0 then -1 else if swant (S []) = false then -1 else sks (sleft d) (part S) (S []).np (rks (S []).rl (S []).rows (S []).nr (xks (xleft 16) (S []).args (S []).na (left - 1))) := rfl
  rw [e] at h
  split at h
  · omega
  · rename_i hl1
    split at h
    · omega
    · rename_i hs
      obtain ⟨A, hA⟩ : ∃ A, xks (xleft 16) (S []).args (S []).na (left - 1) = A := ⟨_, rfl⟩
      obtain ⟨R, hR⟩ : ∃ R, rks (S []).rl (S []).rows (S []).nr A = R := ⟨_, rfl⟩
      rw [hA, hR] at h
      have hR0 : 0 ≤ R := by
        rcases Int.lt_or_le R 0 with g | g
        · have := sks_stop (f := sleft d) (F := part S) (k := 0) (left := R) g (S []).np
          rw [Nat.zero_add] at this
          have h2 : sks (sleft d) (part S) 0 R = R := rfl
          omega
        · exact g
      have hA0 : 0 ≤ A := by
        rcases Int.lt_or_le A 0 with g | g
        · have := rks_stop (len := (S []).rl) (F := (S []).rows) (k := 0) (left := A) g (S []).nr
          rw [Nat.zero_add] at this
          have h2 : rks (S []).rl (S []).rows 0 A = A := rfl
          omega
        · exact g
      have hAl : A ≤ 8192 := by rw [← hA]; have := (xks_le (xleft_le 16) (F := (S []).args) (S []).na (left - 1) (by omega)).2; omega
      have hRl : R ≤ 8192 := by rw [← hR]; have := (rks_le (len := (S []).rl) (F := (S []).rows) (S []).nr A hA0).2; omega
      have hsl : ∀ d T l, 0 ≤ l → -1 ≤ sleft d T l ∧ sleft d T l ≤ l := by
        intro d
        induction d with
        | zero => intro T l h; show -1 ≤ (-1 : Int) ∧ (-1 : Int) ≤ l; omega
        | succ d ih =>
          intro T l h
          show -1 ≤ (if _ then _ else _) ∧ (if _ then _ else _) ≤ l
          split
          · omega
          · split
            · omega
            · obtain ⟨B, hB⟩ : ∃ B, xks (xleft 16) (T []).args (T []).na (l - 1) = B := ⟨_, rfl⟩
              obtain ⟨Q, hQ⟩ : ∃ Q, rks (T []).rl (T []).rows (T []).nr B = Q := ⟨_, rfl⟩
              rw [hB, hQ]
              have b1 := xks_le (xleft_le 16) (F := (T []).args) (T []).na (l - 1) (by omega)
              rw [hB] at b1
              have b2 : -1 ≤ Q ∧ Q ≤ B := by
                rw [← hQ]
                by_cases hb : 0 ≤ B
                · exact rks_le _ _ hb
                · have := rks_stop (len := (T []).rl) (F := (T []).rows) (k := 0) (left := B) (by show B < 0; omega) (T []).nr
                  rw [Nat.zero_add] at this
                  rw [this]
                  show -1 ≤ B ∧ B ≤ B
                  omega
              by_cases hq : 0 ≤ Q
              · have := sks_le ih (F := part T) (T []).np Q hq
                omega
              · have := sks_stop (f := sleft d) (F := part T) (k := 0) (left := Q) (by show Q < 0; omega) (T []).np
                rw [Nat.zero_add] at this
                rw [this]
                show -1 ≤ Q ∧ Q ≤ l
                omega
      refine ⟨by cases hw : swant (S []) with | true => rfl | false => exact absurd hw hs, exprs_mx (left := left - 1) (by omega) (by omega) (by rw [hA]; exact hA0), fun i hi => ?_, fun i hi => ?_⟩
      · have h1 := rks_mid (m := (S []).nr) (by rw [hR]; exact hR0) i (by omega)
        have h2 := rks_mid (m := (S []).nr) (by rw [hR]; exact hR0) (i + 1) (by omega)
        have e2 : rks (S []).rl (S []).rows (i + 1) A = if rks (S []).rl (S []).rows i A < 0 then rks (S []).rl (S []).rows i A else if (S []).rl i < 1 ∨ 64 < (S []).rl i then -1 else xks (xleft 16) ((S []).rows i) ((S []).rl i) (rks (S []).rl (S []).rows i A) := rfl
        rw [e2, if_neg (by omega)] at h2
        split at h2
        · omega
        · rename_i hrl
          refine ⟨by omega, by omega, exprs_mx h1 ?_ h2⟩
          have := (rks_le (len := (S []).rl) (F := (S []).rows) i A hA0).2
          omega
      · have h1 := sks_mid h i (by omega)
        have h2 := sks_mid h (i + 1) (by omega)
        have e2 : sks (sleft d) (part S) (i + 1) R = if sks (sleft d) (part S) i R < 0 then sks (sleft d) (part S) i R else sleft d (part S i) (sks (sleft d) (part S) i R) := rfl
        rw [e2, if_neg (by omega)] at h2
        refine ⟨_, ?_, h2⟩
        have := (sks_le (hsl d) (F := part S) i R hR0).2
        omega
/-- The words of the shapes. -/
def wdb (k : Nat) : List UInt8 := if k = 2 then [114, 101, 101, 100] else if k = 3 then [99, 114, 111, 115, 115] else if k = 4 then [108, 111, 99, 97, 108] else if k = 5 then [112, 121, 114, 97, 109, 105, 100] else if k = 6 then [112, 114, 111, 100, 117, 99, 116] else if k = 7 then [106, 111, 105, 110] else [109, 97, 116, 114, 105, 120]
/-- The bytes of a shape's text. -/
def sby : Nat → St → List UInt8
  | 0, _ => []
  | d + 1, S => if (S []).k = 1 then (S []).nm.data.toList
    else if (S []).k ≤ 5 then wdb (S []).k ++ (32 :: 40 :: 32 :: (rtr 16 (S []).args (S []).na 0 ++ [32, 41]))
    else if (S []).k ≤ 7 then wdb (S []).k ++ (32 :: 40 :: 32 :: (sby d (part S 0) ++ (32 :: 44 :: 32 :: (sby d (part S 1) ++ [32, 41]))))
    else wdb (S []).k ++ (32 :: 91 :: 32 :: (mtr (S []).rl (S []).rows (S []).nr 0 ++ [32, 93]))
/-- The same but for places, d deep. -/
def slk : Nat → St → St → Prop
  | 0, _, _ => True
  | d + 1, S, U => (S []).k = (U []).k ∧ (S []).nm = (U []).nm ∧ (S []).na = (U []).na ∧ (∀ i, i < (S []).na → xlk 16 ((S []).args i) ((U []).args i)) ∧ (S []).nr = (U []).nr ∧ (∀ i, i < (S []).nr → (S []).rl i = (U []).rl i ∧ ∀ q, q < (S []).rl i → xlk 16 ((S []).rows i q) ((U []).rows i q)) ∧ (S []).np = (U []).np ∧ ∀ i, i < (S []).np → slk d (part S i) (part U i)
theorem wdb_a : ∀ j, j < 9 → 2 ≤ j → (wdb j).all (fun b => b != 32) = true := by decide
theorem wdb_b : ∀ j, j < 9 → 2 ≤ j → isW ⟨(wdb j).toArray⟩ = true := by decide +kernel
theorem wdb_c : ∀ j, j < 9 → ∀ k, k < 9 → 2 ≤ j → 2 ≤ k → wdb j = wdb k → j = k := by decide
theorem wdb_facts {j : Nat} (h2 : 2 ≤ j) (h8 : j ≤ 8) : (∀ b ∈ wdb j, b ≠ 32) ∧ isW ⟨(wdb j).toArray⟩ = true ∧ ∀ k, 2 ≤ k → k ≤ 8 → wdb j = wdb k → j = k := by
  exact ⟨fun b hb => by have := List.all_eq_true.1 (wdb_a j (by omega) h2) b hb; simpa using this, wdb_b j (by omega) h2, fun k a b => wdb_c j (by omega) k (by omega) h2 a⟩
theorem swant_cases {l : Ls} (h : swant l = true) : (l.k = 1 ∧ NameP l.nm ∧ l.na = 0 ∧ l.np = 0 ∧ l.nr = 0) ∨ (2 ≤ l.k ∧ l.k ≤ 5 ∧ l.nm = ⟨#[]⟩ ∧ 2 ≤ l.na ∧ l.np = 0 ∧ l.nr = 0) ∨ (6 ≤ l.k ∧ l.k ≤ 7 ∧ l.nm = ⟨#[]⟩ ∧ l.na = 0 ∧ l.np = 2 ∧ l.nr = 0) ∨ (l.k = 8 ∧ l.nm = ⟨#[]⟩ ∧ l.na = 0 ∧ l.np = 0 ∧ 1 ≤ l.nr) := by
  have nil_of : ∀ {x : ByteArray}, x.size = 0 → x = ⟨#[]⟩ := fun {x} h => by
    obtain ⟨⟨m⟩⟩ := x
    cases m with
    | nil => rfl
    | cons a m => simp [ByteArray.size] at h
  unfold swant at h
  split at h
  · rename_i hk
    simp only [Bool.and_eq_true, decide_eq_true_eq] at h
    exact .inl ⟨hk, isN_iff.1 h.1, h.2.1, h.2.2.1, h.2.2.2⟩
  · simp only [Bool.and_eq_true, decide_eq_true_eq] at h
    obtain ⟨hz, h⟩ := h
    split at h
    · rename_i hk
      simp only [Bool.and_eq_true, decide_eq_true_eq] at h
      exact .inr (.inl ⟨by omega, by omega, nil_of hz, by omega, h.2.1, h.2.2⟩)
    · split at h
      · rename_i hk
        simp only [Bool.and_eq_true, decide_eq_true_eq] at h
        exact .inr (.inl ⟨by omega, by omega, nil_of hz, by omega, h.2.1, h.2.2⟩)
      · split at h
        · rename_i hk
          simp only [Bool.and_eq_true, decide_eq_true_eq] at h
          exact .inr (.inr (.inl ⟨by omega, by omega, nil_of hz, h.1, h.2.1, h.2.2⟩))
        · split at h
          · rename_i hk
            simp only [Bool.and_eq_true, decide_eq_true_eq] at h
            exact .inr (.inr (.inr ⟨hk, nil_of hz, h.1, h.2.1, h.2.2.1⟩))
          · cases h
/-- A shape's text: its first word or name, and what is behind it. -/
theorem sby_ways {d : Nat} {S : St} (h : MS (d + 1) S) : ∃ W R, sby (d + 1) S = W ++ R ∧ (∀ b ∈ W, b ≠ 32) ∧ (((S []).k = 1 ∧ W = (S []).nm.data.toList ∧ isW (S []).nm = false ∧ R = []) ∨ (2 ≤ (S []).k ∧ (S []).k ≤ 8 ∧ W = wdb (S []).k ∧ (S []).nm = ⟨#[]⟩ ∧ ∃ R', R = 32 :: R')) := by
  obtain ⟨hw, _⟩ := h.parts
  have e : sby (d + 1) S = if (S []).k = 1 then (S []).nm.data.toList
    else if (S []).k ≤ 5 then wdb (S []).k ++ (32 :: 40 :: 32 :: (rtr 16 (S []).args (S []).na 0 ++ [32, 41]))
    else if (S []).k ≤ 7 then wdb (S []).k ++ (32 :: 40 :: 32 :: (sby d (part S 0) ++ (32 :: 44 :: 32 :: (sby d (part S 1) ++ [32, 41]))))
    else wdb (S []).k ++ (32 :: 91 :: 32 :: (mtr (S []).rl (S []).rows (S []).nr 0 ++ [32, 93])) := rfl
  rw [e]
  rcases swant_cases hw with ⟨k1, hN, _⟩ | ⟨k2, k5, hz, _⟩ | ⟨k6, k7, hz, _⟩ | ⟨k8, hz, _⟩
  · rw [if_pos k1]
    exact ⟨_, [], by simp, (name_by hN).1, .inl ⟨k1, rfl, hN.noWord, rfl⟩⟩
  · rw [if_neg (by omega), if_pos k5]
    exact ⟨_, _, rfl, (wdb_facts k2 (by omega)).1, .inr ⟨k2, by omega, rfl, hz, _, rfl⟩⟩
  · rw [if_neg (by omega), if_neg (by omega), if_pos k7]
    exact ⟨_, _, rfl, (wdb_facts (by omega) (by omega)).1, .inr ⟨by omega, by omega, rfl, hz, _, rfl⟩⟩
  · rw [if_neg (by omega), if_neg (by omega), if_neg (by omega)]
    exact ⟨_, _, rfl, (wdb_facts (by omega) (by omega)).1, .inr ⟨by omega, by omega, rfl, hz, _, rfl⟩⟩
theorem sby_kind {d : Nat} {S U : St} {r s : List UInt8} (hS : MS (d + 1) S) (hU : MS (d + 1) U) (hr : Stp r) (hs : Stp s) (e : sby (d + 1) S ++ r = sby (d + 1) U ++ s) : (S []).k = (U []).k ∧ (S []).nm = (U []).nm ∧ ((S []).k = 1 → r = s) := by
  obtain ⟨W, R, e1, f1, g1⟩ := sby_ways hS
  obtain ⟨W', R', e2, f2, g2⟩ := sby_ways hU
  rw [e1, e2, List.append_assoc, List.append_assoc] at e
  have st1 : Stp (R ++ r) := by
    rcases g1 with ⟨_, _, _, rfl⟩ | ⟨_, _, _, _, q, rfl⟩
    · exact hr
    · exact .inr ⟨_, rfl⟩
  have st2 : Stp (R' ++ s) := by
    rcases g2 with ⟨_, _, _, rfl⟩ | ⟨_, _, _, _, q, rfl⟩
    · exact hs
    · exact .inr ⟨_, rfl⟩
  obtain ⟨h1, h2⟩ := stp_one _ _ _ _ f1 f2 st1 st2 e
  rcases g1 with ⟨k1, w1, n1, r1⟩ | ⟨k1, k1', w1, n1, r1⟩ <;> rcases g2 with ⟨k2, w2, n2, r2⟩ | ⟨k2, k2', w2, n2, r2⟩
  · refine ⟨by omega, by_eq (by rw [← w1, ← w2, h1]), fun _ => ?_⟩
    rw [r1, r2] at h2
    exact h2
  · have : (S []).nm = ⟨(wdb (U []).k).toArray⟩ := by_eq (by rw [← w1, h1, w2])
    rw [this, (wdb_facts k2 k2').2.1] at n1
    cases n1
  · have : (U []).nm = ⟨(wdb (S []).k).toArray⟩ := by_eq (by rw [← w2, ← h1, w1])
    rw [this, (wdb_facts k1 k1').2.1] at n2
    cases n2
  · exact ⟨(wdb_facts k1 k1').2.2 _ k2 k2' (by rw [← w1, h1, w2]), by rw [n1, n2], fun h => by omega⟩
theorem sby_args {d : Nat} {S : St} (h1 : (S []).k ≠ 1) (h5 : (S []).k ≤ 5) : sby (d + 1) S = wdb (S []).k ++ (32 :: 40 :: 32 :: (rtr 16 (S []).args (S []).na 0 ++ [32, 41])) := by
  show (if _ then _ else _) = _
  rw [if_neg h1, if_pos h5]
theorem sby_two {d : Nat} {S : St} (h1 : 6 ≤ (S []).k) (h5 : (S []).k ≤ 7) : sby (d + 1) S = wdb (S []).k ++ (32 :: 40 :: 32 :: (sby d (part S 0) ++ (32 :: 44 :: 32 :: (sby d (part S 1) ++ [32, 41])))) := by
  show (if _ then _ else _) = _
  rw [if_neg (by omega), if_neg (by omega), if_pos h5]
theorem sby_rows {d : Nat} {S : St} (h1 : (S []).k = 8) : sby (d + 1) S = wdb (S []).k ++ (32 :: 91 :: 32 :: (mtr (S []).rl (S []).rows (S []).nr 0 ++ [32, 93])) := by
  show (if _ then _ else _) = _
  rw [if_neg (by omega), if_neg (by omega), if_neg (by omega)]
/-- A shape is told by its text, and where it ends. -/
theorem sby_one : ∀ (d : Nat) (S U : St) (r s : List UInt8), MS d S → MS d U → Stp r → Stp s → sby d S ++ r = sby d U ++ s → slk d S U ∧ r = s := by
  intro d
  induction d with
  | zero => intro S U r s h; obtain ⟨left, _, h⟩ := h; exact absurd h (by show ¬ (0 : Int) ≤ -1; omega)
  | succ d ih =>
    intro S U r s hS hU hr hs e
    obtain ⟨hk, hnm, hr1⟩ := sby_kind hS hU hr hs e
    obtain ⟨sw, sa, sr, sp⟩ := hS.parts
    obtain ⟨uw, ua, ur, up⟩ := hU.parts
    rcases swant_cases sw with ⟨k1, _, a1, p1, q1⟩ | ⟨k1, k1', _, a1, p1, q1⟩ | ⟨k1, k1', _, a1, p1, q1⟩ | ⟨k1, _, a1, p1, q1⟩ <;>
      rcases swant_cases uw with ⟨k2, _, a2, p2, q2⟩ | ⟨k2, k2', _, a2, p2, q2⟩ | ⟨k2, k2', _, a2, p2, q2⟩ | ⟨k2, _, a2, p2, q2⟩
    · exact ⟨⟨hk, hnm, by omega, fun i hi => by omega, by omega, fun i hi => by omega, by omega, fun i hi => by omega⟩, hr1 k1⟩
    · omega
    · omega
    · omega
    · omega
    · rw [sby_args (by omega) k1', sby_args (by omega) k2', hk, List.append_assoc, List.append_assoc] at e
      have e2 := List.append_cancel_left e
      have e3 : rtr 16 (S []).args (S []).na 0 ++ (32 :: 41 :: r) = rtr 16 (U []).args (U []).na 0 ++ (32 :: 41 :: s) := by
        have := List.append_cancel_left (show [32, 40, 32] ++ (rtr 16 (S []).args (S []).na 0 ++ [32, 41] ++ r) = [32, 40, 32] ++ (rtr 16 (U []).args (U []).na 0 ++ [32, 41] ++ s) from e2)
        rw [List.append_assoc, List.append_assoc] at this
        exact this
      obtain ⟨g1, g2, g3⟩ := rtr_one 16 _ _ _ _ 0 0 _ _ (by omega) (by omega) (fun k hk => by rw [Nat.zero_add]; exact sa k hk) (fun k hk => by rw [Nat.zero_add]; exact ua k hk) ⟨41, r, rfl, by decide⟩ ⟨41, s, rfl, by decide⟩ e3
      injection g3 with g4 g5
      injection g5 with g6 g7
      exact ⟨⟨hk, hnm, g1, fun i hi => by have := g2 i hi; rw [Nat.zero_add] at this; exact this, by omega, fun i hi => by omega, by omega, fun i hi => by omega⟩, g7⟩
    · omega
    · omega
    · omega
    · omega
    · rw [sby_two k1 k1', sby_two k2 k2', hk, List.append_assoc, List.append_assoc] at e
      have e2 := List.append_cancel_left e
      have e3 : sby d (part S 0) ++ (32 :: 44 :: 32 :: (sby d (part S 1) ++ (32 :: 41 :: r))) = sby d (part U 0) ++ (32 :: 44 :: 32 :: (sby d (part U 1) ++ (32 :: 41 :: s))) := by
        have := List.append_cancel_left (show [32, 40, 32] ++ (sby d (part S 0) ++ (32 :: 44 :: 32 :: (sby d (part S 1) ++ [32, 41])) ++ r) = [32, 40, 32] ++ (sby d (part U 0) ++ (32 :: 44 :: 32 :: (sby d (part U 1) ++ [32, 41])) ++ s) from e2)
        simpa using this
      obtain ⟨g1, g2⟩ := ih _ _ _ _ (sp 0 (by omega)) (up 0 (by omega)) (.inr ⟨_, rfl⟩) (.inr ⟨_, rfl⟩) e3
      have g3 := List.append_cancel_left (show [32, 44, 32] ++ (sby d (part S 1) ++ (32 :: 41 :: r)) = [32, 44, 32] ++ (sby d (part U 1) ++ (32 :: 41 :: s)) from g2)
      obtain ⟨g4, g5⟩ := ih _ _ _ _ (sp 1 (by omega)) (up 1 (by omega)) (.inr ⟨_, rfl⟩) (.inr ⟨_, rfl⟩) g3
      injection g5 with g6 g7
      injection g7 with g8 g9
      refine ⟨⟨hk, hnm, by omega, fun i hi => by omega, by omega, fun i hi => by omega, by omega, fun i hi => ?_⟩, g9⟩
      rcases (by omega : i = 0 ∨ i = 1) with rfl | rfl
      · exact g1
      · exact g4
    · omega
    · omega
    · omega
    · omega
    · rw [sby_rows k1, sby_rows k2, hk, List.append_assoc, List.append_assoc] at e
      have e2 := List.append_cancel_left e
      have e3 : mtr (S []).rl (S []).rows (S []).nr 0 ++ (32 :: 93 :: r) = mtr (U []).rl (U []).rows (U []).nr 0 ++ (32 :: 93 :: s) := by
        have := List.append_cancel_left (show [32, 91, 32] ++ (mtr (S []).rl (S []).rows (S []).nr 0 ++ [32, 93] ++ r) = [32, 91, 32] ++ (mtr (U []).rl (U []).rows (U []).nr 0 ++ [32, 93] ++ s) from e2)
        rw [List.append_assoc, List.append_assoc] at this
        exact this
      obtain ⟨g1, g2, g3⟩ := mtr_one _ _ _ _ _ _ 0 0 _ _ q1 q2 (fun k hk => by rw [Nat.zero_add]; exact ⟨(sr k hk).1, (sr k hk).2.2⟩) (fun k hk => by rw [Nat.zero_add]; exact ⟨(ur k hk).1, (ur k hk).2.2⟩) ⟨93, r, rfl, by decide, by decide⟩ ⟨93, s, rfl, by decide, by decide⟩ e3
      injection g3 with g4 g5
      injection g5 with g6 g7
      exact ⟨⟨hk, hnm, by omega, fun i hi => by omega, g1, fun i hi => by have := g2 i hi; rw [Nat.zero_add] at this; exact this, by omega, fun i hi => by omega⟩, g7⟩
end Go.Proofs.YtdimkfcanegahaaDoor
