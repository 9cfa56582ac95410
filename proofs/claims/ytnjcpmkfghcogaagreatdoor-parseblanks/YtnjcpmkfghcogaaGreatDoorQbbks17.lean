/-
  How tokens are read as expressions: what is left is shorter, fuel that is enough, places change nothing.
-/
import Derived.Test.YtnjcpmkfghcogaaGreatDoorQbbks00
import Derived.Test.YtnjcpmkfghcogaaGreatDoorQbbks16
set_option maxRecDepth 100000
set_option maxHeartbeats 16000000
namespace Go.Proofs.YtnjcpmkfghcogaaGreatDoor
theorem qa3 {α β : Type} {r : Rd α} {f : α → List TV → Rd β} {z : β × List TV} (h : thn r f = .ok z) : ∃ x s, r = .ok (x, s) ∧ f x s = .ok z := by
 match r, h with
 | .error _, h => cases h
 | .ok (x, s), h => exact ⟨x, s, rfl, h⟩
theorem qc8 {α : Type} {c : ByteArray} {x y : α} {s r : List TV} (h : ask c x s = .ok (y, r)) : ∃ u, s = u :: r ∧ u.tx = c ∧ y = x := by
 cases s with
 | nil => cases h
 | cons u s =>
  rw [qbr] at h
  by_cases hc : u.tx = c
  ·rw [if_pos hc] at h
   cases h
   exact ⟨u, rfl, hc, rfl⟩
  ·rw [if_neg hc] at h
   cases h
theorem qed : ∀ n, (∀ x L y s, px n 0 x L = .ok (y, s) → s.length < L.length) ∧ (∀ x L y s, px n 1 x L = .ok (y, s) → s.length < L.length) ∧ (∀ x L y s, px n 2 x L = .ok (y, s) → s.length ≤ L.length) ∧ (∀ x L y s, px n 3 x L = .ok (y, s) → s.length < L.length) ∧ (∀ x L y s, px n 4 x L = .ok (y, s) → s.length ≤ L.length) := by
 intro n
 induction n with
 | zero => exact ⟨fun _ _ _ _ h => (by cases h), fun _ _ _ _ h => (by cases h), fun _ _ _ _ h => (by cases h), fun _ _ _ _ h => (by cases h), fun _ _ _ _ h => (by cases h)⟩
 | succ n ih =>
  obtain ⟨i0, i1, i2, i3, i4⟩ := ih
  refine ⟨fun x L y s h => ?_, fun x L y s h => ?_, fun x L y s h => ?_, fun x L y s h => ?_, fun x L y s h => ?_⟩
  ·cases L with
   | nil => cases h
   | cons t r =>
    rw [qcw] at h
    rw [List.length_cons]
    split at h
    ·obtain ⟨a, b, h1, h2⟩ := qa3 h
     cases h2
     have := i0 _ _ _ _ h1
     omega
    ·split at h
     ·obtain ⟨a, b, h1, h2⟩ := qa3 h
      obtain ⟨u, rfl, _, _⟩ := qc8 h2
      have := i3 _ _ _ _ h1
      rw [List.length_cons] at this
      omega
     ·split at h
      ·cases h; omega
      ·split at h
       ·cases h; omega
       ·cases h
  ·rw [px1] at h
   obtain ⟨a, b, h1, h2⟩ := qa3 h
   have := i0 _ _ _ _ h1
   have := i2 _ _ _ _ h2
   omega
  ·cases L with
   | nil => cases h; exact Nat.le_refl _
   | cons t r =>
    rw [qck] at h
    split at h
    ·cases h; exact Nat.le_refl _
    ·obtain ⟨a, b, h1, h2⟩ := qa3 h
     have := i0 _ _ _ _ h1
     have := i2 _ _ _ _ h2
     rw [List.length_cons]
     omega
  ·rw [px3] at h
   obtain ⟨a, b, h1, h2⟩ := qa3 h
   have := i1 _ _ _ _ h1
   have := i4 _ _ _ _ h2
   omega
  ·cases L with
   | nil => cases h; exact Nat.le_refl _
   | cons t r =>
    rw [qcl] at h
    split at h
    ·cases h; exact Nat.le_refl _
    ·obtain ⟨a, b, h1, h2⟩ := qa3 h
     have := i1 _ _ _ _ h1
     have := i4 _ _ _ _ h2
     rw [List.length_cons]
     omega
theorem qam {α β : Type} {r r' : Rd α} {f g : α → List TV → Rd β} (h : r = r') (hf : ∀ x s, r = .ok (x, s) → f x s = g x s) : thn r f = thn r' g := by
 subst h
 match r, hf with
 | .error _, _ => rfl
 | .ok (x, s), hf => exact hf x s rfl
def XQ (x y : Xt) : Prop := ∀ d, xlk d x y
def LQ (L M : List TV) : Prop := L.map st0 = M.map st0
theorem LQ.nil {M : List TV} (h : LQ [] M) : M = [] := List.map_eq_nil_iff.1 h.symm
theorem LQ.cons {t : TV} {r M : List TV} (h : LQ (t :: r) M) : ∃ u s, M = u :: s ∧ st0 t = st0 u ∧ LQ r s := by
 unfold LQ at h
 rw [List.map_cons] at h
 obtain ⟨u, s, e, h1, h2⟩ := List.map_eq_cons_iff.1 h.symm
 exact ⟨u, s, e, h1.symm, h2.symm⟩
theorem LQ.mk {t u : TV} {r s : List TV} (h : st0 t = st0 u) (g : LQ r s) : LQ (t :: r) (u :: s) := by
 unfold LQ at *
 rw [List.map_cons, List.map_cons, h, g]
def RQ {α : Type} (Q : α → α → Prop) (r r' : Rd α) : Prop := (∃ x s x' s', r = .ok (x, s) ∧ r' = .ok (x', s') ∧ Q x x' ∧ LQ s s') ∨ ∃ e e', r = .error e ∧ r' = .error e' ∧ LQ e e'
theorem RQ.ok {α : Type} {Q : α → α → Prop} {x x' : α} {s s' : List TV} (h : Q x x') (g : LQ s s') : RQ Q (.ok (x, s)) (.ok (x', s')) := .inl ⟨x, s, x', s', rfl, rfl, h, g⟩
theorem RQ.err {α : Type} {Q : α → α → Prop} {e e' : List TV} (g : LQ e e') : RQ Q (.error e) (.error e') := .inr ⟨e, e', rfl, rfl, g⟩
theorem RQ.thn {α β : Type} {Q : α → α → Prop} {P : β → β → Prop} {r r' : Rd α} {f f' : α → List TV → Rd β} (h : RQ Q r r') (hf : ∀ x s x' s', Q x x' → LQ s s' → RQ P (f x s) (f' x' s')) : RQ P (Go.Proofs.YtnjcpmkfghcogaaGreatDoor.thn r f) (Go.Proofs.YtnjcpmkfghcogaaGreatDoor.thn r' f') := by
 rcases h with ⟨x, s, x', s', rfl, rfl, h1, h2⟩ | ⟨e, e', rfl, rfl, h⟩
 ·exact hf x s x' s' h1 h2
 ·exact RQ.err h
theorem qbf {α : Type} {Q : α → α → Prop} {c : ByteArray} {x x' : α} {s s' : List TV} (h : Q x x') (g : LQ s s') : RQ Q (ask c x s) (ask c x' s') := by
 cases s with
 | nil =>
  obtain rfl := g.nil
  exact RQ.err rfl
 | cons t r =>
  obtain ⟨u, r', rfl, h1, h2⟩ := g.cons
  rw [qbr, qbr, (qdf h1).2.1]
  split
  ·exact RQ.ok h h2
  ·exact RQ.err g
theorem xq_two {k : Nat} {t u : TV} {a a' b b' : Xt} (h : XQ a a') (g : XQ b b') : XQ (yTwo k t a b) (yTwo k u a' b') := fun d => by
 cases d with
 | zero => trivial
 | succ d =>
  refine ⟨rfl, rfl, rfl, rfl, fun i _ => ?_⟩
  show xlk d (if i = 0 then a else b) (if i = 0 then a' else b')
  split
  ·exact h d
  ·exact g d
theorem xq_neg {t u : TV} {a a' : Xt} (h : XQ a a') : XQ (yNeg t a) (yNeg u a') := fun d => by
 cases d with
 | zero => trivial
 | succ d => exact ⟨rfl, rfl, rfl, rfl, fun _ _ => h d⟩
theorem xq_num {t u : TV} (h : t.n = u.n) : XQ (yNum t) (yNum u) := fun d => by
 cases d with
 | zero => trivial
 | succ d => exact ⟨rfl, h, rfl, rfl, fun i hi => absurd hi (Nat.not_lt_zero _)⟩
theorem xq_nam {t u : TV} (h : t.tx = u.tx) : XQ (yNam t) (yNam u) := fun d => by
 cases d with
 | zero => trivial
 | succ d => exact ⟨rfl, rfl, h, rfl, fun i hi => absurd hi (Nat.not_lt_zero _)⟩
theorem px_like : ∀ n m x x' L L', XQ x x' → LQ L L' → RQ XQ (px n m x L) (px n m x' L') := by
 intro n
 induction n with
 | zero => intro m x x' L L' _ h; exact RQ.err h
 | succ n ih =>
  intro m x x' L L' hx hL
  have hk : ∀ {t u : TV}, st0 t = st0 u → ksum t = ksum u ∧ kterm t = kterm u := fun h => by unfold ksum kterm; rw [(qdf h).2.1]; exact ⟨rfl, rfl⟩
  by_cases m0 : m = 0
  ·subst m0
   cases L with
   | nil =>
    obtain rfl := hL.nil
    exact RQ.err rfl
   | cons t r =>
    obtain ⟨u, r', rfl, h1, h2⟩ := hL.cons
    obtain ⟨e1, e2, e3⟩ := qdf h1
    rw [qcw, qcw, e1, e2]
    split
    ·exact (ih 0 x x' r r' hx h2).thn (fun y s y' s' a b => RQ.ok (xq_neg a) b)
    ·split
     ·exact (ih 3 x x' r r' hx h2).thn (fun y s y' s' a b => qbf a b)
     ·split
      ·exact RQ.ok (xq_num e3) h2
      ·split
       ·exact RQ.ok (xq_nam e2) h2
       ·exact RQ.err hL
  by_cases m1 : m = 1
  ·subst m1
   rw [px1, px1]
   exact (ih 0 x x' L L' hx hL).thn (fun y s y' s' a b => ih 2 y y' s s' a b)
  by_cases m2 : m = 2
  ·subst m2
   cases L with
   | nil =>
    obtain rfl := hL.nil
    exact RQ.ok hx rfl
   | cons t r =>
    obtain ⟨u, r', rfl, h1, h2⟩ := hL.cons
    rw [qck, qck, (hk h1).2]
    split
    ·exact RQ.ok hx hL
    ·exact (ih 0 x x' r r' hx h2).thn (fun y s y' s' a b => ih 2 _ _ s s' (xq_two hx a) b)
  by_cases m3 : m = 3
  ·subst m3
   rw [px3, px3]
   exact (ih 1 x x' L L' hx hL).thn (fun y s y' s' a b => ih 4 y y' s s' a b)
  ·have e : ∀ x L, px (n + 1) m x L = px (n + 1) 4 x L := fun x L => by
    show (if m = 0 then _ else if m = 1 then _ else if m = 2 then _ else if m = 3 then _ else _) = _
    rw [if_neg m0, if_neg m1, if_neg m2, if_neg m3]
    rfl
   rw [e, e]
   cases L with
   | nil =>
    obtain rfl := hL.nil
    exact RQ.ok hx rfl
   | cons t r =>
    obtain ⟨u, r', rfl, h1, h2⟩ := hL.cons
    rw [qcl, qcl, (hk h1).1]
    split
    ·exact RQ.ok hx hL
    ·exact (ih 1 x x' r r' hx h2).thn (fun y s y' s' a b => ih 4 _ _ s s' (xq_two hx a) b)
end Go.Proofs.YtnjcpmkfghcogaaGreatDoor
