/-
  Stage 21: the reference's Trim: the marks (made by gen34g.py).
-/
import Derived.Test.YtkffkhlaljeimaaQttms00
import Derived.Test.YtkffkhlaljeimaaQttms43
set_option maxRecDepth 100000
set_option maxHeartbeats 16000000
namespace Go.Proofs.Ytkffkhlaljeimaa
open Go.RowKit
theorem qbq {F : Fl} : ∀ k v u j, hang F k v u → j < tn F u → hang F (k + 1) v (tv F u j) := by
 intro k
 induction k with
 | zero =>
  intro v u j h hj
  obtain rfl : v = u := h
  exact ⟨j, hj, rfl⟩
 | succ k ih =>
  intro v u j h hj
  obtain ⟨l, hl, hx⟩ := h
  exact ⟨l, hl, ih _ _ _ hx hj⟩
theorem NeedP.step {F : Fl} {u j : Nat} (h : NeedP F u) (hj : j < tn F u) : NeedP F (tv F u j) := by
 obtain ⟨o, ho, k, hk⟩ := h
 exact ⟨o, ho, k + 1, qbq k _ _ _ hk hj⟩
/-- The nodes from i on are gone through. -/
structure WI (F : Fl) (i : Nat) (m : Nat → Bool) : Prop where
 clo : ∀ u, F.ni + i ≤ u → m u = true → Clo F m u
 from' : ∀ u, m u = true → NeedP F u
 done : ∀ o, o < F.no → m (F.out o).toNat = true
theorem WI.fin {F : Fl} {m : Nat → Bool} (h : WI F 0 m) : ∀ u, m u = true ↔ NeedP F u := fun u =>
 ⟨h.from' u, fun ⟨o, ho, k, hk⟩ => qb9 (fun v hv => by
  by_cases e : v < F.ni
  ·intro j hj
   have : tn F v = 0 := if_pos e
   omega
  ·exact h.clo v (by omega) hv) k _ _ hk (h.done o ho)⟩
/-- In the midst of a node's terms. -/
structure WJ (F : Fl) (v : Nat) (m : Nat → Bool) (j : Nat) (mj : Nat → Bool) : Prop where
 mono : ∀ u, m u = true → mj u = true
 same : ∀ u, v ≤ u → mj u = m u
 from' : ∀ u, mj u = true → NeedP F u
 done : ∀ l, l < j → mj (tv F v l) = true
theorem WJ.step {F : Fl} {v j : Nat} {m mj : Nat → Bool} (h : WJ F v m j mj) (hm : m v = true) (hj : j < tn F v) (hc : tv F v j < v) : WJ F v m (j + 1) (fun x => if x = tv F v j then true else mj x) := by
 refine ⟨fun u hu => ?_, fun u hu => ?_, fun u hu => ?_, fun l hl => ?_⟩
 ·show (if u = tv F v j then true else mj u) = true
  split
  ·rfl
  ·exact h.mono u hu
 ·show (if u = tv F v j then true else mj u) = m u
  rw [if_neg (by omega)]
  exact h.same u hu
 ·have hu : (if u = tv F v j then true else mj u) = true := hu
  by_cases e : u = tv F v j
  ·rw [e]
   exact (h.from' v (by rw [h.same v (Nat.le_refl _)]; exact hm)).step hj
  ·rw [if_neg e] at hu
   exact h.from' u hu
 ·show (if tv F v l = tv F v j then true else mj (tv F v l)) = true
  split
  ·rfl
  ·exact h.done l (by
    by_cases e : l = j
    ·rename_i hne; exact absurd (by rw [e]) hne
    ·omega)
theorem WI.next {F : Fl} {i : Nat} {m mj : Nat → Bool} (h : WI F (i + 1) m) (k : WJ F (F.ni + i) m (tn F (F.ni + i)) mj) : WI F i mj := by
 refine ⟨fun u hu hm => ?_, k.from', fun o ho => k.mono _ (h.done o ho)⟩
 by_cases e : u = F.ni + i
 ·rw [e]; exact fun j hj => k.done j hj
 ·rw [k.same u hu] at hm
  exact (h.clo u (by omega) hm).mono k.mono
theorem WI.skip {F : Fl} {i : Nat} {m : Nat → Bool} (h : WI F (i + 1) m) (hm : m (F.ni + i) = false) : WI F i m :=
 ⟨fun u hu hx => by
  by_cases e : u = F.ni + i
  ·rw [e, hm] at hx; cases hx
  ·exact h.clo u (by omega) hx, h.from', h.done⟩
theorem WI.skip2 {F : Fl} {i l : Nat} {m mj : Nat → Bool} (h : WI F (i + 1) m) (k : WJ F (F.ni + i) m l mj) (hm : m (F.ni + i) = false) : WI F i mj :=
 ⟨fun u hu hx => by
  rw [k.same u hu] at hx
  by_cases e : u = F.ni + i
  ·rw [e, hm] at hx; cases hx
  ·exact (h.clo u (by omega) hx).mono k.mono, k.from', fun o ho => k.mono _ (h.done o ho)⟩
/-- The variables and the marks. -/
structure WS (w wr : World) (g1 N : Nat) (F : Fl) (a b c : Option Addr) (p q r : Nat) (m : Nat → Bool) : Prop where
 vf : Vf wr w.heap.size 25 #[.slice a F.ni p, .slice b F.nn q, .slice c F.no r]
 vr : Vf wr (w.heap.size + 1) 25 #[.slice none 0 0, .slice none 0 0, .slice none 0 0]
 mks : Ga wr g1 4 N (fun i => .bool (m i))
 hg : w.heap.size + 1 < g1
 below : Below w.heap.size w wr
theorem WS.later {w wr w2 : World} {g1 N : Nat} {F : Fl} {a b c : Option Addr} {p q r : Nat} {m : Nat → Bool} (h : WS w wr g1 N F a b c p q r m) (hb : Below wr.heap.size wr w2) : WS w w2 g1 N F a b c p q r m :=
 ⟨h.vf.later hb, h.vr.later hb, h.mks.later hb, h.hg, jtwo h.below hb⟩
theorem WS.beside {w wr w2 : World} {g1 g2 N : Nat} {F : Fl} {a b c : Option Addr} {p q r : Nat} {m : Nat → Bool} (h : WS w wr g1 N F a b c p q r m) (hg : wr.grownBy w2 (some g2)) (hl : g1 < g2) : WS w w2 g1 N F a b c p q r m := by
 have h1 := h.hg
 exact ⟨h.vf.kept hg (by simp; omega), h.vr.kept hg (by simp; omega), h.mks.kept hg (by simp; omega), h1, h.below.grown hg h.below.size (fun g e => by cases e; omega)⟩
theorem WS.put {w wr : World} {g1 N : Nat} {F : Fl} {a b c : Option Addr} {p q r : Nat} {m : Nat → Bool} (h : WS w wr g1 N F a b c p q r m) (u : Nat) : WS w (wr.setCell ⟨g1, u, none⟩ (.bool true)) g1 N F a b c p q r (fun x => if x = u then true else m x) := by
 have hg := h.hg
 have gs := qa1 wr g1 u (.bool true)
 exact ⟨h.vf.kept gs (by simp; omega), h.vr.kept gs (by simp; omega), (h.mks.set u (.bool true)).congr (fun i _ => by by_cases e : i = u <;> simp [e]), hg, h.below.setCell (show w.heap.size ≤ g1 by omega) _⟩
end Go.Proofs.Ytkffkhlaljeimaa
