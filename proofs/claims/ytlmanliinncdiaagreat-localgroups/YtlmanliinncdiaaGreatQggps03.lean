/-
  A list of sets that is sorted in its place: which numbers stand there stays.
-/
import Derived.Test.YtlmanliinncdiaaGreatQggps00
import Derived.Test.YtlmanliinncdiaaGreatQggps02
import Derived.CellFam
set_option maxRecDepth 100000
set_option maxHeartbeats 16000000
namespace Go.Proofs.YtlmanliinncdiaaGreat
open Go.RowKit
theorem qd1 {a b c : World} {row : Option Nat} (h : a.grownBy b row) (k : b.grownBy c row) : a.grownBy c row :=
 ⟨k.os.trans h.os, k.tape.trans h.tape, k.output.trans h.output, Nat.le_trans h.size k.size, fun j hj hr => (k.block j (Nat.lt_of_lt_of_le hj h.size) hr).trans (h.block j hj hr)⟩
theorem qbw (w : World) (g i : Nat) (v : Value) : w.grownBy (w.setCell ⟨g, i, none⟩ v) (some g) :=
 ⟨rfl, rfl, rfl, by simp, fun k _ hk => Below.heap_setCell w ⟨g, i, none⟩ v k (by intro e; apply hk; simpa using e)⟩
/-- In both lists stand the same numbers. -/
def Hs (n : Nat) (q f : Nat → Nat) : Prop := ∀ v, (∃ i, i < n ∧ q i = v) ↔ ∃ i, i < n ∧ f i = v
theorem Hs.refl (n : Nat) (q : Nat → Nat) : Hs n q q := fun _ => Iff.rfl
theorem Hs.swap {n : Nat} {q f f' : Nat → Nat} (h : Hs n q f) {i j : Nat} (hi : i < n) (hj : j < n) (e1 : f' i = f j) (e2 : f' j = f i) (e3 : ∀ t, t ≠ i → t ≠ j → f' t = f t) : Hs n q f' := fun v => by
 rw [h v]
 constructor
 ·rintro ⟨t, ht, e⟩
  by_cases h1 : t = i
  ·subst h1; exact ⟨j, hj, by rw [e2, e]⟩
  ·by_cases h2 : t = j
   ·subst h2; exact ⟨i, hi, by rw [e1, e]⟩
   ·exact ⟨t, ht, by rw [e3 t h1 h2, e]⟩
 ·rintro ⟨t, ht, e⟩
  by_cases h1 : t = i
  ·subst h1; exact ⟨j, hj, by rw [← e1, e]⟩
  ·by_cases h2 : t = j
   ·subst h2; exact ⟨i, hi, by rw [← e2, e]⟩
   ·exact ⟨t, ht, by rw [← e3 t h1 h2, e]⟩
/-- The list as it is being sorted: n numbers in the block g from the place o on. -/
structure Sq (w0 w : World) (g o n c : Nat) (q f : Nat → Nat) : Prop where
 cell : ∀ t, t < n → w.cell? ⟨g, o + t, none⟩ = some (.int .u64 (f t : Nat))
 sh : ∃ cur, w.heap[g]? = some (.cells cur 26 (0, 0)) ∧ cur.size = c
 hs : Hs n q f
 gr : w0.grownBy w (some g)
theorem Sq.free {w0 w : World} {g o n c : Nat} {q f : Nat → Nat} (h : Sq w0 w g o n c q f) (t : Nat) : w.frozen? ⟨g, o + t, none⟩ = false := by
 obtain ⟨cur, hc, _⟩ := h.sh
 simp [World.frozen?, hc]
theorem Sq.lt {w0 w : World} {g o n c : Nat} {q f : Nat → Nat} (h : Sq w0 w g o n c q f) : g < w.heap.size := by
 obtain ⟨cur, hc, _⟩ := h.sh
 exact lt_of_block hc
theorem Sq.below {w0 w w' : World} {g o n c : Nat} {q f : Nat → Nat} (h : Sq w0 w g o n c q f) (hb : Below w.heap.size w w') : Sq w0 w' g o n c q f := by
 have hl := h.lt
 refine ⟨fun t ht => ?_, ?_, h.hs, qd1 h.gr (World.grownBy.mk hb.os hb.tape hb.output hb.size (fun k hk _ => hb.block k hk))⟩
 ·rw [hb.cell (p := ⟨g, o + t, none⟩) hl]; exact h.cell t ht
 ·obtain ⟨cur, hc, hs⟩ := h.sh
  exact ⟨cur, by rw [hb.block g hl]; exact hc, hs⟩
theorem Sq.drew {w0 w : World} {g o n c : Nat} {q f : Nat → Nat} (h : Sq w0 w g o n c q f) : Sq w0 w.drew g o n c q f := h.below (Below.refl _ _).drew
theorem Sq.drewN {w0 w : World} {g o n c : Nat} {q f : Nat → Nat} (h : Sq w0 w g o n c q f) (m : Nat) : Sq w0 (w.drewN m) g o n c q f := h.below (below_drewN (Below.refl _ _) m)
theorem Sq.start {w : World} {g o n c : Nat} {f : Nat → Nat} (hc : ∀ t, t < n → w.cell? ⟨g, o + t, none⟩ = some (.int .u64 (f t : Nat))) (hs : ∃ cur, w.heap[g]? = some (.cells cur 26 (0, 0)) ∧ cur.size = c) : Sq w w g o n c f f := ⟨hc, hs, Hs.refl _ _, ⟨rfl, rfl, rfl, Nat.le_refl _, fun _ _ _ => rfl⟩⟩
theorem Sq.set {w : World} {g o n c : Nat} {f : Nat → Nat} (hc : ∀ t, t < n → w.cell? ⟨g, o + t, none⟩ = some (.int .u64 (f t : Nat))) (hs : ∃ cur, w.heap[g]? = some (.cells cur 26 (0, 0)) ∧ cur.size = c) (i v : Nat) (hi : i < n) :
  (∀ t, t < n → (w.setCell ⟨g, o + i, none⟩ (.int .u64 (v : Int))).cell? ⟨g, o + t, none⟩ = some (.int .u64 ((if t = i then v else f t : Nat) : Int))) ∧ ∃ cur, (w.setCell ⟨g, o + i, none⟩ (.int .u64 (v : Int))).heap[g]? = some (.cells cur 26 (0, 0)) ∧ cur.size = c := by
 obtain ⟨cur, hb, hz⟩ := hs
 have hlt : o + i < cur.size := by
  have := hc i hi
  rw [cell_of_row w g (o + i) _ _ _ hb] at this
  exact (Array.getElem?_eq_some_iff.1 this).1
 have hb' : (w.setCell ⟨g, o + i, none⟩ (.int .u64 (v : Int))).heap[g]? = some (.cells (cur.setIfInBounds (o + i) (.int .u64 (v : Int))) 26 (0, 0)) := by
  rw [setCell_eq_setRow w g (o + i) _ _ (0, 0) _ hb, setRow_heap w g _ _ _ (0, 0) hb]
 refine ⟨fun t ht => ?_, _, hb', by simpa using hz⟩
 rw [cell_of_row _ g (o + t) _ _ _ hb']
 by_cases e : t = i
 ·subst e
  rw [if_pos rfl, Array.getElem?_setIfInBounds_self_of_lt hlt]
 ·rw [if_neg e, Array.getElem?_setIfInBounds_ne (by omega), ← cell_of_row w g (o + t) _ _ _ hb]
  exact hc t ht
/-- Two numbers change places. -/
theorem Sq.swap {w0 w : World} {g o n c : Nat} {q f : Nat → Nat} (h : Sq w0 w g o n c q f) {i j : Nat} (hi : i < n) (hj : j < n) :
  ∃ f', Sq w0 ((w.setCell ⟨g, o + i, none⟩ (.int .u64 (f j : Nat))).setCell ⟨g, o + j, none⟩ (.int .u64 (f i : Nat))) g o n c q f' := by
 obtain ⟨c1, s1⟩ := Sq.set h.cell h.sh i (f j) hi
 obtain ⟨c2, s2⟩ := Sq.set c1 s1 j (f i) hj
 refine ⟨fun t => if t = j then f i else if t = i then f j else f t, c2, s2, h.hs.swap hi hj ?_ ?_ ?_, qd1 h.gr (qd1 (qbw _ _ _ _) (qbw _ _ _ _))⟩
 ·by_cases e : i = j
  ·subst e; simp
  ·simp [e]
 ·simp
 ·intro t h1 h2; simp [h1, h2]
/-- What the second store of an exchange meets. -/
theorem Sq.mid {w0 w : World} {g o n c : Nat} {q f : Nat → Nat} (h : Sq w0 w g o n c q f) {i : Nat} (hi : i < n) (v : Nat) :
  (∀ t, t < n → ∃ z : Nat, (w.setCell ⟨g, o + i, none⟩ (.int .u64 (v : Int))).cell? ⟨g, o + t, none⟩ = some (.int .u64 (z : Int))) ∧ ∀ t, (w.setCell ⟨g, o + i, none⟩ (.int .u64 (v : Int))).frozen? ⟨g, o + t, none⟩ = false := by
 obtain ⟨c1, cur, s1, _⟩ := Sq.set h.cell h.sh i v hi
 exact ⟨fun t ht => ⟨_, c1 t ht⟩, fun t => by simp [World.frozen?, s1]⟩
end Go.Proofs.YtlmanliinncdiaaGreat
