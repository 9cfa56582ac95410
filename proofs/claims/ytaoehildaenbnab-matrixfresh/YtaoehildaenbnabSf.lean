/-
  Contract of the matrices' reference: Transpose.
-/
import Derived.Test.YtaoehildaenbnabSe
import Derived.Test.YtaoehildaenbnabPk
import Derived.Deep.AppendLies
namespace Go.Proofs.Ytaoehildaenbnab
open Go.RowKit
/-- The entries transposed: r rows and c columns become c rows and r columns. -/
def trf (F : Nat → Nat) (r c p : Nat) : Nat := F (p % r * c + p / r)
theorem trf_at (F : Nat → Nat) (r c i j : Nat) (hi : i < r) : trf F r c (j * r + i) = F (i * c + j) := by
  unfold trf
  rw [Nat.mul_comm j r, Nat.mul_add_mod, Nat.mod_eq_of_lt hi, Nat.mul_add_div (by omega), Nat.div_eq_of_lt hi, Nat.add_zero]
theorem keepg {w w' : World} {b o : Nat} {x : Value} {row : Option Nat} (hg : w.grownBy w' row) (h : w.cell? ⟨b, o, none⟩ = some x) (hne : row ≠ some b) : w'.cell? ⟨b, o, none⟩ = some x := hg.cell h (fun e => hne e.symm)
theorem keepgf {w w' : World} {b o : Nat} {x : Value} {row : Option Nat} (hg : w.grownBy w' row) (hc : w.cell? ⟨b, o, none⟩ = some x) (h : w.frozen? ⟨b, o, none⟩ = false) (hne : row ≠ some b) : w'.frozen? ⟨b, o, none⟩ = false := by
  unfold World.frozen? at *
  rw [hg.block b (cell_lt hc) (fun e => hne e.symm)]; exact h
theorem Vr.grown {w w' : World} {b : Nat} {x y z : Value} {row : Option Nat} (h : Vr w b x y z) (hg : w.grownBy w' row) (hne : row ≠ some b) : Vr w' b x y z := by unfold Vr; rw [hg.block b h.lt (fun e => hne e.symm)]; exact h
theorem own_sl' {w : World} {base : Nat} {v : Value} {n : Nat} {ls : List Value} (h : w.ownsRow base 5 1 v n ls) : ∃ s d, v = .slice s n d ∧ n ≤ d ∧ True := by
  rcases h.2 with ⟨e, h0⟩ | ⟨g, cap, cur, e, _, _, hc, _⟩
  · subst h0; exact ⟨none, 0, e, Nat.le_refl _, trivial⟩
  · exact ⟨_, cap, e, hc, trivial⟩
/-- What the loops of Transpose keep. -/
structure TInv (w w1 wr : World) (g4 r c n k q : Nat) (a : Option Addr) (F : Nat → Nat) (v : Value) : Prop where
  vb : Vr wr w.heap.size (.int .i64 (r : Int)) (.int .i64 (c : Int)) (.slice a n k)
  vr : Vr wr (w.heap.size + 1) (.int .i64 0) (.int .i64 0) (.slice none 0 0)
  vt : Vr wr g4 (.int .i64 (c : Int)) (.int .i64 (r : Int)) v
  own : wr.ownsRow (g4 + 1) 5 1 v q (row q (trf F r c)).toList
  below : Below w1.heap.size w1 wr
theorem tinv_next {w w1 wr w5 w8 : World} {r c n k q q' p x gg cap : Nat} {a : Option Addr} {F : Nat → Nat} {v : Value} (I : TInv w w1 wr w1.heap.size r c n k q a F v) (hb5 : Below wr.heap.size wr w5)
    (ho : w5.ownsRow (w1.heap.size + 1) 5 1 v p (row p (trf F r c)).toList)
    (hown : w8.ownsRow (w1.heap.size + 1) 5 1 (.slice (some ⟨gg, 0, none⟩) (p + 1) cap) (p + 1) ((row p (trf F r c)).toList ++ [.int .u8 (x : Int)])) (hg : (w5.alloc (.cells #[.int .u8 (x : Int)] 5)).grownBy w8 v.ownBlock) (hx : trf F r c p = x) (hq : p + 1 = q') (hw : w.heap.size + 1 < w1.heap.size) :
    TInv w w1 (w8.setCell ⟨w1.heap.size, 2, none⟩ (.slice (some ⟨gg, 0, none⟩) (p + 1) cap)) w1.heap.size r c n k q' a F (.slice (some ⟨gg, 0, none⟩) (p + 1) cap) := by
  subst hq
  have base := own_base ho
  have gb := (own_block hown).1
  refine ⟨?_, ?_, ?_, ?_, ?_⟩
  · exact (((I.vb.later hb5).later (alloc_low _ _)).grown hg (fun e => by have := base _ e; omega)).kept (grown_setCell _ _ _ _) (by omega)
  · exact (((I.vr.later hb5).later (alloc_low _ _)).grown hg (fun e => by have := base _ e; omega)).kept (grown_setCell _ _ _ _) (by omega)
  · exact Vr.set2 (((I.vt.later hb5).later (alloc_low _ _)).grown hg (fun e => by have := base _ e; omega)) _
  · rw [← row_snoc, hx]
    exact hown.kept (grown_setCell _ _ _ _) (.inr (by simp [Value.ownBlock]; omega))
  · have b8 : Below w1.heap.size w1 w8 := ((two_below I.below hb5).alloc (two_below I.below hb5).size _).grown hg (by have := (two_below I.below hb5).size; simp; omega) (fun k hk => by have := base k hk; omega)
    exact b8.setCell (Nat.le_refl _) _
end Go.Proofs.Ytaoehildaenbnab
