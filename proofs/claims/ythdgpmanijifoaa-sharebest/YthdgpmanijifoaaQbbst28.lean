/-
  Contracts of the program's matrices: allRight, Make, Identity.
-/
import Derived.Test.YthdgpmanijifoaaQbbst00
import Derived.Test.YthdgpmanijifoaaQbbst17
set_option maxRecDepth 100000
set_option maxHeartbeats 16000000
namespace Go.Proofs.Ythdgpmanijifoaa
open Go.RowKit
/-- Two matrices in a row. -/
def Two (w : World) (g : Nat) (r c : Int) (a : Option Addr) (n k : Nat) (r' c' : Int) (b : Option Addr) (m d : Nat) : Prop := w.heap[g]? = some (.cells #[.int .i64 r, .int .i64 c, .slice a n k, .int .i64 r', .int .i64 c', .slice b m d] 47 (0, 0))
theorem Two.lt {w : World} {g : Nat} {r c : Int} {a : Option Addr} {n k : Nat} {r' c' : Int} {b : Option Addr} {m d : Nat} (h : Two w g r c a n k r' c' b m d) : g < w.heap.size := lt_of_block h
theorem Two.later {w w' : World} {g : Nat} {r c : Int} {a : Option Addr} {n k : Nat} {r' c' : Int} {b : Option Addr} {m d : Nat} (h : Two w g r c a n k r' c' b m d) (hb : Below w.heap.size w w') : Two w' g r c a n k r' c' b m d := by unfold Two; rw [hb.block g h.lt]; exact h
theorem Two.c0 {w : World} {g : Nat} {r c : Int} {a : Option Addr} {n k : Nat} {r' c' : Int} {b : Option Addr} {m d : Nat} (h : Two w g r c a n k r' c' b m d) : w.cell? ⟨g, 0, none⟩ = some (.int .i64 r) := by rw [cell_of_row w g 0 _ _ _ h]; rfl
theorem Two.c1 {w : World} {g : Nat} {r c : Int} {a : Option Addr} {n k : Nat} {r' c' : Int} {b : Option Addr} {m d : Nat} (h : Two w g r c a n k r' c' b m d) : w.cell? ⟨g, 1, none⟩ = some (.int .i64 c) := by rw [cell_of_row w g 1 _ _ _ h]; rfl
theorem Two.c2 {w : World} {g : Nat} {r c : Int} {a : Option Addr} {n k : Nat} {r' c' : Int} {b : Option Addr} {m d : Nat} (h : Two w g r c a n k r' c' b m d) : w.cell? ⟨g, 2, none⟩ = some (.slice a n k) := by rw [cell_of_row w g 2 _ _ _ h]; rfl
theorem Two.c3 {w : World} {g : Nat} {r c : Int} {a : Option Addr} {n k : Nat} {r' c' : Int} {b : Option Addr} {m d : Nat} (h : Two w g r c a n k r' c' b m d) : w.cell? ⟨g, 3, none⟩ = some (.int .i64 r') := by rw [cell_of_row w g 3 _ _ _ h]; rfl
theorem Two.c4 {w : World} {g : Nat} {r c : Int} {a : Option Addr} {n k : Nat} {r' c' : Int} {b : Option Addr} {m d : Nat} (h : Two w g r c a n k r' c' b m d) : w.cell? ⟨g, 4, none⟩ = some (.int .i64 c') := by rw [cell_of_row w g 4 _ _ _ h]; rfl
theorem Two.c5 {w : World} {g : Nat} {r c : Int} {a : Option Addr} {n k : Nat} {r' c' : Int} {b : Option Addr} {m d : Nat} (h : Two w g r c a n k r' c' b m d) : w.cell? ⟨g, 5, none⟩ = some (.slice b m d) := by rw [cell_of_row w g 5 _ _ _ h]; rfl
end Go.Proofs.Ythdgpmanijifoaa
