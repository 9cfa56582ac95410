/-
  Contracts of the token's reference: May, Form.
-/
import Derived.Test.YtdimkfcanegahaaDoorAh
import Derived.Test.YtdimkfcanegahaaDoorBs
import Derived.Lib.AppendIntMem
namespace Go.Proofs.YtdimkfcanegahaaDoor
open Go.RowKit
theorem Tab9.later {w w' : World} (h : Tab9 w) (hb : Below w.heap.size w w') : Tab9 w' := by
  unfold Tab9 Lib.TabIs World.var? at *
  cases hg : Tryd.prog.globalNamed "internal/strconv.uint64pow10" with
  | none => rw [hg] at h; cases h
  | some g =>
    rw [hg] at h
    have hlt : g < w.heap.size := by
      rcases Nat.lt_or_ge g w.heap.size with x | x
      · exact x
      · simp only [Option.bind_some] at h
        rw [Array.getElem?_eq_none x] at h
        cases h
    simp only [Option.bind_some] at *
    rw [hb.block g hlt]
    exact h
/-- May a token be? -/
def mayB (v : TV) : Bool :=
  if v.k = 1 then decide (v.n = 0) && isN v.tx
  else if v.k = 2 then decide (v.n = 0) && isW v.tx
  else if v.k = 3 then decide (v.tx.size = 0) && (decide (0 ≤ v.n) && decide (v.n ≤ 2147483647))
  else if v.k = 4 then decide (v.n = 0) && (decide (v.tx.size = 1) && isS (tb v.tx 0))
  else false
/-- A token's text. -/
def frm (v : TV) : ByteArray := if v.k = 3 then ⟨(Lib.itoa v.n).toArray⟩ else v.tx
/-- A token as it is handed over. -/
def tva (v : TV) : Value := .agg #[.int .u8 (v.k : Int), .string v.tx, .int .i64 v.n, .int .i64 v.ln, .int .i64 v.cl]
/-- A token's numbers are those of Go. -/
structure TvOk (v : TV) : Prop where
  k8 : v.k < 256
  tx47 : v.tx.size ≤ 140737488351232
  n1 : -9223372036854775808 ≤ v.n
  n2 : v.n ≤ 9223372036854775807
theorem tl_nil {x : ByteArray} : (x.toList == []) = decide (x.size = 0) := by
  rw [ByteArray.toList_eq]
  obtain ⟨⟨l⟩⟩ := x
  cases l with
  | nil => rfl
  | cons a l => rfl
end Go.Proofs.YtdimkfcanegahaaDoor
