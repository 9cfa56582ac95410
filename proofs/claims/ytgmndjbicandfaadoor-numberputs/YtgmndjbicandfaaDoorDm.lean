/-
  Contracts of the program's tree: which items may be; May.
-/
import Derived.Test.YtgmndjbicandfaaDoorDk
import Derived.Test.YtgmndjbicandfaaDoorDl
import Derived.Test.YtgmndjbicandfaaDoorDe
namespace Go.Proofs.YtgmndjbicandfaaDoor
open Go.RowKit
theorem wp_store_vn {op : Oper} {a : Act} {w : World} {K : Act → World → Prop} {Q : Exit → Act → World → Prop} (T : TypeId) (p q : Operand) (ho : op.op = .store T p q)
    (b : Nat) (xs ys : Array Value) (hp : a.eval p = .pointer (some ⟨b, 0, none⟩)) (hq : a.eval q = .agg ys) (hv : Vn w b T xs) (hi : (Tryd.prog.info? T).map (·.size) = some ys.size) (hsz : xs.size = ys.size) (h1 : ys.all (·.oneCell') = true)
    (h : ∀ w', Hid (Vn w' b T ys) → Hid (w.grownBy w' (some b)) → K (a.put op.dst undef) w') : op.wp Tryd.prog a w K Q :=
  wp_store_row T p q ho b ys hp hq T xs hv hi hsz h1 (h _ (hv.row ys) (row_grown w b ys))
/-- A whole variable is read, behind a guard that wants it too. -/
theorem wpList_load_rowg {P : Program} {ops : Array Oper} {rest : List Oper} {o : Oper} {a : Act} {w : World} {Q : Exit → Act → World → Prop} (hw : Region.wanted o (yielded ops a.tmps) = true) (ty : TypeId) (x : Operand) (ho : o.op = .load ty x)
    (g : Nat) (hx : a.eval x = .pointer (some ⟨g, 0, none⟩)) (t : TypeId) (cs : Array Value) (fr : Nat × Nat) (d : TypeDesc) (hg : w.heap[g]? = some (.cells cs t fr))
    (hu : P.underlying ty = some d) (hd : (match d with | .struct _ | .array _ _ => true | _ => false) = true) (hi : (P.info? ty).map (·.size) = some cs.size)
    (h : wpList P ops Q rest (a.put o.dst (.agg cs)) w) : wpList P ops Q (o :: rest) a w := by
  show if _ then _ else _
  rw [if_pos hw]
  exact Or.inl (wp_load_row ty x ho g hx t cs fr d hg hu hd hi h)
theorem drew_below10 (w : World) : Below w.heap.size w w.drew := (Below.refl _ _).drew
/-- Are an item's fields as they are asked for? -/
def fiB (u0 u1 u2 u3 u4 : Bool) (nm : ByteArray) (lx : Lx) (ls : Ls) (pl nl : Nat) : Bool := ((u0 == !decide (nm.size = 0)) && ((u1 == !zxB lx) && ((u2 == !zsB ls) && ((u3 == !decide (pl = 0)) && (u4 == decide (0 < nl)))))) && ((!u0 || isN nm) && decide (nl ≤ 64))
end Go.Proofs.YtgmndjbicandfaaDoor
