/-
  Variables of several cells; lists of tokens in memory.
-/
import Derived.Test.YtdimkfcanegahaaDoorAd
import Derived.Laws.Rows
import Derived.Laws.Tables
import Derived.Laws.CopyOwn
import Derived.Deep.RegionHeld
import Derived.Deep.MidRow
namespace Go.Proofs.YtdimkfcanegahaaDoor
open Go.RowKit
/-- A variable of several cells. -/
def Vn (w : World) (b : Nat) (T : TypeId) (xs : Array Value) : Prop := w.heap[b]? = some (.cells xs T (0, 0))
theorem Vn.new (w : World) (T : TypeId) (xs : Array Value) : Vn (w.alloc (.cells xs T)) w.heap.size T xs := Array.getElem?_push_size
theorem Vn.lt {w : World} {b : Nat} {T : TypeId} {xs : Array Value} (h : Vn w b T xs) : b < w.heap.size := lt_of_block h
theorem Vn.later {w w' : World} {b : Nat} {T : TypeId} {xs : Array Value} (h : Vn w b T xs) (hb : Below w.heap.size w w') : Vn w' b T xs := by unfold Vn; rw [hb.block b h.lt]; exact h
theorem Vn.cell {w : World} {b : Nat} {T : TypeId} {xs : Array Value} (h : Vn w b T xs) (i : Nat) (v : Value) (hv : xs[i]? = some v) : w.cell? ⟨b, i, none⟩ = some v := by rw [cell_of_row w b i _ _ _ h]; exact hv
theorem Vn.free {w : World} {b : Nat} {T : TypeId} {xs : Array Value} (h : Vn w b T xs) (i : Nat) : w.frozen? ⟨b, i, none⟩ = false := by
  unfold Vn at h
  simp [World.frozen?, h]
theorem Vn.set {w : World} {b : Nat} {T : TypeId} {xs : Array Value} (h : Vn w b T xs) (i : Nat) (v : Value) : Vn (w.setCell ⟨b, i, none⟩ v) b T (xs.setIfInBounds i v) := by
  unfold Vn at *
  rw [setCell_eq_setRow w b i _ _ (0, 0) _ h, setRow_heap w b _ _ _ (0, 0) h]
theorem Vn.row {w : World} {b : Nat} {T : TypeId} {xs : Array Value} (h : Vn w b T xs) (ys : Array Value) : Vn (w.setRow b ys) b T ys := setRow_heap w b _ _ _ (0, 0) h
theorem row_grown (w : World) (b : Nat) (ys : Array Value) : w.grownBy (w.setRow b ys) (some b) :=
  ⟨rfl, rfl, rfl, by simp [World.setRow], fun k _ hk => setRow_other w b k ys (fun e => hk (by rw [e]))⟩
theorem sizeTok : (Tryd.prog.info? 83).map (·.size) = some 5 := by kernel_rfl
theorem jtok : (Tryd.prog.info? 83).map (fun i => (i.zero, i.size, i.bytes)) = some (some (.agg #[.int .u8 0, .string ⟨#[]⟩, .int .i64 0, .int .i64 0, .int .i64 0]), 5, 48) := by kernel_rfl
/-- A whole variable is written. -/
theorem wpList_store_vn {ops : Array Oper} {rest : List Oper} {op : Oper} {a : Act} {w : World} {Q : Exit → Act → World → Prop} (hgd : op.guard = none) (T : TypeId) (p q : Operand) (ho : op.op = .store T p q)
    (b : Nat) (xs ys : Array Value) (hp : a.eval p = .pointer (some ⟨b, 0, none⟩)) (hq : a.eval q = .agg ys) (hv : Vn w b T xs) (hi : (Tryd.prog.info? T).map (·.size) = some ys.size) (hsz : xs.size = ys.size) (h1 : ys.all (·.oneCell') = true)
    (h : ∀ w', Hid (Vn w' b T ys) → Hid (w.grownBy w' (some b)) → wpList Tryd.prog ops Q rest (a.put op.dst undef) w') : wpList Tryd.prog ops Q (op :: rest) a w :=
  wpList_store_row hgd T p q ho b ys hp hq T xs hv hi hsz h1 (h _ (hv.row ys) (row_grown w b ys))
theorem run_store_one (w : World) (b o : Nat) (ty : TypeId) (v : Value) (hi : (Tryd.prog.info? ty).map (·.size) = some 1) (hv : v.cells = #[v]) (h1 : v.oneCell' = true) (hc : (w.cell? ⟨b, o, none⟩).isSome = true) (hf : w.frozen? ⟨b, o, none⟩ = false) :
    (storeVar ty ⟨b, o, none⟩ v).run Tryd.prog w = .ok () (w.setCell ⟨b, o, none⟩ v) := by
  have h0 : ∀ j, j < [v].length → j = 0 := fun j hj => by simpa using hj
  have := run_storeCells_cells (P := Tryd.prog) b o [v] 0 w (fun j hj => by rw [h0 j hj]; simpa using hc) (fun j hj => by rw [h0 j hj]; simpa using hf) (fun u hu => by rw [show u = v by simpa using hu]; exact h1)
  cases hq : Tryd.prog.info? ty with
  | none => simp [hq] at hi
  | some i =>
    have hs : 1 = i.size := by simp [hq] at hi; omega
    simp only [Nat.add_zero] at this
    simp [storeVar, sizeOf, typeInfo, hq, hv, ← hs, this]
    rfl
/-- One cell of a variable is written. -/
theorem wp_store_one {op : Oper} {a : Act} {w : World} {K : Act → World → Prop} {Q : Exit → Act → World → Prop} (ty : TypeId) (x y : Operand) (ho : op.op = .store ty x y)
    (b o : Nat) (T : TypeId) (xs : Array Value) (v : Value) (hx : a.eval x = .pointer (some ⟨b, o, none⟩)) (hy : a.eval y = v) (hi : (Tryd.prog.info? ty).map (·.size) = some 1) (hv : v.cells = #[v]) (h1 : v.oneCell' = true) (hV : Vn w b T xs) (hlt : o < xs.size)
    (h : ∀ w', Hid (Vn w' b T (xs.setIfInBounds o v)) → Hid (w.grownBy w' (some b)) → K (a.put op.dst undef) w') : op.wp Tryd.prog a w K Q := by
  unfold Oper.wp execOp
  simp only [ho, hx, hy, Instr.storeAt, Instr.sureAddr, Sem.run_bind, Sem.run_pure, Result.andThen_ok, run_store_one w b o ty v hi hv h1 (by rw [hV.cell o xs[o] (by simp [hlt])]; rfl) (hV.free o)]
  refine h _ (hV.set o v) ?_
  rw [setCell_eq_setRow w b o _ _ (0, 0) _ hV]
  exact row_grown _ _ _
theorem wpList_store_one {ops : Array Oper} {rest : List Oper} {op : Oper} {a : Act} {w : World} {Q : Exit → Act → World → Prop} (hgd : op.guard = none) (ty : TypeId) (x y : Operand) (ho : op.op = .store ty x y)
    (b o : Nat) (T : TypeId) (xs : Array Value) (v : Value) (hx : a.eval x = .pointer (some ⟨b, o, none⟩)) (hy : a.eval y = v) (hi : (Tryd.prog.info? ty).map (·.size) = some 1) (hv : v.cells = #[v]) (h1 : v.oneCell' = true) (hV : Vn w b T xs) (hlt : o < xs.size)
    (h : ∀ w', Hid (Vn w' b T (xs.setIfInBounds o v)) → Hid (w.grownBy w' (some b)) → wpList Tryd.prog ops Q rest (a.put op.dst undef) w') : wpList Tryd.prog ops Q (op :: rest) a w :=
  wpList_plain hgd fun _ hK => wp_store_one ty x y ho b o T xs v hx hy hi hv h1 hV hlt (fun w' h1 h2 => hK _ _ (h w' h1 h2))
/-- A token's text. -/
def ttx (s : ByteArray) (t : Tk) : ByteArray := if t.kind = 3 then ⟨#[]⟩ else s.extract t.lo t.hi
/-- A token's cells. -/
def tcs (s : ByteArray) (t : Tk) : List Value := [.int .u8 (t.kind : Nat), .string (ttx s t), .int .i64 (t.num : Nat), .int .i64 (lnn s t.lo : Nat), .int .i64 (cln s t.lo : Nat)]
def trow (s : ByteArray) (L : List Tk) : List Value := L.flatMap (tcs s)
theorem trow_snoc (s : ByteArray) (L : List Tk) (t : Tk) : trow s (L ++ [t]) = trow s L ++ tcs s t := by simp [trow]
theorem trow_len (s : ByteArray) : ∀ L, (trow s L).length = L.length * 5 := by
  intro L
  induction L with
  | nil => rfl
  | cons t L ih => simp only [trow, List.flatMap_cons, List.length_append, List.length_cons] at *; rw [ih]; simp [tcs]; omega
/-- A list of tokens of the call's own. -/
def Tls (w : World) (B : Nat) (v : Value) (s : ByteArray) (L : List Tk) : Prop := w.ownsRow B 83 5 v L.length (trow s L)
theorem Tls.nil (w : World) (B : Nat) (s : ByteArray) : Tls w B (.slice none 0 0) s [] := World.ownsRow_nil _ _ _ _
theorem Tls.later {w w' : World} {B : Nat} {v : Value} {s : ByteArray} {L : List Tk} (h : Tls w B v s L) (hb : Below w.heap.size w w') : Tls w' B v s L := World.ownsRow.kept h (jgrown.mpr hb) (by cases hv : v.ownBlock <;> simp)
theorem Tls.kept {w w' : World} {B : Nat} {v : Value} {s : ByteArray} {L : List Tk} {row : Option Nat} (h : Tls w B v s L) (hg : w.grownBy w' row) (hne : v.ownBlock = none ∨ v.ownBlock ≠ row) : Tls w' B v s L := World.ownsRow.kept h hg hne
theorem Tls.form {w : World} {B : Nat} {v : Value} {s : ByteArray} {L : List Tk} (h : Tls w B v s L) : ∃ a d, v = .slice a L.length d ∧ (a = none → L.length = 0 ∧ d = 0) := by
  rcases h.2 with ⟨e, h0⟩ | ⟨g, cap, cur, e, _⟩
  · exact ⟨none, 0, by rw [e, h0], fun _ => ⟨h0, rfl⟩⟩
  · exact ⟨_, _, e, fun x => by cases x⟩
theorem Tls.base {w : World} {B : Nat} {v : Value} {s : ByteArray} {L : List Tk} (h : Tls w B v s L) {g : Nat} (hg : v.ownBlock = some g) : B ≤ g ∧ g < w.heap.size := by
  rcases h.2 with ⟨e, _⟩ | ⟨g', cap, cur, e, hB, hb, _⟩
  · rw [e] at hg; simp [Value.ownBlock] at hg
  · rw [e] at hg; simp [Value.ownBlock] at hg; subst hg; exact ⟨hB, lt_of_block hb⟩
theorem Tls.mono {w : World} {B B' : Nat} {v : Value} {s : ByteArray} {L : List Tk} (h : Tls w B v s L) (hB : B' ≤ B) : Tls w B' v s L := by
  refine ⟨h.1, ?_⟩
  rcases h.2 with h' | ⟨g, cap, cur, e, hb, r⟩
  · exact .inl h'
  · exact .inr ⟨g, cap, cur, e, by omega, r⟩
theorem five_new (w : World) (xs : List Value) (t : TypeId) : ∀ j u, xs[j]? = some u → (w.alloc (.cells xs.toArray t)).cell? ((⟨w.heap.size, 0, none⟩ : Addr).add j) = some u := by
  intro j u hj
  have h : (w.alloc (.cells xs.toArray t)).heap[w.heap.size]? = some (.cells xs.toArray t (0, 0)) := Array.getElem?_push_size
  rw [show (⟨w.heap.size, 0, none⟩ : Addr).add j = ⟨w.heap.size, j, none⟩ by unfold Addr.add; split <;> simp_all, cell_of_row _ _ j _ _ _ h]
  simpa using hj
/-- What Cut answers. -/
def CutP (w w' : World) (e : Ending) (s : ByteArray) (L : List Tk) (E a : Nat) : Prop :=
  ∃ v : Value, e = .returned (.tuple #[v, .agg (if E = 0 then #[.int .i64 0, .int .i64 0, .int .i64 0] else #[.int .i64 (E : Int), .int .i64 (lnn s a : Nat), .int .i64 (cln s a : Nat)])]) ∧ (E = 0 → Tls w' w.heap.size v s L) ∧ (E ≠ 0 → v = .slice none 0 0) ∧ Below w.heap.size w w'
end Go.Proofs.YtdimkfcanegahaaDoor
