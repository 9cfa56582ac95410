/-
  Stage 10: expressions as functions of a path; how they lie in memory.
-/
import Derived.Test.YtdimkfcanegahaaDoorAd
namespace Go.Proofs.YtdimkfcanegahaaDoor
open Go.RowKit
/-- What stands at one place of an expression. -/
structure Lx where
  k : Nat
  n : Int
  nm : ByteArray
  len : Nat
  ln : Int
  cl : Int
/-- An expression: what stands at each path. -/
def Xt := List Nat → Lx
def kid (T : Xt) (i : Nat) : Xt := fun p => T (i :: p)
/-- Its numbers are Go's. -/
structure LxOk (l : Lx) : Prop where
  k8 : l.k < 256
  n1 : -9223372036854775808 ≤ l.n
  n2 : l.n ≤ 9223372036854775807
  nm47 : l.nm.size ≤ 140737488351232
  len47 : l.len ≤ 140737488351232
/-- An expression lies at a place, looked at d deep. -/
def XA : Nat → World → Nat → Nat → Xt → Prop
  | 0, _, _, _, _ => True
  | d + 1, w, b, o, T => ∃ (a : Option Addr) (cap : Nat), w.cell? ⟨b, o, none⟩ = some (.int .u8 ((T []).k : Int)) ∧ w.cell? ⟨b, o + 1, none⟩ = some (.int .i64 (T []).n) ∧ w.cell? ⟨b, o + 2, none⟩ = some (.string (T []).nm) ∧ w.cell? ⟨b, o + 3, none⟩ = some (.slice a (T []).len cap) ∧ w.cell? ⟨b, o + 4, none⟩ = some (.int .i64 (T []).ln) ∧ w.cell? ⟨b, o + 5, none⟩ = some (.int .i64 (T []).cl) ∧ LxOk (T []) ∧ ∀ i, i < (T []).len → ∃ b' o', a = some ⟨b', o', none⟩ ∧ XA d w b' (o' + i * 6) (kid T i)
/-- A list of expressions lies at a slice's address. -/
def XL (d : Nat) (w : World) (a : Option Addr) (n : Nat) (F : Nat → Xt) : Prop := ∀ i, i < n → ∃ b o, a = some ⟨b, o, none⟩ ∧ XA d w b (o + i * 6) (F i)
/-- An expression as a value that is handed over. -/
structure XV (w : World) (v : Value) (T : Xt) : Prop where
  form : ∃ (a : Option Addr) (cap : Nat), v = .agg #[.int .u8 ((T []).k : Int), .int .i64 (T []).n, .string (T []).nm, .slice a (T []).len cap, .int .i64 (T []).ln, .int .i64 (T []).cl] ∧ ∀ d, XL d w a (T []).len (kid T)
  ok : LxOk (T [])
theorem cell_kept {w w' : World} {a : Addr} {v : Value} (h : w.cell? a = some v) (hb : Below w.heap.size w w') : w'.cell? a = some v := by
  have hlt : a.block < w.heap.size := by
    unfold World.cell? at h
    split at h
    · rename_i hg
      exact lt_of_block hg
    · cases h
  rw [← h]
  unfold World.cell?
  rw [hb.block a.block hlt]
theorem XA.later {w w' : World} (hb : Below w.heap.size w w') : ∀ {d b o : Nat} {T : Xt}, XA d w b o T → XA d w' b o T := by
  intro d
  induction d with
  | zero => intro _ _ _ _; trivial
  | succ d ih =>
    intro b o T h
    obtain ⟨a, cap, h0, h1, h2, h3, h4, h5, hok, hl⟩ := h
    refine ⟨a, cap, cell_kept h0 hb, cell_kept h1 hb, cell_kept h2 hb, cell_kept h3 hb, cell_kept h4 hb, cell_kept h5 hb, hok, fun i hi => ?_⟩
    obtain ⟨b', o', e, h⟩ := hl i hi
    exact ⟨b', o', e, ih h⟩
theorem XL.later {d : Nat} {w w' : World} {a : Option Addr} {n : Nat} {F : Nat → Xt} (h : XL d w a n F) (hb : Below w.heap.size w w') : XL d w' a n F := fun i hi => by
  obtain ⟨b, o, e, h⟩ := h i hi
  exact ⟨b, o, e, h.later hb⟩
theorem XV.later {w w' : World} {v : Value} {T : Xt} (h : XV w v T) (hb : Below w.heap.size w w') : XV w' v T := by
  obtain ⟨⟨a, cap, e, hl⟩, hok⟩ := h
  exact ⟨⟨a, cap, e, fun d => (hl d).later hb⟩, hok⟩
/-- The cells of an element, as a value that is handed over. -/
theorem XL.at_ {w : World} {a : Option Addr} {n : Nat} {F : Nat → Xt} (h : ∀ d, XL d w a n F) {i : Nat} (hi : i < n) : ∃ (b o : Nat) (k nl : Nat) (nn ll cc : Int) (nm : ByteArray) (ka : Option Addr) (kc : Nat), a = some ⟨b, o, none⟩ ∧ XV w (.agg #[.int .u8 (k : Int), .int .i64 nn, .string nm, .slice ka nl kc, .int .i64 ll, .int .i64 cc]) (F i) ∧
    ∀ w', Below w.heap.size w w' → w'.cell? ⟨b, o + i * 6, none⟩ = some (.int .u8 (k : Int)) ∧ w'.cell? ⟨b, o + i * 6 + 1, none⟩ = some (.int .i64 nn) ∧ w'.cell? ⟨b, o + i * 6 + 2, none⟩ = some (.string nm) ∧ w'.cell? ⟨b, o + i * 6 + 3, none⟩ = some (.slice ka nl kc) ∧ w'.cell? ⟨b, o + i * 6 + 4, none⟩ = some (.int .i64 ll) ∧ w'.cell? ⟨b, o + i * 6 + 5, none⟩ = some (.int .i64 cc) := by
  obtain ⟨b, o, e, ka, kc, h0, h1, h2, h3, h4, h5, hok, _⟩ := h 1 i hi
  refine ⟨b, o, _, _, _, _, _, _, ka, kc, e, ⟨⟨ka, kc, rfl, fun d j hj => ?_⟩, hok⟩, fun w' hb => ⟨cell_kept h0 hb, cell_kept h1 hb, cell_kept h2 hb, cell_kept h3 hb, cell_kept h4 hb, cell_kept h5 hb⟩⟩
  obtain ⟨b', o', e', ka', kc', g0, g1, g2, g3, g4, g5, _, hl⟩ := h (d + 1) i hi
  rw [e] at e'
  cases e'
  rw [h3] at g3
  cases g3
  exact hl j hj
/-- What is left of the nodes behind k kids. -/
def xks (f : Xt → Int → Int) (F : Nat → Xt) : Nat → Int → Int
  | 0, left => left
  | k + 1, left => if xks f F k left < 0 then xks f F k left else f (F k) (xks f F k left)
/-- May what stands at one place be, and how many parts must it have? -/
def xwant (l : Lx) : Option Nat :=
  if l.k = 1 then (if 0 ≤ l.n ∧ l.n ≤ 2147483647 ∧ l.nm.size = 0 ∧ l.len = 0 then some 0 else none)
  else if l.k = 2 then (if l.n = 0 ∧ isN l.nm = true ∧ l.len = 0 then some 0 else none)
  else if l.k = 3 then (if l.n = 0 ∧ l.nm.size = 0 ∧ l.len = 1 then some 1 else none)
  else if 4 ≤ l.k ∧ l.k ≤ 8 then (if l.n = 0 ∧ l.nm.size = 0 ∧ l.len = 2 then some 2 else none)
  else none
/-- How many nodes are left behind an expression, or -1. -/
def xleft : Nat → Xt → Int → Int
  | 0, _, _ => -1
  | d + 1, T, left => if left - 1 < 0 then -1 else match xwant (T []) with
    | none => -1
    | some m => xks (xleft d) (kid T) m (left - 1)
theorem xleft_zero (T : Xt) (left : Int) : xleft 0 T left = -1 := rfl
theorem xks_zero (f : Xt → Int → Int) (F : Nat → Xt) (left : Int) : xks f F 0 left = left := rfl
theorem xks_succ (f : Xt → Int → Int) (F : Nat → Xt) (k : Nat) (left : Int) : xks f F (k + 1) left = if xks f F k left < 0 then xks f F k left else f (F k) (xks f F k left) := rfl
theorem xks_stop {f : Xt → Int → Int} {F : Nat → Xt} {k : Nat} {left : Int} (h : xks f F k left < 0) : ∀ j, xks f F (k + j) left = xks f F k left := by
  intro j
  induction j with
  | zero => rfl
  | succ j ih =>
    rw [← Nat.add_assoc, xks_succ, ih, if_pos h]
theorem xks_le {f : Xt → Int → Int} {F : Nat → Xt} (hf : ∀ T l, 0 ≤ l → -1 ≤ f T l ∧ f T l ≤ l) : ∀ k left, 0 ≤ left → -1 ≤ xks f F k left ∧ xks f F k left ≤ left := by
  intro k left h0
  induction k with
  | zero => rw [xks_zero]; omega
  | succ k ih =>
    rw [xks_succ]
    split
    · exact ih
    · have := hf (F k) (xks f F k left) (by omega)
      omega
theorem xleft_le : ∀ d T left, 0 ≤ left → -1 ≤ xleft d T left ∧ xleft d T left ≤ left := by
  intro d
  induction d with
  | zero => intro T left h; rw [xleft_zero]; omega
  | succ d ih =>
    intro T left h
    unfold xleft
    split
    · omega
    · split
      · omega
      · have := xks_le ih (F := kid T) ‹_› (left - 1) (by omega)
        omega
end Go.Proofs.YtdimkfcanegahaaDoor
