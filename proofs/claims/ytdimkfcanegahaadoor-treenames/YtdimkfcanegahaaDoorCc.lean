/-
  Stage 10: shapes and items; how they lie in memory; which may be.
-/
import Derived.Test.YtdimkfcanegahaaDoorCb
namespace Go.Proofs.YtdimkfcanegahaaDoor
open Go.RowKit
/-- What stands at one place of a shape. -/
structure Ls where
  k : Nat
  nm : ByteArray
  na : Nat
  args : Nat → Xt
  np : Nat
  nr : Nat
  rl : Nat → Nat
  rows : Nat → Nat → Xt
  ln : Int
  cl : Int
/-- A shape: what stands at each path. -/
def St := List Nat → Ls
def part (S : St) (i : Nat) : St := fun p => S (i :: p)
structure LsOk (l : Ls) : Prop where
  k8 : l.k < 256
  nm47 : l.nm.size ≤ 140737488351232
  na47 : l.na ≤ 140737488351232
  np47 : l.np ≤ 140737488351232
  nr47 : l.nr ≤ 140737488351232
  rl47 : ∀ i, i < l.nr → l.rl i ≤ 140737488351232
/-- Rows of expressions lie at a slice's address. -/
def XR (w : World) (a : Option Addr) (n : Nat) (len : Nat → Nat) (F : Nat → Nat → Xt) : Prop := ∀ i, i < n → ∃ b o a' c, a = some ⟨b, o, none⟩ ∧ w.cell? ⟨b, o + i, none⟩ = some (.slice a' (len i) c) ∧ ∀ d, XL d w a' (len i) (F i)
theorem XR.later {w w' : World} {a : Option Addr} {n : Nat} {len : Nat → Nat} {F : Nat → Nat → Xt} (h : XR w a n len F) (hb : Below w.heap.size w w') : XR w' a n len F := fun i hi => by
  obtain ⟨b, o, a', c, e, hc, hl⟩ := h i hi
  exact ⟨b, o, a', c, e, cell_kept hc hb, fun d => (hl d).later hb⟩
/-- A shape lies at a place, looked at d deep. -/
def SA : Nat → World → Nat → Nat → St → Prop
  | 0, _, _, _, _ => True
  | d + 1, w, b, o, S => ∃ (aa pa ra : Option Addr) (ca cp cr : Nat), w.cell? ⟨b, o, none⟩ = some (.int .u8 ((S []).k : Int)) ∧ w.cell? ⟨b, o + 1, none⟩ = some (.string (S []).nm) ∧ w.cell? ⟨b, o + 2, none⟩ = some (.slice aa (S []).na ca) ∧ w.cell? ⟨b, o + 3, none⟩ = some (.slice pa (S []).np cp) ∧ w.cell? ⟨b, o + 4, none⟩ = some (.slice ra (S []).nr cr) ∧ w.cell? ⟨b, o + 5, none⟩ = some (.int .i64 (S []).ln) ∧ w.cell? ⟨b, o + 6, none⟩ = some (.int .i64 (S []).cl) ∧ LsOk (S []) ∧ (∀ d, XL d w aa (S []).na (S []).args) ∧ XR w ra (S []).nr (S []).rl (S []).rows ∧ ∀ i, i < (S []).np → ∃ b' o', pa = some ⟨b', o', none⟩ ∧ SA d w b' (o' + i * 7) (part S i)
/-- A list of shapes lies at a slice's address. -/
def SL (d : Nat) (w : World) (a : Option Addr) (n : Nat) (F : Nat → St) : Prop := ∀ i, i < n → ∃ b o, a = some ⟨b, o, none⟩ ∧ SA d w b (o + i * 7) (F i)
theorem SA.later {w w' : World} (hb : Below w.heap.size w w') : ∀ {d b o : Nat} {S : St}, SA d w b o S → SA d w' b o S := by
  intro d
  induction d with
  | zero => intro _ _ _ _; trivial
  | succ d ih =>
    intro b o S h
    obtain ⟨aa, pa, ra, ca, cp, cr, h0, h1, h2, h3, h4, h5, h6, hok, ha, hr, hp⟩ := h
    refine ⟨aa, pa, ra, ca, cp, cr, cell_kept h0 hb, cell_kept h1 hb, cell_kept h2 hb, cell_kept h3 hb, cell_kept h4 hb, cell_kept h5 hb, cell_kept h6 hb, hok, fun d => (ha d).later hb, hr.later hb, fun i hi => ?_⟩
    obtain ⟨b', o', e, h⟩ := hp i hi
    exact ⟨b', o', e, ih h⟩
theorem SL.later {d : Nat} {w w' : World} {a : Option Addr} {n : Nat} {F : Nat → St} (h : SL d w a n F) (hb : Below w.heap.size w w') : SL d w' a n F := fun i hi => by
  obtain ⟨b, o, e, h⟩ := h i hi
  exact ⟨b, o, e, h.later hb⟩
/-- A shape as a value that is handed over. -/
structure SV (w : World) (v : Value) (S : St) : Prop where
  form : ∃ (aa pa ra : Option Addr) (ca cp cr : Nat), v = .agg #[.int .u8 ((S []).k : Int), .string (S []).nm, .slice aa (S []).na ca, .slice pa (S []).np cp, .slice ra (S []).nr cr, .int .i64 (S []).ln, .int .i64 (S []).cl] ∧ (∀ d, XL d w aa (S []).na (S []).args) ∧ XR w ra (S []).nr (S []).rl (S []).rows ∧ ∀ d, SL d w pa (S []).np (part S)
  ok : LsOk (S [])
theorem SV.later {w w' : World} {v : Value} {S : St} (h : SV w v S) (hb : Below w.heap.size w w') : SV w' v S := by
  obtain ⟨⟨aa, pa, ra, ca, cp, cr, e, ha, hr, hp⟩, hok⟩ := h
  exact ⟨⟨aa, pa, ra, ca, cp, cr, e, fun d => (ha d).later hb, hr.later hb, fun d => (hp d).later hb⟩, hok⟩
/-- The cells of an element of a list of shapes. -/
theorem SL.at_ {w : World} {a : Option Addr} {n : Nat} {F : Nat → St} (h : ∀ d, SL d w a n F) {i : Nat} (hi : i < n) : ∃ (b o : Nat) (k na np nr : Nat) (ll cc : Int) (nm : ByteArray) (aa pa ra : Option Addr) (ca cp cr : Nat), a = some ⟨b, o, none⟩ ∧ SV w (.agg #[.int .u8 (k : Int), .string nm, .slice aa na ca, .slice pa np cp, .slice ra nr cr, .int .i64 ll, .int .i64 cc]) (F i) ∧
    ∀ w', Below w.heap.size w w' → w'.cell? ⟨b, o + i * 7, none⟩ = some (.int .u8 (k : Int)) ∧ w'.cell? ⟨b, o + i * 7 + 1, none⟩ = some (.string nm) ∧ w'.cell? ⟨b, o + i * 7 + 2, none⟩ = some (.slice aa na ca) ∧ w'.cell? ⟨b, o + i * 7 + 3, none⟩ = some (.slice pa np cp) ∧ w'.cell? ⟨b, o + i * 7 + 4, none⟩ = some (.slice ra nr cr) ∧ w'.cell? ⟨b, o + i * 7 + 5, none⟩ = some (.int .i64 ll) ∧ w'.cell? ⟨b, o + i * 7 + 6, none⟩ = some (.int .i64 cc) := by
  obtain ⟨b, o, e, aa, pa, ra, ca, cp, cr, h0, h1, h2, h3, h4, h5, h6, hok, ha, hr, _⟩ := h 1 i hi
  refine ⟨b, o, _, _, _, _, _, _, _, aa, pa, ra, ca, cp, cr, e, ⟨⟨aa, pa, ra, ca, cp, cr, rfl, ha, hr, fun d j hj => ?_⟩, hok⟩, fun w' hb => ⟨cell_kept h0 hb, cell_kept h1 hb, cell_kept h2 hb, cell_kept h3 hb, cell_kept h4 hb, cell_kept h5 hb, cell_kept h6 hb⟩⟩
  obtain ⟨b', o', e', aa', pa', ra', ca', cp', cr', g0, g1, g2, g3, g4, g5, g6, _, _, _, hp⟩ := h (d + 1) i hi
  rw [e] at e'
  cases e'
  rw [h3] at g3
  cases g3
  exact hp j hj
/-- What is left behind k rows. -/
def rks (len : Nat → Nat) (F : Nat → Nat → Xt) : Nat → Int → Int
  | 0, left => left
  | k + 1, left => if rks len F k left < 0 then rks len F k left else if len k < 1 ∨ 64 < len k then -1 else xks (xleft 16) (F k) (len k) (rks len F k left)
/-- What is left behind k parts. -/
def sks (f : St → Int → Int) (F : Nat → St) : Nat → Int → Int
  | 0, left => left
  | k + 1, left => if sks f F k left < 0 then sks f F k left else f (F k) (sks f F k left)
/-- May what stands at one place of a shape be? -/
def swant (l : Ls) : Bool :=
  if l.k = 1 then isN l.nm && (decide (l.na = 0) && (decide (l.np = 0) && decide (l.nr = 0)))
  else decide (l.nm.size = 0) && (if l.k = 2 ∨ l.k = 3 then decide (l.na = 2) && (decide (l.np = 0) && decide (l.nr = 0))
    else if l.k = 4 ∨ l.k = 5 then decide (l.na = 3) && (decide (l.np = 0) && decide (l.nr = 0))
    else if l.k = 6 ∨ l.k = 7 then decide (l.na = 0) && (decide (l.np = 2) && decide (l.nr = 0))
    else if l.k = 8 then decide (l.na = 0) && (decide (l.np = 0) && (decide (1 ≤ l.nr) && decide (l.nr ≤ 64)))
    else false)
/-- How many nodes are left behind a shape, or -1. -/
def sleft : Nat → St → Int → Int
  | 0, _, _ => -1
  | d + 1, S, left => if left - 1 < 0 then -1 else if swant (S []) = false then -1 else sks (sleft d) (part S) (S []).np (rks (S []).rl (S []).rows (S []).nr (xks (xleft 16) (S []).args (S []).na (left - 1)))
/-- An item. -/
structure It where
  k : Nat
  nm : ByteArray
  val : Xt
  shp : St
  pl : Nat
  nl : Nat
  list : Nat → Xt
  ln : Int
  cl : Int
/-- An item's cells from a place on. -/
structure IA (w : World) (b o : Nat) (I : It) : Prop where
  c0 : w.cell? ⟨b, o, none⟩ = some (.int .u8 (I.k : Int))
  c1 : w.cell? ⟨b, o + 1, none⟩ = some (.string I.nm)
  val : ∀ d, XA d w b (o + 2) I.val
  shp : ∀ d, SA d w b (o + 8) I.shp
  c15 : w.cell? ⟨b, o + 15, none⟩ = some (.int .u8 (I.pl : Int))
  lst : ∃ a c, w.cell? ⟨b, o + 16, none⟩ = some (.slice a I.nl c) ∧ ∀ d, XL d w a I.nl I.list
  c17 : w.cell? ⟨b, o + 17, none⟩ = some (.int .i64 I.ln)
  c18 : w.cell? ⟨b, o + 18, none⟩ = some (.int .i64 I.cl)
  k8 : I.k < 256
  nm47 : I.nm.size ≤ 140737488351232
  pl8 : I.pl < 256
  nl47 : I.nl ≤ 140737488351232
theorem IA.later {w w' : World} {b o : Nat} {I : It} (h : IA w b o I) (hb : Below w.heap.size w w') : IA w' b o I := by
  obtain ⟨a, c, hc, hl⟩ := h.lst
  exact ⟨cell_kept h.c0 hb, cell_kept h.c1 hb, fun d => (h.val d).later hb, fun d => (h.shp d).later hb, cell_kept h.c15 hb, ⟨a, c, cell_kept hc hb, fun d => (hl d).later hb⟩, cell_kept h.c17 hb, cell_kept h.c18 hb, h.k8, h.nm47, h.pl8, h.nl47⟩
/-- A list of items lies at a slice's address. -/
def Its (w : World) (a : Option Addr) (n : Nat) (F : Nat → It) : Prop := ∀ i, i < n → ∃ b o, a = some ⟨b, o, none⟩ ∧ IA w b (o + i * 19) (F i)
theorem Its.later {w w' : World} {a : Option Addr} {n : Nat} {F : Nat → It} (h : Its w a n F) (hb : Below w.heap.size w w') : Its w' a n F := fun i hi => by
  obtain ⟨b, o, e, h⟩ := h i hi
  exact ⟨b, o, e, h.later hb⟩
/-- Is it the zero expression? -/
def zxB (l : Lx) : Bool := decide (l.k = 0) && (decide (l.n = 0) && (decide (l.nm.size = 0) && (decide (l.len = 0) && (decide (l.ln = 0) && decide (l.cl = 0)))))
/-- Is it the zero shape? -/
def zsB (l : Ls) : Bool := decide (l.ln = 0) && (decide (l.cl = 0) && (decide (l.k = 0) && (decide (l.nm.size = 0) && (decide (l.na = 0) && (decide (l.np = 0) && decide (l.nr = 0))))))
end Go.Proofs.YtdimkfcanegahaaDoor
