/-
  Stage 10: expressions as functions of a path; how they lie in memory.
  Stage 10: what may be, depths and texts of expressions. No Go in sight.
  Stage 10: shapes and items; how they lie in memory; which may be.
  Stage 10: an expression is told by its text. No Go in sight.
  Stage 10: rows of expressions and shapes are told by their texts. No Go in sight.
  Stage 10: a shape is told by its text. No Go in sight.
  Stage 10: items and descriptions are told by their texts. No Go in sight.
  Stage 10: what is the same has one text; brackets. No Go in sight.
  Stage 10: items and descriptions that are the same have one text. No Go in sight.
-/
import Derived.Test.YtgmndjbicandfaaDoorQnnes00
import Derived.Lib.ItoaLen
import Derived.Lib.ItoaMem
set_option maxRecDepth 100000
set_option maxHeartbeats 16000000
namespace Go.Proofs.YtgmndjbicandfaaDoor
open Go.RowKit
/-- What stands at one place of an expression. -/
structure Lx where
 k : Nat
 n : Int
 nm : ByteArray
 len : Nat
 ln : Int
 cl : Int
/-- An expression: what stands at each path. -/
def Xt := List Nat → Lx
def kid (T : Xt) (i : Nat) : Xt := fun p => T (i :: p)
/-- Its numbers are Go's. -/
structure LxOk (l : Lx) : Prop where
 k8 : l.k < 256
 n1 : -9223372036854775808 ≤ l.n
 n2 : l.n ≤ 9223372036854775807
 nm47 : l.nm.size ≤ 140737488351232
 len47 : l.len ≤ 140737488351232
/-- An expression lies at a place, looked at d deep. -/
def XA : Nat → World → Nat → Nat → Xt → Prop
 | 0, _, _, _, _ => True
 | d + 1, w, b, o, T => ∃ (a : Option Addr) (cap : Nat), w.cell? ⟨b, o, none⟩ = some (.int .u8 ((T []).k : Int)) ∧ w.cell? ⟨b, o + 1, none⟩ = some (.int .i64 (T []).n) ∧ w.cell? ⟨b, o + 2, none⟩ = some (.string (T []).nm) ∧ w.cell? ⟨b, o + 3, none⟩ = some (.slice a (T []).len cap) ∧ w.cell? ⟨b, o + 4, none⟩ = some (.int .i64 (T []).ln) ∧ w.cell? ⟨b, o + 5, none⟩ = some (.int .i64 (T []).cl) ∧ LxOk (T []) ∧ ∀ i, i < (T []).len → ∃ b' o', a = some ⟨b', o', none⟩ ∧ XA d w b' (o' + i * 6) (kid T i)
/-- A list of expressions lies at a slice's address. -/
def XL (d : Nat) (w : World) (a : Option Addr) (n : Nat) (F : Nat → Xt) : Prop := ∀ i, i < n → ∃ b o, a = some ⟨b, o, none⟩ ∧ XA d w b (o + i * 6) (F i)
/-- An expression as a value that is handed over. -/
structure XV (w : World) (v : Value) (T : Xt) : Prop where
 form : ∃ (a : Option Addr) (cap : Nat), v = .agg #[.int .u8 ((T []).k : Int), .int .i64 (T []).n, .string (T []).nm, .slice a (T []).len cap, .int .i64 (T []).ln, .int .i64 (T []).cl] ∧ ∀ d, XL d w a (T []).len (kid T)
 ok : LxOk (T [])
theorem cell_kept {w w' : World} {a : Addr} {v : Value} (h : w.cell? a = some v) (hb : Below w.heap.size w w') : w'.cell? a = some v := by
 have hlt : a.block < w.heap.size := by
  unfold World.cell? at h
  split at h
  ·rename_i hg
   exact lt_of_block hg
  ·cases h
 rw [← h]
 unfold World.cell?
 rw [hb.block a.block hlt]
theorem XA.later {w w' : World} (hb : Below w.heap.size w w') : ∀ {d b o : Nat} {T : Xt}, XA d w b o T → XA d w' b o T := by
 intro d
 induction d with
 | zero => intro _ _ _ _; trivial
 | succ d ih =>
  intro b o T h
  obtain ⟨a, cap, h0, h1, h2, h3, h4, h5, hok, hl⟩ := h
  refine ⟨a, cap, cell_kept h0 hb, cell_kept h1 hb, cell_kept h2 hb, cell_kept h3 hb, cell_kept h4 hb, cell_kept h5 hb, hok, fun i hi => ?_⟩
  obtain ⟨b', o', e, h⟩ := hl i hi
  exact ⟨b', o', e, ih h⟩
theorem XL.later {d : Nat} {w w' : World} {a : Option Addr} {n : Nat} {F : Nat → Xt} (h : XL d w a n F) (hb : Below w.heap.size w w') : XL d w' a n F := fun i hi => by
 obtain ⟨b, o, e, h⟩ := h i hi
 exact ⟨b, o, e, h.later hb⟩
theorem XV.later {w w' : World} {v : Value} {T : Xt} (h : XV w v T) (hb : Below w.heap.size w w') : XV w' v T := by
 obtain ⟨⟨a, cap, e, hl⟩, hok⟩ := h
 exact ⟨⟨a, cap, e, fun d => (hl d).later hb⟩, hok⟩
/-- The cells of an element, as a value that is handed over. -/
theorem XL.at_ {w : World} {a : Option Addr} {n : Nat} {F : Nat → Xt} (h : ∀ d, XL d w a n F) {i : Nat} (hi : i < n) : ∃ (b o : Nat) (k nl : Nat) (nn ll cc : Int) (nm : ByteArray) (ka : Option Addr) (kc : Nat), a = some ⟨b, o, none⟩ ∧ XV w (.agg #[.int .u8 (k : Int), .int .i64 nn, .string nm, .slice ka nl kc, .int .i64 ll, .int .i64 cc]) (F i) ∧
  ∀ w', Below w.heap.size w w' → w'.cell? ⟨b, o + i * 6, none⟩ = some (.int .u8 (k : Int)) ∧ w'.cell? ⟨b, o + i * 6 + 1, none⟩ = some (.int .i64 nn) ∧ w'.cell? ⟨b, o + i * 6 + 2, none⟩ = some (.string nm) ∧ w'.cell? ⟨b, o + i * 6 + 3, none⟩ = some (.slice ka nl kc) ∧ w'.cell? ⟨b, o + i * 6 + 4, none⟩ = some (.int .i64 ll) ∧ w'.cell? ⟨b, o + i * 6 + 5, none⟩ = some (.int .i64 cc) := by
 obtain ⟨b, o, e, ka, kc, h0, h1, h2, h3, h4, h5, hok, _⟩ := h 1 i hi
 refine ⟨b, o, _, _, _, _, _, _, ka, kc, e, ⟨⟨ka, kc, rfl, fun d j hj => ?_⟩, hok⟩, fun w' hb => ⟨cell_kept h0 hb, cell_kept h1 hb, cell_kept h2 hb, cell_kept h3 hb, cell_kept h4 hb, cell_kept h5 hb⟩⟩
 obtain ⟨b', o', e', ka', kc', g0, g1, g2, g3, g4, g5, _, hl⟩ := h (d + 1) i hi
 rw [e] at e'
 cases e'
 rw [h3] at g3
 cases g3
 exact hl j hj
/-- What is left of the nodes behind k kids. -/
def xks (f : Xt → Int → Int) (F : Nat → Xt) : Nat → Int → Int
 | 0, left => left
 | k + 1, left => if xks f F k left < 0 then xks f F k left else f (F k) (xks f F k left)
/-- May what stands at one place be, and how many parts must it have? -/
def xwant (l : Lx) : Option Nat :=
 if l.k = 1 then (if 0 ≤ l.n ∧ l.n ≤ 2147483647 ∧ l.nm.size = 0 ∧ l.len = 0 then some 0 else none)
 else if l.k = 2 then (if l.n = 0 ∧ isN l.nm = true ∧ l.len = 0 then some 0 else none)
 else if l.k = 3 then (if l.n = 0 ∧ l.nm.size = 0 ∧ l.len = 1 then some 1 else none)
 else if 4 ≤ l.k ∧ l.k ≤ 8 then (if l.n = 0 ∧ l.nm.size = 0 ∧ l.len = 2 then some 2 else none)
 else none
/-- How many nodes are left behind an expression, or -1. -/
def xleft : Nat → Xt → Int → Int
 | 0, _, _ => -1
 | d + 1, T, left => if left - 1 < 0 then -1 else match xwant (T []) with
  | none => -1
  | some m => xks (xleft d) (kid T) m (left - 1)
theorem qa7 (T : Xt) (left : Int) : xleft 0 T left = -1 := rfl
theorem qaa (f : Xt → Int → Int) (F : Nat → Xt) (left : Int) : xks f F 0 left = left := rfl
theorem qa4 (f : Xt → Int → Int) (F : Nat → Xt) (k : Nat) (left : Int) : xks f F (k + 1) left = if xks f F k left < 0 then xks f F k left else f (F k) (xks f F k left) := rfl
theorem qad {f : Xt → Int → Int} {F : Nat → Xt} {k : Nat} {left : Int} (h : xks f F k left < 0) : ∀ j, xks f F (k + j) left = xks f F k left := by
 intro j
 induction j with
 | zero => rfl
 | succ j ih =>
  rw [← Nat.add_assoc, qa4, ih, if_pos h]
theorem qb4 {f : Xt → Int → Int} {F : Nat → Xt} (hf : ∀ T l, 0 ≤ l → -1 ≤ f T l ∧ f T l ≤ l) : ∀ k left, 0 ≤ left → -1 ≤ xks f F k left ∧ xks f F k left ≤ left := by
 intro k left h0
 induction k with
 | zero => rw [qaa]; omega
 | succ k ih =>
  rw [qa4]
  split
  ·exact ih
  ·have := hf (F k) (xks f F k left) (by omega)
   omega
theorem qa5 : ∀ d T left, 0 ≤ left → -1 ≤ xleft d T left ∧ xleft d T left ≤ left := by
 intro d
 induction d with
 | zero => intro T left h; rw [qa7]; omega
 | succ d ih =>
  intro T left h
  unfold xleft
  split
  ·omega
  ·split
   ·omega
   ·have := qb4 ih (F := kid T) ‹_› (left - 1) (by omega)
    omega
open Go.RowKit
/-- An expression may be, d deep at most. -/
def MX (d : Nat) (T : Xt) : Prop := ∃ left : Int, left ≤ 8192 ∧ 0 ≤ xleft d T left
theorem qaf {l : Lx} {m : Nat} (h : xwant l = some m) : l.len = m ∧ m ≤ 2 := by
 unfold xwant at h
 split at h
 ·split at h
  ·rename_i g; cases h; exact ⟨g.2.2.2, by omega⟩
  ·cases h
 ·split at h
  ·split at h
   ·rename_i g; cases h; exact ⟨g.2.2, by omega⟩
   ·cases h
  ·split at h
   ·split at h
    ·rename_i g; cases h; exact ⟨g.2.2, by omega⟩
    ·cases h
   ·split at h
    ·split at h
     ·rename_i g; cases h; exact ⟨g.2.2, by omega⟩
     ·cases h
    ·cases h
theorem qau {f : Xt → Int → Int} {F : Nat → Xt} {m : Nat} {left : Int} (h : 0 ≤ xks f F m left) : ∀ i, i ≤ m → 0 ≤ xks f F i left := by
 intro i hi
 rcases Int.lt_or_le (xks f F i left) 0 with g | g
 ·have := qad g (m - i)
  rw [show i + (m - i) = m by omega] at this
  omega
 ·exact g
/-- What holds of the parts of what may be. -/
theorem qa6 {d : Nat} {T : Xt} {left : Int} (h : 0 ≤ xleft (d + 1) T left) : ∃ m, xwant (T []) = some m ∧ 1 ≤ left ∧ xleft (d + 1) T left = xks (xleft d) (kid T) m (left - 1) ∧ ∀ i, i < m → 0 ≤ xks (xleft d) (kid T) i (left - 1) ∧ 0 ≤ xleft d (kid T i) (xks (xleft d) (kid T) i (left - 1)) := by
 have e : xleft (d + 1) T left = if left - 1 < 0 then -1 else match xwant (T []) with | none => -1 | some m => xks (xleft d) (kid T) m (left - 1) := rfl
 rw [e] at h ⊢
 split at h
 ·omega
 ·rename_i hl
  rw [if_neg hl]
  cases hw : xwant (T []) with
  | none =>
   rw [hw] at h
   have h : (0 : Int) ≤ -1 := h
   omega
  | some m =>
   rw [hw] at h
   refine ⟨m, rfl, by omega, rfl, fun i hi => ?_⟩
   have h1 := qau h i (by omega)
   have h2 := qau h (i + 1) (by omega)
   rw [qa4, if_neg (by omega)] at h2
   exact ⟨h1, h2⟩
theorem qbn {f : Xt → Int → Int} {F : Nat → Xt} (hf : ∀ T l, 0 ≤ l → -1 ≤ f T l ∧ f T l ≤ l) {left : Int} (h0 : 0 ≤ left) (k : Nat) : xks f F k left ≤ left := (qb4 hf k left h0).2
theorem MX.kid {d : Nat} {T : Xt} (h : MX (d + 1) T) {i : Nat} (hi : i < (T []).len) : MX d (Go.Proofs.YtgmndjbicandfaaDoor.kid T i) := by
 obtain ⟨left, hl, h⟩ := h
 obtain ⟨m, hw, h1, _, hk⟩ := qa6 h
 obtain ⟨g1, g2⟩ := hk i (by rw [← (qaf hw).1]; exact hi)
 refine ⟨_, ?_, g2⟩
 have := qbn (F := Go.Proofs.YtgmndjbicandfaaDoor.kid T) (qa5 d) (left := left - 1) (by omega) i
 omega
/-- How deep an expression is. -/
def xmx (f : Xt → Nat) (F : Nat → Xt) : Nat → Nat
 | 0 => 0
 | k + 1 => max (xmx f F k) (f (F k))
def xdeep : Nat → Xt → Nat
 | 0, _ => 0
 | d + 1, T => xmx (xdeep d) (kid T) (T []).len + 1
/-- The sign between two parts. -/
def opb (k : Nat) : ByteArray := if k = 4 then ⟨#[43]⟩ else if k = 5 then ⟨#[45]⟩ else if k = 6 then ⟨#[42]⟩ else if k = 7 then ⟨#[47]⟩ else ⟨#[37]⟩
theorem opb_size (k : Nat) : (opb k).size = 1 := by
 unfold opb
 repeat' split
 all_goals rfl
/-- The text of an expression. -/
def xtext : Nat → Xt → ByteArray
 | 0, _ => ⟨#[]⟩
 | d + 1, T => if (T []).k = 1 then ⟨(Lib.itoa (T []).n).toArray⟩ else if (T []).k = 2 then (T []).nm else if (T []).k = 3 then ⟨#[45, 32]⟩ ++ xtext d (kid T 0)
  else ⟨#[40, 32]⟩ ++ xtext d (kid T 0) ++ ⟨#[32]⟩ ++ opb (T []).k ++ ⟨#[32]⟩ ++ xtext d (kid T 1) ++ ⟨#[32, 41]⟩
theorem qak (d : Nat) (T : Xt) : xtext (d + 1) T = if (T []).k = 1 then ⟨(Lib.itoa (T []).n).toArray⟩ else if (T []).k = 2 then (T []).nm else if (T []).k = 3 then ⟨#[45, 32]⟩ ++ xtext d (kid T 0)
  else ⟨#[40, 32]⟩ ++ xtext d (kid T 0) ++ ⟨#[32]⟩ ++ opb (T []).k ++ ⟨#[32]⟩ ++ xtext d (kid T 1) ++ ⟨#[32, 41]⟩ := rfl
theorem qan {l : Lx} {m : Nat} (h : xwant l = some m) : (l.k = 1 ∧ m = 0 ∧ 0 ≤ l.n ∧ l.n ≤ 2147483647 ∧ l.nm.size = 0) ∨ (l.k = 2 ∧ m = 0 ∧ l.n = 0 ∧ isN l.nm = true) ∨ (l.k = 3 ∧ m = 1 ∧ l.n = 0 ∧ l.nm.size = 0) ∨ (4 ≤ l.k ∧ l.k ≤ 8 ∧ m = 2 ∧ l.n = 0 ∧ l.nm.size = 0) := by
 unfold xwant at h
 split at h
 ·rename_i hk
  split at h
  ·rename_i g; cases h; exact .inl ⟨hk, rfl, g.1, g.2.1, g.2.2.1⟩
  ·cases h
 ·split at h
  ·rename_i hk
   split at h
   ·rename_i g; cases h; exact .inr (.inl ⟨hk, rfl, g.1, g.2.1⟩)
   ·cases h
  ·split at h
   ·rename_i hk
    split at h
    ·rename_i g; cases h; exact .inr (.inr (.inl ⟨hk, rfl, g.1, g.2.1⟩))
    ·cases h
   ·split at h
    ·rename_i hk
     split at h
     ·rename_i g; cases h; exact .inr (.inr (.inr ⟨hk.1, hk.2, rfl, g.1, g.2.1⟩))
     ·cases h
    ·cases h
/-- A text is not longer than 21 bytes for each node. -/
theorem qda : ∀ d T left, 0 ≤ xleft d T left → ((xtext d T).size : Int) ≤ 21 * (left - xleft d T left) := by
 intro d
 induction d with
 | zero => intro T left h; rw [qa7] at h; omega
 | succ d ih =>
  intro T left h
  obtain ⟨m, hw, h1, he, hk⟩ := qa6 h
  rw [he]
  have e : xtext (d + 1) T = if (T []).k = 1 then ⟨(Lib.itoa (T []).n).toArray⟩ else if (T []).k = 2 then (T []).nm else if (T []).k = 3 then ⟨#[45, 32]⟩ ++ xtext d (kid T 0)
   else ⟨#[40, 32]⟩ ++ xtext d (kid T 0) ++ ⟨#[32]⟩ ++ opb (T []).k ++ ⟨#[32]⟩ ++ xtext d (kid T 1) ++ ⟨#[32, 41]⟩ := rfl
  rw [e]
  rcases qan hw with ⟨k1, rfl, n1, n2, _⟩ | ⟨k2, rfl, _, hN⟩ | ⟨k3, rfl, _, _⟩ | ⟨k4, k8, rfl, _, _⟩
  ·rw [if_pos k1, qaa]
   have := Lib.itoa_length_le (T []).n (by omega) (by omega)
   show ((Lib.itoa (T []).n).toArray.size : Int) ≤ _
   rw [List.size_toArray]
   omega
  ·rw [if_neg (by omega), if_pos k2, qaa]
   have := (qap.1 hN).most
   omega
  ·rw [if_neg (by omega), if_neg (by omega), if_pos k3]
   obtain ⟨g1, g2⟩ := hk 0 (by omega)
   have h3 := ih _ _ g2
   rw [qa4, if_neg (by omega)]
   rw [qaa] at *
   rw [ByteArray.size_append]
   have : (⟨#[45, 32]⟩ : ByteArray).size = 2 := rfl
   omega
  ·rw [if_neg (by omega), if_neg (by omega), if_neg (by omega)]
   obtain ⟨g1, g2⟩ := hk 0 (by omega)
   obtain ⟨g3, g4⟩ := hk 1 (by omega)
   have h3 := ih _ _ g2
   have h4 := ih _ _ g4
   rw [qa4 _ _ 1, if_neg (by omega)]
   rw [qa4 _ _ 0, if_neg (by omega)] at *
   rw [qaa] at *
   simp only [ByteArray.size_append, opb_size]
   have e1 : (⟨#[40, 32]⟩ : ByteArray).size = 2 := rfl
   have e2 : (⟨#[32]⟩ : ByteArray).size = 1 := rfl
   have e3 : (⟨#[32, 41]⟩ : ByteArray).size = 2 := rfl
   omega
theorem MX.size {d : Nat} {T : Xt} (h : MX d T) : (xtext d T).size ≤ 172032 := by
 obtain ⟨left, hl, h⟩ := h
 have := qda d T left h
 omega
open Go.RowKit
/-- What stands at one place of a shape. -/
structure Ls where
 k : Nat
 nm : ByteArray
 na : Nat
 args : Nat → Xt
 np : Nat
 nr : Nat
 rl : Nat → Nat
 rows : Nat → Nat → Xt
 ln : Int
 cl : Int
/-- A shape: what stands at each path. -/
def St := List Nat → Ls
def part (S : St) (i : Nat) : St := fun p => S (i :: p)
structure LsOk (l : Ls) : Prop where
 k8 : l.k < 256
 nm47 : l.nm.size ≤ 140737488351232
 na47 : l.na ≤ 140737488351232
 np47 : l.np ≤ 140737488351232
 nr47 : l.nr ≤ 140737488351232
 rl47 : ∀ i, i < l.nr → l.rl i ≤ 140737488351232
/-- Rows of expressions lie at a slice's address. -/
def XR (w : World) (a : Option Addr) (n : Nat) (len : Nat → Nat) (F : Nat → Nat → Xt) : Prop := ∀ i, i < n → ∃ b o a' c, a = some ⟨b, o, none⟩ ∧ w.cell? ⟨b, o + i, none⟩ = some (.slice a' (len i) c) ∧ ∀ d, XL d w a' (len i) (F i)
theorem XR.later {w w' : World} {a : Option Addr} {n : Nat} {len : Nat → Nat} {F : Nat → Nat → Xt} (h : XR w a n len F) (hb : Below w.heap.size w w') : XR w' a n len F := fun i hi => by
 obtain ⟨b, o, a', c, e, hc, hl⟩ := h i hi
 exact ⟨b, o, a', c, e, cell_kept hc hb, fun d => (hl d).later hb⟩
/-- A shape lies at a place, looked at d deep. -/
def SA : Nat → World → Nat → Nat → St → Prop
 | 0, _, _, _, _ => True
 | d + 1, w, b, o, S => ∃ (aa pa ra : Option Addr) (ca cp cr : Nat), w.cell? ⟨b, o, none⟩ = some (.int .u8 ((S []).k : Int)) ∧ w.cell? ⟨b, o + 1, none⟩ = some (.string (S []).nm) ∧ w.cell? ⟨b, o + 2, none⟩ = some (.slice aa (S []).na ca) ∧ w.cell? ⟨b, o + 3, none⟩ = some (.slice pa (S []).np cp) ∧ w.cell? ⟨b, o + 4, none⟩ = some (.slice ra (S []).nr cr) ∧ w.cell? ⟨b, o + 5, none⟩ = some (.int .i64 (S []).ln) ∧ w.cell? ⟨b, o + 6, none⟩ = some (.int .i64 (S []).cl) ∧ LsOk (S []) ∧ (∀ d, XL d w aa (S []).na (S []).args) ∧ XR w ra (S []).nr (S []).rl (S []).rows ∧ ∀ i, i < (S []).np → ∃ b' o', pa = some ⟨b', o', none⟩ ∧ SA d w b' (o' + i * 7) (part S i)
/-- A list of shapes lies at a slice's address. -/
def SL (d : Nat) (w : World) (a : Option Addr) (n : Nat) (F : Nat → St) : Prop := ∀ i, i < n → ∃ b o, a = some ⟨b, o, none⟩ ∧ SA d w b (o + i * 7) (F i)
theorem SA.later {w w' : World} (hb : Below w.heap.size w w') : ∀ {d b o : Nat} {S : St}, SA d w b o S → SA d w' b o S := by
 intro d
 induction d with
 | zero => intro _ _ _ _; trivial
 | succ d ih =>
  intro b o S h
  obtain ⟨aa, pa, ra, ca, cp, cr, h0, h1, h2, h3, h4, h5, h6, hok, ha, hr, hp⟩ := h
  refine ⟨aa, pa, ra, ca, cp, cr, cell_kept h0 hb, cell_kept h1 hb, cell_kept h2 hb, cell_kept h3 hb, cell_kept h4 hb, cell_kept h5 hb, cell_kept h6 hb, hok, fun d => (ha d).later hb, hr.later hb, fun i hi => ?_⟩
  obtain ⟨b', o', e, h⟩ := hp i hi
  exact ⟨b', o', e, ih h⟩
theorem SL.later {d : Nat} {w w' : World} {a : Option Addr} {n : Nat} {F : Nat → St} (h : SL d w a n F) (hb : Below w.heap.size w w') : SL d w' a n F := fun i hi => by
 obtain ⟨b, o, e, h⟩ := h i hi
 exact ⟨b, o, e, h.later hb⟩
/-- A shape as a value that is handed over. -/
structure SV (w : World) (v : Value) (S : St) : Prop where
 form : ∃ (aa pa ra : Option Addr) (ca cp cr : Nat), v = .agg #[.int .u8 ((S []).k : Int), .string (S []).nm, .slice aa (S []).na ca, .slice pa (S []).np cp, .slice ra (S []).nr cr, .int .i64 (S []).ln, .int .i64 (S []).cl] ∧ (∀ d, XL d w aa (S []).na (S []).args) ∧ XR w ra (S []).nr (S []).rl (S []).rows ∧ ∀ d, SL d w pa (S []).np (part S)
 ok : LsOk (S [])
theorem SV.later {w w' : World} {v : Value} {S : St} (h : SV w v S) (hb : Below w.heap.size w w') : SV w' v S := by
 obtain ⟨⟨aa, pa, ra, ca, cp, cr, e, ha, hr, hp⟩, hok⟩ := h
 exact ⟨⟨aa, pa, ra, ca, cp, cr, e, fun d => (ha d).later hb, hr.later hb, fun d => (hp d).later hb⟩, hok⟩
/-- The cells of an element of a list of shapes. -/
theorem SL.at_ {w : World} {a : Option Addr} {n : Nat} {F : Nat → St} (h : ∀ d, SL d w a n F) {i : Nat} (hi : i < n) : ∃ (b o : Nat) (k na np nr : Nat) (ll cc : Int) (nm : ByteArray) (aa pa ra : Option Addr) (ca cp cr : Nat), a = some ⟨b, o, none⟩ ∧ SV w (.agg #[.int .u8 (k : Int), .string nm, .slice aa na ca, .slice pa np cp, .slice ra nr cr, .int .i64 ll, .int .i64 cc]) (F i) ∧
  ∀ w', Below w.heap.size w w' → w'.cell? ⟨b, o + i * 7, none⟩ = some (.int .u8 (k : Int)) ∧ w'.cell? ⟨b, o + i * 7 + 1, none⟩ = some (.string nm) ∧ w'.cell? ⟨b, o + i * 7 + 2, none⟩ = some (.slice aa na ca) ∧ w'.cell? ⟨b, o + i * 7 + 3, none⟩ = some (.slice pa np cp) ∧ w'.cell? ⟨b, o + i * 7 + 4, none⟩ = some (.slice ra nr cr) ∧ w'.cell? ⟨b, o + i * 7 + 5, none⟩ = some (.int .i64 ll) ∧ w'.cell? ⟨b, o + i * 7 + 6, none⟩ = some (.int .i64 cc) := by
 obtain ⟨b, o, e, aa, pa, ra, ca, cp, cr, h0, h1, h2, h3, h4, h5, h6, hok, ha, hr, _⟩ := h 1 i hi
 refine ⟨b, o, _, _, _, _, _, _, _, aa, pa, ra, ca, cp, cr, e, ⟨⟨aa, pa, ra, ca, cp, cr, rfl, ha, hr, fun d j hj => ?_⟩, hok⟩, fun w' hb => ⟨cell_kept h0 hb, cell_kept h1 hb, cell_kept h2 hb, cell_kept h3 hb, cell_kept h4 hb, cell_kept h5 hb, cell_kept h6 hb⟩⟩
 obtain ⟨b', o', e', aa', pa', ra', ca', cp', cr', g0, g1, g2, g3, g4, g5, g6, _, _, _, hp⟩ := h (d + 1) i hi
 rw [e] at e'
 cases e'
 rw [h3] at g3
 cases g3
 exact hp j hj
/-- What is left behind k rows. -/
def rks (len : Nat → Nat) (F : Nat → Nat → Xt) : Nat → Int → Int
 | 0, left => left
 | k + 1, left => if rks len F k left < 0 then rks len F k left else if len k < 1 ∨ 64 < len k then -1 else xks (xleft 16) (F k) (len k) (rks len F k left)
/-- What is left behind k parts. -/
def sks (f : St → Int → Int) (F : Nat → St) : Nat → Int → Int
 | 0, left => left
 | k + 1, left => if sks f F k left < 0 then sks f F k left else f (F k) (sks f F k left)
/-- May what stands at one place of a shape be? -/
def swant (l : Ls) : Bool :=
 if l.k = 1 then isN l.nm && (decide (l.na = 0) && (decide (l.np = 0) && decide (l.nr = 0)))
 else decide (l.nm.size = 0) && (if l.k = 2 ∨ l.k = 3 then decide (l.na = 2) && (decide (l.np = 0) && decide (l.nr = 0))
  else if l.k = 4 ∨ l.k = 5 then decide (l.na = 3) && (decide (l.np = 0) && decide (l.nr = 0))
  else if l.k = 6 ∨ l.k = 7 then decide (l.na = 0) && (decide (l.np = 2) && decide (l.nr = 0))
  else if l.k = 8 then decide (l.na = 0) && (decide (l.np = 0) && (decide (1 ≤ l.nr) && decide (l.nr ≤ 64)))
  else false)
/-- How many nodes are left behind a shape, or -1. -/
def sleft : Nat → St → Int → Int
 | 0, _, _ => -1
 | d + 1, S, left => if left - 1 < 0 then -1 else if swant (S []) = false then -1 else sks (sleft d) (part S) (S []).np (rks (S []).rl (S []).rows (S []).nr (xks (xleft 16) (S []).args (S []).na (left - 1)))
/-- An item. -/
structure It where
 k : Nat
 nm : ByteArray
 val : Xt
 shp : St
 pl : Nat
 nl : Nat
 list : Nat → Xt
 ln : Int
 cl : Int
/-- An item's cells from a place on. -/
structure IA (w : World) (b o : Nat) (I : It) : Prop where
 c0 : w.cell? ⟨b, o, none⟩ = some (.int .u8 (I.k : Int))
 c1 : w.cell? ⟨b, o + 1, none⟩ = some (.string I.nm)
 val : ∀ d, XA d w b (o + 2) I.val
 shp : ∀ d, SA d w b (o + 8) I.shp
 c15 : w.cell? ⟨b, o + 15, none⟩ = some (.int .u8 (I.pl : Int))
 lst : ∃ a c, w.cell? ⟨b, o + 16, none⟩ = some (.slice a I.nl c) ∧ ∀ d, XL d w a I.nl I.list
 c17 : w.cell? ⟨b, o + 17, none⟩ = some (.int .i64 I.ln)
 c18 : w.cell? ⟨b, o + 18, none⟩ = some (.int .i64 I.cl)
 k8 : I.k < 256
 nm47 : I.nm.size ≤ 140737488351232
 pl8 : I.pl < 256
 nl47 : I.nl ≤ 140737488351232
theorem IA.later {w w' : World} {b o : Nat} {I : It} (h : IA w b o I) (hb : Below w.heap.size w w') : IA w' b o I := by
 obtain ⟨a, c, hc, hl⟩ := h.lst
 exact ⟨cell_kept h.c0 hb, cell_kept h.c1 hb, fun d => (h.val d).later hb, fun d => (h.shp d).later hb, cell_kept h.c15 hb, ⟨a, c, cell_kept hc hb, fun d => (hl d).later hb⟩, cell_kept h.c17 hb, cell_kept h.c18 hb, h.k8, h.nm47, h.pl8, h.nl47⟩
/-- A list of items lies at a slice's address. -/
def Its (w : World) (a : Option Addr) (n : Nat) (F : Nat → It) : Prop := ∀ i, i < n → ∃ b o, a = some ⟨b, o, none⟩ ∧ IA w b (o + i * 19) (F i)
theorem Its.later {w w' : World} {a : Option Addr} {n : Nat} {F : Nat → It} (h : Its w a n F) (hb : Below w.heap.size w w') : Its w' a n F := fun i hi => by
 obtain ⟨b, o, e, h⟩ := h i hi
 exact ⟨b, o, e, h.later hb⟩
open Go.RowKit
/-- The number that digits tell. -/
def vdl (l : List UInt8) : Nat := l.foldl (fun a b => 10 * a + (b.toNat - 48)) 0
theorem ddg : ∀ u, (∀ b ∈ Lib.decDigits u, 48 ≤ b.toNat ∧ b.toNat ≤ 57) ∧ Lib.decDigits u ≠ [] ∧ vdl (Lib.decDigits u) = u := by
 intro u
 induction u using Nat.strongRecOn with
 | _ u ih =>
  by_cases h : u < 10
  ·have e : Lib.decDigits u = [UInt8.ofNat (48 + u)] := by rw [Lib.decDigits, dif_pos h]
   have ht : (UInt8.ofNat (48 + u)).toNat = 48 + u := by simp; omega
   rw [e]
   refine ⟨fun b hb => ?_, by simp, ?_⟩
   ·obtain rfl : b = UInt8.ofNat (48 + u) := by simpa using hb
    rw [ht]
    omega
   ·show 10 * 0 + ((UInt8.ofNat (48 + u)).toNat - 48) = u
    rw [ht]
    omega
  ·have e : Lib.decDigits u = Lib.decDigits (u / 10) ++ [UInt8.ofNat (48 + u % 10)] := by rw [Lib.decDigits, dif_neg h]
   have ht : (UInt8.ofNat (48 + u % 10)).toNat = 48 + u % 10 := by simp; omega
   obtain ⟨h1, h2, h3⟩ := ih (u / 10) (by omega)
   rw [e]
   refine ⟨fun b hb => ?_, by simp, ?_⟩
   ·rcases List.mem_append.1 hb with hb | hb
    ·exact h1 b hb
    ·obtain rfl : b = UInt8.ofNat (48 + u % 10) := by simpa using hb
     rw [ht]
     omega
   ·unfold vdl at *
    rw [List.foldl_append, h3]
    show 10 * (u / 10) + ((UInt8.ofNat (48 + u % 10)).toNat - 48) = u
    rw [ht]
    omega
/-- What follows a text: nothing, or a blank. -/
def Stp (r : List UInt8) : Prop := r = [] ∨ ∃ r', r = 32 :: r'
/-- Texts without a blank end where they end. -/
theorem qcg : ∀ (A B r s : List UInt8), (∀ b ∈ A, b ≠ 32) → (∀ b ∈ B, b ≠ 32) → Stp r → Stp s → A ++ r = B ++ s → A = B ∧ r = s := by
 intro A
 induction A with
 | nil =>
  intro B r s _ hB hr hs e
  cases B with
  | nil => exact ⟨rfl, e⟩
  | cons b B =>
   rcases hr with rfl | ⟨r', rfl⟩
   ·cases e
   ·injection e with e1 e2
    exact absurd e1.symm (hB b (by simp))
 | cons a A ih =>
  intro B r s hA hB hr hs e
  cases B with
  | nil =>
   rcases hs with rfl | ⟨s', rfl⟩
   ·cases e
   ·injection e with e1 e2
    exact absurd e1 (hA a (by simp))
  | cons b B =>
   injection e with e1 e2
   obtain ⟨h1, h2⟩ := ih B r s (fun x hx => hA x (by simp [hx])) (fun x hx => hB x (by simp [hx])) hr hs e2
   exact ⟨by rw [e1, h1], h2⟩
/-- The bytes of an expression's text. -/
def xby (d : Nat) (T : Xt) : List UInt8 := (xtext d T).data.toList
theorem qcp (a b : ByteArray) : (a ++ b).data.toList = a.data.toList ++ b.data.toList := by simp
/-- The same but for places, d deep. -/
def xlk : Nat → Xt → Xt → Prop
 | 0, _, _ => True
 | d + 1, T, U => (T []).k = (U []).k ∧ (T []).n = (U []).n ∧ (T []).nm = (U []).nm ∧ (T []).len = (U []).len ∧ ∀ i, i < (T []).len → xlk d (kid T i) (kid U i)
/-- By which way an expression's text goes. -/
theorem qcq {d : Nat} {T : Xt} (h : MX (d + 1) T) :
  (∃ u : Nat, (T []).k = 1 ∧ (T []).n = (u : Int) ∧ (T []).nm = ⟨#[]⟩ ∧ (T []).len = 0 ∧ xby (d + 1) T = Lib.decDigits u) ∨
  ((T []).k = 2 ∧ (T []).n = 0 ∧ NameP (T []).nm ∧ (T []).len = 0 ∧ xby (d + 1) T = (T []).nm.data.toList) ∨
  ((T []).k = 3 ∧ (T []).n = 0 ∧ (T []).nm = ⟨#[]⟩ ∧ (T []).len = 1 ∧ xby (d + 1) T = 45 :: 32 :: xby d (kid T 0)) ∨
  (∃ o : UInt8, 4 ≤ (T []).k ∧ (T []).k ≤ 8 ∧ (T []).n = 0 ∧ (T []).nm = ⟨#[]⟩ ∧ (T []).len = 2 ∧ (opb (T []).k).data.toList = [o] ∧ xby (d + 1) T = 40 :: 32 :: (xby d (kid T 0) ++ 32 :: o :: 32 :: (xby d (kid T 1) ++ [32, 41]))) := by
 obtain ⟨left, _, h⟩ := h
 obtain ⟨m, hw, _⟩ := qa6 h
 have hl := (qaf hw).1
 have qac : ∀ {x : ByteArray}, x.size = 0 → x = ⟨#[]⟩ := fun {x} h => by
  obtain ⟨⟨l⟩⟩ := x
  cases l with
  | nil => rfl
  | cons a l => simp [ByteArray.size] at h
 rcases qan hw with ⟨k1, rfl, n1, n2, hz⟩ | ⟨k2, rfl, n0, hN⟩ | ⟨k3, rfl, n0, hz⟩ | ⟨k4, k8, rfl, n0, hz⟩
 ·obtain ⟨u, hu⟩ : ∃ u : Nat, (T []).n = (u : Int) := ⟨(T []).n.toNat, by omega⟩
  refine .inl ⟨u, k1, hu, qac hz, hl, ?_⟩
  unfold xby
  rw [qak, if_pos k1, hu, Lib.itoa_nonneg]
 ·refine .inr (.inl ⟨k2, n0, qap.1 hN, hl, ?_⟩)
  unfold xby
  rw [qak, if_neg (by omega), if_pos k2]
 ·refine .inr (.inr (.inl ⟨k3, n0, qac hz, hl, ?_⟩))
  unfold xby
  rw [qak, if_neg (by omega), if_neg (by omega), if_pos k3, qcp]
  rfl
 ·have ho : ∃ o : UInt8, (opb (T []).k).data.toList = [o] := by
   unfold opb
   repeat' split
   all_goals exact ⟨_, rfl⟩
  obtain ⟨o, ho⟩ := ho
  refine .inr (.inr (.inr ⟨o, k4, k8, n0, qac hz, hl, ho, ?_⟩))
  unfold xby
  rw [qak, if_neg (by omega), if_neg (by omega), if_neg (by omega)]
  simp only [qcp, ho]
  simp
theorem opb_one {j k : Nat} (hj : 4 ≤ j ∧ j ≤ 8) (hk : 4 ≤ k ∧ k ≤ 8) (h : (opb j).data.toList = (opb k).data.toList) : j = k := by
 have : ∀ j, j < 9 → ∀ k, k < 9 → 4 ≤ j → 4 ≤ k → (opb j).data.toList = (opb k).data.toList → j = k := by decide
 exact this j (by omega) k (by omega) hj.1 hk.1 h
theorem qao {x : ByteArray} (h : NameP x) : (∀ b ∈ x.data.toList, b ≠ 32) ∧ ∃ b r, x.data.toList = b :: r ∧ 97 ≤ b.toNat ∧ b.toNat ≤ 122 := by
 have hb : ∀ i (hi : i < x.data.toList.length), (x.data.toList[i]).toNat = tb x i := fun i hi => by
  rw [Array.length_toList] at hi
  have := qdi (s := x) (i := i) hi
  rw [← this]
  rfl
 constructor
 ·intro b hm e
  obtain ⟨i, hi, rfl⟩ := List.getElem_of_mem hm
  have h1 := hb i hi
  rw [e] at h1
  have hi' : i < x.size := by rw [Array.length_toList] at hi; exact hi
  have h2 := h.all i hi'
  rw [← h1] at h2
  revert h2
  decide
 ·have hp := h.pos
  cases hl : x.data.toList with
  | nil =>
   have : x.data.toList.length = 0 := by rw [hl]; rfl
   rw [Array.length_toList] at this
   have e : x.size = x.data.size := rfl
   omega
  | cons b r =>
   refine ⟨b, r, rfl, ?_⟩
   have h1 := hb 0 (by rw [hl]; simp)
   have h2 := qdj.1 h.first
   simp only [hl, mz3] at h1
   rw [← h1] at h2
   exact h2
theorem by_eq {x y : ByteArray} (h : x.data.toList = y.data.toList) : x = y := by
 obtain ⟨⟨l⟩⟩ := x
 obtain ⟨⟨m⟩⟩ := y
 have h : l = m := h
 rw [h]
/-- An expression is told by its text, and where it ends. -/
theorem xby_one : ∀ (d : Nat) (T U : Xt) (r s : List UInt8), MX d T → MX d U → Stp r → Stp s → xby d T ++ r = xby d U ++ s → xlk d T U ∧ r = s := by
 intro d
 induction d with
 | zero => intro T U r s h; obtain ⟨left, _, h⟩ := h; rw [qa7] at h; omega
 | succ d ih =>
  intro T U r s hT hU hr hs e
  have digs : ∀ u : Nat, (∀ b ∈ Lib.decDigits u, b ≠ 32) ∧ ∃ b t, Lib.decDigits u = b :: t ∧ 48 ≤ b.toNat ∧ b.toNat ≤ 57 := fun u => by
   obtain ⟨h1, h2, _⟩ := ddg u
   refine ⟨fun b hb e => ?_, ?_⟩
   ·have := h1 b hb
    rw [e] at this
    revert this
    decide
   ·cases hd : Lib.decDigits u with
    | nil => exact absurd hd h2
    | cons b t => exact ⟨b, t, rfl, h1 b (by rw [hd]; simp)⟩
  rcases qcq hT with ⟨u, k1, n1, m1, l1, e1⟩ | ⟨k1, n1, m1, l1, e1⟩ | ⟨k1, n1, m1, l1, e1⟩ | ⟨o, k1, k1', n1, m1, l1, o1, e1⟩ <;>
   rcases qcq hU with ⟨v, k2, n2, m2, l2, e2⟩ | ⟨k2, n2, m2, l2, e2⟩ | ⟨k2, n2, m2, l2, e2⟩ | ⟨q, k2, k2', n2, m2, l2, o2, e2⟩ <;>
   rw [e1, e2] at e
  ·obtain ⟨h1, h2⟩ := qcg _ _ _ _ (digs u).1 (digs v).1 hr hs e
   have huv : u = v := by have := congrArg vdl h1; rw [(ddg u).2.2, (ddg v).2.2] at this; exact this
   exact ⟨⟨by omega, by omega, by rw [m1, m2], by omega, fun i hi => by omega⟩, h2⟩
  ·obtain ⟨b, t, hb, g1, g2⟩ := (digs u).2
   obtain ⟨c, t', hc, g3, g4⟩ := (qao m2).2
   rw [hb, hc] at e
   injection e with e3 e4
   rw [e3] at g2
   omega
  ·obtain ⟨b, t, hb, g1, g2⟩ := (digs u).2
   rw [hb] at e
   injection e with e3 e4
   rw [e3] at g1
   exact absurd g1 (by decide)
  ·obtain ⟨b, t, hb, g1, g2⟩ := (digs u).2
   rw [hb] at e
   injection e with e3 e4
   rw [e3] at g1
   exact absurd g1 (by decide)
  ·obtain ⟨b, t, hb, g1, g2⟩ := (digs v).2
   obtain ⟨c, t', hc, g3, g4⟩ := (qao m1).2
   rw [hb, hc] at e
   injection e with e3 e4
   rw [e3] at g3
   omega
  ·obtain ⟨h1, h2⟩ := qcg _ _ _ _ (qao m1).1 (qao m2).1 hr hs e
   exact ⟨⟨by omega, by omega, by_eq h1, by omega, fun i hi => by omega⟩, h2⟩
  ·obtain ⟨c, t', hc, g3, g4⟩ := (qao m1).2
   rw [hc] at e
   injection e with e3 e4
   rw [e3] at g3
   exact absurd g3 (by decide)
  ·obtain ⟨c, t', hc, g3, g4⟩ := (qao m1).2
   rw [hc] at e
   injection e with e3 e4
   rw [e3] at g3
   exact absurd g3 (by decide)
  ·obtain ⟨b, t, hb, g1, g2⟩ := (digs v).2
   rw [hb] at e
   injection e with e3 e4
   rw [← e3] at g1
   exact absurd g1 (by decide)
  ·obtain ⟨c, t', hc, g3, g4⟩ := (qao m2).2
   rw [hc] at e
   injection e with e3 e4
   rw [← e3] at g3
   exact absurd g3 (by decide)
  ·injection e with e3 e4
   injection e4 with e5 e6
   obtain ⟨h1, h2⟩ := ih _ _ _ _ (hT.kid (by omega)) (hU.kid (by omega)) hr hs e6
   refine ⟨⟨by omega, by omega, by rw [m1, m2], by omega, fun i hi => ?_⟩, h2⟩
   obtain rfl : i = 0 := by omega
   exact h1
  ·injection e with e3 e4
   exact absurd e3 (by decide)
  ·obtain ⟨b, t, hb, g1, g2⟩ := (digs v).2
   rw [hb] at e
   injection e with e3 e4
   rw [← e3] at g1
   exact absurd g1 (by decide)
  ·obtain ⟨c, t', hc, g3, g4⟩ := (qao m2).2
   rw [hc] at e
   injection e with e3 e4
   rw [← e3] at g3
   exact absurd g3 (by decide)
  ·injection e with e3 e4
   exact absurd e3 (by decide)
  ·injection e with e3 e4
   injection e4 with e5 e6
   replace e6 : (xby d (kid T 0) ++ 32 :: o :: 32 :: (xby d (kid T 1) ++ [32, 41])) ++ r = (xby d (kid U 0) ++ 32 :: q :: 32 :: (xby d (kid U 1) ++ [32, 41])) ++ s := e6
   rw [List.append_assoc, List.append_assoc] at e6
   obtain ⟨h1, h2⟩ := ih _ _ _ _ (hT.kid (by omega)) (hU.kid (by omega)) (.inr ⟨_, rfl⟩) (.inr ⟨_, rfl⟩) e6
   injection h2 with h3 h4
   injection h4 with h5 h6
   injection h6 with h7 h8
   replace h8 : (xby d (kid T 1) ++ [32, 41]) ++ r = (xby d (kid U 1) ++ [32, 41]) ++ s := h8
   rw [List.append_assoc, List.append_assoc] at h8
   obtain ⟨g1, g2⟩ := ih _ _ _ _ (hT.kid (by omega)) (hU.kid (by omega)) (.inr ⟨_, rfl⟩) (.inr ⟨_, rfl⟩) h8
   have g6 : r = s := List.append_cancel_left (show [32, 41] ++ r = [32, 41] ++ s from g2)
   have hk := opb_one ⟨k1, k1'⟩ ⟨k2, k2'⟩ (by rw [o1, o2, h5])
   refine ⟨⟨hk, by omega, by rw [m1, m2], by omega, fun i hi => ?_⟩, g6⟩
   rcases (by omega : i = 0 ∨ i = 1) with rfl | rfl
   ·exact h1
   ·exact g1
open Go.RowKit
/-- The bytes of n expressions from i on, a comma between two. -/
def rtr (d : Nat) (F : Nat → Xt) : Nat → Nat → List UInt8
 | 0, _ => []
 | n + 1, i => xby d (F i) ++ (if n = 0 then [] else 32 :: 44 :: 32 :: rtr d F n (i + 1))
/-- What follows a row: a blank, and no comma. -/
def Stq (r : List UInt8) : Prop := ∃ c r', r = 32 :: c :: r' ∧ c ≠ 44
theorem Stq.stp {r : List UInt8} (h : Stq r) : Stp r := by
 obtain ⟨c, r', rfl, _⟩ := h
 exact .inr ⟨_, rfl⟩
theorem qdt (d : Nat) (F G : Nat → Xt) : ∀ (n m i j : Nat) (r s : List UInt8), 1 ≤ n → 1 ≤ m → (∀ k, k < n → MX d (F (i + k))) → (∀ k, k < m → MX d (G (j + k))) → Stq r → Stq s → rtr d F n i ++ r = rtr d G m j ++ s → n = m ∧ (∀ k, k < n → xlk d (F (i + k)) (G (j + k))) ∧ r = s := by
 intro n
 induction n with
 | zero => intro m i j r s h; omega
 | succ n ih =>
  intro m i j r s _ hm hF hG hr hs e
  cases m with
  | zero => omega
  | succ m =>
   have e1 : xby d (F i) ++ ((if n = 0 then [] else 32 :: 44 :: 32 :: rtr d F n (i + 1)) ++ r) = xby d (G j) ++ ((if m = 0 then [] else 32 :: 44 :: 32 :: rtr d G m (j + 1)) ++ s) := by
    rw [← List.append_assoc, ← List.append_assoc]
    exact e
   have st : ∀ (n i : Nat) (H : Nat → Xt) (q : List UInt8), Stq q → Stp ((if n = 0 then [] else 32 :: 44 :: 32 :: rtr d H n (i + 1)) ++ q) := fun n i H q hq => by
    split
    ·exact hq.stp
    ·exact .inr ⟨_, rfl⟩
   obtain ⟨h1, h2⟩ := xby_one d _ _ _ _ (by have := hF 0 (by omega); exact this) (by have := hG 0 (by omega); exact this) (st n i F r hr) (st m j G s hs) e1
   by_cases hn : n = 0
   ·by_cases hm0 : m = 0
    ·subst hn hm0
     rw [if_pos rfl, if_pos rfl] at h2
     refine ⟨rfl, fun k hk => ?_, h2⟩
     obtain rfl : k = 0 := by omega
     exact h1
    ·rw [if_pos hn, if_neg hm0] at h2
     obtain ⟨c, r', rfl, hc⟩ := hr
     injection h2 with h3 h4
     injection h4 with h5 h6
     exact absurd h5 hc
   ·by_cases hm0 : m = 0
    ·rw [if_neg hn, if_pos hm0] at h2
     obtain ⟨c, r', rfl, hc⟩ := hs
     injection h2 with h3 h4
     injection h4 with h5 h6
     exact absurd h5.symm hc
    ·rw [if_neg hn, if_neg hm0] at h2
     have h3 : rtr d F n (i + 1) ++ r = rtr d G m (j + 1) ++ s := List.append_cancel_left (show [32, 44, 32] ++ (rtr d F n (i + 1) ++ r) = [32, 44, 32] ++ (rtr d G m (j + 1) ++ s) from h2)
     obtain ⟨g1, g2, g3⟩ := ih m (i + 1) (j + 1) r s (by omega) (by omega) (fun k hk => by have := hF (k + 1) (by omega); rw [show i + (k + 1) = i + 1 + k by omega] at this; exact this) (fun k hk => by have := hG (k + 1) (by omega); rw [show j + (k + 1) = j + 1 + k by omega] at this; exact this) hr hs h3
     refine ⟨by omega, fun k hk => ?_, g3⟩
     cases k with
     | zero => exact h1
     | succ k =>
      have := g2 k (by omega)
      rw [show i + (k + 1) = i + 1 + k by omega, show j + (k + 1) = j + 1 + k by omega]
      exact this
/-- The bytes of n rows from i on, a semicolon between two. -/
def mtr (len : Nat → Nat) (F : Nat → Nat → Xt) : Nat → Nat → List UInt8
 | 0, _ => []
 | n + 1, i => rtr 16 (F i) (len i) 0 ++ (if n = 0 then [] else 32 :: 59 :: 32 :: mtr len F n (i + 1))
/-- What follows the rows: a blank, and neither a comma nor a semicolon. -/
def Stm (r : List UInt8) : Prop := ∃ c r', r = 32 :: c :: r' ∧ c ≠ 44 ∧ c ≠ 59
theorem Stm.stq {r : List UInt8} (h : Stm r) : Stq r := by
 obtain ⟨c, r', rfl, h, _⟩ := h
 exact ⟨c, r', rfl, h⟩
theorem mtr_one (len len' : Nat → Nat) (F G : Nat → Nat → Xt) : ∀ (n m i j : Nat) (r s : List UInt8), 1 ≤ n → 1 ≤ m → (∀ k, k < n → 1 ≤ len (i + k) ∧ ∀ q, q < len (i + k) → MX 16 (F (i + k) q)) → (∀ k, k < m → 1 ≤ len' (j + k) ∧ ∀ q, q < len' (j + k) → MX 16 (G (j + k) q)) → Stm r → Stm s → mtr len F n i ++ r = mtr len' G m j ++ s → n = m ∧ (∀ k, k < n → len (i + k) = len' (j + k) ∧ ∀ q, q < len (i + k) → xlk 16 (F (i + k) q) (G (j + k) q)) ∧ r = s := by
 intro n
 induction n with
 | zero => intro m i j r s h; omega
 | succ n ih =>
  intro m i j r s _ hm hF hG hr hs e
  cases m with
  | zero => omega
  | succ m =>
   have e1 : rtr 16 (F i) (len i) 0 ++ ((if n = 0 then [] else 32 :: 59 :: 32 :: mtr len F n (i + 1)) ++ r) = rtr 16 (G j) (len' j) 0 ++ ((if m = 0 then [] else 32 :: 59 :: 32 :: mtr len' G m (j + 1)) ++ s) := by
    rw [← List.append_assoc, ← List.append_assoc]
    exact e
   have st : ∀ (n i : Nat) (l : Nat → Nat) (H : Nat → Nat → Xt) (q : List UInt8), Stm q → Stq ((if n = 0 then [] else 32 :: 59 :: 32 :: mtr l H n (i + 1)) ++ q) := fun n i l H q hq => by
    split
    ·exact hq.stq
    ·exact ⟨_, _, rfl, by decide⟩
   have f0 := hF 0 (by omega)
   have g0 := hG 0 (by omega)
   rw [Nat.add_zero] at f0 g0
   obtain ⟨h0, h1, h2⟩ := qdt 16 (F i) (G j) (len i) (len' j) 0 0 _ _ f0.1 g0.1 (fun k hk => by rw [Nat.zero_add]; exact f0.2 k hk) (fun k hk => by rw [Nat.zero_add]; exact g0.2 k hk) (st n i len F r hr) (st m j len' G s hs) e1
   have h1' : ∀ q, q < len i → xlk 16 (F i q) (G j q) := fun q hq => by have := h1 q hq; rw [Nat.zero_add] at this; exact this
   by_cases hn : n = 0
   ·by_cases hm0 : m = 0
    ·subst hn hm0
     rw [if_pos rfl, if_pos rfl] at h2
     refine ⟨rfl, fun k hk => ?_, h2⟩
     obtain rfl : k = 0 := by omega
     exact ⟨h0, h1'⟩
    ·rw [if_pos hn, if_neg hm0] at h2
     obtain ⟨c, r', rfl, _, hc⟩ := hr
     injection h2 with h3 h4
     injection h4 with h5 h6
     exact absurd h5 hc
   ·by_cases hm0 : m = 0
    ·rw [if_neg hn, if_pos hm0] at h2
     obtain ⟨c, r', rfl, _, hc⟩ := hs
     injection h2 with h3 h4
     injection h4 with h5 h6
     exact absurd h5.symm hc
    ·rw [if_neg hn, if_neg hm0] at h2
     have h3 : mtr len F n (i + 1) ++ r = mtr len' G m (j + 1) ++ s := List.append_cancel_left (show [32, 59, 32] ++ (mtr len F n (i + 1) ++ r) = [32, 59, 32] ++ (mtr len' G m (j + 1) ++ s) from h2)
     obtain ⟨g1, g2, g3⟩ := ih m (i + 1) (j + 1) r s (by omega) (by omega) (fun k hk => by have := hF (k + 1) (by omega); rw [show i + (k + 1) = i + 1 + k by omega] at this; exact this) (fun k hk => by have := hG (k + 1) (by omega); rw [show j + (k + 1) = j + 1 + k by omega] at this; exact this) hr hs h3
     refine ⟨by omega, fun k hk => ?_, g3⟩
     cases k with
     | zero => exact ⟨h0, h1'⟩
     | succ k =>
      have := g2 k (by omega)
      rw [show i + (k + 1) = i + 1 + k by omega, show j + (k + 1) = j + 1 + k by omega]
      exact this
theorem qcr (d : Nat) (F : Nat → Xt) : ∀ n i, rtr d F (n + 1) i = (if n = 0 then [] else rtr d F n i ++ [32, 44, 32]) ++ xby d (F (i + n)) := by
 intro n
 induction n with
 | zero => intro i; show xby d (F i) ++ [] = [] ++ _; simp
 | succ n ih =>
  intro i
  have e : rtr d F (n + 1 + 1) i = xby d (F i) ++ (32 :: 44 :: 32 :: rtr d F (n + 1) (i + 1)) := by
   show xby d (F i) ++ (if n + 1 = 0 then [] else _) = _
   rw [if_neg (by omega)]
  have e2 : rtr d F (n + 1) i = xby d (F i) ++ (if n = 0 then [] else 32 :: 44 :: 32 :: rtr d F n (i + 1)) := rfl
  rw [e, ih (i + 1), if_neg (show ¬ n + 1 = 0 by omega), e2, show i + 1 + n = i + (n + 1) by omega]
  by_cases h : n = 0
  ·subst h
   simp
  ·rw [if_neg h, if_neg h]
   simp
theorem qcs (len : Nat → Nat) (F : Nat → Nat → Xt) : ∀ n i, mtr len F (n + 1) i = (if n = 0 then [] else mtr len F n i ++ [32, 59, 32]) ++ rtr 16 (F (i + n)) (len (i + n)) 0 := by
 intro n
 induction n with
 | zero => intro i; show rtr 16 (F i) (len i) 0 ++ [] = [] ++ _; simp
 | succ n ih =>
  intro i
  have e : mtr len F (n + 1 + 1) i = rtr 16 (F i) (len i) 0 ++ (32 :: 59 :: 32 :: mtr len F (n + 1) (i + 1)) := by
   show rtr 16 (F i) (len i) 0 ++ (if n + 1 = 0 then [] else _) = _
   rw [if_neg (by omega)]
  have e2 : mtr len F (n + 1) i = rtr 16 (F i) (len i) 0 ++ (if n = 0 then [] else 32 :: 59 :: 32 :: mtr len F n (i + 1)) := rfl
  rw [e, ih (i + 1), if_neg (show ¬ n + 1 = 0 by omega), e2, show i + 1 + n = i + (n + 1) by omega]
  by_cases h : n = 0
  ·subst h
   simp
  ·rw [if_neg h, if_neg h]
   simp
open Go.RowKit
/-- A shape may be, d deep at most. -/
def MS (d : Nat) (S : St) : Prop := ∃ left : Int, left ≤ 8192 ∧ 0 ≤ sleft d S left
theorem qax {len : Nat → Nat} {F : Nat → Nat → Xt} {k : Nat} {left : Int} (h : rks len F k left < 0) : ∀ j, rks len F (k + j) left = rks len F k left := by
 intro j
 induction j with
 | zero => rfl
 | succ j ih =>
  rw [← Nat.add_assoc]
  show (if rks len F (k + j) left < 0 then _ else _) = _
  rw [ih, if_pos h]
theorem qay {f : St → Int → Int} {F : Nat → St} {k : Nat} {left : Int} (h : sks f F k left < 0) : ∀ j, sks f F (k + j) left = sks f F k left := by
 intro j
 induction j with
 | zero => rfl
 | succ j ih =>
  rw [← Nat.add_assoc]
  show (if sks f F (k + j) left < 0 then _ else _) = _
  rw [ih, if_pos h]
theorem qch {len : Nat → Nat} {F : Nat → Nat → Xt} {m : Nat} {left : Int} (h : 0 ≤ rks len F m left) : ∀ i, i ≤ m → 0 ≤ rks len F i left := by
 intro i hi
 rcases Int.lt_or_le (rks len F i left) 0 with g | g
 ·have := qax g (m - i)
  rw [show i + (m - i) = m by omega] at this
  omega
 ·exact g
theorem qci {f : St → Int → Int} {F : Nat → St} {m : Nat} {left : Int} (h : 0 ≤ sks f F m left) : ∀ i, i ≤ m → 0 ≤ sks f F i left := by
 intro i hi
 rcases Int.lt_or_le (sks f F i left) 0 with g | g
 ·have := qay g (m - i)
  rw [show i + (m - i) = m by omega] at this
  omega
 ·exact g
theorem qc0 {len : Nat → Nat} {F : Nat → Nat → Xt} : ∀ k left, 0 ≤ left → -1 ≤ rks len F k left ∧ rks len F k left ≤ left := by
 intro k left h0
 induction k with
 | zero => show -1 ≤ left ∧ left ≤ left; omega
 | succ k ih =>
  show -1 ≤ (if _ then _ else _) ∧ (if _ then _ else _) ≤ left
  split
  ·exact ih
  ·split
   ·omega
   ·have := qb4 (qa5 16) (F := F k) (len k) (rks len F k left) (by omega)
    omega
theorem qct {f : St → Int → Int} {F : Nat → St} (hf : ∀ T l, 0 ≤ l → -1 ≤ f T l ∧ f T l ≤ l) : ∀ k left, 0 ≤ left → -1 ≤ sks f F k left ∧ sks f F k left ≤ left := by
 intro k left h0
 induction k with
 | zero => show -1 ≤ left ∧ left ≤ left; omega
 | succ k ih =>
  show -1 ≤ (if _ then _ else _) ∧ (if _ then _ else _) ≤ left
  split
  ·exact ih
  ·have := hf (F k) (sks f F k left) (by omega)
   omega
theorem qcu {F : Nat → Xt} {n : Nat} {left : Int} (h0 : 0 ≤ left) (hl : left ≤ 8192) (h : 0 ≤ xks (xleft 16) F n left) : ∀ i, i < n → MX 16 (F i) := by
 intro i hi
 have h1 := qau h i (by omega)
 have h2 := qau h (i + 1) (by omega)
 rw [qa4, if_neg (by omega)] at h2
 have := qbn (F := F) (qa5 16) h0 i
 exact ⟨_, by omega, h2⟩
/-- What holds of the parts of a shape that may be. -/
theorem MS.parts {d : Nat} {S : St} (h : MS (d + 1) S) : swant (S []) = true ∧ (∀ i, i < (S []).na → MX 16 ((S []).args i)) ∧ (∀ i, i < (S []).nr → 1 ≤ (S []).rl i ∧ (S []).rl i ≤ 64 ∧ ∀ q, q < (S []).rl i → MX 16 ((S []).rows i q)) ∧ ∀ i, i < (S []).np → MS d (part S i) := by
 obtain ⟨left, hl, h⟩ := h
 have e : sleft (d + 1) S left = if left - 1 < 0 then -1 else if swant (S []) = false then -1 else sks (sleft d) (part S) (S []).np (rks (S []).rl (S []).rows (S []).nr (xks (xleft 16) (S []).args (S []).na (left - 1))) := rfl
 rw [e] at h
 split at h
 ·omega
 ·rename_i hl1
  split at h
  ·omega
  ·rename_i hs
   obtain ⟨A, hA⟩ : ∃ A, xks (xleft 16) (S []).args (S []).na (left - 1) = A := ⟨_, rfl⟩
   obtain ⟨R, hR⟩ : ∃ R, rks (S []).rl (S []).rows (S []).nr A = R := ⟨_, rfl⟩
   rw [hA, hR] at h
   have hR0 : 0 ≤ R := by
    rcases Int.lt_or_le R 0 with g | g
    ·have := qay (f := sleft d) (F := part S) (k := 0) (left := R) g (S []).np
     rw [Nat.zero_add] at this
     have h2 : sks (sleft d) (part S) 0 R = R := rfl
     omega
    ·exact g
   have hA0 : 0 ≤ A := by
    rcases Int.lt_or_le A 0 with g | g
    ·have := qax (len := (S []).rl) (F := (S []).rows) (k := 0) (left := A) g (S []).nr
     rw [Nat.zero_add] at this
     have h2 : rks (S []).rl (S []).rows 0 A = A := rfl
     omega
    ·exact g
   have hAl : A ≤ 8192 := by rw [← hA]; have := (qb4 (qa5 16) (F := (S []).args) (S []).na (left - 1) (by omega)).2; omega
   have hRl : R ≤ 8192 := by rw [← hR]; have := (qc0 (len := (S []).rl) (F := (S []).rows) (S []).nr A hA0).2; omega
   have hsl : ∀ d T l, 0 ≤ l → -1 ≤ sleft d T l ∧ sleft d T l ≤ l := by
    intro d
    induction d with
    | zero => intro T l h; show -1 ≤ (-1 : Int) ∧ (-1 : Int) ≤ l; omega
    | succ d ih =>
     intro T l h
     show -1 ≤ (if _ then _ else _) ∧ (if _ then _ else _) ≤ l
     split
     ·omega
     ·split
      ·omega
      ·obtain ⟨B, hB⟩ : ∃ B, xks (xleft 16) (T []).args (T []).na (l - 1) = B := ⟨_, rfl⟩
       obtain ⟨Q, hQ⟩ : ∃ Q, rks (T []).rl (T []).rows (T []).nr B = Q := ⟨_, rfl⟩
       rw [hB, hQ]
       have b1 := qb4 (qa5 16) (F := (T []).args) (T []).na (l - 1) (by omega)
       rw [hB] at b1
       have b2 : -1 ≤ Q ∧ Q ≤ B := by
        rw [← hQ]
        by_cases hb : 0 ≤ B
        ·exact qc0 _ _ hb
        ·have := qax (len := (T []).rl) (F := (T []).rows) (k := 0) (left := B) (by show B < 0; omega) (T []).nr
         rw [Nat.zero_add] at this
         rw [this]
         show -1 ≤ B ∧ B ≤ B
         omega
       by_cases hq : 0 ≤ Q
       ·have := qct ih (F := part T) (T []).np Q hq
        omega
       ·have := qay (f := sleft d) (F := part T) (k := 0) (left := Q) (by show Q < 0; omega) (T []).np
        rw [Nat.zero_add] at this
        rw [this]
        show -1 ≤ Q ∧ Q ≤ l
        omega
   refine ⟨by cases hw : swant (S []) with | true => rfl | false => exact absurd hw hs, qcu (left := left - 1) (by omega) (by omega) (by rw [hA]; exact hA0), fun i hi => ?_, fun i hi => ?_⟩
   ·have h1 := qch (m := (S []).nr) (by rw [hR]; exact hR0) i (by omega)
    have h2 := qch (m := (S []).nr) (by rw [hR]; exact hR0) (i + 1) (by omega)
    have e2 : rks (S []).rl (S []).rows (i + 1) A = if rks (S []).rl (S []).rows i A < 0 then rks (S []).rl (S []).rows i A else if (S []).rl i < 1 ∨ 64 < (S []).rl i then -1 else xks (xleft 16) ((S []).rows i) ((S []).rl i) (rks (S []).rl (S []).rows i A) := rfl
    rw [e2, if_neg (by omega)] at h2
    split at h2
    ·omega
    ·rename_i hrl
     refine ⟨by omega, by omega, qcu h1 ?_ h2⟩
     have := (qc0 (len := (S []).rl) (F := (S []).rows) i A hA0).2
     omega
   ·have h1 := qci h i (by omega)
    have h2 := qci h (i + 1) (by omega)
    have e2 : sks (sleft d) (part S) (i + 1) R = if sks (sleft d) (part S) i R < 0 then sks (sleft d) (part S) i R else sleft d (part S i) (sks (sleft d) (part S) i R) := rfl
    rw [e2, if_neg (by omega)] at h2
    refine ⟨_, ?_, h2⟩
    have := (qct (hsl d) (F := part S) i R hR0).2
    omega
/-- The words of the shapes. -/
def wdb (k : Nat) : List UInt8 := if k = 2 then [114, 101, 101, 100] else if k = 3 then [99, 114, 111, 115, 115] else if k = 4 then [108, 111, 99, 97, 108] else if k = 5 then [112, 121, 114, 97, 109, 105, 100] else if k = 6 then [112, 114, 111, 100, 117, 99, 116] else if k = 7 then [106, 111, 105, 110] else [109, 97, 116, 114, 105, 120]
/-- The bytes of a shape's text. -/
def sby : Nat → St → List UInt8
 | 0, _ => []
 | d + 1, S => if (S []).k = 1 then (S []).nm.data.toList
  else if (S []).k ≤ 5 then wdb (S []).k ++ (32 :: 40 :: 32 :: (rtr 16 (S []).args (S []).na 0 ++ [32, 41]))
  else if (S []).k ≤ 7 then wdb (S []).k ++ (32 :: 40 :: 32 :: (sby d (part S 0) ++ (32 :: 44 :: 32 :: (sby d (part S 1) ++ [32, 41]))))
  else wdb (S []).k ++ (32 :: 91 :: 32 :: (mtr (S []).rl (S []).rows (S []).nr 0 ++ [32, 93]))
/-- The same but for places, d deep. -/
def slk : Nat → St → St → Prop
 | 0, _, _ => True
 | d + 1, S, U => (S []).k = (U []).k ∧ (S []).nm = (U []).nm ∧ (S []).na = (U []).na ∧ (∀ i, i < (S []).na → xlk 16 ((S []).args i) ((U []).args i)) ∧ (S []).nr = (U []).nr ∧ (∀ i, i < (S []).nr → (S []).rl i = (U []).rl i ∧ ∀ q, q < (S []).rl i → xlk 16 ((S []).rows i q) ((U []).rows i q)) ∧ (S []).np = (U []).np ∧ ∀ i, i < (S []).np → slk d (part S i) (part U i)
theorem wdb_a : ∀ j, j < 9 → 2 ≤ j → (wdb j).all (fun b => b != 32) = true := by decide
theorem wdb_b : ∀ j, j < 9 → 2 ≤ j → isW ⟨(wdb j).toArray⟩ = true := by decide +kernel
theorem wdb_c : ∀ j, j < 9 → ∀ k, k < 9 → 2 ≤ j → 2 ≤ k → wdb j = wdb k → j = k := by decide
theorem qag {j : Nat} (h2 : 2 ≤ j) (h8 : j ≤ 8) : (∀ b ∈ wdb j, b ≠ 32) ∧ isW ⟨(wdb j).toArray⟩ = true ∧ ∀ k, 2 ≤ k → k ≤ 8 → wdb j = wdb k → j = k := by
 exact ⟨fun b hb => by have := List.all_eq_true.1 (wdb_a j (by omega) h2) b hb; simpa using this, wdb_b j (by omega) h2, fun k a b => wdb_c j (by omega) k (by omega) h2 a⟩
theorem qah {l : Ls} (h : swant l = true) : (l.k = 1 ∧ NameP l.nm ∧ l.na = 0 ∧ l.np = 0 ∧ l.nr = 0) ∨ (2 ≤ l.k ∧ l.k ≤ 5 ∧ l.nm = ⟨#[]⟩ ∧ 2 ≤ l.na ∧ l.np = 0 ∧ l.nr = 0) ∨ (6 ≤ l.k ∧ l.k ≤ 7 ∧ l.nm = ⟨#[]⟩ ∧ l.na = 0 ∧ l.np = 2 ∧ l.nr = 0) ∨ (l.k = 8 ∧ l.nm = ⟨#[]⟩ ∧ l.na = 0 ∧ l.np = 0 ∧ 1 ≤ l.nr) := by
 have qac : ∀ {x : ByteArray}, x.size = 0 → x = ⟨#[]⟩ := fun {x} h => by
  obtain ⟨⟨m⟩⟩ := x
  cases m with
  | nil => rfl
  | cons a m => simp [ByteArray.size] at h
 unfold swant at h
 split at h
 ·rename_i hk
  simp only [Bool.and_eq_true, decide_eq_true_eq] at h
  exact .inl ⟨hk, qap.1 h.1, h.2.1, h.2.2.1, h.2.2.2⟩
 ·simp only [Bool.and_eq_true, decide_eq_true_eq] at h
  obtain ⟨hz, h⟩ := h
  split at h
  ·rename_i hk
   simp only [Bool.and_eq_true, decide_eq_true_eq] at h
   exact .inr (.inl ⟨by omega, by omega, qac hz, by omega, h.2.1, h.2.2⟩)
  ·split at h
   ·rename_i hk
    simp only [Bool.and_eq_true, decide_eq_true_eq] at h
    exact .inr (.inl ⟨by omega, by omega, qac hz, by omega, h.2.1, h.2.2⟩)
   ·split at h
    ·rename_i hk
     simp only [Bool.and_eq_true, decide_eq_true_eq] at h
     exact .inr (.inr (.inl ⟨by omega, by omega, qac hz, h.1, h.2.1, h.2.2⟩))
    ·split at h
     ·rename_i hk
      simp only [Bool.and_eq_true, decide_eq_true_eq] at h
      exact .inr (.inr (.inr ⟨hk, qac hz, h.1, h.2.1, h.2.2.1⟩))
     ·cases h
/-- A shape's text: its first word or name, and what is behind it. -/
theorem qcv {d : Nat} {S : St} (h : MS (d + 1) S) : ∃ W R, sby (d + 1) S = W ++ R ∧ (∀ b ∈ W, b ≠ 32) ∧ (((S []).k = 1 ∧ W = (S []).nm.data.toList ∧ isW (S []).nm = false ∧ R = []) ∨ (2 ≤ (S []).k ∧ (S []).k ≤ 8 ∧ W = wdb (S []).k ∧ (S []).nm = ⟨#[]⟩ ∧ ∃ R', R = 32 :: R')) := by
 obtain ⟨hw, _⟩ := h.parts
 have e : sby (d + 1) S = if (S []).k = 1 then (S []).nm.data.toList
  else if (S []).k ≤ 5 then wdb (S []).k ++ (32 :: 40 :: 32 :: (rtr 16 (S []).args (S []).na 0 ++ [32, 41]))
  else if (S []).k ≤ 7 then wdb (S []).k ++ (32 :: 40 :: 32 :: (sby d (part S 0) ++ (32 :: 44 :: 32 :: (sby d (part S 1) ++ [32, 41]))))
  else wdb (S []).k ++ (32 :: 91 :: 32 :: (mtr (S []).rl (S []).rows (S []).nr 0 ++ [32, 93])) := rfl
 rw [e]
 rcases qah hw with ⟨k1, hN, _⟩ | ⟨k2, k5, hz, _⟩ | ⟨k6, k7, hz, _⟩ | ⟨k8, hz, _⟩
 ·rw [if_pos k1]
  exact ⟨_, [], by simp, (qao hN).1, .inl ⟨k1, rfl, hN.noWord, rfl⟩⟩
 ·rw [if_neg (by omega), if_pos k5]
  exact ⟨_, _, rfl, (qag k2 (by omega)).1, .inr ⟨k2, by omega, rfl, hz, _, rfl⟩⟩
 ·rw [if_neg (by omega), if_neg (by omega), if_pos k7]
  exact ⟨_, _, rfl, (qag (by omega) (by omega)).1, .inr ⟨by omega, by omega, rfl, hz, _, rfl⟩⟩
 ·rw [if_neg (by omega), if_neg (by omega), if_neg (by omega)]
  exact ⟨_, _, rfl, (qag (by omega) (by omega)).1, .inr ⟨by omega, by omega, rfl, hz, _, rfl⟩⟩
theorem sby_kind {d : Nat} {S U : St} {r s : List UInt8} (hS : MS (d + 1) S) (hU : MS (d + 1) U) (hr : Stp r) (hs : Stp s) (e : sby (d + 1) S ++ r = sby (d + 1) U ++ s) : (S []).k = (U []).k ∧ (S []).nm = (U []).nm ∧ ((S []).k = 1 → r = s) := by
 obtain ⟨W, R, e1, f1, g1⟩ := qcv hS
 obtain ⟨W', R', e2, f2, g2⟩ := qcv hU
 rw [e1, e2, List.append_assoc, List.append_assoc] at e
 have st1 : Stp (R ++ r) := by
  rcases g1 with ⟨_, _, _, rfl⟩ | ⟨_, _, _, _, q, rfl⟩
  ·exact hr
  ·exact .inr ⟨_, rfl⟩
 have st2 : Stp (R' ++ s) := by
  rcases g2 with ⟨_, _, _, rfl⟩ | ⟨_, _, _, _, q, rfl⟩
  ·exact hs
  ·exact .inr ⟨_, rfl⟩
 obtain ⟨h1, h2⟩ := qcg _ _ _ _ f1 f2 st1 st2 e
 rcases g1 with ⟨k1, w1, n1, r1⟩ | ⟨k1, k1', w1, n1, r1⟩ <;> rcases g2 with ⟨k2, w2, n2, r2⟩ | ⟨k2, k2', w2, n2, r2⟩
 ·refine ⟨by omega, by_eq (by rw [← w1, ← w2, h1]), fun _ => ?_⟩
  rw [r1, r2] at h2
  exact h2
 ·have : (S []).nm = ⟨(wdb (U []).k).toArray⟩ := by_eq (by rw [← w1, h1, w2])
  rw [this, (qag k2 k2').2.1] at n1
  cases n1
 ·have : (U []).nm = ⟨(wdb (S []).k).toArray⟩ := by_eq (by rw [← w2, ← h1, w1])
  rw [this, (qag k1 k1').2.1] at n2
  cases n2
 ·exact ⟨(qag k1 k1').2.2 _ k2 k2' (by rw [← w1, h1, w2]), by rw [n1, n2], fun h => by omega⟩
theorem qbo {d : Nat} {S : St} (h1 : (S []).k ≠ 1) (h5 : (S []).k ≤ 5) : sby (d + 1) S = wdb (S []).k ++ (32 :: 40 :: 32 :: (rtr 16 (S []).args (S []).na 0 ++ [32, 41])) := by
 show (if _ then _ else _) = _
 rw [if_neg h1, if_pos h5]
theorem qcj {d : Nat} {S : St} (h1 : 6 ≤ (S []).k) (h5 : (S []).k ≤ 7) : sby (d + 1) S = wdb (S []).k ++ (32 :: 40 :: 32 :: (sby d (part S 0) ++ (32 :: 44 :: 32 :: (sby d (part S 1) ++ [32, 41])))) := by
 show (if _ then _ else _) = _
 rw [if_neg (by omega), if_neg (by omega), if_pos h5]
theorem qbp {d : Nat} {S : St} (h1 : (S []).k = 8) : sby (d + 1) S = wdb (S []).k ++ (32 :: 91 :: 32 :: (mtr (S []).rl (S []).rows (S []).nr 0 ++ [32, 93])) := by
 show (if _ then _ else _) = _
 rw [if_neg (by omega), if_neg (by omega), if_neg (by omega)]
/-- A shape is told by its text, and where it ends. -/
theorem sby_one : ∀ (d : Nat) (S U : St) (r s : List UInt8), MS d S → MS d U → Stp r → Stp s → sby d S ++ r = sby d U ++ s → slk d S U ∧ r = s := by
 intro d
 induction d with
 | zero => intro S U r s h; obtain ⟨left, _, h⟩ := h; exact absurd h (by show ¬ (0 : Int) ≤ -1; omega)
 | succ d ih =>
  intro S U r s hS hU hr hs e
  obtain ⟨hk, hnm, hr1⟩ := sby_kind hS hU hr hs e
  obtain ⟨sw, sa, sr, sp⟩ := hS.parts
  obtain ⟨uw, ua, ur, up⟩ := hU.parts
  rcases qah sw with ⟨k1, _, a1, p1, q1⟩ | ⟨k1, k1', _, a1, p1, q1⟩ | ⟨k1, k1', _, a1, p1, q1⟩ | ⟨k1, _, a1, p1, q1⟩ <;>
   rcases qah uw with ⟨k2, _, a2, p2, q2⟩ | ⟨k2, k2', _, a2, p2, q2⟩ | ⟨k2, k2', _, a2, p2, q2⟩ | ⟨k2, _, a2, p2, q2⟩
  ·exact ⟨⟨hk, hnm, by omega, fun i hi => by omega, by omega, fun i hi => by omega, by omega, fun i hi => by omega⟩, hr1 k1⟩
  ·omega
  ·omega
  ·omega
  ·omega
  ·rw [qbo (by omega) k1', qbo (by omega) k2', hk, List.append_assoc, List.append_assoc] at e
   have e2 := List.append_cancel_left e
   have e3 : rtr 16 (S []).args (S []).na 0 ++ (32 :: 41 :: r) = rtr 16 (U []).args (U []).na 0 ++ (32 :: 41 :: s) := by
    have := List.append_cancel_left (show [32, 40, 32] ++ (rtr 16 (S []).args (S []).na 0 ++ [32, 41] ++ r) = [32, 40, 32] ++ (rtr 16 (U []).args (U []).na 0 ++ [32, 41] ++ s) from e2)
    rw [List.append_assoc, List.append_assoc] at this
    exact this
   obtain ⟨g1, g2, g3⟩ := qdt 16 _ _ _ _ 0 0 _ _ (by omega) (by omega) (fun k hk => by rw [Nat.zero_add]; exact sa k hk) (fun k hk => by rw [Nat.zero_add]; exact ua k hk) ⟨41, r, rfl, by decide⟩ ⟨41, s, rfl, by decide⟩ e3
   injection g3 with g4 g5
   injection g5 with g6 g7
   exact ⟨⟨hk, hnm, g1, fun i hi => by have := g2 i hi; rw [Nat.zero_add] at this; exact this, by omega, fun i hi => by omega, by omega, fun i hi => by omega⟩, g7⟩
  ·omega
  ·omega
  ·omega
  ·omega
  ·rw [qcj k1 k1', qcj k2 k2', hk, List.append_assoc, List.append_assoc] at e
   have e2 := List.append_cancel_left e
   have e3 : sby d (part S 0) ++ (32 :: 44 :: 32 :: (sby d (part S 1) ++ (32 :: 41 :: r))) = sby d (part U 0) ++ (32 :: 44 :: 32 :: (sby d (part U 1) ++ (32 :: 41 :: s))) := by
    have := List.append_cancel_left (show [32, 40, 32] ++ (sby d (part S 0) ++ (32 :: 44 :: 32 :: (sby d (part S 1) ++ [32, 41])) ++ r) = [32, 40, 32] ++ (sby d (part U 0) ++ (32 :: 44 :: 32 :: (sby d (part U 1) ++ [32, 41])) ++ s) from e2)
    simpa using this
   obtain ⟨g1, g2⟩ := ih _ _ _ _ (sp 0 (by omega)) (up 0 (by omega)) (.inr ⟨_, rfl⟩) (.inr ⟨_, rfl⟩) e3
   have g3 := List.append_cancel_left (show [32, 44, 32] ++ (sby d (part S 1) ++ (32 :: 41 :: r)) = [32, 44, 32] ++ (sby d (part U 1) ++ (32 :: 41 :: s)) from g2)
   obtain ⟨g4, g5⟩ := ih _ _ _ _ (sp 1 (by omega)) (up 1 (by omega)) (.inr ⟨_, rfl⟩) (.inr ⟨_, rfl⟩) g3
   injection g5 with g6 g7
   injection g7 with g8 g9
   refine ⟨⟨hk, hnm, by omega, fun i hi => by omega, by omega, fun i hi => by omega, by omega, fun i hi => ?_⟩, g9⟩
   rcases (by omega : i = 0 ∨ i = 1) with rfl | rfl
   ·exact g1
   ·exact g4
  ·omega
  ·omega
  ·omega
  ·omega
  ·rw [qbp k1, qbp k2, hk, List.append_assoc, List.append_assoc] at e
   have e2 := List.append_cancel_left e
   have e3 : mtr (S []).rl (S []).rows (S []).nr 0 ++ (32 :: 93 :: r) = mtr (U []).rl (U []).rows (U []).nr 0 ++ (32 :: 93 :: s) := by
    have := List.append_cancel_left (show [32, 91, 32] ++ (mtr (S []).rl (S []).rows (S []).nr 0 ++ [32, 93] ++ r) = [32, 91, 32] ++ (mtr (U []).rl (U []).rows (U []).nr 0 ++ [32, 93] ++ s) from e2)
    rw [List.append_assoc, List.append_assoc] at this
    exact this
   obtain ⟨g1, g2, g3⟩ := mtr_one _ _ _ _ _ _ 0 0 _ _ q1 q2 (fun k hk => by rw [Nat.zero_add]; exact ⟨(sr k hk).1, (sr k hk).2.2⟩) (fun k hk => by rw [Nat.zero_add]; exact ⟨(ur k hk).1, (ur k hk).2.2⟩) ⟨93, r, rfl, by decide, by decide⟩ ⟨93, s, rfl, by decide, by decide⟩ e3
   injection g3 with g4 g5
   injection g5 with g6 g7
   exact ⟨⟨hk, hnm, by omega, fun i hi => by omega, g1, fun i hi => by have := g2 i hi; rw [Nat.zero_add] at this; exact this, by omega, fun i hi => by omega⟩, g7⟩
open Go.RowKit
/-- The zero expression, the zero shape. -/
def ZX (T : Xt) : Prop := (T []).k = 0 ∧ (T []).n = 0 ∧ (T []).nm = ⟨#[]⟩ ∧ (T []).len = 0
def ZS (S : St) : Prop := (S []).k = 0 ∧ (S []).nm = ⟨#[]⟩ ∧ (S []).na = 0 ∧ (S []).nr = 0 ∧ (S []).np = 0
theorem ZX.like {T U : Xt} (h : ZX T) (g : ZX U) : xlk 16 T U := ⟨by rw [h.1, g.1], by rw [h.2.1, g.2.1], by rw [h.2.2.1, g.2.2.1], by rw [h.2.2.2, g.2.2.2], fun i hi => by have := h.2.2.2; omega⟩
theorem ZS.like {S U : St} (h : ZS S) (g : ZS U) : slk 16 S U := by
 obtain ⟨h1, h2, h3, h4, h5⟩ := h
 obtain ⟨g1, g2, g3, g4, g5⟩ := g
 exact ⟨by rw [h1, g1], by rw [h2, g2], by omega, fun i hi => by omega, by omega, fun i hi => by omega, by omega, fun i hi => by omega⟩
/-- An item may be. -/
def MI (I : It) : Prop :=
 (I.k = 1 ∧ I.pl = 0 ∧ NameP I.nm ∧ MX 16 I.val ∧ ZS I.shp ∧ I.nl = 0) ∨
 (I.k = 2 ∧ I.pl = 0 ∧ NameP I.nm ∧ ZX I.val ∧ MS 16 I.shp ∧ I.nl = 0) ∨
 (I.k = 3 ∧ I.pl = 0 ∧ NameP I.nm ∧ ZX I.val ∧ ZS I.shp ∧ I.nl = 0) ∨
 (I.k = 4 ∧ I.pl = 0 ∧ I.nm = ⟨#[]⟩ ∧ MX 16 I.val ∧ ZS I.shp ∧ I.nl = 0) ∨
 (I.k = 6 ∧ I.pl = 0 ∧ I.nm = ⟨#[]⟩ ∧ MX 16 I.val ∧ ZS I.shp ∧ I.nl = 0) ∨
 (I.k = 5 ∧ I.pl = 1 ∧ I.nm = ⟨#[]⟩ ∧ ZX I.val ∧ ZS I.shp ∧ I.nl = 0) ∨
 (I.k = 5 ∧ I.pl = 2 ∧ I.nm = ⟨#[]⟩ ∧ ZX I.val ∧ ZS I.shp ∧ I.nl = 0) ∨
 (I.k = 5 ∧ I.pl = 3 ∧ I.nm = ⟨#[]⟩ ∧ MX 16 I.val ∧ ZS I.shp ∧ I.nl = 0) ∨
 (I.k = 5 ∧ I.pl = 4 ∧ I.nm = ⟨#[]⟩ ∧ ZX I.val ∧ ZS I.shp ∧ (1 ≤ I.nl ∧ ∀ i, i < I.nl → MX 16 (I.list i)))
open Go.RowKit
open Go.RowKit
end Go.Proofs.YtgmndjbicandfaaDoor
