/-
  The plain mathematics of the field of 256 elements: no Go in sight. The product is 'fm'; it is that of a field; powers of 2 go round after 255.
  Choices of k of n, one after the other.
  How many choices of k of n there are.
  Sets of numbers, each as a number whose bits say what it has: how many there are, which place each has, and which one is next. No Go in sight.
  Lists of numbers in memory, of any kind of number; what stays.
  The mathematics of stage 9: bytes of a text, lines and columns, how a text is cut. No Go in sight.
  Contracts of the token's reference: letter, digit, sign, Words, Word.
  Contracts of the token's reference: Where, Fault, end, number.
  Contracts of the token's reference: Name.
  Variables of several cells; lists of tokens in memory.
  Contracts of the token's reference: Cut.
  Contracts of the token's reference: Like; Cut of a text that is too long.
  Cut whole; the program's token, as the checks use it. (Over the scratch seat: by the reference.)
-/
import Derived.Deep.RegionHeld
import Derived.Laws.BitsAllLaws
import Derived.Laws.Bits128
import Derived.IntWalk
import Derived.KernelRfl
import Derived.OpenShut
import Derived.Test.YtnjcpmkfghcogaaGreatDoorRows
import Derived.WalkKit
import Derived.WalkSpells
import Derived.WalkLawsBesides
import Derived.ProofKit
import Derived.OwnWalk
import Derived.Deep.QuietTactic
import Derived.BigQuiet
import Derived.RegionTactic
import Derived.Lib.MinMax
import Derived.Laws.Rows
import Derived.Laws.Tables
import Derived.Laws.CopyOwn
import Derived.Deep.RegionHeld
import Derived.Deep.MidRow
set_option maxRecDepth 100000
set_option maxHeartbeats 16000000
namespace Go.Proofs.YtnjcpmkfghcogaaGreatDoor
open Go.RowKit
theorem mz1 {α : Type} {l : List α} {i : Nat} (h : i < l.toArray.size) : l.toArray[i] = l[i]'(by simpa using h) := List.getElem_toArray h
theorem mz2 {α : Type} (a : α) (m : List α) (i : Nat) (h : i + 1 < (a :: m).length) : (a :: m)[i + 1] = m[i]'(Nat.lt_of_succ_lt_succ h) := List.getElem_cons_succ ..
theorem mz3 {α : Type} (a : α) (m : List α) (h : 0 < (a :: m).length) : (a :: m)[0] = a := List.getElem_cons_zero ..
theorem mz4 {α : Type} {l : List α} {i : Nat} {a : α} : l.toArray.setIfInBounds i a = (l.set i a).toArray := List.setIfInBounds_toArray ..
theorem mz5 {α : Type} {a b : α} {m : List α} : (a :: m).set 0 b = b :: m := List.set_cons_zero
theorem mz6 {α : Type} {a b : α} {m : List α} {n : Nat} : (a :: m).set (n + 1) b = a :: m.set n b := List.set_cons_succ
theorem wtkq {P : Program} {md : Region.Mode} {ops : Array Oper} {Q : Exit → Act → World → Prop} {S : World → Prop} (i : Nat) (v : Value) {oi : Oper} {fuel : Nat} {listed : Array Bool} {a : Act} {w : World} (hi : ops[i]? = some oi)
    (hb : (Region.noSelect ops && (Region.free md ops listed i && (Region.ready md ops listed).contains i)) = true)
    (hQ : ∀ c a w, Q (.panic c) (a.put oi.dst v) w → Q (.panic c) a w) (hg : Region.wanted oi (yielded ops a.tmps) = true) (hy : ∀ w, S w → (execOp a.eval oi).run P w = .ok (.value v) w) (hS : S w)
    (h : wpAnyH P md ops Q S fuel (listed.setIfInBounds i true) (a.put oi.dst v) w) : wpAnyH P md ops Q S (fuel + 1) listed a w := by
  simp only [Bool.and_eq_true] at hb
  exact wpAnyH_take (i := i) (v := v) hi hb.1 hb.2.1 hb.2.2 hQ (Or.inl ⟨hg, hy⟩) hS h
theorem wskq {P : Program} {md : Region.Mode} {ops : Array Oper} {Q : Exit → Act → World → Prop} {S : World → Prop} (i : Nat) {oi : Oper} {fuel : Nat} {listed : Array Bool} {a : Act} {w : World} (hi : ops[i]? = some oi)
    (hb : (Region.noSelect ops && (Region.free md ops listed i && (Region.ready md ops listed).contains i)) = true)
    (hQ : ∀ c a w, Q (.panic c) (a.put oi.dst undef) w → Q (.panic c) a w) (hg : Region.wanted oi (yielded ops a.tmps) = false) (hS : S w)
    (h : wpAnyH P md ops Q S fuel (listed.setIfInBounds i true) (a.put oi.dst undef) w) : wpAnyH P md ops Q S (fuel + 1) listed a w := by
  simp only [Bool.and_eq_true] at hb
  exact wpAnyH_take (i := i) (v := undef) hi hb.1 hb.2.1 hb.2.2 hQ (Or.inr ⟨hg, rfl⟩) hS h
open Go Go.RowKit

def dbl (a : Nat) : Nat := 2 * a ^^^ 285 * (a / 128)
def sm : Nat → Nat → Nat → Nat
 | 0, _, _ => 0
 | n + 1, a, b => (b % 2 * a) ^^^ sm n (dbl a) (b / 2)
def allB (f : Nat → Bool) : Nat → Bool
 | 0 => true
 | n + 1 => f n && allB f n
theorem allB_at {f : Nat → Bool} {n : Nat} (h : allB f n = true) : ∀ k, k < n → f k = true := by
 induction n with
 | zero => intro k hk; omega
 | succ n ih =>
  intro k hk
  simp only [allB, Bool.and_eq_true] at h
  by_cases e : k = n
  ·subst e; exact h.1
  ·exact ih h.2 k (by omega)

/-! ### Powers of 2 -/
def g : Nat → Nat
 | 0 => 1
 | n + 1 => dbl (g n)
/-! ### The same, over Int, as a walk has it -/
/-! ### The reference's product: the product of the polynomials, and its remainder -/
def cl (a b : Nat) : Nat → Nat
 | 0 => 0
 | k + 1 => cl a b k ^^^ (b / 2 ^ k % 2 * (a * 2 ^ k))
theorem alike {F G : Nat → Nat} (hF : ∀ x y, F (x ^^^ y) = F x ^^^ F y) (hG : ∀ x y, G (x ^^^ y) = G x ^^^ G y) (h : ∀ k, k < 8 → F (2 ^ k) = G (2 ^ k)) : ∀ b, b < 256 → F b = G b := by
 have z : ∀ {F : Nat → Nat}, (∀ x y, F (x ^^^ y) = F x ^^^ F y) → F 0 = 0 := by
  intro F hF
  have := hF 0 0
  simpa using this
 have up : ∀ n b, n ≤ 8 → F (cl 1 b n) = G (cl 1 b n) := by
  intro n b
  induction n with
  | zero => intro _; simp only [cl]; rw [z hF, z hG]
  | succ n ih =>
   intro hn
   simp only [cl]
   rw [hF, hG, ih (by omega)]
   have hc : b / 2 ^ n % 2 = 0 ∨ b / 2 ^ n % 2 = 1 := by omega
   rcases hc with hc | hc <;> rw [hc]
   ·rw [Nat.zero_mul, z hF, z hG]
   ·rw [Nat.one_mul, Nat.one_mul, h n (by omega)]
 intro b hb
 have d : allB (fun b => Nat.beq (cl 1 b 8) b) 256 = true := by kernel_rfl
 have e := allB_at d b hb
 simp only [Nat.beq_eq] at e
 have := up 8 b (by omega)
 rwa [e] at this
def vl (n : Nat) (q : Nat → Nat) : Nat → Nat
 | 0 => 0
 | k + 1 => vl n q k * n + q k
end Go.Proofs.YtnjcpmkfghcogaaGreatDoor

namespace Go.Proofs.YtnjcpmkfghcogaaGreatDoor
def bt (s i : Nat) : Nat := s / 2 ^ i % 2
def cn : Nat → Nat → Nat
 | _, 0 => 0
 | s, l + 1 => s % 2 + cn (s / 2) l
def nx : Nat → Nat → Option Nat
 | _, 0 => none
 | s, l + 1 => match nx (s / 2) l with
  | some u => some (s % 2 + 2 * u)
  | none => if s % 2 = 1 ∧ cn (s / 2) l < l then some (2 * (2 ^ (cn (s / 2) l + 1) - 1)) else none
open Go.RowKit
theorem qdz {w : World} {b o : Nat} {v : Value} (h : w.cell? ⟨b, o, none⟩ = some v) : b < w.heap.size := by
 by_cases hb : b < w.heap.size
 ·exact hb
 ·simp [World.cell?, hb] at h
theorem jtwo {w w1 w2 : World} (h1 : Below w.heap.size w w1) (h2 : Below w1.heap.size w1 w2) : Below w.heap.size w w2 := h1.trans (h2.mono h1.size)
theorem jlow (w : World) (o : Obj) : Below w.heap.size w (w.alloc o) := (Below.refl _ _).alloc (Nat.le_refl _) _
theorem jgrown {w w' : World} : w.grownBy w' none ↔ Below w.heap.size w w' :=
 ⟨fun h => ⟨h.os, h.tape, h.output, h.size, fun k hk => h.block k hk (by simp)⟩, fun h => ⟨h.os, h.tape, h.output, h.size, fun k hk _ => h.block k hk⟩⟩
theorem jbelow {w w' : World} {B : Nat} {row : Option Nat} (h : w.grownBy w' row) (hB : B ≤ w.heap.size) (hr : ∀ g, row = some g → B ≤ g) : Below B w w' :=
 ⟨h.os, h.tape, h.output, h.size, fun k hk => h.block k (by omega) (fun e => by have := hr k e.symm; omega)⟩
def tb (s : ByteArray) (i : Nat) : Nat := if h : i < s.size then s[i].toNat else 0
theorem qca {s : ByteArray} {i : Nat} (h : i < s.size) : s[i].toNat = tb s i := by unfold tb; rw [dif_pos h]
theorem qem (s : ByteArray) (i : Nat) : tb s i < 256 := by
 unfold tb
 split
 ·exact UInt8.toNat_lt _
 ·omega
def isL (c : Nat) : Bool := decide (97 ≤ c ∧ c ≤ 122)
def isD (c : Nat) : Bool := decide (48 ≤ c ∧ c ≤ 57)
def sgs : List Nat := [61, 59, 44, 40, 41, 91, 93, 43, 45, 42, 47, 37]
def isS (c : Nat) : Bool := sgs.contains c
def isB (c : Nat) : Bool := decide (c = 32 ∨ c = 9 ∨ c = 10)
theorem qbb {c : Nat} : isL c = true ↔ 97 ≤ c ∧ c ≤ 122 := by unfold isL; exact decide_eq_true_iff
theorem qb5 {c : Nat} : isD c = true ↔ 48 ≤ c ∧ c ≤ 57 := by unfold isD; exact decide_eq_true_iff
theorem qe6 {c : Nat} : isB c = true ↔ c = 32 ∨ c = 9 ∨ c = 10 := by unfold isB; exact decide_eq_true_iff
theorem qdq {c : Nat} : isS c = true ↔ c = 61 ∨ c = 59 ∨ c = 44 ∨ c = 40 ∨ c = 41 ∨ c = 91 ∨ c = 93 ∨ c = 43 ∨ c = 45 ∨ c = 42 ∨ c = 47 ∨ c = 37 := by
 unfold isS sgs
 simp
def lnn (s : ByteArray) : Nat → Nat
 | 0 => 1
 | p + 1 => if tb s p = 10 then lnn s p + 1 else lnn s p
def cln (s : ByteArray) : Nat → Nat
 | 0 => 1
 | p + 1 => if tb s p = 10 then 1 else cln s p + 1
theorem qct (s : ByteArray) (p : Nat) : lnn s (p + 1) = if tb s p = 10 then lnn s p + 1 else lnn s p := rfl
theorem qcu (s : ByteArray) (p : Nat) : cln s (p + 1) = if tb s p = 10 then 1 else cln s p + 1 := rfl
theorem qco (s : ByteArray) : ∀ p, 1 ≤ lnn s p ∧ lnn s p ≤ p + 1 := by
 intro p
 induction p with
 | zero => exact ⟨Nat.le_refl _, Nat.le_refl _⟩
 | succ p ih => unfold lnn; split <;> omega
theorem qcb (s : ByteArray) : ∀ p, 1 ≤ cln s p ∧ cln s p ≤ p + 1 := by
 intro p
 induction p with
 | zero => exact ⟨Nat.le_refl _, Nat.le_refl _⟩
 | succ p ih => unfold cln; split <;> omega
theorem qie {s : ByteArray} {p : Nat} : ∀ k, (∀ j, p ≤ j → j < p + k → tb s j ≠ 10) → lnn s (p + k) = lnn s p ∧ cln s (p + k) = cln s p + k := by
 intro k
 induction k with
 | zero => intro _; exact ⟨rfl, rfl⟩
 | succ k ih =>
  intro h
  obtain ⟨h1, h2⟩ := ih (fun j a b => h j a (by omega))
  have h3 := h (p + k) (by omega) (by omega)
  rw [← Nat.add_assoc]
  rw [qct, qcu, if_neg h3, if_neg h3]
  exact ⟨h1, by rw [h2, Nat.add_assoc]⟩
structure Ends (s : ByteArray) (lt : Bool) (p e : Nat) : Prop where
 le : p ≤ e
 fits : e ≤ s.size
 all : ∀ j, p ≤ j → j < e → (isD (tb s j) || lt && isL (tb s j)) = true
 stop : e < s.size → (isD (tb s e) || lt && isL (tb s e)) = false
theorem Ends.one {s : ByteArray} {lt : Bool} {p e d : Nat} (h : Ends s lt p e) (g : Ends s lt p d) : e = d := by
 rcases Nat.lt_trichotomy e d with x | x | x
 ·have h1 := g.all e h.le x
  have h2 := h.stop (by have := g.fits; omega)
  rw [h1] at h2
  cases h2
 ·exact x
 ·have h1 := h.all d g.le x
  have h2 := g.stop (by have := h.fits; omega)
  rw [h1] at h2
  cases h2
theorem qif (s : ByteArray) (lt : Bool) : ∀ k p, p + k = s.size → ∃ e, Ends s lt p e := by
 intro k
 induction k with
 | zero => intro p h; exact ⟨p, Nat.le_refl _, by omega, fun j a b => by omega, fun x => by omega⟩
 | succ k ih =>
  intro p h
  cases hc : (isD (tb s p) || lt && isL (tb s p)) with
  | false => exact ⟨p, Nat.le_refl _, by omega, fun j a b => by omega, fun _ => hc⟩
  | true =>
   obtain ⟨e, h1, h2, h3, h4⟩ := ih (p + 1) (by omega)
   refine ⟨e, by omega, h2, fun j a b => ?_, h4⟩
   by_cases e : j = p
   ·rw [e]; exact hc
   ·exact h3 j (by omega) b
def nvl (s : ByteArray) (p : Nat) : Nat → Nat
 | 0 => 0
 | k + 1 => 10 * nvl s p k + (tb s (p + k) - 48)
def NumOk (s : ByteArray) (p e : Nat) : Prop := ¬ (tb s p = 48 ∧ 1 < e - p) ∧ nvl s p (e - p) ≤ 2147483647
def wds : List ByteArray := [⟨#[99, 111, 100, 101]⟩, ⟨#[99, 111, 110, 115, 116]⟩, ⟨#[99, 114, 111, 115, 115]⟩, ⟨#[100, 111, 109, 97, 105, 110, 115]⟩, ⟨#[106, 111, 105, 110]⟩, ⟨#[108, 105, 115, 116]⟩, ⟨#[108, 111, 99, 97, 108]⟩, ⟨#[109, 97, 116, 114, 105, 120]⟩, ⟨#[112, 108, 97, 99, 101]⟩, ⟨#[112, 114, 111, 100, 117, 99, 116]⟩, ⟨#[112, 121, 114, 97, 109, 105, 100]⟩, ⟨#[114, 101, 101, 100]⟩, ⟨#[114, 111, 119]⟩, ⟨#[115, 112, 105, 114, 97, 108]⟩, ⟨#[115, 112, 114, 101, 97, 100]⟩, ⟨#[116, 111, 108, 101, 114, 97, 116, 101]⟩, ⟨#[117, 115, 101]⟩]
def isW (x : ByteArray) : Bool := decide (x.data ∈ wds.map ByteArray.data)
theorem qf0 {x : ByteArray} : isW x = true ↔ x ∈ wds := by
 unfold isW
 rw [decide_eq_true_iff, List.mem_map]
 constructor
 ·rintro ⟨y, hy, e⟩
  obtain ⟨z⟩ := y
  obtain ⟨u⟩ := x
  cases e
  exact hy
 ·intro h
  exact ⟨x, h, rfl⟩
theorem qhq {x y : ByteArray} (h : y ≠ x) : (y.toList == x.toList) = false := by
 rw [ByteArray.toList_eq, ByteArray.toList_eq]
 cases hc : y.data.toList == x.data.toList with
 | false => rfl
 | true =>
  have e : y.data.toList = x.data.toList := by simpa using hc
  obtain ⟨z⟩ := y
  obtain ⟨u⟩ := x
  exact absurd (congrArg ByteArray.mk (Array.toList_inj.1 e)) h
structure NameP (x : ByteArray) : Prop where
 pos : 1 ≤ x.size
 most : x.size ≤ 16
 first : isL (tb x 0) = true
 noWord : isW x = false
 all : ∀ j, j < x.size → (isL (tb x j) || isD (tb x j)) = true
structure Tk where
 kind : Nat
 lo : Nat
 hi : Nat
 num : Nat
def CutF (s : ByteArray) : Nat → Nat → List Tk → Nat → Nat → Prop
 | 0, _, _, _, _ => False
 | f + 1, p, L, E, a =>
  (p = s.size ∧ L = [] ∧ E = 0 ∧ a = 0) ∨
  (p < s.size ∧ isB (tb s p) = true ∧ CutF s f (p + 1) L E a) ∨
  (∃ e, p < e ∧ e ≤ s.size ∧ tb s p = 35 ∧ (∀ j, p ≤ j → j < e → tb s j ≠ 10) ∧ (e < s.size → tb s e = 10) ∧ CutF s f e L E a) ∨
  (∃ e L', p < s.size ∧ isL (tb s p) = true ∧ Ends s true p e ∧ isW (s.extract p e) = true ∧ CutF s f e L' E a ∧ L = ⟨2, p, e, 0⟩ :: L') ∨
  (∃ e L', p < s.size ∧ isL (tb s p) = true ∧ Ends s true p e ∧ isW (s.extract p e) = false ∧ e - p ≤ 16 ∧ CutF s f e L' E a ∧ L = ⟨1, p, e, 0⟩ :: L') ∨
  (∃ e, p < s.size ∧ isL (tb s p) = true ∧ Ends s true p e ∧ isW (s.extract p e) = false ∧ 16 < e - p ∧ L = [] ∧ E = 90 ∧ p = a) ∨
  (∃ e L', p < s.size ∧ isD (tb s p) = true ∧ Ends s false p e ∧ NumOk s p e ∧ (e < s.size → isL (tb s e) = false) ∧ CutF s f e L' E a ∧ L = ⟨3, p, e, nvl s p (e - p)⟩ :: L') ∨
  (∃ e, p < s.size ∧ isD (tb s p) = true ∧ Ends s false p e ∧ ¬ NumOk s p e ∧ L = [] ∧ E = 90 ∧ p = a) ∨
  (∃ e, p < s.size ∧ isD (tb s p) = true ∧ Ends s false p e ∧ NumOk s p e ∧ e < s.size ∧ isL (tb s e) = true ∧ L = [] ∧ E = 90 ∧ e = a) ∨
  (∃ L', p < s.size ∧ isS (tb s p) = true ∧ CutF s f (p + 1) L' E a ∧ L = ⟨4, p, p + 1, 0⟩ :: L') ∨
  (p < s.size ∧ isB (tb s p) = false ∧ tb s p ≠ 35 ∧ isL (tb s p) = false ∧ isD (tb s p) = false ∧ isS (tb s p) = false ∧ L = [] ∧ E = 90 ∧ p = a)
def Cuts (s : ByteArray) (p : Nat) (L : List Tk) (E a : Nat) : Prop := ∃ f, CutF s f p L E a
theorem Cuts.done {s : ByteArray} {p : Nat} (h : p = s.size) : Cuts s p [] 0 0 := ⟨1, .inl ⟨h, rfl, rfl, rfl⟩⟩
theorem Cuts.skip {s : ByteArray} {p E a : Nat} {L : List Tk} (h1 : p < s.size) (h2 : isB (tb s p) = true) (h : Cuts s (p + 1) L E a) : Cuts s p L E a := by
 obtain ⟨f, h⟩ := h
 exact ⟨f + 1, .inr (.inl ⟨h1, h2, h⟩)⟩
theorem Cuts.rem {s : ByteArray} {p e E a : Nat} {L : List Tk} (h1 : p < e) (h2 : e ≤ s.size) (h3 : tb s p = 35) (h4 : ∀ j, p ≤ j → j < e → tb s j ≠ 10) (h5 : e < s.size → tb s e = 10) (h : Cuts s e L E a) : Cuts s p L E a := by
 obtain ⟨f, h⟩ := h
 exact ⟨f + 1, .inr (.inr (.inl ⟨e, h1, h2, h3, h4, h5, h⟩))⟩
theorem Cuts.word {s : ByteArray} {p e E a : Nat} {L : List Tk} (h1 : p < s.size) (h2 : isL (tb s p) = true) (h3 : Ends s true p e) (h4 : isW (s.extract p e) = true) (h : Cuts s e L E a) : Cuts s p (⟨2, p, e, 0⟩ :: L) E a := by
 obtain ⟨f, h⟩ := h
 exact ⟨f + 1, .inr (.inr (.inr (.inl ⟨e, L, h1, h2, h3, h4, h, rfl⟩)))⟩
theorem Cuts.name {s : ByteArray} {p e E a : Nat} {L : List Tk} (h1 : p < s.size) (h2 : isL (tb s p) = true) (h3 : Ends s true p e) (h4 : isW (s.extract p e) = false) (h5 : e - p ≤ 16) (h : Cuts s e L E a) : Cuts s p (⟨1, p, e, 0⟩ :: L) E a := by
 obtain ⟨f, h⟩ := h
 exact ⟨f + 1, .inr (.inr (.inr (.inr (.inl ⟨e, L, h1, h2, h3, h4, h5, h, rfl⟩))))⟩
theorem Cuts.long {s : ByteArray} {p e : Nat} (h1 : p < s.size) (h2 : isL (tb s p) = true) (h3 : Ends s true p e) (h4 : isW (s.extract p e) = false) (h5 : 16 < e - p) : Cuts s p [] 90 p :=
 ⟨1, .inr (.inr (.inr (.inr (.inr (.inl ⟨e, h1, h2, h3, h4, h5, rfl, rfl, rfl⟩)))))⟩
theorem Cuts.num {s : ByteArray} {p e E a : Nat} {L : List Tk} (h1 : p < s.size) (h2 : isD (tb s p) = true) (h3 : Ends s false p e) (h4 : NumOk s p e) (h5 : e < s.size → isL (tb s e) = false) (h : Cuts s e L E a) : Cuts s p (⟨3, p, e, nvl s p (e - p)⟩ :: L) E a := by
 obtain ⟨f, h⟩ := h
 exact ⟨f + 1, .inr (.inr (.inr (.inr (.inr (.inr (.inl ⟨e, L, h1, h2, h3, h4, h5, h, rfl⟩))))))⟩
theorem Cuts.numX {s : ByteArray} {p e : Nat} (h1 : p < s.size) (h2 : isD (tb s p) = true) (h3 : Ends s false p e) (h4 : ¬ NumOk s p e) : Cuts s p [] 90 p :=
 ⟨1, .inr (.inr (.inr (.inr (.inr (.inr (.inr (.inl ⟨e, h1, h2, h3, h4, rfl, rfl, rfl⟩)))))))⟩
theorem Cuts.numL {s : ByteArray} {p e : Nat} (h1 : p < s.size) (h2 : isD (tb s p) = true) (h3 : Ends s false p e) (h4 : NumOk s p e) (h5 : e < s.size) (h6 : isL (tb s e) = true) : Cuts s p [] 90 e :=
 ⟨1, .inr (.inr (.inr (.inr (.inr (.inr (.inr (.inr (.inl ⟨e, h1, h2, h3, h4, h5, h6, rfl, rfl, rfl⟩))))))))⟩
theorem Cuts.sign {s : ByteArray} {p E a : Nat} {L : List Tk} (h1 : p < s.size) (h2 : isS (tb s p) = true) (h : Cuts s (p + 1) L E a) : Cuts s p (⟨4, p, p + 1, 0⟩ :: L) E a := by
 obtain ⟨f, h⟩ := h
 exact ⟨f + 1, .inr (.inr (.inr (.inr (.inr (.inr (.inr (.inr (.inr (.inl ⟨L, h1, h2, h, rfl⟩)))))))))⟩
theorem Cuts.bad {s : ByteArray} {p : Nat} (h1 : p < s.size) (h2 : isB (tb s p) = false) (h3 : tb s p ≠ 35) (h4 : isL (tb s p) = false) (h5 : isD (tb s p) = false) (h6 : isS (tb s p) = false) : Cuts s p [] 90 p :=
 ⟨1, .inr (.inr (.inr (.inr (.inr (.inr (.inr (.inr (.inr (.inr ⟨h1, h2, h3, h4, h5, h6, rfl, rfl, rfl⟩)))))))))⟩
theorem Cuts.inv {s : ByteArray} {p E a : Nat} {L : List Tk} (h : Cuts s p L E a) :
  (p = s.size ∧ L = [] ∧ E = 0 ∧ a = 0) ∨
  (p < s.size ∧ isB (tb s p) = true ∧ Cuts s (p + 1) L E a) ∨
  (∃ e, p < e ∧ e ≤ s.size ∧ tb s p = 35 ∧ (∀ j, p ≤ j → j < e → tb s j ≠ 10) ∧ (e < s.size → tb s e = 10) ∧ Cuts s e L E a) ∨
  (∃ e L', p < s.size ∧ isL (tb s p) = true ∧ Ends s true p e ∧ isW (s.extract p e) = true ∧ Cuts s e L' E a ∧ L = ⟨2, p, e, 0⟩ :: L') ∨
  (∃ e L', p < s.size ∧ isL (tb s p) = true ∧ Ends s true p e ∧ isW (s.extract p e) = false ∧ e - p ≤ 16 ∧ Cuts s e L' E a ∧ L = ⟨1, p, e, 0⟩ :: L') ∨
  (∃ e, p < s.size ∧ isL (tb s p) = true ∧ Ends s true p e ∧ isW (s.extract p e) = false ∧ 16 < e - p ∧ L = [] ∧ E = 90 ∧ p = a) ∨
  (∃ e L', p < s.size ∧ isD (tb s p) = true ∧ Ends s false p e ∧ NumOk s p e ∧ (e < s.size → isL (tb s e) = false) ∧ Cuts s e L' E a ∧ L = ⟨3, p, e, nvl s p (e - p)⟩ :: L') ∨
  (∃ e, p < s.size ∧ isD (tb s p) = true ∧ Ends s false p e ∧ ¬ NumOk s p e ∧ L = [] ∧ E = 90 ∧ p = a) ∨
  (∃ e, p < s.size ∧ isD (tb s p) = true ∧ Ends s false p e ∧ NumOk s p e ∧ e < s.size ∧ isL (tb s e) = true ∧ L = [] ∧ E = 90 ∧ e = a) ∨
  (∃ L', p < s.size ∧ isS (tb s p) = true ∧ Cuts s (p + 1) L' E a ∧ L = ⟨4, p, p + 1, 0⟩ :: L') ∨
  (p < s.size ∧ isB (tb s p) = false ∧ tb s p ≠ 35 ∧ isL (tb s p) = false ∧ isD (tb s p) = false ∧ isS (tb s p) = false ∧ L = [] ∧ E = 90 ∧ p = a) := by
 obtain ⟨f, h⟩ := h
 cases f with
 | zero => exact h.elim
 | succ f =>
  rcases h with h | ⟨h1, h2, h⟩ | ⟨e, h1, h2, h3, h4, h5, h⟩ | ⟨e, L', h1, h2, h3, h4, h, hl⟩ | ⟨e, L', h1, h2, h3, h4, h5, h, hl⟩ | h | ⟨e, L', h1, h2, h3, h4, h5, h, hl⟩ | h | h | ⟨L', h1, h2, h, hl⟩ | h
  ·exact .inl h
  ·exact .inr (.inl ⟨h1, h2, f, h⟩)
  ·exact .inr (.inr (.inl ⟨e, h1, h2, h3, h4, h5, f, h⟩))
  ·exact .inr (.inr (.inr (.inl ⟨e, L', h1, h2, h3, h4, ⟨f, h⟩, hl⟩)))
  ·exact .inr (.inr (.inr (.inr (.inl ⟨e, L', h1, h2, h3, h4, h5, ⟨f, h⟩, hl⟩))))
  ·exact .inr (.inr (.inr (.inr (.inr (.inl h)))))
  ·exact .inr (.inr (.inr (.inr (.inr (.inr (.inl ⟨e, L', h1, h2, h3, h4, h5, ⟨f, h⟩, hl⟩))))))
  ·exact .inr (.inr (.inr (.inr (.inr (.inr (.inr (.inl h)))))))
  ·exact .inr (.inr (.inr (.inr (.inr (.inr (.inr (.inr (.inl h))))))))
  ·exact .inr (.inr (.inr (.inr (.inr (.inr (.inr (.inr (.inr (.inl ⟨L', h1, h2, ⟨f, h⟩, hl⟩)))))))))
  ·exact .inr (.inr (.inr (.inr (.inr (.inr (.inr (.inr (.inr (.inr h)))))))))
theorem Cuts.ind {s : ByteArray} {M : Nat → List Tk → Nat → Nat → Prop}
  (done : ∀ p, p = s.size → M p [] 0 0)
  (skip : ∀ p L E a, p < s.size → isB (tb s p) = true → M (p + 1) L E a → M p L E a)
  (rem : ∀ p e L E a, p < e → e ≤ s.size → M e L E a → M p L E a)
  (word : ∀ p e L E a, p < s.size → isL (tb s p) = true → Ends s true p e → isW (s.extract p e) = true → M e L E a → M p (⟨2, p, e, 0⟩ :: L) E a)
  (name : ∀ p e L E a, p < s.size → isL (tb s p) = true → Ends s true p e → isW (s.extract p e) = false → e - p ≤ 16 → M e L E a → M p (⟨1, p, e, 0⟩ :: L) E a)
  (num : ∀ p e L E a, p < s.size → isD (tb s p) = true → Ends s false p e → NumOk s p e → M e L E a → M p (⟨3, p, e, nvl s p (e - p)⟩ :: L) E a)
  (sign : ∀ p L E a, p < s.size → isS (tb s p) = true → M (p + 1) L E a → M p (⟨4, p, p + 1, 0⟩ :: L) E a)
  (fault : ∀ p a, p < s.size → M p [] 90 a) : ∀ {p : Nat} {L : List Tk} {E a : Nat}, Cuts s p L E a → M p L E a := by
 intro p L E a h
 obtain ⟨f, h⟩ := h
 induction f generalizing p L E a with
 | zero => exact h.elim
 | succ f ih =>
  rcases h with ⟨h1, rfl, rfl, rfl⟩ | ⟨h1, h2, h⟩ | ⟨e, h1, h2, h3, h4, h5, h⟩ | ⟨e, L', h1, h2, h3, h4, h, rfl⟩ | ⟨e, L', h1, h2, h3, h4, h5, h, rfl⟩ | ⟨e, h1, _, _, _, _, rfl, rfl, _⟩ | ⟨e, L', h1, h2, h3, h4, h5, h, rfl⟩ | ⟨e, h1, _, _, _, rfl, rfl, _⟩ | ⟨e, h1, _, _, _, _, _, rfl, rfl, _⟩ | ⟨L', h1, h2, h, rfl⟩ | ⟨h1, _, _, _, _, _, rfl, rfl, _⟩
  ·exact done p h1
  ·exact skip p L E a h1 h2 (ih h)
  ·exact rem p e L E a h1 h2 (ih h)
  ·exact word p e L' E a h1 h2 h3 h4 (ih h)
  ·exact name p e L' E a h1 h2 h3 h4 h5 (ih h)
  ·exact fault p a h1
  ·exact num p e L' E a h1 h2 h3 h4 (ih h)
  ·exact fault p a h1
  ·exact fault p a h1
  ·exact sign p L' E a h1 h2 (ih h)
  ·exact fault p a h1
theorem rem_ex (s : ByteArray) : ∀ k p, p + k = s.size → ∃ e, p ≤ e ∧ e ≤ s.size ∧ (∀ j, p ≤ j → j < e → tb s j ≠ 10) ∧ (e < s.size → tb s e = 10) := by
 intro k
 induction k with
 | zero => intro p h; exact ⟨p, Nat.le_refl _, by omega, fun j a b => by omega, fun x => by omega⟩
 | succ k ih =>
  intro p h
  by_cases hc : tb s p = 10
  ·exact ⟨p, Nat.le_refl _, by omega, fun j a b => by omega, fun _ => hc⟩
  ·obtain ⟨e, h1, h2, h3, h4⟩ := ih (p + 1) (by omega)
   refine ⟨e, by omega, h2, fun j a b => ?_, h4⟩
   by_cases e : j = p
   ·rw [e]; exact hc
   ·exact h3 j (by omega) b
theorem Ends.more {s : ByteArray} {lt : Bool} {p e : Nat} (h : Ends s lt p e) (hp : p < s.size) (hc : (isD (tb s p) || lt && isL (tb s p)) = true) : p < e := by
 rcases Nat.lt_or_ge p e with x | x
 ·exact x
 ·have : p = e := by have := h.le; omega
  subst this
  rw [h.stop hp] at hc
  cases hc
theorem cut_ex (s : ByteArray) : ∀ k p, p + k = s.size → ∃ L E a, Cuts s p L E a := by
 intro k
 induction k using Nat.strongRecOn with
 | _ k ih =>
  intro p hk
  by_cases h0 : k = 0
  ·exact ⟨_, _, _, .done (by omega)⟩
  ·have hp : p < s.size := by omega
   have go : ∀ e, p < e → e ≤ s.size → ∃ L E a, Cuts s e L E a := fun e h1 h2 => ih (s.size - e) (by omega) e (by omega)
   cases hB : isB (tb s p) with
   | true =>
    obtain ⟨L, E, a, h⟩ := go (p + 1) (by omega) (by omega)
    exact ⟨_, _, _, .skip hp hB h⟩
   | false =>
    by_cases hR : tb s p = 35
    ·obtain ⟨e, h1, h2, h3, h4⟩ := rem_ex s (s.size - p) p (by omega)
     have hpe : p < e := by
      rcases Nat.lt_or_ge p e with x | x
      ·exact x
      ·have : p = e := by omega
       subst this
       have := h4 hp
       omega
     obtain ⟨L, E, a, h⟩ := go e hpe h2
     exact ⟨_, _, _, .rem hpe h2 hR h3 h4 h⟩
    ·cases hL : isL (tb s p) with
     | true =>
      obtain ⟨e, he⟩ := qif s true (s.size - p) p (by omega)
      have hpe := he.more hp (by rw [hL]; simp)
      obtain ⟨L, E, a, h⟩ := go e hpe he.fits
      cases hw : isW (s.extract p e) with
      | true => exact ⟨_, _, _, .word hp hL he hw h⟩
      | false =>
       by_cases h16 : e - p ≤ 16
       ·exact ⟨_, _, _, .name hp hL he hw h16 h⟩
       ·exact ⟨_, _, _, .long hp hL he hw (by omega)⟩
     | false =>
      cases hD : isD (tb s p) with
      | true =>
       obtain ⟨e, he⟩ := qif s false (s.size - p) p (by omega)
       have hpe := he.more hp (by rw [hD]; rfl)
       obtain ⟨L, E, a, h⟩ := go e hpe he.fits
       by_cases hn : NumOk s p e
       ·by_cases hl : e < s.size ∧ isL (tb s e) = true
        ·exact ⟨_, _, _, .numL hp hD he hn hl.1 hl.2⟩
        ·refine ⟨_, _, _, .num hp hD he hn (fun x => ?_) h⟩
         cases hx : isL (tb s e) with
         | false => rfl
         | true => exact absurd ⟨x, hx⟩ hl
       ·exact ⟨_, _, _, .numX hp hD he hn⟩
      | false =>
       cases hS : isS (tb s p) with
       | true =>
        obtain ⟨L, E, a, h⟩ := go (p + 1) (by omega) (by omega)
        exact ⟨_, _, _, .sign hp hS h⟩
       | false => exact ⟨_, _, _, .bad hp hB hR hL hD hS⟩
open Go.RowKit
theorem qa0 {p : Prop} (h : p) : Hid p := h
theorem isL_t {c : Nat} (h : 97 ≤ c ∧ c ≤ 122) : isL c = true := qbb.2 h
theorem qig {c : Nat} (h : ¬ (97 ≤ c ∧ c ≤ 122)) : isL c = false := by unfold isL; exact decide_eq_false h
theorem isD_t {c : Nat} (h : 48 ≤ c ∧ c ≤ 57) : isD c = true := qb5.2 h
theorem isD_f {c : Nat} (h : ¬ (48 ≤ c ∧ c ≤ 57)) : isD c = false := by unfold isD; exact decide_eq_false h
theorem qg8 (w : World) (c : Nat) (hc : c < 256) : Calls Tryz.prog 63 #[.int .u8 (c : Int)] w fun e w' => e = .returned (.bool (isL c)) ∧ w = w' := by
 by_cases h1 : 97 ≤ c
 ·by_cases h2 : c ≤ 122
  ·rw [isL_t ⟨h1, h2⟩]
   have q : decide ((c : Int) ≤ 122) = true := decide_eq_true (by omega)
   go_enter Tryz.func63, Tryz.ntmps63
   go_wp2
   go_ret
   exact ⟨rfl, rfl⟩
  ·rw [qig (fun h => h2 h.2)]
   have q : decide ((c : Int) ≤ 122) = false := decide_eq_false (by omega)
   go_enter Tryz.func63, Tryz.ntmps63
   go_wp2
   go_ret
   exact ⟨rfl, rfl⟩
 ·rw [qig (fun h => h1 h.1)]
  go_enter Tryz.func63, Tryz.ntmps63
  go_wp2
  go_ret
  exact ⟨rfl, rfl⟩
theorem qhr (w : World) (c : Nat) (hc : c < 256) : Calls Tryz.prog 68 #[.int .u8 (c : Int)] w fun e w' => e = .returned (.bool (isD c)) ∧ w = w' := by
 by_cases h1 : 48 ≤ c
 ·by_cases h2 : c ≤ 57
  ·rw [isD_t ⟨h1, h2⟩]
   have q : decide ((c : Int) ≤ 57) = true := decide_eq_true (by omega)
   go_enter Tryz.func68, Tryz.ntmps68
   go_wp2
   go_ret
   exact ⟨rfl, rfl⟩
  ·rw [isD_f (fun h => h2 h.2)]
   have q : decide ((c : Int) ≤ 57) = false := decide_eq_false (by omega)
   go_enter Tryz.func68, Tryz.ntmps68
   go_wp2
   go_ret
   exact ⟨rfl, rfl⟩
 ·rw [isD_f (fun h => h1 h.1)]
  go_enter Tryz.func68, Tryz.ntmps68
  go_wp2
  go_ret
  exact ⟨rfl, rfl⟩
def sgB : ByteArray := ⟨#[61, 59, 44, 40, 41, 91, 93, 43, 45, 42, 47, 37]⟩
theorem sg_at : ∀ i, i < 12 → tb sgB i = sgs.getD i 0 := by decide
theorem qih : sgs.length = 12 := rfl
theorem isS_at {i c : Nat} (hi : i < 12) (h : sgs.getD i 0 = c) : isS c = true := by
 unfold isS
 rw [List.contains_iff_mem, ← h, List.getD_eq_getElem?_getD, List.getElem?_eq_getElem (by rw [qih]; exact hi)]
 exact List.getElem_mem _
theorem isS_not {c : Nat} (h : ∀ i, i < 12 → sgs.getD i 0 ≠ c) : isS c = false := by
 cases hc : isS c with
 | false => rfl
 | true =>
  unfold isS at hc
  rw [List.contains_iff_mem] at hc
  obtain ⟨i, hi, e⟩ := List.getElem_of_mem hc
  exact absurd (by rw [List.getD_eq_getElem?_getD, List.getElem?_eq_getElem hi]; exact e) (h i (by rw [← qih]; exact hi))
theorem rsign_any (w : World) (c : Nat) (hc : c < 256) : Calls Tryz.prog 70 #[.int .u8 (c : Int)] w fun e w' => e = .returned (.bool (isS c)) ∧ w = w' := by
 go_enter Tryz.func70, Tryz.ntmps70
 go_wp2
 go_loop [3] (fun vi => ∃ i : Nat, i ≤ 12 ∧ vi = .int .i64 (i : Int) ∧ Hid (∀ j, j < i → sgs.getD j 0 ≠ c)) (fun vi => 12 - (intOf vi).toNat)
 case atStart => exact ⟨0, by omega, rfl, fun j hj => by omega⟩
 case round =>
  obtain ⟨i, hi, rfl, HN⟩ := hrel
  by_cases hlt : i < 12
  ·obtain ⟨y, HY⟩ : ∃ y, Hid (sgs.getD i 0 = y) := ⟨_, rfl⟩
   have h0 : ((⟨#[61, 59, 44, 40, 41, 91, 93, 43, 45, 42, 47, 37]⟩ : ByteArray)[i]'hlt).toNat = y := by
    rw [← HY.out, ← sg_at i hlt]
    exact qca (s := sgB) hlt
   by_cases hy : y = c
   ·subst hy
    have HS9 : Hid (isS y = true) := isS_at hlt HY.out
    go_wp2
    go_ret
    exact ⟨by rw [HS9.out]; rfl, rfl⟩
   ·have hy2 : ((y : Int) == (c : Int)) = false := by simp; omega
    go_wp2
    refine ⟨⟨i + 1, by omega, by go_num, fun j hj => ?_⟩, by simp [intOf]; omega⟩
    by_cases e : j = i
    ·rw [e, HY.out]; exact hy
    ·exact HN.out j (by omega)
  ·have HS9 : Hid (isS c = false) := isS_not (fun j hj => HN.out j (by omega))
   go_wp2
   go_ret
   exact ⟨by rw [HS9.out]; rfl, rfl⟩
def StAt (w : World) (b : Nat) (t : TypeId) (l : List ByteArray) : Prop := ∃ cur : Array Value, w.heap[b]? = some (.cells cur t (0, 0)) ∧ cur.toList.take l.length = l.map Value.string
theorem StAt.whole {w : World} {b : Nat} {t : TypeId} {l : List ByteArray} (h : w.heap[b]? = some (.cells (l.map Value.string).toArray t (0, 0))) : StAt w b t l := ⟨_, h, List.take_of_length_le (by simp)⟩
theorem StAt.cell {w : World} {b : Nat} {t : TypeId} {l : List ByteArray} (h : StAt w b t l) (i : Nat) (hi : i < l.length) : w.cell? ⟨b, i, none⟩ = some (.string (l.getD i default)) := by
 obtain ⟨cur, h, e⟩ := h
 rw [cell_of_row w b i _ _ _ h]
 have := congrArg (·[i]?) e
 simp only [List.getElem?_take, if_pos hi, List.getElem?_map] at this
 rw [← Array.getElem?_toList, this]
 simp [hi]
theorem StAt.lt {w : World} {b : Nat} {t : TypeId} {l : List ByteArray} (h : StAt w b t l) : b < w.heap.size := by
 obtain ⟨cur, h, _⟩ := h
 exact lt_of_block h
theorem StAt.later {w w' : World} {b : Nat} {t : TypeId} {l : List ByteArray} (h : StAt w b t l) (hb : Below w.heap.size w w') : StAt w' b t l := by
 have hlt := h.lt
 obtain ⟨cur, h, e⟩ := h
 exact ⟨cur, by rw [hb.block b hlt]; exact h, e⟩
theorem qhs (w : World) : Calls Tryz.prog 125 #[] w fun e w' => ∃ b, e = .returned (.slice (some ⟨b, 0, none⟩) 17 17) ∧ w.heap.size ≤ b ∧ StAt w' b 9 wds ∧ Below w.heap.size w w' := by
 go_enter Tryz.func125, Tryz.ntmps125
 go_wp2
 go_ret
 exact ⟨w.heap.size, rfl, Nat.le_refl _, StAt.whole Array.getElem?_push_size, jlow _ _⟩
theorem qg9 : wds.length = 17 := rfl
theorem isW_at {i : Nat} {x : ByteArray} (hi : i < 17) (h : wds.getD i default = x) : isW x = true := by
 rw [qf0, ← h, List.getD_eq_getElem?_getD, List.getElem?_eq_getElem (by rw [qg9]; exact hi)]
 exact List.getElem_mem _
theorem qii {x : ByteArray} (h : ∀ i, i < 17 → wds.getD i default ≠ x) : isW x = false := by
 cases hc : isW x with
 | false => rfl
 | true =>
  rw [qf0] at hc
  obtain ⟨i, hi, e⟩ := List.getElem_of_mem hc
  exact absurd (by rw [List.getD_eq_getElem?_getD, List.getElem?_eq_getElem hi]; exact e) (h i (by rw [← qg9]; exact hi))
theorem qij (w : World) (x : ByteArray) : Calls Tryz.prog 65 #[.string x] w fun e w' => e = .returned (.bool (isW x)) ∧ Below w.heap.size w w' := by
 go_enter Tryz.func65, Tryz.ntmps65
 go_wp2_with (go_at_call 125; refine (qhs _).mono ?_; rintro e w1 ⟨b, rfl, _, h1, h2⟩; have HS := qa0 h1; have HB := qa0 h2; clear h1 h2)
 go_loop [4] (fun vi => ∃ i : Nat, i ≤ 17 ∧ vi = .int .i64 (i : Int) ∧ Hid (∀ j, j < i → wds.getD j default ≠ x)) (fun vi => 17 - (intOf vi).toNat)
 case atStart => exact ⟨0, by omega, rfl, fun j hj => by omega⟩
 case round =>
  obtain ⟨i, hi, rfl, HN⟩ := hrel
  by_cases hlt : i < 17
  ·have hc := HS.out.cell i (by rw [qg9]; exact hlt)
   obtain ⟨y, HY⟩ : ∃ y, Hid (wds.getD i default = y) := ⟨_, rfl⟩
   rw [HY.out] at hc
   by_cases hy : y = x
   ·subst hy
    have HS9 : Hid (isW y = true) := isW_at hlt HY.out
    go_wp2
    go_ret
    exact ⟨by rw [HS9.out]; rfl, HB.out⟩
   ·have hy2 := qhq hy
    go_wp2
    refine ⟨⟨i + 1, by omega, by go_num, fun j hj => ?_⟩, by simp [intOf]; omega⟩
    by_cases e : j = i
    ·rw [e, HY.out]; exact hy
    ·exact HN.out j (by omega)
  ·have HS9 : Hid (isW x = false) := qii (fun j hj => HN.out j (by omega))
   go_wp2
   go_ret
   exact ⟨by rw [HS9.out]; rfl, HB.out⟩
open Go.RowKit
theorem qaz {s : ByteArray} {p e j : Nat} (hj : p + j < e) (he : e ≤ s.size) : tb (s.extract p e) j = tb s (p + j) := by
 have h1 : j < (s.extract p e).size := by simp; omega
 have h2 : p + j < s.size := by omega
 rw [← qca h1, ← qca h2]
 congr 1
 exact ByteArray.getElem_extract h1
theorem size_extract {s : ByteArray} {p e : Nat} (he : e ≤ s.size) : (s.extract p e).size = e - p := by simp; omega
theorem qe7 {s : ByteArray} {p e : Nat} (he : e ≤ s.size) : ∀ k, p + k ≤ e → nvl (s.extract p e) 0 k = nvl s p k := by
 intro k
 induction k with
 | zero => intro _; rfl
 | succ k ih =>
  intro h
  show 10 * nvl _ 0 k + (tb _ (0 + k) - 48) = 10 * nvl s p k + (tb s (p + k) - 48)
  rw [ih (by omega), Nat.zero_add, qaz (by omega) he]
theorem NumOk.extract {s : ByteArray} {p e : Nat} (he : e ≤ s.size) (hp : p < e) : NumOk (s.extract p e) 0 (e - p) ↔ NumOk s p e := by
 unfold NumOk
 rw [qe7 he _ (by omega), qaz (j := 0) (by omega) he]
 simp
theorem qdb (s : ByteArray) (p k : Nat) : nvl s p (k + 1) = 10 * nvl s p k + (tb s (p + k) - 48) := rfl
open Go.RowKit
def isN (x : ByteArray) : Bool := decide (1 ≤ x.size) && (decide (x.size ≤ 16) && (isL (tb x 0) && (!isW x && (List.range x.size).all (fun j => isL (tb x j) || isD (tb x j)))))
theorem qbc {x : ByteArray} : isN x = true ↔ NameP x := by
 unfold isN
 simp only [Bool.and_eq_true, decide_eq_true_eq, Bool.not_eq_true', List.all_eq_true, List.mem_range]
 exact ⟨fun ⟨a, b, c, d, e⟩ => ⟨a, b, c, d, e⟩, fun ⟨a, b, c, d, e⟩ => ⟨a, b, c, d, e⟩⟩
theorem qcf {x : ByteArray} (h : ¬ NameP x) : isN x = false := by
 cases hc : isN x with
 | false => rfl
 | true => exact absurd (qbc.1 hc) h
theorem qik (w : World) (x : ByteArray) (n : Nat) (hn : x.size = n) (hs : n ≤ 140737488351232) : Calls Tryz.prog 66 #[.string x] w fun e w' => e = .returned (.bool (isN x)) ∧ Below w.heap.size w w' := by
 have HWd : Hid (∀ w' : World, Calls Tryz.prog 65 #[.string x] w' fun e w'' => e = .returned (.bool (isW x)) ∧ Below w'.heap.size w' w'') := fun w' => qij w' x
 obtain ⟨v, HV⟩ : ∃ v, Hid (isW x = v) := ⟨_, rfl⟩
 obtain ⟨r, HR⟩ : ∃ r, Hid (isN x = r) := ⟨_, rfl⟩
 rw [HV.out] at HWd
 rw [HR.out]
 by_cases h0 : n = 0
 ·obtain rfl : r = false := by rw [← HR.out]; exact qcf (fun h => by have := h.pos; omega)
  have q : decide (n < 1) = true := decide_eq_true (by omega)
  have q1 : n < 1 := by omega
  clear HR
  go_enter Tryz.func66, Tryz.ntmps66
  go_wp2
  go_ret
  exact ⟨rfl, Below.refl _ _⟩
 by_cases h16 : 16 < n
 ·obtain rfl : r = false := by rw [← HR.out]; exact qcf (fun h => by have := h.most; omega)
  have q : decide (n < 1) = false := decide_eq_false (by omega)
  have q1 : 1 ≤ n := by omega
  have q2 : decide (16 < n) = true := decide_eq_true h16
  clear HR
  go_enter Tryz.func66, Tryz.ntmps66
  go_wp2
  go_ret
  exact ⟨rfl, Below.refl _ _⟩
 have q : decide (n < 1) = false := decide_eq_false (by omega)
 have q1 : 1 ≤ n := by omega
 have q2 : decide (16 < n) = false := decide_eq_false h16
 have q3 : n ≤ 16 := by omega
 have h0x : 0 < x.size := by omega
 obtain ⟨c, HC⟩ : ∃ c, Hid (tb x 0 = c) := ⟨_, rfl⟩
 have hc : x[0].toNat = c := by rw [← HC.out]; exact qca h0x
 have hc8 : c < 256 := by rw [← HC.out]; exact qem x 0
 have HL : Hid (∀ (w' : World) (c : Nat), c < 256 → Calls Tryz.prog 63 #[.int .u8 (c : Int)] w' fun r w'' => r = .returned (.bool (isL c)) ∧ w' = w'') := fun w' c h => qg8 w' c h
 have HD : Hid (∀ (w' : World) (c : Nat), c < 256 → Calls Tryz.prog 68 #[.int .u8 (c : Int)] w' fun r w'' => r = .returned (.bool (isD c)) ∧ w' = w'') := fun w' c h => qhr w' c h
 obtain ⟨l0, HL0⟩ : ∃ l0, Hid (isL c = l0) := ⟨_, rfl⟩
 cases l0 with
 | false =>
  obtain rfl : r = false := by rw [← HR.out]; exact qcf (fun h => by have := h.first; rw [HC.out, HL0.out] at this; cases this)
  clear HR
  go_enter Tryz.func66, Tryz.ntmps66
  go_wp2_with (go_at_call 63; refine (HL.out _ c hc8).mono ?_; rintro r w' ⟨rfl, rfl⟩; rw [HL0.out])
  go_ret
  exact ⟨rfl, Below.refl _ _⟩
 | true =>
  cases v with
  | true =>
   obtain rfl : r = false := by rw [← HR.out]; exact qcf (fun h => by have := h.noWord; rw [HV.out] at this; cases this)
   clear HR
   go_enter Tryz.func66, Tryz.ntmps66
   go_wp2_with (first
    | (go_at_call 63; refine (HL.out _ c hc8).mono ?_; rintro r w' ⟨rfl, rfl⟩; rw [HL0.out])
    | (go_at_call 65; refine (HWd.out _).mono ?_; rintro r w1 ⟨rfl, hb1⟩; have HB1 := qa0 hb1; clear hb1))
   go_ret
   exact ⟨rfl, HB1.out⟩
  | false =>
   have HRn : Hid ((∀ j, j < n → (isL (tb x j) || isD (tb x j)) = true) → r = true) := fun h => by
    rw [← HR.out]
    exact qbc.2 ⟨by omega, by omega, by rw [HC.out]; exact HL0.out, HV.out, by rw [hn]; exact h⟩
   have HRf : Hid (∀ j, j < n → (isL (tb x j) || isD (tb x j)) = false → r = false) := fun j hj h => by
    rw [← HR.out]
    exact qcf (fun g => by have := g.all j (by omega); rw [h] at this; cases this)
   clear HR
   go_enter Tryz.func66, Tryz.ntmps66
   go_wp2_with (first
    | (go_at_call 63; refine (HL.out _ c hc8).mono ?_; rintro r w' ⟨rfl, rfl⟩; rw [HL0.out])
    | (go_at_call 65; refine (HWd.out _).mono ?_; rintro r w1 ⟨rfl, hb1⟩; have HB1 := qa0 hb1; clear hb1))
   go_loop [3] (fun vi => ∃ i : Nat, i ≤ n ∧ vi = .int .i64 (i : Int) ∧ Hid (∀ j, j < i → (isL (tb x j) || isD (tb x j)) = true)) (fun vi => n - (intOf vi).toNat)
   case atStart => exact ⟨0, by omega, rfl, fun j hj => by omega⟩
   case round =>
    obtain ⟨i, hi, rfl, HI⟩ := hrel
    by_cases hlt : i < n
    ·have hix : i < x.size := by omega
     obtain ⟨y, HY⟩ : ∃ y, Hid (tb x i = y) := ⟨_, rfl⟩
     have hy : x[i].toNat = y := by rw [← HY.out]; exact qca hix
     have hy8 : y < 256 := by rw [← HY.out]; exact qem x i
     obtain ⟨l1, HL1⟩ : ∃ l1, Hid (isL y = l1) := ⟨_, rfl⟩
     obtain ⟨d1, HD1⟩ : ∃ d1, Hid (isD y = d1) := ⟨_, rfl⟩
     have HI2 : Hid ((l1 || d1) = true → ∀ j, j < i + 1 → (isL (tb x j) || isD (tb x j)) = true) := fun h j hj => by
      by_cases e : j = i
      ·rw [e, HY.out, HL1.out, HD1.out]; exact h
      ·exact HI.out j (by omega)
     have HF2 : Hid ((l1 || d1) = false → r = false) := fun h => HRf.out i hlt (by rw [HY.out, HL1.out, HD1.out]; exact h)
     clear hc
     cases l1 with
     | true =>
      clear HF2
      go_wp2_with (go_at_call 63; refine (HL.out _ y hy8).mono ?_; rintro r w' ⟨rfl, rfl⟩; rw [HL1.out])
      exact ⟨⟨i + 1, by omega, by go_num, HI2.out rfl⟩, by simp [intOf]; omega⟩
     | false =>
      cases d1 with
      | true =>
       clear HF2
       go_wp2_with (first | (go_at_call 63; refine (HL.out _ y hy8).mono ?_; rintro r w' ⟨rfl, rfl⟩; rw [HL1.out]) | (go_at_call 68; refine (HD.out _ y hy8).mono ?_; rintro r w' ⟨rfl, rfl⟩; rw [HD1.out]))
       exact ⟨⟨i + 1, by omega, by go_num, HI2.out rfl⟩, by simp [intOf]; omega⟩
      | false =>
       obtain rfl : r = false := HF2.out rfl
       go_wp2_with (first | (go_at_call 63; refine (HL.out _ y hy8).mono ?_; rintro r w' ⟨rfl, rfl⟩; rw [HL1.out]) | (go_at_call 68; refine (HD.out _ y hy8).mono ?_; rintro r w' ⟨rfl, rfl⟩; rw [HD1.out]))
       go_ret
       exact ⟨rfl, HB1.out⟩
    ·obtain rfl : r = true := HRn.out (fun j hj => HI.out j (by omega))
     go_wp2
     go_ret
     exact ⟨rfl, HB1.out⟩
open Go.RowKit
def Vn (w : World) (b : Nat) (T : TypeId) (xs : Array Value) : Prop := w.heap[b]? = some (.cells xs T (0, 0))
theorem Vn.new (w : World) (T : TypeId) (xs : Array Value) : Vn (w.alloc (.cells xs T)) w.heap.size T xs := Array.getElem?_push_size
theorem Vn.lt {w : World} {b : Nat} {T : TypeId} {xs : Array Value} (h : Vn w b T xs) : b < w.heap.size := lt_of_block h
theorem Vn.later {w w' : World} {b : Nat} {T : TypeId} {xs : Array Value} (h : Vn w b T xs) (hb : Below w.heap.size w w') : Vn w' b T xs := by unfold Vn; rw [hb.block b h.lt]; exact h
theorem Vn.cell {w : World} {b : Nat} {T : TypeId} {xs : Array Value} (h : Vn w b T xs) (i : Nat) (v : Value) (hv : xs[i]? = some v) : w.cell? ⟨b, i, none⟩ = some v := by rw [cell_of_row w b i _ _ _ h]; exact hv
theorem Vn.free {w : World} {b : Nat} {T : TypeId} {xs : Array Value} (h : Vn w b T xs) (i : Nat) : w.frozen? ⟨b, i, none⟩ = false := by
 unfold Vn at h
 simp [World.frozen?, h]
theorem Vn.set {w : World} {b : Nat} {T : TypeId} {xs : Array Value} (h : Vn w b T xs) (i : Nat) (v : Value) : Vn (w.setCell ⟨b, i, none⟩ v) b T (xs.setIfInBounds i v) := by
 unfold Vn at *
 rw [setCell_eq_setRow w b i _ _ (0, 0) _ h, setRow_heap w b _ _ _ (0, 0) h]
theorem Vn.row {w : World} {b : Nat} {T : TypeId} {xs : Array Value} (h : Vn w b T xs) (ys : Array Value) : Vn (w.setRow b ys) b T ys := setRow_heap w b _ _ _ (0, 0) h
theorem qdc (w : World) (b : Nat) (ys : Array Value) : w.grownBy (w.setRow b ys) (some b) :=
 ⟨rfl, rfl, rfl, by simp [World.setRow], fun k _ hk => setRow_other w b k ys (fun e => hk (by rw [e]))⟩
theorem sizeTok : (Tryz.prog.info? 104).map (·.size) = some 5 := by kernel_rfl
theorem sizeFau : (Tryz.prog.info? 25).map (·.size) = some 3 := by kernel_rfl
theorem jtok : (Tryz.prog.info? 104).map (fun i => (i.zero, i.size, i.bytes)) = some (some (.agg #[.int .u8 0, .string ⟨#[]⟩, .int .i64 0, .int .i64 0, .int .i64 0]), 5, 48) := by kernel_rfl
theorem qa1 {ops : Array Oper} {rest : List Oper} {op : Oper} {a : Act} {w : World} {Q : Exit → Act → World → Prop} (hgd : op.guard = none) (T : TypeId) (p q : Operand) (ho : op.op = .store T p q)
  (b : Nat) (xs ys : Array Value) (hp : a.eval p = .pointer (some ⟨b, 0, none⟩)) (hq : a.eval q = .agg ys) (hv : Vn w b T xs) (hi : (Tryz.prog.info? T).map (·.size) = some ys.size) (hsz : xs.size = ys.size) (h1 : ys.all (·.oneCell') = true)
  (h : ∀ w', Hid (Vn w' b T ys) → Hid (w.grownBy w' (some b)) → wpList Tryz.prog ops Q rest (a.put op.dst undef) w') : wpList Tryz.prog ops Q (op :: rest) a w :=
 wpList_store_row hgd T p q ho b ys hp hq T xs hv hi hsz h1 (h _ (hv.row ys) (qdc w b ys))
theorem qf1 (w : World) (b o : Nat) (ty : TypeId) (v : Value) (hi : (Tryz.prog.info? ty).map (·.size) = some 1) (hv : v.cells = #[v]) (h1 : v.oneCell' = true) (hc : (w.cell? ⟨b, o, none⟩).isSome = true) (hf : w.frozen? ⟨b, o, none⟩ = false) :
  (storeVar ty ⟨b, o, none⟩ v).run Tryz.prog w = .ok () (w.setCell ⟨b, o, none⟩ v) := by
 have h0 : ∀ j, j < [v].length → j = 0 := fun j hj => by simpa using hj
 have := run_storeCells_cells (P := Tryz.prog) b o [v] 0 w (fun j hj => by rw [h0 j hj]; simpa using hc) (fun j hj => by rw [h0 j hj]; simpa using hf) (fun u hu => by rw [show u = v by simpa using hu]; exact h1)
 cases hq : Tryz.prog.info? ty with
 | none => simp [hq] at hi
 | some i =>
  have hs : 1 = i.size := by simp [hq] at hi; omega
  simp only [Nat.add_zero] at this
  simp [storeVar, sizeOf, typeInfo, hq, hv, ← hs, this]
  rfl
theorem qa8 {op : Oper} {a : Act} {w : World} {K : Act → World → Prop} {Q : Exit → Act → World → Prop} (ty : TypeId) (x y : Operand) (ho : op.op = .store ty x y)
  (b o : Nat) (T : TypeId) (xs : Array Value) (v : Value) (hx : a.eval x = .pointer (some ⟨b, o, none⟩)) (hy : a.eval y = v) (hi : (Tryz.prog.info? ty).map (·.size) = some 1) (hv : v.cells = #[v]) (h1 : v.oneCell' = true) (hV : Vn w b T xs) (hlt : o < xs.size)
  (h : ∀ w', Hid (Vn w' b T (xs.setIfInBounds o v)) → Hid (w.grownBy w' (some b)) → K (a.put op.dst undef) w') : op.wp Tryz.prog a w K Q := by
 unfold Oper.wp execOp
 simp only [ho, hx, hy, Instr.storeAt, Instr.sureAddr, Sem.run_bind, Sem.run_pure, Result.andThen_ok, qf1 w b o ty v hi hv h1 (by rw [hV.cell o xs[o] (by simp [hlt])]; rfl) (hV.free o)]
 refine h _ (hV.set o v) ?_
 rw [setCell_eq_setRow w b o _ _ (0, 0) _ hV]
 exact qdc _ _ _
theorem wpList_store_one {ops : Array Oper} {rest : List Oper} {op : Oper} {a : Act} {w : World} {Q : Exit → Act → World → Prop} (hgd : op.guard = none) (ty : TypeId) (x y : Operand) (ho : op.op = .store ty x y)
  (b o : Nat) (T : TypeId) (xs : Array Value) (v : Value) (hx : a.eval x = .pointer (some ⟨b, o, none⟩)) (hy : a.eval y = v) (hi : (Tryz.prog.info? ty).map (·.size) = some 1) (hv : v.cells = #[v]) (h1 : v.oneCell' = true) (hV : Vn w b T xs) (hlt : o < xs.size)
  (h : ∀ w', Hid (Vn w' b T (xs.setIfInBounds o v)) → Hid (w.grownBy w' (some b)) → wpList Tryz.prog ops Q rest (a.put op.dst undef) w') : wpList Tryz.prog ops Q (op :: rest) a w :=
 wpList_plain hgd fun _ hK => qa8 ty x y ho b o T xs v hx hy hi hv h1 hV hlt (fun w' h1 h2 => hK _ _ (h w' h1 h2))
def ttx (s : ByteArray) (t : Tk) : ByteArray := if t.kind = 3 then ⟨#[]⟩ else s.extract t.lo t.hi
def tcs (s : ByteArray) (t : Tk) : List Value := [.int .u8 (t.kind : Nat), .string (ttx s t), .int .i64 (t.num : Nat), .int .i64 (lnn s t.lo : Nat), .int .i64 (cln s t.lo : Nat)]
def trow (s : ByteArray) (L : List Tk) : List Value := L.flatMap (tcs s)
theorem qil (s : ByteArray) (L : List Tk) (t : Tk) : trow s (L ++ [t]) = trow s L ++ tcs s t := by simp [trow]
def Tls (w : World) (B : Nat) (v : Value) (s : ByteArray) (L : List Tk) : Prop := w.ownsRow B 104 5 v L.length (trow s L)
theorem Tls.nil (w : World) (B : Nat) (s : ByteArray) : Tls w B (.slice none 0 0) s [] := World.ownsRow_nil _ _ _ _
theorem Tls.later {w w' : World} {B : Nat} {v : Value} {s : ByteArray} {L : List Tk} (h : Tls w B v s L) (hb : Below w.heap.size w w') : Tls w' B v s L := World.ownsRow.kept h (jgrown.mpr hb) (by cases hv : v.ownBlock <;> simp)
theorem Tls.kept {w w' : World} {B : Nat} {v : Value} {s : ByteArray} {L : List Tk} {row : Option Nat} (h : Tls w B v s L) (hg : w.grownBy w' row) (hne : v.ownBlock = none ∨ v.ownBlock ≠ row) : Tls w' B v s L := World.ownsRow.kept h hg hne
theorem Tls.form {w : World} {B : Nat} {v : Value} {s : ByteArray} {L : List Tk} (h : Tls w B v s L) : ∃ a d, v = .slice a L.length d ∧ (a = none → L.length = 0 ∧ d = 0) := by
 rcases h.2 with ⟨e, h0⟩ | ⟨g, cap, cur, e, _⟩
 ·exact ⟨none, 0, by rw [e, h0], fun _ => ⟨h0, rfl⟩⟩
 ·exact ⟨_, _, e, fun x => by cases x⟩
theorem Tls.base {w : World} {B : Nat} {v : Value} {s : ByteArray} {L : List Tk} (h : Tls w B v s L) {g : Nat} (hg : v.ownBlock = some g) : B ≤ g ∧ g < w.heap.size := by
 rcases h.2 with ⟨e, _⟩ | ⟨g', cap, cur, e, hB, hb, _⟩
 ·rw [e] at hg; simp [Value.ownBlock] at hg
 ·rw [e] at hg; simp [Value.ownBlock] at hg; subst hg; exact ⟨hB, lt_of_block hb⟩
theorem Tls.mono {w : World} {B B' : Nat} {v : Value} {s : ByteArray} {L : List Tk} (h : Tls w B v s L) (hB : B' ≤ B) : Tls w B' v s L := by
 refine ⟨h.1, ?_⟩
 rcases h.2 with h' | ⟨g, cap, cur, e, hb, r⟩
 ·exact .inl h'
 ·exact .inr ⟨g, cap, cur, e, by omega, r⟩
theorem qbm (w : World) (xs : List Value) (t : TypeId) : ∀ j u, xs[j]? = some u → (w.alloc (.cells xs.toArray t)).cell? ((⟨w.heap.size, 0, none⟩ : Addr).add j) = some u := by
 intro j u hj
 have h : (w.alloc (.cells xs.toArray t)).heap[w.heap.size]? = some (.cells xs.toArray t (0, 0)) := Array.getElem?_push_size
 rw [show (⟨w.heap.size, 0, none⟩ : Addr).add j = ⟨w.heap.size, j, none⟩ by unfold Addr.add; split <;> simp_all, cell_of_row _ _ j _ _ _ h]
 simpa using hj
def CutP (w w' : World) (e : Ending) (s : ByteArray) (L : List Tk) (E a : Nat) : Prop :=
 ∃ v : Value, e = .returned (.tuple #[v, .agg (if E = 0 then #[.int .i64 0, .int .i64 0, .int .i64 0] else #[.int .i64 (E : Int), .int .i64 (lnn s a : Nat), .int .i64 (cln s a : Nat)])]) ∧ (E = 0 → Tls w' w.heap.size v s L) ∧ (E ≠ 0 → v = .slice none 0 0) ∧ Below w.heap.size w w'
open Go.RowKit
theorem sizeInt : (Tryz.prog.info? 3).map (·.size) = some 1 := by kernel_rfl
theorem all3 {x y z : Value} (h0 : x.oneCell' = true) (h1 : y.oneCell' = true) (h2 : z.oneCell' = true) : (#[x, y, z] : Array Value).all (·.oneCell') = true := by simp [h0, h1, h2]
theorem all5 {x y z u v : Value} (h0 : x.oneCell' = true) (h1 : y.oneCell' = true) (h2 : z.oneCell' = true) (h3 : u.oneCell' = true) (h4 : v.oneCell' = true) : (#[x, y, z, u, v] : Array Value).all (·.oneCell') = true := by simp [h0, h1, h2, h3, h4]
theorem Cuts.end {s : ByteArray} {p E a : Nat} {R : List Tk} (h : Cuts s p R E a) (hp : p = s.size) : R = [] ∧ E = 0 := by
 rcases h.inv with ⟨_, h1, h2, _⟩ | ⟨h, _⟩ | ⟨e, h1, h2, _⟩ | ⟨e, L', h, _⟩ | ⟨e, L', h, _⟩ | ⟨e, h, _⟩ | ⟨e, L', h, _⟩ | ⟨e, h, _⟩ | ⟨e, h, _⟩ | ⟨L', h, _⟩ | ⟨h, _⟩
 ·exact ⟨h1, h2⟩
 all_goals omega
theorem qim : isB 10 = true ∧ isL 10 = false ∧ isD 10 = false ∧ isS 10 = false := by decide
theorem Cuts.ten {s : ByteArray} {p E a : Nat} {R : List Tk} (h : Cuts s p R E a) (hp : p < s.size) (h10 : tb s p = 10) : Cuts s (p + 1) R E a := by
 obtain ⟨b1, b2, b3, b4⟩ := qim
 rcases h.inv with ⟨h, _⟩ | ⟨_, _, h⟩ | ⟨e, _, _, h, _⟩ | ⟨e, L', _, h, _⟩ | ⟨e, L', _, h, _⟩ | ⟨e, _, h, _⟩ | ⟨e, L', _, h, _⟩ | ⟨e, _, h, _⟩ | ⟨e, _, h, _⟩ | ⟨L', _, h, _⟩ | ⟨_, h, _⟩
 ·omega
 ·exact h
 ·omega
 ·rw [h10, b2] at h; cases h
 ·rw [h10, b2] at h; cases h
 ·rw [h10, b2] at h; cases h
 ·rw [h10, b3] at h; cases h
 ·rw [h10, b3] at h; cases h
 ·rw [h10, b3] at h; cases h
 ·rw [h10, b4] at h; cases h
 ·rw [h10, b1] at h; cases h
theorem name_of {s x : ByteArray} {p e c : Nat} (hE : Ends s true p e) (hes : e ≤ s.size) (hpe : p < e) (hL : isL c = true) (hc : tb s p = c) (h16 : e - p ≤ 16) (hW : isW x = false) (hx : s.extract p e = x) : NameP x := by
 subst hx
 refine ⟨by rw [size_extract hes]; omega, by rw [size_extract hes]; exact h16, by rw [qaz (by omega) hes, Nat.add_zero, hc]; exact hL, hW, fun j hj => ?_⟩
 rw [size_extract hes] at hj
 rw [qaz (by omega) hes]
 have := hE.all (p + j) (by omega) (by omega)
 rw [Bool.or_comm]
 simpa using this
def W9 (w : World) : World := w.alloc (.cells #[.int .i64 0, .int .i64 0, .int .i64 0] 25)
theorem qf2 (w : World) : (W9 w).heap.size = w.heap.size + 1 := by simp [W9]
theorem W9_below (w : World) : Below w.heap.size w (W9 w) := jlow _ _
theorem W9_vn {w wr : World} (h : Below (w.heap.size + 1) (W9 w) wr) : Vn wr w.heap.size 25 #[.int .i64 0, .int .i64 0, .int .i64 0] := by
 unfold Vn
 rw [h.block _ (by omega)]
 exact Vn.new w _ _
theorem qdd {w wr : World} (h : Below (w.heap.size + 1) (W9 w) wr) : Below w.heap.size w wr := (W9_below w).trans (h.mono (by omega))
theorem qin {s x : ByteArray} {k p e n ln cl : Nat} (hx : (if k = 3 then ⟨#[]⟩ else s.extract p e) = x) (hl : lnn s p = ln) (hc : cln s p = cl) : tcs s ⟨k, p, e, n⟩ = [.int .u8 (k : Int), .string x, .int .i64 (n : Int), .int .i64 (ln : Int), .int .i64 (cl : Int)] := by
 unfold tcs ttx
 simp only [hx, hl, hc]
theorem Tls.push {w2 : World} {B : Nat} {v' : Value} {s : ByteArray} {L : List Tk} {t : Tk} {xs : List Value} {n : Nat} (hx : tcs s t = xs) (hn : n = L.length + 1) (hown : w2.ownsRow B 104 5 v' n (trow s L ++ xs)) : Tls w2 B v' s (L ++ [t]) := by
 unfold Tls
 rw [qil, List.length_append, hx]
 subst hn
 exact hown
theorem jb9 {w wr w1 : World} {b : Nat} (h : Below (w.heap.size + 1) (W9 w) wr) (hg : wr.grownBy w1 (some b)) (hb : w.heap.size + 1 ≤ b) : Below (w.heap.size + 1) (W9 w) w1 :=
 h.trans (jbelow hg (by have := h.size; rw [qf2] at this; exact this) (fun g e => by cases e; exact hb))
theorem jl9 {w wr w1 : World} (h : Below (w.heap.size + 1) (W9 w) wr) (hb : Below wr.heap.size wr w1) : Below (w.heap.size + 1) (W9 w) w1 :=
 h.trans (hb.mono (by have := h.size; rw [qf2] at this; exact this))
theorem own_lt {v : Value} {b : Nat} (h : ∀ g, v.ownBlock = some g → g < b) : v.ownBlock = none ∨ v.ownBlock ≠ some b := by
  cases hv : v.ownBlock with
  | none => exact .inl rfl
  | some g => exact .inr (fun e => by have := h g hv; have : g = b := by simpa using e
                                      omega)
theorem Ends.line {s : ByteArray} {lt : Bool} {p e : Nat} (h : Ends s lt p e) : lnn s e = lnn s p ∧ cln s e = cln s p + (e - p) := by
 have := qie (s := s) (p := p) (e - p) (fun j a b => by
  have h1 := h.all j a (by have := h.le; omega)
  intro h2
  rw [h2] at h1
  have h3 := qim
  rw [h3.2.2.1, h3.2.1] at h1
  cases lt <;> cases h1)
 rw [show p + (e - p) = e by have := h.le; omega] at this
 exact this
open Go.RowKit
structure TV where
 k : Nat
 tx : ByteArray
 n : Int
 ln : Int
 cl : Int
def TvAt (w : World) (x : Option Addr) (i : Nat) (v : TV) : Prop := ∃ b o, x = some ⟨b, o, none⟩ ∧ w.cell? ⟨b, o + i * 5, none⟩ = some (.int .u8 (v.k : Int)) ∧ w.cell? ⟨b, o + i * 5 + 1, none⟩ = some (.string v.tx) ∧ w.cell? ⟨b, o + i * 5 + 2, none⟩ = some (.int .i64 v.n) ∧ w.cell? ⟨b, o + i * 5 + 3, none⟩ = some (.int .i64 v.ln) ∧ w.cell? ⟨b, o + i * 5 + 4, none⟩ = some (.int .i64 v.cl)
theorem TvAt.later {w w' : World} {x : Option Addr} {i : Nat} {v : TV} (h : TvAt w x i v) (hb : Below w.heap.size w w') : TvAt w' x i v := by
 obtain ⟨b, o, e, h0, h1, h2, h3, h4⟩ := h
 have hl := qdz h0
 have he : ∀ q, w'.cell? ⟨b, q, none⟩ = w.cell? ⟨b, q, none⟩ := fun q => by unfold World.cell?; rw [hb.block b hl]
 exact ⟨b, o, e, by rw [he]; exact h0, by rw [he]; exact h1, by rw [he]; exact h2, by rw [he]; exact h3, by rw [he]; exact h4⟩
def tvo (s : ByteArray) (t : Tk) : TV := ⟨t.kind, ttx s t, (t.num : Nat), (lnn s t.lo : Nat), (cln s t.lo : Nat)⟩
theorem trow_get (s : ByteArray) : ∀ (L : List Tk) (i : Nat) (t : Tk), L[i]? = some t → ∀ j, j < 5 → (trow s L)[i * 5 + j]? = (tcs s t)[j]? := by
 intro L
 induction L with
 | nil => intro i t h; simp at h
 | cons u L ih =>
  intro i t h j hj
  have hl : (tcs s u).length = 5 := rfl
  rw [show trow s (u :: L) = tcs s u ++ trow s L from rfl]
  cases i with
  | zero =>
   simp only [List.getElem?_cons_zero, Option.some.injEq] at h
   subst h
   rw [List.getElem?_append_left (by omega)]
   congr 1
   omega
  | succ i =>
   rw [List.getElem?_append_right (by omega), hl, show (i + 1) * 5 + j - 5 = i * 5 + j by omega]
   exact ih i t (by simpa using h) j hj
theorem Tls.tv {w : World} {B d : Nat} {a : Option Addr} {s : ByteArray} {L : List Tk} (h : Tls w B (.slice a L.length d) s L) (i : Nat) (hi : i < L.length) : TvAt w a i (tvo s L[i]) := by
 rcases h.2 with ⟨_, h0⟩ | ⟨g, cap, cur, e, _⟩
 ·omega
 ·cases e
  have hg := fun j (hj : j < 5) => trow_get s L i L[i] (by simp [hi]) j hj
  have hc : ∀ j, j < 5 → w.cell? ⟨g, 0 + i * 5 + j, none⟩ = (tcs s L[i])[j]? := fun j hj => by
   rw [Nat.zero_add, World.ownsRow.cellAt h (i * 5 + j) (by omega)]
   exact hg j hj
  exact ⟨g, 0, rfl, hc 0 (by decide), hc 1 (by decide), hc 2 (by decide), hc 3 (by decide), hc 4 (by decide)⟩
open Go.RowKit
def CutA (s : ByteArray) (L : List Tk) (E a : Nat) : Prop := (65536 < s.size ∧ L = [] ∧ E = 4 ∧ a = 0) ∨ (s.size ≤ 65536 ∧ Cuts s 0 L E a)
theorem cuta_ex (s : ByteArray) : ∃ L E a, CutA s L E a := by
 by_cases h : 65536 < s.size
 ·exact ⟨[], 4, 0, .inl ⟨h, rfl, rfl, rfl⟩⟩
 ·obtain ⟨L, E, a, hc⟩ := cut_ex s s.size 0 (by omega)
  exact ⟨L, E, a, .inr ⟨by omega, hc⟩⟩
theorem CutP.use {w w' : World} {e : Ending} {s : ByteArray} {L : List Tk} {E a m : Nat} {f0 f1 f2 : Int} (h : CutP w w' e s L E a) (hf : (if E = 0 then #[.int .i64 0, .int .i64 0, .int .i64 0] else #[.int .i64 (E : Int), .int .i64 (lnn s a : Nat), .int .i64 (cln s a : Nat)]) = #[Value.int .i64 f0, .int .i64 f1, .int .i64 f2]) (hm : (if E = 0 then L.length else 0) = m) :
  ∃ (x : Option Addr) (d : Nat), e = .returned (.tuple #[.slice x m d, .agg #[.int .i64 f0, .int .i64 f1, .int .i64 f2]]) ∧ (∀ i, i < m → TvAt w' x i (tvo s (L.getD i ⟨0, 0, 0, 0⟩))) ∧ Below w.heap.size w w' := by
 obtain ⟨v, he, h1, h2, hb⟩ := h
 rw [hf] at he
 by_cases hE : E = 0
 ·rw [if_pos hE] at hm
  subst hm
  obtain ⟨x, d, rfl, _⟩ := (h1 hE).form
  refine ⟨x, d, he, fun i hi => ?_, hb⟩
  have := (h1 hE).tv i hi
  rw [List.getD_eq_getElem?_getD, List.getElem?_eq_getElem hi]
  exact this
 ·rw [if_neg hE] at hm
  subst hm
  have := h2 hE
  subst this
  exact ⟨none, 0, he, fun i hi => by omega, hb⟩
theorem Cuts.len {s : ByteArray} {p E a : Nat} {L : List Tk} (h : Cuts s p L E a) (hp : p ≤ s.size) : L.length + p ≤ s.size := by
 have := Cuts.ind (s := s) (M := fun p L _ _ => p ≤ s.size → L.length + p ≤ s.size) (fun p h _ => by simp; omega) (fun p L E a h1 _ ih _ => by have := ih (by omega); omega)
  (fun p e L E a h1 h2 ih _ => by have := ih h2; omega)
  (fun p e L E a h1 h2 h3 _ ih _ => by have := h3.more h1 (by rw [h2]; simp); have := ih h3.fits; simp; omega)
  (fun p e L E a h1 h2 h3 _ _ ih _ => by have := h3.more h1 (by rw [h2]; simp); have := ih h3.fits; simp; omega)
  (fun p e L E a h1 h2 h3 _ ih _ => by have := h3.more h1 (by rw [h2]; rfl); have := ih h3.fits; simp; omega)
  (fun p L E a h1 _ ih _ => by have := ih (by omega); simp; omega) (fun p a h1 _ => by simp; omega) h
 exact this hp
end Go.Proofs.YtnjcpmkfghcogaaGreatDoor
