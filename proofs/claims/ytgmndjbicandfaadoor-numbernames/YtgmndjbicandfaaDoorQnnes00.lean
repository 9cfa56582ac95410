/-
  The plain mathematics of the field of 256 elements: no Go in sight. The product is 'fm'; it is that of a field; powers of 2 go round after 255.
  Choices of k of n, one after the other.
  How many choices of k of n there are.
  Sets of numbers, each as a number whose bits say what it has: how many there are, which place each has, and which one is next. No Go in sight.
  Lists of numbers in memory, of any kind of number; what stays.
  The mathematics of stage 9: bytes of a text, lines and columns, how a text is cut. No Go in sight.
  Contracts of the token's reference: letter, digit, sign, Words, Word.
  Contracts of the token's reference: Where, Fault, end, number.
  Contracts of the token's reference: Name.
  Variables of several cells; lists of tokens in memory.
  Contracts of the token's reference: Cut.
  Contracts of the token's reference: Like; Cut of a text that is too long.
  Cut whole; the program's token, as the checks use it. (Over the scratch seat: by the reference.)
-/
import Derived.Deep.RegionHeld
import Derived.Laws.BitsAllLaws
import Derived.Laws.Bits128
import Derived.IntWalk
import Derived.KernelRfl
import Derived.OpenShut
import Derived.Test.YtgmndjbicandfaaDoorRows
import Derived.WalkKit
import Derived.WalkSpells
import Derived.WalkLawsBesides
import Derived.ProofKit
import Derived.OwnWalk
import Derived.Deep.QuietTactic
import Derived.BigQuiet
import Derived.RegionTactic
import Derived.Lib.MinMax
import Derived.Laws.Rows
import Derived.Laws.Tables
import Derived.Laws.CopyOwn
import Derived.Deep.RegionHeld
import Derived.Deep.MidRow
set_option maxRecDepth 100000
set_option maxHeartbeats 16000000
namespace Go.Proofs.YtgmndjbicandfaaDoor
open Go.RowKit
theorem mz1 {α : Type} {l : List α} {i : Nat} (h : i < l.toArray.size) : l.toArray[i] = l[i]'(by simpa using h) := List.getElem_toArray h
theorem mz2 {α : Type} (a : α) (m : List α) (i : Nat) (h : i + 1 < (a :: m).length) : (a :: m)[i + 1] = m[i]'(Nat.lt_of_succ_lt_succ h) := List.getElem_cons_succ ..
theorem mz3 {α : Type} (a : α) (m : List α) (h : 0 < (a :: m).length) : (a :: m)[0] = a := List.getElem_cons_zero ..
theorem mz4 {α : Type} {l : List α} {i : Nat} {a : α} : l.toArray.setIfInBounds i a = (l.set i a).toArray := List.setIfInBounds_toArray ..
theorem mz5 {α : Type} {a b : α} {m : List α} : (a :: m).set 0 b = b :: m := List.set_cons_zero
theorem mz6 {α : Type} {a b : α} {m : List α} {n : Nat} : (a :: m).set (n + 1) b = a :: m.set n b := List.set_cons_succ
theorem wtkq {P : Program} {md : Region.Mode} {ops : Array Oper} {Q : Exit → Act → World → Prop} {S : World → Prop} (i : Nat) (v : Value) {oi : Oper} {fuel : Nat} {listed : Array Bool} {a : Act} {w : World} (hi : ops[i]? = some oi)
    (hb : (Region.noSelect ops && (Region.free md ops listed i && (Region.ready md ops listed).contains i)) = true)
    (hQ : ∀ c a w, Q (.panic c) (a.put oi.dst v) w → Q (.panic c) a w) (hg : Region.wanted oi (yielded ops a.tmps) = true) (hy : ∀ w, S w → (execOp a.eval oi).run P w = .ok (.value v) w) (hS : S w)
    (h : wpAnyH P md ops Q S fuel (listed.setIfInBounds i true) (a.put oi.dst v) w) : wpAnyH P md ops Q S (fuel + 1) listed a w := by
  simp only [Bool.and_eq_true] at hb
  exact wpAnyH_take (i := i) (v := v) hi hb.1 hb.2.1 hb.2.2 hQ (Or.inl ⟨hg, hy⟩) hS h
theorem wskq {P : Program} {md : Region.Mode} {ops : Array Oper} {Q : Exit → Act → World → Prop} {S : World → Prop} (i : Nat) {oi : Oper} {fuel : Nat} {listed : Array Bool} {a : Act} {w : World} (hi : ops[i]? = some oi)
    (hb : (Region.noSelect ops && (Region.free md ops listed i && (Region.ready md ops listed).contains i)) = true)
    (hQ : ∀ c a w, Q (.panic c) (a.put oi.dst undef) w → Q (.panic c) a w) (hg : Region.wanted oi (yielded ops a.tmps) = false) (hS : S w)
    (h : wpAnyH P md ops Q S fuel (listed.setIfInBounds i true) (a.put oi.dst undef) w) : wpAnyH P md ops Q S (fuel + 1) listed a w := by
  simp only [Bool.and_eq_true] at hb
  exact wpAnyH_take (i := i) (v := undef) hi hb.1 hb.2.1 hb.2.2 hQ (Or.inr ⟨hg, rfl⟩) hS h
open Go Go.RowKit

/-- The product with 2, of a number below 256. -/
def dbl (a : Nat) : Nat := 2 * a ^^^ 285 * (a / 128)
/-- The sum of the products with the lowest n bits of b. -/
def sm : Nat → Nat → Nat → Nat
 | 0, _, _ => 0
 | n + 1, a, b => (b % 2 * a) ^^^ sm n (dbl a) (b / 2)
/-- All numbers below n pass a test. -/
def allB (f : Nat → Bool) : Nat → Bool
 | 0 => true
 | n + 1 => f n && allB f n
/-! ### Powers of 2 -/
/-- The power of 2 with the exponent n. -/
def g : Nat → Nat
 | 0 => 1
 | n + 1 => dbl (g n)
/-! ### The same, over Int, as a walk has it -/
/-! ### The reference's product: the product of the polynomials, and its remainder -/
def cl (a b : Nat) : Nat → Nat
 | 0 => 0
 | k + 1 => cl a b k ^^^ (b / 2 ^ k % 2 * (a * 2 ^ k))
/-- The choice as a number. -/
def vl (n : Nat) (q : Nat → Nat) : Nat → Nat
 | 0 => 0
 | k + 1 => vl n q k * n + q k
end Go.Proofs.YtgmndjbicandfaaDoor

namespace Go.Proofs.YtgmndjbicandfaaDoor
/-- How many of the lowest l bits are set. -/
def cn : Nat → Nat → Nat
 | _, 0 => 0
 | s, l + 1 => s % 2 + cn (s / 2) l
/-- The next set of l of its size. -/
def nx : Nat → Nat → Option Nat
 | _, 0 => none
 | s, l + 1 => match nx (s / 2) l with
  | some u => some (s % 2 + 2 * u)
  | none => if s % 2 = 1 ∧ cn (s / 2) l < l then some (2 * (2 ^ (cn (s / 2) l + 1) - 1)) else none
open Go.RowKit
theorem jcell_lt {w : World} {b o : Nat} {v : Value} (h : w.cell? ⟨b, o, none⟩ = some v) : b < w.heap.size := by
 by_cases hb : b < w.heap.size
 ·exact hb
 ·simp [World.cell?, hb] at h
theorem jtwo {w w1 w2 : World} (h1 : Below w.heap.size w w1) (h2 : Below w1.heap.size w1 w2) : Below w.heap.size w w2 := h1.trans (h2.mono h1.size)
theorem jlow (w : World) (o : Obj) : Below w.heap.size w (w.alloc o) := (Below.refl _ _).alloc (Nat.le_refl _) _
theorem jgrown {w w' : World} : w.grownBy w' none ↔ Below w.heap.size w w' :=
 ⟨fun h => ⟨h.os, h.tape, h.output, h.size, fun k hk => h.block k hk (by simp)⟩, fun h => ⟨h.os, h.tape, h.output, h.size, fun k hk _ => h.block k hk⟩⟩
theorem jbelow {w w' : World} {B : Nat} {row : Option Nat} (h : w.grownBy w' row) (hB : B ≤ w.heap.size) (hr : ∀ g, row = some g → B ≤ g) : Below B w w' :=
 ⟨h.os, h.tape, h.output, h.size, fun k hk => h.block k (by omega) (fun e => by have := hr k e.symm; omega)⟩
/-- A slice reads as q 0, q 1, .. -/
def Jl (w : World) (b : Option Addr) (K : IntKind) (m : Nat) (q : Nat → Int) : Prop := ∀ i, i < m → ∃ x o, b = some ⟨x, o, none⟩ ∧ w.cell? ⟨x, o + i, none⟩ = some (.int K (q i))
theorem Jl.later {w w' : World} {b : Option Addr} {K : IntKind} {m : Nat} {q : Nat → Int} (h : Jl w b K m q) (hb : Below w.heap.size w w') : Jl w' b K m q := fun i hi => by
 obtain ⟨x, o, e, hc⟩ := h i hi
 exact ⟨x, o, e, by rw [hb.cell (p := ⟨x, o + i, none⟩) (jcell_lt hc)]; exact hc⟩
/-- The byte i of a text. -/
def tb (s : ByteArray) (i : Nat) : Nat := if h : i < s.size then s[i].toNat else 0
theorem qdi {s : ByteArray} {i : Nat} (h : i < s.size) : s[i].toNat = tb s i := by unfold tb; rw [dif_pos h]
theorem tb_lt (s : ByteArray) (i : Nat) : tb s i < 256 := by
 unfold tb
 split
 ·exact UInt8.toNat_lt _
 ·omega
/-- A letter, a digit, a sign, a blank. -/
def isL (c : Nat) : Bool := decide (97 ≤ c ∧ c ≤ 122)
def isD (c : Nat) : Bool := decide (48 ≤ c ∧ c ≤ 57)
def sgs : List Nat := [61, 59, 44, 40, 41, 91, 93, 43, 45, 42, 47, 37]
def isS (c : Nat) : Bool := sgs.contains c
theorem qdj {c : Nat} : isL c = true ↔ 97 ≤ c ∧ c ≤ 122 := by unfold isL; exact decide_eq_true_iff
theorem qdk {c : Nat} : isD c = true ↔ 48 ≤ c ∧ c ≤ 57 := by unfold isD; exact decide_eq_true_iff
/-- The words. -/
def wds : List ByteArray := [⟨#[99, 111, 100, 101]⟩, ⟨#[99, 111, 110, 115, 116]⟩, ⟨#[99, 114, 111, 115, 115]⟩, ⟨#[100, 111, 109, 97, 105, 110, 115]⟩, ⟨#[106, 111, 105, 110]⟩, ⟨#[108, 105, 115, 116]⟩, ⟨#[108, 111, 99, 97, 108]⟩, ⟨#[109, 97, 116, 114, 105, 120]⟩, ⟨#[112, 108, 97, 99, 101]⟩, ⟨#[112, 114, 111, 100, 117, 99, 116]⟩, ⟨#[112, 121, 114, 97, 109, 105, 100]⟩, ⟨#[114, 101, 101, 100]⟩, ⟨#[114, 111, 119]⟩, ⟨#[115, 112, 105, 114, 97, 108]⟩, ⟨#[115, 112, 114, 101, 97, 100]⟩, ⟨#[116, 111, 108, 101, 114, 97, 116, 101]⟩, ⟨#[117, 115, 101]⟩]
def isW (x : ByteArray) : Bool := decide (x.data ∈ wds.map ByteArray.data)
theorem qdl {x : ByteArray} : isW x = true ↔ x ∈ wds := by
 unfold isW
 rw [decide_eq_true_iff, List.mem_map]
 constructor
 ·rintro ⟨y, hy, e⟩
  obtain ⟨z⟩ := y
  obtain ⟨u⟩ := x
  cases e
  exact hy
 ·intro h
  exact ⟨x, h, rfl⟩
theorem tl_ne {x y : ByteArray} (h : y ≠ x) : (y.toList == x.toList) = false := by
 rw [ByteArray.toList_eq, ByteArray.toList_eq]
 cases hc : y.data.toList == x.data.toList with
 | false => rfl
 | true =>
  have e : y.data.toList = x.data.toList := by simpa using hc
  obtain ⟨z⟩ := y
  obtain ⟨u⟩ := x
  exact absurd (congrArg ByteArray.mk (Array.toList_inj.1 e)) h
/-- Letters and digits, a letter first, 1 to 16, no word. -/
structure NameP (x : ByteArray) : Prop where
 pos : 1 ≤ x.size
 most : x.size ≤ 16
 first : isL (tb x 0) = true
 noWord : isW x = false
 all : ∀ j, j < x.size → (isL (tb x j) || isD (tb x j)) = true
open Go.RowKit
theorem qa0 {p : Prop} (h : p) : Hid p := h
theorem isL_t {c : Nat} (h : 97 ≤ c ∧ c ≤ 122) : isL c = true := qdj.2 h
theorem qdm {c : Nat} (h : ¬ (97 ≤ c ∧ c ≤ 122)) : isL c = false := by unfold isL; exact decide_eq_false h
theorem isD_t {c : Nat} (h : 48 ≤ c ∧ c ≤ 57) : isD c = true := qdk.2 h
theorem isD_f {c : Nat} (h : ¬ (48 ≤ c ∧ c ≤ 57)) : isD c = false := by unfold isD; exact decide_eq_false h
theorem qcd (w : World) (c : Nat) (hc : c < 256) : Calls Tryd.prog 49 #[.int .u8 (c : Int)] w fun e w' => e = .returned (.bool (isL c)) ∧ w = w' := by
 by_cases h1 : 97 ≤ c
 ·by_cases h2 : c ≤ 122
  ·rw [isL_t ⟨h1, h2⟩]
   have q : decide ((c : Int) ≤ 122) = true := decide_eq_true (by omega)
   go_enter Tryd.func49, Tryd.ntmps49
   go_wp2
   go_ret
   exact ⟨rfl, rfl⟩
  ·rw [qdm (fun h => h2 h.2)]
   have q : decide ((c : Int) ≤ 122) = false := decide_eq_false (by omega)
   go_enter Tryd.func49, Tryd.ntmps49
   go_wp2
   go_ret
   exact ⟨rfl, rfl⟩
 ·rw [qdm (fun h => h1 h.1)]
  go_enter Tryd.func49, Tryd.ntmps49
  go_wp2
  go_ret
  exact ⟨rfl, rfl⟩
theorem qd6 (w : World) (c : Nat) (hc : c < 256) : Calls Tryd.prog 51 #[.int .u8 (c : Int)] w fun e w' => e = .returned (.bool (isD c)) ∧ w = w' := by
 by_cases h1 : 48 ≤ c
 ·by_cases h2 : c ≤ 57
  ·rw [isD_t ⟨h1, h2⟩]
   have q : decide ((c : Int) ≤ 57) = true := decide_eq_true (by omega)
   go_enter Tryd.func51, Tryd.ntmps51
   go_wp2
   go_ret
   exact ⟨rfl, rfl⟩
  ·rw [isD_f (fun h => h2 h.2)]
   have q : decide ((c : Int) ≤ 57) = false := decide_eq_false (by omega)
   go_enter Tryd.func51, Tryd.ntmps51
   go_wp2
   go_ret
   exact ⟨rfl, rfl⟩
 ·rw [isD_f (fun h => h1 h.1)]
  go_enter Tryd.func51, Tryd.ntmps51
  go_wp2
  go_ret
  exact ⟨rfl, rfl⟩
/-- A block that begins with these strings. -/
def StAt (w : World) (b : Nat) (t : TypeId) (l : List ByteArray) : Prop := ∃ cur : Array Value, w.heap[b]? = some (.cells cur t (0, 0)) ∧ cur.toList.take l.length = l.map Value.string
theorem StAt.whole {w : World} {b : Nat} {t : TypeId} {l : List ByteArray} (h : w.heap[b]? = some (.cells (l.map Value.string).toArray t (0, 0))) : StAt w b t l := ⟨_, h, List.take_of_length_le (by simp)⟩
theorem StAt.cell {w : World} {b : Nat} {t : TypeId} {l : List ByteArray} (h : StAt w b t l) (i : Nat) (hi : i < l.length) : w.cell? ⟨b, i, none⟩ = some (.string (l.getD i default)) := by
 obtain ⟨cur, h, e⟩ := h
 rw [cell_of_row w b i _ _ _ h]
 have := congrArg (·[i]?) e
 simp only [List.getElem?_take, if_pos hi, List.getElem?_map] at this
 rw [← Array.getElem?_toList, this]
 simp [hi]
theorem StAt.lt {w : World} {b : Nat} {t : TypeId} {l : List ByteArray} (h : StAt w b t l) : b < w.heap.size := by
 obtain ⟨cur, h, _⟩ := h
 exact lt_of_block h
theorem StAt.later {w w' : World} {b : Nat} {t : TypeId} {l : List ByteArray} (h : StAt w b t l) (hb : Below w.heap.size w w') : StAt w' b t l := by
 have hlt := h.lt
 obtain ⟨cur, h, e⟩ := h
 exact ⟨cur, by rw [hb.block b hlt]; exact h, e⟩
theorem qd7 (w : World) : Calls Tryd.prog 63 #[] w fun e w' => ∃ b, e = .returned (.slice (some ⟨b, 0, none⟩) 17 17) ∧ w.heap.size ≤ b ∧ StAt w' b 9 wds ∧ Below w.heap.size w w' := by
 go_enter Tryd.func63, Tryd.ntmps63
 go_wp2
 go_ret
 exact ⟨w.heap.size, rfl, Nat.le_refl _, StAt.whole Array.getElem?_push_size, jlow _ _⟩
theorem qce : wds.length = 17 := rfl
theorem isW_at {i : Nat} {x : ByteArray} (hi : i < 17) (h : wds.getD i default = x) : isW x = true := by
 rw [qdl, ← h, List.getD_eq_getElem?_getD, List.getElem?_eq_getElem (by rw [qce]; exact hi)]
 exact List.getElem_mem _
theorem qdn {x : ByteArray} (h : ∀ i, i < 17 → wds.getD i default ≠ x) : isW x = false := by
 cases hc : isW x with
 | false => rfl
 | true =>
  rw [qdl] at hc
  obtain ⟨i, hi, e⟩ := List.getElem_of_mem hc
  exact absurd (by rw [List.getD_eq_getElem?_getD, List.getElem?_eq_getElem hi]; exact e) (h i (by rw [← qce]; exact hi))
theorem qdo (w : World) (x : ByteArray) : Calls Tryd.prog 50 #[.string x] w fun e w' => e = .returned (.bool (isW x)) ∧ Below w.heap.size w w' := by
 go_enter Tryd.func50, Tryd.ntmps50
 go_wp2_with (go_at_call 63; refine (qd7 _).mono ?_; rintro e w1 ⟨b, rfl, _, h1, h2⟩; have HS := qa0 h1; have HB := qa0 h2; clear h1 h2)
 go_loop [4] (fun vi => ∃ i : Nat, i ≤ 17 ∧ vi = .int .i64 (i : Int) ∧ Hid (∀ j, j < i → wds.getD j default ≠ x)) (fun vi => 17 - (intOf vi).toNat)
 case atStart => exact ⟨0, by omega, rfl, fun j hj => by omega⟩
 case round =>
  obtain ⟨i, hi, rfl, HN⟩ := hrel
  by_cases hlt : i < 17
  ·have hc := HS.out.cell i (by rw [qce]; exact hlt)
   obtain ⟨y, HY⟩ : ∃ y, Hid (wds.getD i default = y) := ⟨_, rfl⟩
   rw [HY.out] at hc
   by_cases hy : y = x
   ·subst hy
    have HS9 : Hid (isW y = true) := isW_at hlt HY.out
    go_wp2
    go_ret
    exact ⟨by rw [HS9.out]; rfl, HB.out⟩
   ·have hy2 := tl_ne hy
    go_wp2
    refine ⟨⟨i + 1, by omega, by go_num, fun j hj => ?_⟩, by simp [intOf]; omega⟩
    by_cases e : j = i
    ·rw [e, HY.out]; exact hy
    ·exact HN.out j (by omega)
  ·have HS9 : Hid (isW x = false) := qdn (fun j hj => HN.out j (by omega))
   go_wp2
   go_ret
   exact ⟨by rw [HS9.out]; rfl, HB.out⟩
open Go.RowKit
open Go.RowKit
/-- Is it a name? -/
def isN (x : ByteArray) : Bool := decide (1 ≤ x.size) && (decide (x.size ≤ 16) && (isL (tb x 0) && (!isW x && (List.range x.size).all (fun j => isL (tb x j) || isD (tb x j)))))
theorem qap {x : ByteArray} : isN x = true ↔ NameP x := by
 unfold isN
 simp only [Bool.and_eq_true, decide_eq_true_eq, Bool.not_eq_true', List.all_eq_true, List.mem_range]
 exact ⟨fun ⟨a, b, c, d, e⟩ => ⟨a, b, c, d, e⟩, fun ⟨a, b, c, d, e⟩ => ⟨a, b, c, d, e⟩⟩
theorem qal {x : ByteArray} (h : ¬ NameP x) : isN x = false := by
 cases hc : isN x with
 | false => rfl
 | true => exact absurd (qap.1 hc) h
theorem qbx (w : World) (x : ByteArray) (n : Nat) (hn : x.size = n) (hs : n ≤ 140737488351232) : Calls Tryd.prog 33 #[.string x] w fun e w' => e = .returned (.bool (isN x)) ∧ Below w.heap.size w w' := by
 have HWd : Hid (∀ w' : World, Calls Tryd.prog 50 #[.string x] w' fun e w'' => e = .returned (.bool (isW x)) ∧ Below w'.heap.size w' w'') := fun w' => qdo w' x
 obtain ⟨v, HV⟩ : ∃ v, Hid (isW x = v) := ⟨_, rfl⟩
 obtain ⟨r, HR⟩ : ∃ r, Hid (isN x = r) := ⟨_, rfl⟩
 rw [HV.out] at HWd
 rw [HR.out]
 by_cases h0 : n = 0
 ·obtain rfl : r = false := by rw [← HR.out]; exact qal (fun h => by have := h.pos; omega)
  have q : decide (n < 1) = true := decide_eq_true (by omega)
  have q1 : n < 1 := by omega
  clear HR
  go_enter Tryd.func33, Tryd.ntmps33
  go_wp2
  go_ret
  exact ⟨rfl, Below.refl _ _⟩
 by_cases h16 : 16 < n
 ·obtain rfl : r = false := by rw [← HR.out]; exact qal (fun h => by have := h.most; omega)
  have q : decide (n < 1) = false := decide_eq_false (by omega)
  have q1 : 1 ≤ n := by omega
  have q2 : decide (16 < n) = true := decide_eq_true h16
  clear HR
  go_enter Tryd.func33, Tryd.ntmps33
  go_wp2
  go_ret
  exact ⟨rfl, Below.refl _ _⟩
 have q : decide (n < 1) = false := decide_eq_false (by omega)
 have q1 : 1 ≤ n := by omega
 have q2 : decide (16 < n) = false := decide_eq_false h16
 have q3 : n ≤ 16 := by omega
 have h0x : 0 < x.size := by omega
 obtain ⟨c, HC⟩ : ∃ c, Hid (tb x 0 = c) := ⟨_, rfl⟩
 have hc : x[0].toNat = c := by rw [← HC.out]; exact qdi h0x
 have hc8 : c < 256 := by rw [← HC.out]; exact tb_lt x 0
 have HL : Hid (∀ (w' : World) (c : Nat), c < 256 → Calls Tryd.prog 49 #[.int .u8 (c : Int)] w' fun r w'' => r = .returned (.bool (isL c)) ∧ w' = w'') := fun w' c h => qcd w' c h
 have HD : Hid (∀ (w' : World) (c : Nat), c < 256 → Calls Tryd.prog 51 #[.int .u8 (c : Int)] w' fun r w'' => r = .returned (.bool (isD c)) ∧ w' = w'') := fun w' c h => qd6 w' c h
 obtain ⟨l0, HL0⟩ : ∃ l0, Hid (isL c = l0) := ⟨_, rfl⟩
 cases l0 with
 | false =>
  obtain rfl : r = false := by rw [← HR.out]; exact qal (fun h => by have := h.first; rw [HC.out, HL0.out] at this; cases this)
  clear HR
  go_enter Tryd.func33, Tryd.ntmps33
  go_wp2_with (go_at_call 49; refine (HL.out _ c hc8).mono ?_; rintro r w' ⟨rfl, rfl⟩; rw [HL0.out])
  go_ret
  exact ⟨rfl, Below.refl _ _⟩
 | true =>
  cases v with
  | true =>
   obtain rfl : r = false := by rw [← HR.out]; exact qal (fun h => by have := h.noWord; rw [HV.out] at this; cases this)
   clear HR
   go_enter Tryd.func33, Tryd.ntmps33
   go_wp2_with (first
    | (go_at_call 49; refine (HL.out _ c hc8).mono ?_; rintro r w' ⟨rfl, rfl⟩; rw [HL0.out])
    | (go_at_call 50; refine (HWd.out _).mono ?_; rintro r w1 ⟨rfl, hb1⟩; have HB1 := qa0 hb1; clear hb1))
   go_ret
   exact ⟨rfl, HB1.out⟩
  | false =>
   have HRn : Hid ((∀ j, j < n → (isL (tb x j) || isD (tb x j)) = true) → r = true) := fun h => by
    rw [← HR.out]
    exact qap.2 ⟨by omega, by omega, by rw [HC.out]; exact HL0.out, HV.out, by rw [hn]; exact h⟩
   have HRf : Hid (∀ j, j < n → (isL (tb x j) || isD (tb x j)) = false → r = false) := fun j hj h => by
    rw [← HR.out]
    exact qal (fun g => by have := g.all j (by omega); rw [h] at this; cases this)
   clear HR
   go_enter Tryd.func33, Tryd.ntmps33
   go_wp2_with (first
    | (go_at_call 49; refine (HL.out _ c hc8).mono ?_; rintro r w' ⟨rfl, rfl⟩; rw [HL0.out])
    | (go_at_call 50; refine (HWd.out _).mono ?_; rintro r w1 ⟨rfl, hb1⟩; have HB1 := qa0 hb1; clear hb1))
   go_loop [3] (fun vi => ∃ i : Nat, i ≤ n ∧ vi = .int .i64 (i : Int) ∧ Hid (∀ j, j < i → (isL (tb x j) || isD (tb x j)) = true)) (fun vi => n - (intOf vi).toNat)
   case atStart => exact ⟨0, by omega, rfl, fun j hj => by omega⟩
   case round =>
    obtain ⟨i, hi, rfl, HI⟩ := hrel
    by_cases hlt : i < n
    ·have hix : i < x.size := by omega
     obtain ⟨y, HY⟩ : ∃ y, Hid (tb x i = y) := ⟨_, rfl⟩
     have hy : x[i].toNat = y := by rw [← HY.out]; exact qdi hix
     have hy8 : y < 256 := by rw [← HY.out]; exact tb_lt x i
     obtain ⟨l1, HL1⟩ : ∃ l1, Hid (isL y = l1) := ⟨_, rfl⟩
     obtain ⟨d1, HD1⟩ : ∃ d1, Hid (isD y = d1) := ⟨_, rfl⟩
     have HI2 : Hid ((l1 || d1) = true → ∀ j, j < i + 1 → (isL (tb x j) || isD (tb x j)) = true) := fun h j hj => by
      by_cases e : j = i
      ·rw [e, HY.out, HL1.out, HD1.out]; exact h
      ·exact HI.out j (by omega)
     have HF2 : Hid ((l1 || d1) = false → r = false) := fun h => HRf.out i hlt (by rw [HY.out, HL1.out, HD1.out]; exact h)
     clear hc
     cases l1 with
     | true =>
      clear HF2
      go_wp2_with (go_at_call 49; refine (HL.out _ y hy8).mono ?_; rintro r w' ⟨rfl, rfl⟩; rw [HL1.out])
      exact ⟨⟨i + 1, by omega, by go_num, HI2.out rfl⟩, by simp [intOf]; omega⟩
     | false =>
      cases d1 with
      | true =>
       clear HF2
       go_wp2_with (first | (go_at_call 49; refine (HL.out _ y hy8).mono ?_; rintro r w' ⟨rfl, rfl⟩; rw [HL1.out]) | (go_at_call 51; refine (HD.out _ y hy8).mono ?_; rintro r w' ⟨rfl, rfl⟩; rw [HD1.out]))
       exact ⟨⟨i + 1, by omega, by go_num, HI2.out rfl⟩, by simp [intOf]; omega⟩
      | false =>
       obtain rfl : r = false := HF2.out rfl
       go_wp2_with (first | (go_at_call 49; refine (HL.out _ y hy8).mono ?_; rintro r w' ⟨rfl, rfl⟩; rw [HL1.out]) | (go_at_call 51; refine (HD.out _ y hy8).mono ?_; rintro r w' ⟨rfl, rfl⟩; rw [HD1.out]))
       go_ret
       exact ⟨rfl, HB1.out⟩
    ·obtain rfl : r = true := HRn.out (fun j hj => HI.out j (by omega))
     go_wp2
     go_ret
     exact ⟨rfl, HB1.out⟩
open Go.RowKit
/-- A variable of several cells. -/
def Vn (w : World) (b : Nat) (T : TypeId) (xs : Array Value) : Prop := w.heap[b]? = some (.cells xs T (0, 0))
theorem Vn.new (w : World) (T : TypeId) (xs : Array Value) : Vn (w.alloc (.cells xs T)) w.heap.size T xs := Array.getElem?_push_size
theorem Vn.lt {w : World} {b : Nat} {T : TypeId} {xs : Array Value} (h : Vn w b T xs) : b < w.heap.size := lt_of_block h
theorem Vn.later {w w' : World} {b : Nat} {T : TypeId} {xs : Array Value} (h : Vn w b T xs) (hb : Below w.heap.size w w') : Vn w' b T xs := by unfold Vn; rw [hb.block b h.lt]; exact h
theorem Vn.cell {w : World} {b : Nat} {T : TypeId} {xs : Array Value} (h : Vn w b T xs) (i : Nat) (v : Value) (hv : xs[i]? = some v) : w.cell? ⟨b, i, none⟩ = some v := by rw [cell_of_row w b i _ _ _ h]; exact hv
theorem Vn.free {w : World} {b : Nat} {T : TypeId} {xs : Array Value} (h : Vn w b T xs) (i : Nat) : w.frozen? ⟨b, i, none⟩ = false := by
 unfold Vn at h
 simp [World.frozen?, h]
theorem Vn.set {w : World} {b : Nat} {T : TypeId} {xs : Array Value} (h : Vn w b T xs) (i : Nat) (v : Value) : Vn (w.setCell ⟨b, i, none⟩ v) b T (xs.setIfInBounds i v) := by
 unfold Vn at *
 rw [setCell_eq_setRow w b i _ _ (0, 0) _ h, setRow_heap w b _ _ _ (0, 0) h]
theorem Vn.row {w : World} {b : Nat} {T : TypeId} {xs : Array Value} (h : Vn w b T xs) (ys : Array Value) : Vn (w.setRow b ys) b T ys := setRow_heap w b _ _ _ (0, 0) h
theorem qav (w : World) (b : Nat) (ys : Array Value) : w.grownBy (w.setRow b ys) (some b) :=
 ⟨rfl, rfl, rfl, by simp [World.setRow], fun k _ hk => setRow_other w b k ys (fun e => hk (by rw [e]))⟩
theorem sizeTok : (Tryd.prog.info? 96).map (·.size) = some 5 := by kernel_rfl
theorem sizeFau : (Tryd.prog.info? 29).map (·.size) = some 3 := by kernel_rfl
/-- A whole variable is written. -/
theorem qa1 {ops : Array Oper} {rest : List Oper} {op : Oper} {a : Act} {w : World} {Q : Exit → Act → World → Prop} (hgd : op.guard = none) (T : TypeId) (p q : Operand) (ho : op.op = .store T p q)
  (b : Nat) (xs ys : Array Value) (hp : a.eval p = .pointer (some ⟨b, 0, none⟩)) (hq : a.eval q = .agg ys) (hv : Vn w b T xs) (hi : (Tryd.prog.info? T).map (·.size) = some ys.size) (hsz : xs.size = ys.size) (h1 : ys.all (·.oneCell') = true)
  (h : ∀ w', Hid (Vn w' b T ys) → Hid (w.grownBy w' (some b)) → wpList Tryd.prog ops Q rest (a.put op.dst undef) w') : wpList Tryd.prog ops Q (op :: rest) a w :=
 wpList_store_row hgd T p q ho b ys hp hq T xs hv hi hsz h1 (h _ (hv.row ys) (qav w b ys))
theorem qbm (w : World) (b o : Nat) (ty : TypeId) (v : Value) (hi : (Tryd.prog.info? ty).map (·.size) = some 1) (hv : v.cells = #[v]) (h1 : v.oneCell' = true) (hc : (w.cell? ⟨b, o, none⟩).isSome = true) (hf : w.frozen? ⟨b, o, none⟩ = false) :
  (storeVar ty ⟨b, o, none⟩ v).run Tryd.prog w = .ok () (w.setCell ⟨b, o, none⟩ v) := by
 have h0 : ∀ j, j < [v].length → j = 0 := fun j hj => by simpa using hj
 have := run_storeCells_cells (P := Tryd.prog) b o [v] 0 w (fun j hj => by rw [h0 j hj]; simpa using hc) (fun j hj => by rw [h0 j hj]; simpa using hf) (fun u hu => by rw [show u = v by simpa using hu]; exact h1)
 cases hq : Tryd.prog.info? ty with
 | none => simp [hq] at hi
 | some i =>
  have hs : 1 = i.size := by simp [hq] at hi; omega
  simp only [Nat.add_zero] at this
  simp [storeVar, sizeOf, typeInfo, hq, hv, ← hs, this]
  rfl
/-- One cell of a variable is written. -/
theorem qby {op : Oper} {a : Act} {w : World} {K : Act → World → Prop} {Q : Exit → Act → World → Prop} (ty : TypeId) (x y : Operand) (ho : op.op = .store ty x y)
  (b o : Nat) (T : TypeId) (xs : Array Value) (v : Value) (hx : a.eval x = .pointer (some ⟨b, o, none⟩)) (hy : a.eval y = v) (hi : (Tryd.prog.info? ty).map (·.size) = some 1) (hv : v.cells = #[v]) (h1 : v.oneCell' = true) (hV : Vn w b T xs) (hlt : o < xs.size)
  (h : ∀ w', Hid (Vn w' b T (xs.setIfInBounds o v)) → Hid (w.grownBy w' (some b)) → K (a.put op.dst undef) w') : op.wp Tryd.prog a w K Q := by
 unfold Oper.wp execOp
 simp only [ho, hx, hy, Instr.storeAt, Instr.sureAddr, Sem.run_bind, Sem.run_pure, Result.andThen_ok, qbm w b o ty v hi hv h1 (by rw [hV.cell o xs[o] (by simp [hlt])]; rfl) (hV.free o)]
 refine h _ (hV.set o v) ?_
 rw [setCell_eq_setRow w b o _ _ (0, 0) _ hV]
 exact qav _ _ _
theorem wpList_store_one {ops : Array Oper} {rest : List Oper} {op : Oper} {a : Act} {w : World} {Q : Exit → Act → World → Prop} (hgd : op.guard = none) (ty : TypeId) (x y : Operand) (ho : op.op = .store ty x y)
  (b o : Nat) (T : TypeId) (xs : Array Value) (v : Value) (hx : a.eval x = .pointer (some ⟨b, o, none⟩)) (hy : a.eval y = v) (hi : (Tryd.prog.info? ty).map (·.size) = some 1) (hv : v.cells = #[v]) (h1 : v.oneCell' = true) (hV : Vn w b T xs) (hlt : o < xs.size)
  (h : ∀ w', Hid (Vn w' b T (xs.setIfInBounds o v)) → Hid (w.grownBy w' (some b)) → wpList Tryd.prog ops Q rest (a.put op.dst undef) w') : wpList Tryd.prog ops Q (op :: rest) a w :=
 wpList_plain hgd fun _ hK => qby ty x y ho b o T xs v hx hy hi hv h1 hV hlt (fun w' h1 h2 => hK _ _ (h w' h1 h2))
theorem qam (w : World) (xs : List Value) (t : TypeId) : ∀ j u, xs[j]? = some u → (w.alloc (.cells xs.toArray t)).cell? ((⟨w.heap.size, 0, none⟩ : Addr).add j) = some u := by
 intro j u hj
 have h : (w.alloc (.cells xs.toArray t)).heap[w.heap.size]? = some (.cells xs.toArray t (0, 0)) := Array.getElem?_push_size
 rw [show (⟨w.heap.size, 0, none⟩ : Addr).add j = ⟨w.heap.size, j, none⟩ by unfold Addr.add; split <;> simp_all, cell_of_row _ _ j _ _ _ h]
 simpa using hj
open Go.RowKit
theorem all3 {x y z : Value} (h0 : x.oneCell' = true) (h1 : y.oneCell' = true) (h2 : z.oneCell' = true) : (#[x, y, z] : Array Value).all (·.oneCell') = true := by simp [h0, h1, h2]
theorem all5 {x y z u v : Value} (h0 : x.oneCell' = true) (h1 : y.oneCell' = true) (h2 : z.oneCell' = true) (h3 : u.oneCell' = true) (h4 : v.oneCell' = true) : (#[x, y, z, u, v] : Array Value).all (·.oneCell') = true := by simp [h0, h1, h2, h3, h4]
open Go.RowKit
/-- A token in memory. -/
structure TV where
 k : Nat
 tx : ByteArray
 n : Int
 ln : Int
 cl : Int
open Go.RowKit
end Go.Proofs.YtgmndjbicandfaaDoor
