/-
  Choices of k of n, one after the other.
  How many choices of k of n there are.
  Sets of numbers, each as a number whose bits say what it has: how many there are, which place each has, and which one is next. No Go in sight.
  Lists of numbers in memory, of any kind of number; what stays.
-/
import Derived.Test.YtkfnedpnkeacpaaQffsh00
import Derived.Test.YtkfnedpnkeacpaaRows
import Derived.WalkKit
import Derived.WalkSpells
import Derived.WalkLawsBesides
import Derived.ProofKit
import Derived.OwnWalk
import Derived.Deep.QuietTactic
import Derived.BigQuiet
import Derived.RegionTactic
import Derived.Lib.MinMax
set_option maxRecDepth 100000
set_option maxHeartbeats 16000000
namespace Go.Proofs.Ytkfnedpnkeacpaa
/-- The choice as a number. -/
def vl (n : Nat) (q : Nat → Nat) : Nat → Nat
 | 0 => 0
 | k + 1 => vl n q k * n + q k
def bin : Nat → Nat → Nat
 | _, 0 => 1
 | 0, _ + 1 => 0
 | n + 1, k + 1 => bin n (k + 1) + bin n k
/-- Bit i. -/
def bt (s i : Nat) : Nat := s / 2 ^ i % 2
/-- How many sets of l have the least number and m numbers in all, or could. -/
def bw (l : Nat) : Nat → Nat
 | 0 => 0
 | m + 1 => bin l m
open Go.RowKit
theorem ji64 : (Try.prog.info? 3).map (fun i => (i.zero, i.size, i.bytes)) = some (some (.int .i64 0), 1, 8) := by kernel_rfl
theorem jcell_lt {w : World} {b o : Nat} {v : Value} (h : w.cell? ⟨b, o, none⟩ = some v) : b < w.heap.size := by
 by_cases hb : b < w.heap.size
 ·exact hb
 ·simp [World.cell?, hb] at h
theorem jtwo {w w1 w2 : World} (h1 : Below w.heap.size w w1) (h2 : Below w1.heap.size w1 w2) : Below w.heap.size w w2 := h1.trans (h2.mono h1.size)
theorem jlow (w : World) (o : Obj) : Below w.heap.size w (w.alloc o) := (Below.refl _ _).alloc (Nat.le_refl _) _
theorem jgrown {w w' : World} : w.grownBy w' none ↔ Below w.heap.size w w' :=
 ⟨fun h => ⟨h.os, h.tape, h.output, h.size, fun k hk => h.block k hk (by simp)⟩, fun h => ⟨h.os, h.tape, h.output, h.size, fun k hk _ => h.block k hk⟩⟩
theorem jbelow {w w' : World} {B : Nat} {row : Option Nat} (h : w.grownBy w' row) (hB : B ≤ w.heap.size) (hr : ∀ g, row = some g → B ≤ g) : Below B w w' :=
 ⟨h.os, h.tape, h.output, h.size, fun k hk => h.block k (by omega) (fun e => by have := hr k e.symm; omega)⟩
/-- The cells of a list of n numbers of a kind. -/
def jrow (K : IntKind) (n : Nat) (f : Nat → Nat) : Array Value := (Array.range n).map fun i => .int K (f i : Nat)
theorem qc7 (K : IntKind) (n : Nat) (f : Nat → Nat) : (jrow K n f).size = n := by simp [jrow]
theorem qbp (K : IntKind) (n : Nat) (f : Nat → Nat) (i : Nat) (h : i < n) : (jrow K n f)[i]? = some (.int K (f i : Nat)) := by simp [jrow, h]
theorem qe9 (K : IntKind) (n : Nat) (f f' : Nat → Nat) (h : ∀ i, i < n → f i = f' i) : jrow K n f = jrow K n f' := by
 apply Array.ext
 ·simp [jrow]
 ·intro j h1 h2
  simp [qc7] at h1
  simp [jrow, h j h1]
theorem qf0 (K : IntKind) (n : Nat) (f : Nat → Nat) (v : Nat) : (jrow K n f).toList ++ [.int K (v : Int)] = (jrow K (n + 1) (fun i => if i = n then v else f i)).toList := by
 apply List.ext_getElem?
 intro i
 have hl : (jrow K n f).toList.length = n := by simp [qc7]
 by_cases h1 : i < n
 ·rw [List.getElem?_append_left (by omega), Array.getElem?_toList, Array.getElem?_toList, qbp K n f i h1, qbp K (n + 1) _ i (by omega), if_neg (by omega)]
 ·rw [List.getElem?_append_right (by omega), hl]
  by_cases h2 : i = n
  ·subst h2
   have e2 : (jrow K (i + 1) (fun t => if t = i then v else f t)).toList[i]? = some (.int K (v : Int)) := by rw [Array.getElem?_toList, qbp K (i + 1) _ i (by omega), if_pos rfl]
   rw [Nat.sub_self, e2]; rfl
  ·have l2 : (jrow K (n + 1) (fun i => if i = n then v else f i)).toList.length = n + 1 := by simp [qc7]
   rw [List.getElem?_eq_none (by simp; omega), List.getElem?_eq_none (by omega)]
/-- Numbers of the call's own. -/
def Jo (w : World) (B : Nat) (T : TypeId) (K : IntKind) (v : Value) (n : Nat) (f : Nat → Nat) : Prop := w.ownsRow B T 1 v n (jrow K n f).toList
theorem Jo.nil (w : World) (B : Nat) (T : TypeId) (K : IntKind) (f : Nat → Nat) : Jo w B T K (.slice none 0 0) 0 f := by
 unfold Jo
 have : (jrow K 0 f).toList = [] := by simp [jrow]
 rw [this]
 exact World.ownsRow_nil _ _ _ _
theorem Jo.kept {w w' : World} {B n : Nat} {T : TypeId} {K : IntKind} {v : Value} {f : Nat → Nat} {row : Option Nat} (h : Jo w B T K v n f) (hg : w.grownBy w' row) (hne : v.ownBlock = none ∨ v.ownBlock ≠ row) : Jo w' B T K v n f := World.ownsRow.kept h hg hne
theorem Jo.later {w w' : World} {B n : Nat} {T : TypeId} {K : IntKind} {v : Value} {f : Nat → Nat} (h : Jo w B T K v n f) (hb : Below w.heap.size w w') : Jo w' B T K v n f := h.kept (jgrown.mpr hb) (by cases hv : v.ownBlock <;> simp)
theorem Jo.form {w : World} {B n : Nat} {T : TypeId} {K : IntKind} {v : Value} {f : Nat → Nat} (h : Jo w B T K v n f) : ∃ s d, v = .slice s n d ∧ (s = none → n = 0 ∧ d = 0) := by
 rcases h.2 with ⟨e, h0⟩ | ⟨g, cap, cur, e, _⟩
 ·exact ⟨none, 0, by rw [e, h0], fun _ => ⟨h0, rfl⟩⟩
 ·exact ⟨_, _, e, fun x => by cases x⟩
theorem Jo.base {w : World} {B n : Nat} {T : TypeId} {K : IntKind} {v : Value} {f : Nat → Nat} (h : Jo w B T K v n f) {g : Nat} (hg : v.ownBlock = some g) : B ≤ g ∧ g < w.heap.size := by
 rcases h.2 with ⟨e, _⟩ | ⟨g', cap, cur, e, hB, hb, _⟩
 ·rw [e] at hg; simp [Value.ownBlock] at hg
 ·rw [e] at hg; simp [Value.ownBlock] at hg; subst hg; exact ⟨hB, lt_of_block hb⟩
theorem Jo.addr {w : World} {B n d : Nat} {T : TypeId} {K : IntKind} {s : Option Addr} {f : Nat → Nat} (h : Jo w B T K (.slice s n d) n f) (hn : 0 < n) : ∃ g, s = some ⟨g, 0, none⟩ ∧ B ≤ g ∧ g < w.heap.size := by
 rcases h.2 with ⟨_, h0⟩ | ⟨g, cap, cur, e, hB, hg, hc, _, hs, ht⟩
 ·omega
 ·cases e
  exact ⟨g, rfl, hB, lt_of_block hg⟩
theorem Jo.cell {w : World} {B n d g : Nat} {T : TypeId} {K : IntKind} {f : Nat → Nat} (h : Jo w B T K (.slice (some ⟨g, 0, none⟩) n d) n f) (i : Nat) (hi : i < n) : w.cell? ⟨g, i, none⟩ = some (.int K (f i : Nat)) := by
 rcases h.2 with ⟨_, h0⟩ | ⟨g, cap, cur, e, _, hg, hc, _, hs, ht⟩
 ·omega
 ·cases e
  rw [cell_of_row w g i _ _ _ hg]
  have e1 : (cur.toList.take (n * 1))[i]? = some (.int K (f i : Nat)) := by rw [ht, Array.getElem?_toList, qbp K n f i hi]
  rw [List.getElem?_take, if_pos (by omega), Array.getElem?_toList] at e1
  exact e1
theorem Jo.free {w : World} {B n d g : Nat} {T : TypeId} {K : IntKind} {f : Nat → Nat} (h : Jo w B T K (.slice (some ⟨g, 0, none⟩) n d) n f) (i : Nat) : w.frozen? ⟨g, i, none⟩ = false := World.ownsRow.frozenAt h i
theorem Jo.congr {w : World} {B n : Nat} {T : TypeId} {K : IntKind} {v : Value} {f f' : Nat → Nat} (h : Jo w B T K v n f) (e : ∀ i, i < n → f i = f' i) : Jo w B T K v n f' := by
 unfold Jo at *
 rw [← qe9 K n f f' e]; exact h
theorem Jo.mono {w : World} {B B' n : Nat} {T : TypeId} {K : IntKind} {v : Value} {f : Nat → Nat} (h : Jo w B T K v n f) (hB : B' ≤ B) : Jo w B' T K v n f := by
 refine ⟨h.1, ?_⟩
 rcases h.2 with h' | ⟨g, cap, cur, e, hb, r⟩
 ·exact .inl h'
 ·exact .inr ⟨g, cap, cur, e, by omega, r⟩
theorem qb9 (K : IntKind) (w : World) (t : TypeId) (x : Nat) : ∀ j u, [Value.int K (x : Int)][j]? = some u → (w.alloc (.cells #[.int K (x : Int)] t)).cell? ((⟨w.heap.size, 0, none⟩ : Addr).add j) = some u := by
 intro j u hj
 match j, hj with
 | 0, hj => simp at hj; subst hj; simp [Addr.add]
theorem qba (K : IntKind) (x : Nat) : ∀ u ∈ [Value.int K (x : Int)], u.oneCell' = true := by intro u hu; simp at hu; subst hu; rfl
/-- A slice reads as q 0, q 1, .. -/
def Jl (w : World) (b : Option Addr) (K : IntKind) (m : Nat) (q : Nat → Int) : Prop := ∀ i, i < m → ∃ x o, b = some ⟨x, o, none⟩ ∧ w.cell? ⟨x, o + i, none⟩ = some (.int K (q i))
theorem Jl.later {w w' : World} {b : Option Addr} {K : IntKind} {m : Nat} {q : Nat → Int} (h : Jl w b K m q) (hb : Below w.heap.size w w') : Jl w' b K m q := fun i hi => by
 obtain ⟨x, o, e, hc⟩ := h i hi
 exact ⟨x, o, e, by rw [hb.cell (p := ⟨x, o + i, none⟩) (jcell_lt hc)]; exact hc⟩
theorem Jo.jl {w : World} {B n d : Nat} {T : TypeId} {K : IntKind} {s : Option Addr} {f : Nat → Nat} (h : Jo w B T K (.slice s n d) n f) : Jl w s K n (fun i => (f i : Int)) := fun i hi => by
 obtain ⟨g, rfl, _⟩ := h.addr (by omega)
 exact ⟨g, 0, rfl, by rw [Nat.zero_add]; exact h.cell i hi⟩
end Go.Proofs.Ytkfnedpnkeacpaa
