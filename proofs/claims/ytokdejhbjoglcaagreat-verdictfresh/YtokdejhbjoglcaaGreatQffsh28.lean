/-
  Contracts of the reference: Inverse's and Combine's errors; the laws' ints.
  Contracts of the program's matrices: ofRows, Of.
  Contracts of the program's matrices: Of.
  Contracts of the program's matrices: rowsOf.
  Contracts of the program's matrices: Stack.
  Contracts of the program's matrices: fillMultiples, Kron.
  The program's answers and the reference's, told alike: for each function what both answer.
  One product that the document fixes; what follows for products of matrices (grouped, transposed, applied, laid together); the program's answers by cases.
  What the program's gauss answers, in the forms that the laws' walks take (here over a scratch package that only calls the reference).
-/
import Derived.Test.YtokdejhbjoglcaaGreatQffsh00
import Derived.Test.YtokdejhbjoglcaaGreatQffsh25
import Derived.Test.YtokdejhbjoglcaaGreatQffsh27
import Derived.Test.YtokdejhbjoglcaaGreatQffsh07
set_option maxRecDepth 100000
set_option maxHeartbeats 16000000
namespace Go.Proofs.YtokdejhbjoglcaaGreat
open Go.RowKit
/-- A row of values. -/
def vrow (n : Nat) (v : Nat → Value) : Array Value := (Array.range n).map v
theorem qe7 (n : Nat) (v : Nat → Value) : (vrow n v).size = n := by simp [vrow]
theorem vrow_get (n : Nat) (v : Nat → Value) (i : Nat) (h : i < n) : (vrow n v)[i]? = some (v i) := by simp [vrow, h]
theorem vrow_set (n : Nat) (v : Nat → Value) (i : Nat) (x : Value) : (vrow n v).setIfInBounds i x = vrow n (fun j => if j = i then x else v j) := by
 apply Array.ext
 ·simp [vrow]
 ·intro j h1 h2
  by_cases e : i = j
  ·subst e; simp [vrow]
  ·rw [Array.getElem_setIfInBounds_ne (by simpa using h1) e]; simp [vrow, Ne.symm e]
/-- A row of lists. -/
def VAt (w : World) (g n : Nat) (v : Nat → Value) : Prop := w.heap[g]? = some (.cells (vrow n v) 22 (0, 0))
theorem VAt.lt {w : World} {g n : Nat} {v : Nat → Value} (h : VAt w g n v) : g < w.heap.size := lt_of_block h
theorem VAt.cell {w : World} {g n : Nat} {v : Nat → Value} (h : VAt w g n v) (i : Nat) (hi : i < n) : w.cell? ⟨g, i, none⟩ = some (v i) := by rw [cell_of_row w g i _ _ _ h, vrow_get n v i hi]
theorem VAt.free {w : World} {g n : Nat} {v : Nat → Value} (h : VAt w g n v) (i : Nat) : w.frozen? ⟨g, i, none⟩ = false := by
 unfold VAt at h
 simp [World.frozen?, h]
theorem VAt.later {w w' : World} {g n : Nat} {v : Nat → Value} (h : VAt w g n v) (hb : Below w.heap.size w w') : VAt w' g n v := by unfold VAt; rw [hb.block g h.lt]; exact h
theorem VAt.congr {w : World} {g n : Nat} {v v' : Nat → Value} (h : VAt w g n v) (e : ∀ i, i < n → v i = v' i) : VAt w g n v' := by
 unfold VAt at *
 rw [h]
 congr 2
 apply Array.ext
 ·simp [vrow]
 ·intro i h1 h2
  simp [vrow]
  exact e i (by simpa [vrow] using h1)
theorem VAt.set {w : World} {g n : Nat} {v : Nat → Value} (h : VAt w g n v) (i : Nat) (x : Value) : VAt (w.setCell ⟨g, i, none⟩ x) g n (fun j => if j = i then x else v j) := by
 unfold VAt at *
 rw [setCell_eq_setRow w g i _ _ (0, 0) _ h, setRow_heap w g _ _ _ (0, 0) h, vrow_set]
theorem vmade_at {w1 : World} {base g n : Nat} (h : w1.ownsRow base 22 1 (.slice (some ⟨g, 0, none⟩) n n) n (madeCells (Value.slice none 0 0).cells (n * 1)).toList) : VAt w1 g n (fun _ => .slice none 0 0) := by
 rcases h.2 with ⟨h', _⟩ | ⟨g', cap', cur, h', _, hg, _, _, hs, htake⟩
 ·simp at h'
 ·simp only [Value.slice.injEq, Option.some.injEq, Addr.mk.injEq, and_true, true_and] at h'
  obtain ⟨rfl, rfl⟩ := h'
  unfold VAt
  rw [hg]
  congr 2
  apply Array.toList_inj.mp
  rw [List.take_of_length_le (by simp; omega)] at htake
  rw [htake, Nat.mul_one]
  show (madeCells #[Value.slice none 0 0] n).toList = _
  rw [toList_madeCells_one]
  apply List.ext_getElem
  ·simp [vrow]
  ·intro i h1 h2; simp [vrow]
theorem VAt.own {w : World} {g n B : Nat} {v : Nat → Value} (h : VAt w g n v) (hb : B ≤ g) (hn : n ≤ maxLen) : w.ownsRow B 22 1 (.slice (some ⟨g, 0, none⟩) n n) n (vrow n v).toList :=
 ⟨by simp [qe7], .inr ⟨g, n, vrow n v, rfl, hb, h, Nat.le_refl _, hn, by simp [qe7], List.take_of_length_le (by simp [qe7])⟩⟩
theorem info22 : (Tryz.prog.info? 22).map (fun i => (i.zero, i.size, i.bytes)) = some (some (.slice none 0 0), 1, 24) := by kernel_rfl
open Go.RowKit
/-- The numbers of a list of four. -/
def four (a b c d i : Nat) : Nat := if i = 0 then a else if i = 1 then b else if i = 2 then c else d
/-- Every place of a matrix is a row and a column. -/
theorem place_of {r c n p : Nat} (R : Rt r c n) (hp : p < n) : ∃ i j, i < r ∧ j < c ∧ p = i * c + j := by
 have hl := R.len
 have hc : 0 < c := by
  rcases Nat.eq_zero_or_pos c with rfl | h
  ·omega
  ·exact h
 refine ⟨p / c, p % c, (Nat.div_lt_iff_lt_mul hc).2 (by rw [hl]; exact hp), Nat.mod_lt p hc, ?_⟩
 have := Nat.div_add_mod p c
 rw [Nat.mul_comm] at this
 exact this.symm
open Go.RowKit
/-- What Reduce answers of a right matrix. -/
def RedP (w w' : World) (e : Ending) (r c n : Nat) (F : Nat → Nat) : Prop := ∃ s d ps pd top p G, e = .returned (.tuple #[mv r c s n d, .slice ps top pd, .int .i64 0]) ∧ Mt w' s n d G ∧ Il w' ps top (fun i => (p i : Int)) ∧ Rdf (m2 G r c) r top p ∧ SpEq (m2 G r c) r (m2 F r c) r ∧ (∀ i, i < top → p i < c) ∧ Below w.heap.size w w'
theorem RedA.p {w w' : World} {e : Ending} {r c n : Nat} {F : Nat → Nat} (h : RedA w w' e r c n F) : RedP w w' e r c n F := by
 obtain ⟨s, d, ps, pd, top, p, G, he, ho, hi, hG, hr⟩ := h
 exact ⟨s, d, ps, pd, top, p, G, he, qgr ho hG, hi.il, hr⟩
theorem RedP.later {w w1 w' : World} {e : Ending} {r c n : Nat} {F : Nat → Nat} (h : RedP w1 w' e r c n F) (hb : Below w.heap.size w w1) : RedP w w' e r c n F := by
 obtain ⟨s, d, ps, pd, top, p, G, he, hm, hi, hr, hs, hp, hb2⟩ := h
 exact ⟨s, d, ps, pd, top, p, G, he, hm, hi, hr, hs, hp, qa0 hb hb2⟩
theorem Il.congr {w : World} {b : Option Addr} {m : Nat} {q q' : Nat → Int} (h : Il w b m q) (e : ∀ i, i < m → q i = q' i) : Il w b m q' := fun i hi => by
 obtain ⟨x, o, ea, hc⟩ := h i hi
 exact ⟨x, o, ea, by rw [← e i hi]; exact hc⟩
end Go.Proofs.YtokdejhbjoglcaaGreat
