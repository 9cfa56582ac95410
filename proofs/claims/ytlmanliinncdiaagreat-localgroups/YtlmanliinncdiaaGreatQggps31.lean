/-
  Contracts of the program's matrices: ofRows, Of.
  Contracts of the program's matrices: Of.
  Contracts of the program's matrices: rowsOf.
  Contracts of the program's matrices: Stack.
  Contracts of the program's matrices: fillMultiples, Kron.
  The program's answers and the reference's, told alike: for each function what both answer.
  One product that the document fixes; what follows for products of matrices (grouped, transposed, applied, laid together); the program's answers by cases.
-/
import Derived.Test.YtlmanliinncdiaaGreatQggps00
import Derived.Test.YtlmanliinncdiaaGreatQggps30
import Derived.Test.YtlmanliinncdiaaGreatQggps16
set_option maxRecDepth 100000
set_option maxHeartbeats 16000000
namespace Go.Proofs.YtlmanliinncdiaaGreat
open Go.RowKit
/-- A row of values. -/
def vrow (n : Nat) (v : Nat → Value) : Array Value := (Array.range n).map v
theorem qd8 (n : Nat) (v : Nat → Value) : (vrow n v).size = n := by simp [vrow]
theorem qfy (n : Nat) (v : Nat → Value) (i : Nat) (h : i < n) : (vrow n v)[i]? = some (v i) := by simp [vrow, h]
theorem vrow_set (n : Nat) (v : Nat → Value) (i : Nat) (x : Value) : (vrow n v).setIfInBounds i x = vrow n (fun j => if j = i then x else v j) := by
 apply Array.ext
 ·simp [vrow]
 ·intro j h1 h2
  by_cases e : i = j
  ·subst e; simp [vrow]
  ·rw [Array.getElem_setIfInBounds_ne (by simpa using h1) e]; simp [vrow, Ne.symm e]
/-- A row of lists. -/
def VAt (w : World) (g n : Nat) (v : Nat → Value) : Prop := w.heap[g]? = some (.cells (vrow n v) 22 (0, 0))
theorem VAt.lt {w : World} {g n : Nat} {v : Nat → Value} (h : VAt w g n v) : g < w.heap.size := lt_of_block h
theorem VAt.cell {w : World} {g n : Nat} {v : Nat → Value} (h : VAt w g n v) (i : Nat) (hi : i < n) : w.cell? ⟨g, i, none⟩ = some (v i) := by rw [cell_of_row w g i _ _ _ h, qfy n v i hi]
theorem VAt.free {w : World} {g n : Nat} {v : Nat → Value} (h : VAt w g n v) (i : Nat) : w.frozen? ⟨g, i, none⟩ = false := by
 unfold VAt at h
 simp [World.frozen?, h]
theorem VAt.later {w w' : World} {g n : Nat} {v : Nat → Value} (h : VAt w g n v) (hb : Below w.heap.size w w') : VAt w' g n v := by unfold VAt; rw [hb.block g h.lt]; exact h
theorem VAt.congr {w : World} {g n : Nat} {v v' : Nat → Value} (h : VAt w g n v) (e : ∀ i, i < n → v i = v' i) : VAt w g n v' := by
 unfold VAt at *
 rw [h]
 congr 2
 apply Array.ext
 ·simp [vrow]
 ·intro i h1 h2
  simp [vrow]
  exact e i (by simpa [vrow] using h1)
theorem VAt.set {w : World} {g n : Nat} {v : Nat → Value} (h : VAt w g n v) (i : Nat) (x : Value) : VAt (w.setCell ⟨g, i, none⟩ x) g n (fun j => if j = i then x else v j) := by
 unfold VAt at *
 rw [setCell_eq_setRow w g i _ _ (0, 0) _ h, setRow_heap w g _ _ _ (0, 0) h, vrow_set]
theorem vmade_at {w1 : World} {base g n : Nat} (h : w1.ownsRow base 22 1 (.slice (some ⟨g, 0, none⟩) n n) n (madeCells (Value.slice none 0 0).cells (n * 1)).toList) : VAt w1 g n (fun _ => .slice none 0 0) := by
 rcases h.2 with ⟨h', _⟩ | ⟨g', cap', cur, h', _, hg, _, _, hs, htake⟩
 ·simp at h'
 ·simp only [Value.slice.injEq, Option.some.injEq, Addr.mk.injEq, and_true, true_and] at h'
  obtain ⟨rfl, rfl⟩ := h'
  unfold VAt
  rw [hg]
  congr 2
  apply Array.toList_inj.mp
  rw [List.take_of_length_le (by simp; omega)] at htake
  rw [htake, Nat.mul_one]
  show (madeCells #[Value.slice none 0 0] n).toList = _
  rw [toList_madeCells_one]
  apply List.ext_getElem
  ·simp [vrow]
  ·intro i h1 h2; simp [vrow]
theorem VAt.own {w : World} {g n B : Nat} {v : Nat → Value} (h : VAt w g n v) (hb : B ≤ g) (hn : n ≤ maxLen) : w.ownsRow B 22 1 (.slice (some ⟨g, 0, none⟩) n n) n (vrow n v).toList :=
 ⟨by simp [qd8], .inr ⟨g, n, vrow n v, rfl, hb, h, Nat.le_refl _, hn, by simp [qd8], List.take_of_length_le (by simp [qd8])⟩⟩
theorem info22 : (Tryz.prog.info? 22).map (fun i => (i.zero, i.size, i.bytes)) = some (some (.slice none 0 0), 1, 24) := by kernel_rfl
open Go.RowKit
theorem trf_all {F : Nat → Nat} {r c n : Nat} (hF : ∀ i, i < n → F i < 256) (R : Rt r c n) : ∀ p, p < n → trf F r c p < 256 := by
 intro p hp
 have hl := R.len
 have hr : 0 < r := by
  rcases Nat.eq_zero_or_pos r with rfl | h
  ·omega
  ·exact h
 unfold trf
 exact hF _ (R.at (Nat.mod_lt p hr) ((Nat.div_lt_iff_lt_mul hr).2 (by rw [Nat.mul_comm, hl]; exact hp)))
end Go.Proofs.YtlmanliinncdiaaGreat
