/-
  Contracts of the tables: powersOfTwo, exponentsOfTwo.
-/
import Derived.Test.YthdgpmanijifoaaQbbst00
import Derived.Test.YthdgpmanijifoaaQbbst01
import Derived.Laws.Rows
import Derived.Laws.Tables
import Derived.Below
import Derived.OneCell
import Derived.Laws.CopyOwn
set_option maxRecDepth 100000
set_option maxHeartbeats 16000000
namespace Go.Proofs.Ythdgpmanijifoaa
open Go.RowKit
/-- The cells of an array of n bytes, by their numbers. -/
def row (n : Nat) (f : Nat → Nat) : Array Value := (Array.range n).map fun i => .int .u8 (f i : Nat)
theorem qa4 (n : Nat) (f : Nat → Nat) : (row n f).size = n := by simp [row]
theorem qaw (n : Nat) (f : Nat → Nat) (i : Nat) (h : i < n) : (row n f)[i]? = some (.int .u8 (f i : Nat)) := by simp [row, h]
theorem row_set (n : Nat) (f : Nat → Nat) (i v : Nat) : (row n f).setIfInBounds i (.int .u8 (v : Int)) = row n (fun j => if j = i then v else f j) := by
 apply Array.ext
 ·simp [row]
 ·intro j h1 h2
  by_cases e : i = j
  ·subst e; simp [row]
  ·rw [Array.getElem_setIfInBounds_ne (by simpa using h1) e]; simp [row, Ne.symm e]
theorem qcl (n : Nat) (f f' : Nat → Nat) (h : ∀ i, i < n → f i = f' i) : row n f = row n f' := by
 apply Array.ext
 ·simp [row]
 ·intro j h1 h2
  simp [qa4] at h1
  simp [row, h j h1]
theorem row_one (n : Nat) (f : Nat → Nat) : (row n f).all (·.oneCell') = true := by
 simp only [row, Array.all_eq_true]
 intro i hi
 simp
 rfl
theorem zero54 (w : World) : Sem.run Try.prog (zeroValue 94) w = .ok (.agg (row 255 fun _ => 0)) w := by kernel_rfl
theorem zero56 (w : World) : Sem.run Try.prog (zeroValue 96) w = .ok (.agg (row 256 fun _ => 0)) w := by kernel_rfl
theorem qb4 : (Try.prog.info? 94).map (·.size) = some 255 := by kernel_rfl
theorem size56 : (Try.prog.info? 96).map (·.size) = some 256 := by kernel_rfl
/-- The block of an array of bytes. -/
def RowAt (w : World) (b : Nat) (t : TypeId) (n : Nat) (f : Nat → Nat) : Prop := w.heap[b]? = some (.cells (row n f) t (0, 0))
theorem RowAt.cell {w : World} {b : Nat} {t : TypeId} {n : Nat} {f : Nat → Nat} (h : RowAt w b t n f) (i : Nat) (hi : i < n) : w.cell? ⟨b, i, none⟩ = some (.int .u8 (f i : Nat)) := by
 rw [cell_of_row w b i _ t _ h, qaw n f i hi]
theorem RowAt.free {w : World} {b : Nat} {t : TypeId} {n : Nat} {f : Nat → Nat} (h : RowAt w b t n f) (i : Nat) : w.frozen? ⟨b, i, none⟩ = false := by
 unfold RowAt at h
 simp [World.frozen?, h]
theorem RowAt.set {w : World} {b : Nat} {t : TypeId} {n : Nat} {f : Nat → Nat} (h : RowAt w b t n f) (i v : Nat) : RowAt (w.setCell ⟨b, i, none⟩ (.int .u8 (v : Int))) b t n (fun j => if j = i then v else f j) := by
 unfold RowAt at *
 rw [setCell_eq_setRow w b i _ t (0, 0) _ h, setRow_heap w b _ _ t (0, 0) h, row_set]
theorem RowAt.other {w : World} {b : Nat} {t : TypeId} {n : Nat} {f : Nat → Nat} (h : RowAt w b t n f) (a : Addr) (v : Value) (hb : b ≠ a.block) : RowAt (w.setCell a v) b t n f := by
 unfold RowAt at *
 rw [Below.heap_setCell w a v b hb, h]
theorem RowAt.congr {w : World} {b : Nat} {t : TypeId} {n : Nat} {f f' : Nat → Nat} (h : RowAt w b t n f) (e : ∀ i, i < n → f i = f' i) : RowAt w b t n f' := by
 unfold RowAt at *
 rw [h, qcl n f f' e]
theorem qcc (w : World) : Calls Try.prog 56 #[] w fun e w' => e = .returned (.agg (row 255 g)) ∧ Below w.heap.size w w' := by
 have z := zero54
 go_enter Try.func56, Try.ntmps56
 go_wp2
 clear z
 go_loopw [2, 4] (fun p i wr => ∃ k : Nat, k ≤ 255 ∧ i = .int .i64 (k : Int) ∧ p = .int .u8 ((g k : Nat) : Int) ∧ Below w.heap.size w wr ∧ RowAt wr w.heap.size 94 255 (fun _ => 0) ∧ RowAt wr (w.heap.size + 1) 94 255 (fun j => if j < k then g j else 0)) (fun _ i _ => 255 - (intOf i).toNat)
 case atStart =>
  refine ⟨0, by omega, rfl, rfl, ((Below.refl _ _).alloc (Nat.le_refl _) _).alloc (by simp) _, ?_, ?_⟩
  ·exact heap_alloc2_old ..
  ·exact RowAt.congr (heap_alloc2_new ..) (by intro i _; simp)
 case round =>
  obtain ⟨k, hk, rfl, rfl, hb, h0, h1⟩ := hrel
  by_cases hlt : k < 255
  ·have hc := h1.cell k hlt
   have hf := h1.free k
   have hg := g_lt k
   have R : Hid (Below w.heap.size w (wr.setCell ⟨w.heap.size + 1, k, none⟩ (.int .u8 (g k : Nat))) ∧ RowAt (wr.setCell ⟨w.heap.size + 1, k, none⟩ (.int .u8 (g k : Nat))) w.heap.size 94 255 (fun _ => 0) ∧ RowAt (wr.setCell ⟨w.heap.size + 1, k, none⟩ (.int .u8 (g k : Nat))) (w.heap.size + 1) 94 255 (fun j => if j < k + 1 then g j else 0)) := by
    refine ⟨hb.setCell (by simp) _, h0.other _ _ (by simp), (h1.set k (g k)).congr ?_⟩
    intro i _
    by_cases e : i = k
    ·subst e; simp
    ·by_cases e2 : i < k
     ·simp [e, e2, show i < k + 1 by omega]
     ·simp [e, e2, show ¬ i < k + 1 by omega]
   clear h0 h1 hb
   go_wp2_with (go_at_call 51; refine (qag _ _ hg).mono ?_; rintro e w' ⟨rfl, rfl⟩)
   exact ⟨⟨k + 1, by omega, by go_num, rfl, R.out.1, R.out.2.1, R.out.2.2⟩, by simp [intOf]; omega⟩
  ·have h1' : RowAt wr (w.heap.size + 1) 94 255 g := h1.congr (by intro i hi; simp [show i < k by omega])
   clear h1
   go_wp2_with (first | (refine wpList_load_row rfl 94 _ rfl (w.heap.size + 1) rfl 94 (row 255 g) (0, 0) _ h1' Try.underlying94 rfl (by rw [qa4]; exact qb4) ?_) | (refine wpList_store_row rfl 94 _ _ rfl w.heap.size (row 255 g) rfl rfl 94 _ h0 (by rw [qa4]; exact qb4) (by rw [qa4, qa4]) (row_one _ _) ?_))
   exact bodyPost_ret (results_cell_row Try.results56 _ _ w.heap.size 94 (row 255 g) (0, 0) _ rfl (setRow_heap _ _ _ _ _ _ h0) Try.underlying94 rfl (by rw [qa4]; exact qb4)) rfl ⟨rfl, below_setRow hb (Nat.le_refl _) _⟩
theorem info5 : (Try.prog.info? 5).map (·.size) = some 1 := by kernel_rfl
theorem idx_row {t : TypeId} {n : Nat} (hu : Try.prog.underlying t = some (.array n 5)) (f : Nat → Nat) (k : IntKind) (i : Nat) (hi : i < n) (w : World) :
  (Instr.index t (.agg (row n f)) (.int k (i : Int))).run Try.prog w = .ok (.int .u8 (f i : Nat)) w := by
 have hr := qaw n f i hi
 cases hq : Try.prog.info? 5 with
 | none => have := info5; simp [hq] at this
 | some inf =>
  have hs : inf.size = 1 := by have := info5; simpa [hq] using this
  simp [Instr.index, run_underlying hu, asIntOf, hi, part, isAgg, run_underlying Try.underlying5, sizeOf, typeInfo, hq, hs, hr, go_sem]
theorem ex_step (k j : Nat) (hk : k < 255) (hj : j < 256) : (if j = g k then k else if lg j < k ∧ j ≠ 0 then lg j else 0) = if lg j < k + 1 ∧ j ≠ 0 then lg j else 0 := by
 by_cases h : j = g k
 ·rw [if_pos h, h, lg_g k hk, if_pos ⟨by omega, g_pos k⟩]
 ·rw [if_neg h]
  by_cases h0 : j = 0
  ·simp [h0]
  ·have : lg j ≠ k := by intro e; apply h; rw [← e, (qch j hj h0).2]
   by_cases h2 : lg j < k
   ·simp [h2, h0, show lg j < k + 1 by omega]
   ·simp [h2, show ¬ lg j < k + 1 by omega]
theorem lg_zero : lg 0 = 0 := by kernel_rfl
theorem heap3_0 (w : World) (A B C : Obj) : (((w.alloc A).alloc B).alloc C).heap[w.heap.size]? = some A := by
 rw [Below.heap_alloc _ _ _ (by simp; omega), heap_alloc2_old]
theorem heap3_1 (w : World) (A B C : Obj) : (((w.alloc A).alloc B).alloc C).heap[w.heap.size + 1]? = some B := by
 rw [Below.heap_alloc _ _ _ (by simp), heap_alloc2_new]
theorem heap3_2 (w : World) (A B C : Obj) : (((w.alloc A).alloc B).alloc C).heap[w.heap.size + 1 + 1]? = some C := by
 have := heap_alloc_new ((w.alloc A).alloc B) C
 simpa using this
end Go.Proofs.Ythdgpmanijifoaa
