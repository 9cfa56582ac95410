/-
  Contract of the table of exponents.
-/
import Derived.Test.YthdgpmanijifoaaQbbst00
import Derived.Test.YthdgpmanijifoaaQbbst02
set_option maxRecDepth 100000
set_option maxHeartbeats 16000000
namespace Go.Proofs.Ythdgpmanijifoaa
open Go.RowKit
theorem exps_raw (w : World) (cs zs : Array Value) (HC : Hid (cs = row 255 g)) (HZ : Hid (zs = row 256 fun _ => 0)) : Calls Try.prog 57 #[.agg cs] w fun e w' => e = .returned (.agg (row 256 lg)) ∧ Below w.heap.size w w' := by
 have z : ∀ w, Sem.run Try.prog (zeroValue 96) w = .ok (.agg zs) w := by rw [HZ.out]; exact zero56
 have hA : (((w.alloc (Obj.cells cs 94)).alloc (Obj.cells zs 96)).alloc (Obj.cells zs 96)).heap[w.heap.size]? = some (.cells cs 94 (0, 0)) := heap3_0 ..
 have hsz : (Try.prog.info? 94).map (·.size) = some cs.size := by rw [HC.out, qa4]; exact qb4
 go_enter Try.func57, Try.ntmps57
 go_wp2_with (refine wpList_load_row rfl 94 _ rfl w.heap.size rfl 94 cs (0, 0) _ hA Try.underlying94 rfl hsz ?_)
 clear z hA hsz
 go_loopw [7] (fun i wr => ∃ k : Nat, k ≤ 255 ∧ i = .int .i64 (k : Int) ∧ Below w.heap.size w wr ∧ RowAt wr (w.heap.size + 1) 96 256 (fun _ => 0) ∧ RowAt wr (w.heap.size + 1 + 1) 96 256 (fun j => if lg j < k ∧ j ≠ 0 then lg j else 0)) (fun i _ => 255 - (intOf i).toNat)
 case atStart =>
  refine ⟨0, by omega, rfl, (((Below.refl _ _).alloc (Nat.le_refl _) _).alloc (by simp) _).alloc (by simp; omega) _, ?_, ?_⟩
  ·unfold RowAt; rw [← HZ.out]; exact heap3_1 ..
  ·refine RowAt.congr (f := fun _ => 0) ?_ (by intro i _; simp)
   unfold RowAt; rw [← HZ.out]; exact heap3_2 ..
 case round =>
  obtain ⟨k, hk, rfl, hb, h0, h1⟩ := hrel
  by_cases hlt : k < 255
  ·have hg := g_lt k
   have hc := h1.cell (g k) hg
   have hf := h1.free (g k)
   have hi : ∀ w, (Instr.index 94 (.agg cs) (.int .i64 (k : Int))).run Try.prog w = .ok (.int .u8 (g k : Nat)) w := by rw [HC.out]; exact idx_row Try.underlying94 g .i64 k hlt
   have R : Hid (Below w.heap.size w (wr.setCell ⟨w.heap.size + 1 + 1, g k, none⟩ (.int .u8 (k : Nat))) ∧ RowAt (wr.setCell ⟨w.heap.size + 1 + 1, g k, none⟩ (.int .u8 (k : Nat))) (w.heap.size + 1) 96 256 (fun _ => 0) ∧ RowAt (wr.setCell ⟨w.heap.size + 1 + 1, g k, none⟩ (.int .u8 (k : Nat))) (w.heap.size + 1 + 1) 96 256 (fun j => if lg j < k + 1 ∧ j ≠ 0 then lg j else 0)) := by
    refine ⟨hb.setCell (by simp; omega) _, h0.other _ _ (by simp), (h1.set (g k) k).congr ?_⟩
    intro j hj
    exact ex_step k j hlt hj
   clear h0 h1 hb
   obtain ⟨v, hv⟩ : ∃ v, v = (Value.int IntKind.u8 ↑(if lg (g k) < k ∧ g k ≠ 0 then lg (g k) else 0)) := ⟨_, rfl⟩
   rw [← hv] at hc
   clear hv
   go_wp2
   exact ⟨⟨k + 1, by omega, by go_num, R.out.1, R.out.2.1, R.out.2.2⟩, by simp [intOf]; omega⟩
  ·have h1' : RowAt wr (w.heap.size + 1 + 1) 96 256 lg := h1.congr (by
    intro i hi
    by_cases e : i = 0
    ·subst e; simp [lg_zero]
    ·have := qch i hi e
     simp [e, show lg i < k by omega])
   clear h1
   obtain ⟨ls, HL⟩ : ∃ ls, Hid (ls = row 256 lg) := ⟨_, rfl⟩
   have hB : wr.heap[w.heap.size + 1 + 1]? = some (.cells ls 96 (0, 0)) := by rw [HL.out]; exact h1'
   have hO : wr.heap[w.heap.size + 1]? = some (.cells zs 96 (0, 0)) := by rw [HZ.out]; exact h0
   have hsz : (Try.prog.info? 96).map (·.size) = some ls.size := by rw [HL.out, qa4]; exact size56
   have hol : zs.size = ls.size := by rw [HZ.out, HL.out, qa4, qa4]
   have hone : ls.all (·.oneCell') = true := by rw [HL.out]; exact row_one _ _
   clear h0 h1'
   go_wp2_with (first | (refine wpList_load_row rfl 96 _ rfl (w.heap.size + 1 + 1) rfl 96 ls (0, 0) _ hB Try.underlying96 rfl hsz ?_) | (refine wpList_store_row rfl 96 _ _ rfl (w.heap.size + 1) ls rfl rfl 96 zs hO hsz hol hone ?_))
   exact bodyPost_ret (results_cell_row Try.results57 _ _ (w.heap.size + 1) 96 ls (0, 0) _ rfl (setRow_heap _ _ _ _ _ _ hO) Try.underlying96 rfl hsz) rfl ⟨by rw [HL.out], below_setRow hb (by omega) _⟩
end Go.Proofs.Ythdgpmanijifoaa
