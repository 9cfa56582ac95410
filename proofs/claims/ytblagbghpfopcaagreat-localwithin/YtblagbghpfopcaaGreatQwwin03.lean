/-
  Contracts of the field's plain calls: Add, double, Mul, and the reference's Mul.
  Contracts of the tables: powersOfTwo, exponentsOfTwo.
  Contract of the table of exponents.
  Contracts of inBounds, powerWithin, Pow, Exp, Log, Inv, Div.
  Contracts of Pow, Exp, Log, Inv, Div.
  Contracts of Pow (all of it), Exp, Log, Inv, Div.
-/
import Derived.Test.YtblagbghpfopcaaGreatQwwin00
import Derived.Test.YtblagbghpfopcaaGreatRows
import Derived.WalkKit
import Derived.WalkSpells
import Derived.WalkLawsBesides
import Derived.ProofKit
import Derived.Laws.Rows
import Derived.Laws.Tables
import Derived.Below
import Derived.OneCell
import Derived.Laws.CopyOwn
import Derived.Deep.QuietTactic
import Derived.BigQuiet
set_option maxRecDepth 100000
set_option maxHeartbeats 16000000
namespace Go.Proofs.YtblagbghpfopcaaGreat
open Go.RowKit
theorem qec {k : IntKind} {a b : Int} (h : a = b) : Ending.returned (.int k a) = .returned (.int k b) := by rw [h]
theorem qj9 (a : Int) (w : World) (ha : Byte a) :
  Calls Tryz.prog 154 #[.int .u8 a] w fun e w' => e = .returned (.int .u8 (idbl a)) ∧ w' = w := by
 obtain ⟨h0, h1⟩ := ha
 by_cases h : a < 128
 ·go_enter Tryz.func154, Tryz.ntmps154
  go_wp2
  go_ret
  exact ⟨qec (qj4 a h0 h).symm, rfl⟩
 ·go_enter Tryz.func154, Tryz.ntmps154
  go_wp2
  go_ret
  exact ⟨qec (idbl_big a (by omega) h1), rfl⟩
theorem qbm (a : Nat) (w : World) (ha : a < 256) :
  Calls Tryz.prog 154 #[.int .u8 (a : Int)] w fun e w' => e = .returned (.int .u8 (dbl a : Nat)) ∧ w' = w :=
 qj9 a w (byte_nat a ha)
theorem mul_nat (a b : Nat) (w : World) (ha : a < 256) (hb : b < 256) :
  Calls Tryz.prog 157 #[.int .u8 (a : Int), .int .u8 (b : Int)] w fun e w' => e = .returned (.int .u8 (fm a b : Nat)) ∧ w' = w := by
 go_enter Tryz.func157, Tryz.ntmps157
 go_wp2
 go_loop [0, 1, 5] (fun s t p => ∃ n x y z : Nat, x < 256 ∧ y < 2 ^ n ∧ n ≤ 8 ∧ z < 256 ∧ Hid (z ^^^ sm n x y = fm a b) ∧ s = .int .u8 (x : Int) ∧ t = .int .u8 (y : Int) ∧ p = .int .u8 (z : Int)) (fun _ t _ => (intOf t).toNat)
 case atStart => exact ⟨8, a, b, 0, ha, hb, by omega, by omega, by rw [Nat.zero_xor]; rfl, rfl, rfl, rfl⟩
 case round =>
  obtain ⟨n, x, y, z, hx, hy, hn, hz, HI, rfl, rfl, rfl⟩ := hrel
  have hy2 : y < 256 := Nat.lt_of_lt_of_le hy (Nat.pow_le_pow_right (n := 2) (by omega) hn)
  by_cases h0 : y = 0
  ·subst h0
   go_wp2
   go_ret
   have := HI.out
   rw [qgg, Nat.xor_zero] at this
   exact ⟨qec (by rw [this]), rfl⟩
  ·obtain ⟨m, rfl⟩ : ∃ m, n = m + 1 := ⟨n - 1, by
    cases n with
    | zero => simp at hy; omega
    | succ n => rfl⟩
   have hne : ((y : Int) != 0) = true := by simp; omega
   have hlt : y / 2 < 2 ^ m := by rw [Nat.pow_succ] at hy; omega
   have hand := qe3 y hy2
   by_cases h1 : y % 2 = 1
   ·rw [h1] at hand
    have hxo : bits .xor .u8 (z : Int) (x : Int) = ((z ^^^ x : Nat) : Int) := u8_xor_nat z x hz hx
    go_wp2_with (go_at_call 154; refine (qbm _ _ hx).mono ?_; rintro e w' ⟨rfl, rfl⟩)
    have HR := qhs m x y z _ HI.out
    rw [h1, Nat.one_mul] at HR
    exact ⟨⟨m, dbl x, y / 2, z ^^^ x, qbx x hx, hlt, by omega, qbd _ _ hz hx, HR, rfl, rfl, rfl⟩, by simp [intOf]; omega⟩
   ·rw [show y % 2 = 0 by omega] at hand
    go_wp2_with (go_at_call 154; refine (qbm _ _ hx).mono ?_; rintro e w' ⟨rfl, rfl⟩)
    have HR := qhs m x y z _ HI.out
    rw [show y % 2 = 0 by omega, Nat.zero_mul, Nat.xor_zero] at HR
    exact ⟨⟨m, dbl x, y / 2, z, qbx x hx, hlt, by omega, hz, HR, rfl, rfl, rfl⟩, by simp [intOf]; omega⟩
theorem qfu (a b : Nat) (w : World) (ha : a < 256) (hb : b < 256) :
  Calls Tryz.prog 114 #[.int .u8 (a : Int), .int .u8 (b : Int)] w fun e w' => e = .returned (.int .u8 (fm a b : Nat)) ∧ w' = w := by
 go_enter Tryz.func114, Tryz.ntmps114
 go_wp2
 go_loop [5, 6] (fun p i => ∃ k z : Nat, k ≤ 8 ∧ z < 32768 ∧ Hid (z = cl a b k) ∧ i = .int .i64 (k : Int) ∧ p = .int .i64 (z : Int)) (fun _ i => 8 - (intOf i).toNat)
 case atStart => exact ⟨0, 0, by omega, by omega, rfl, rfl, rfl⟩
 case round =>
  obtain ⟨k, z, hk, hz, HZ, rfl, rfl⟩ := hrel
  by_cases h8 : k < 8
  ·have hand := bit_u8 b k hb
   have hst := qj5 a k z (b / 2 ^ k) ha h8 hz
   by_cases h1 : b / 2 ^ k % 2 = 1
   ·rw [h1] at hand hst
    have hx := qk7 a z k ha hz h8
    have HS : Hid (z ^^^ a * 2 ^ k = cl a b (k + 1)) := by show _ = _; simp only [cl]; rw [h1, HZ.out, Nat.one_mul]
    rw [Nat.one_mul] at hst
    clear h1
    go_wp2
    exact ⟨⟨k + 1, _, by omega, hst, HS, by go_num, rfl⟩, by simp [intOf]; omega⟩
   ·have h1' : b / 2 ^ k % 2 = 0 := by omega
    rw [h1'] at hand
    have HS : Hid (z = cl a b (k + 1)) := by show _ = _; simp only [cl]; rw [h1', ← HZ.out, Nat.zero_mul, Nat.xor_zero]
    clear h1 h1'
    go_wp2
    exact ⟨⟨k + 1, _, by omega, hz, HS, by go_num, rfl⟩, by simp [intOf]; omega⟩
  ·obtain rfl : k = 8 := by omega
   have HR : Hid (rd 7 z = fm a b) := by show _ = _; rw [HZ.out, rmul_eq a b ha hb]
   clear HZ
   go_wp2
   go_loop [5, 7] (fun p i => ∃ m z : Nat, m ≤ 7 ∧ z < 32768 ∧ Hid (rd m z = fm a b) ∧ i = .int .i64 ((m : Int) + 7) ∧ p = .int .i64 (z : Int)) (fun _ i => (intOf i).toNat)
   case atStart => exact ⟨7, z, by omega, hz, HR, rfl, rfl⟩
   case round =>
    clear hz HR
    obtain ⟨m, z, hm, hz, HR, rfl, rfl⟩ := hrel
    by_cases h7 : m = 0
    ·subst h7
     have hlt : z < 256 := by
      have := HR.out
      simp only [rd] at this
      rw [this]; exact qat a b ha
     have hr : z = fm a b := HR.out
     go_wp2
     go_ret
     exact ⟨rfl, rfl⟩
    ·obtain ⟨n, rfl⟩ : ∃ n, m = n + 1 := ⟨m - 1, by omega⟩
     have hand := bit_i64 z (n + 8) hz
     have hst := qj6 n z (z / 2 ^ (n + 8)) (by omega) hz
     by_cases h1 : z / 2 ^ (n + 8) % 2 = 1
     ·rw [h1] at hand hst
      have hx := qh4 z n hz (by omega)
      have HS : Hid (rd n (z ^^^ 285 * 2 ^ n) = fm a b) := by
       have := HR.out
       simp only [rd] at this
       rw [h1, Nat.one_mul] at this
       exact this
      rw [Nat.one_mul] at hst
      go_wp2
      exact ⟨⟨n, _, by omega, hst, HS, by go_num, rfl⟩, by simp [intOf]; omega⟩
     ·have h1' : z / 2 ^ (n + 8) % 2 = 0 := by omega
      rw [h1'] at hand
      have HS : Hid (rd n z = fm a b) := by
       have := HR.out
       simp only [rd] at this
       rw [h1', Nat.zero_mul, Nat.xor_zero] at this
       exact this
      go_wp2
      exact ⟨⟨n, _, by omega, hz, HS, by go_num, rfl⟩, by simp [intOf]; omega⟩
open Go.RowKit
/-- The cells of an array of n bytes, by their numbers. -/
def row (n : Nat) (f : Nat → Nat) : Array Value := (Array.range n).map fun i => .int .u8 (f i : Nat)
theorem qa5 (n : Nat) (f : Nat → Nat) : (row n f).size = n := by simp [row]
theorem qb9 (n : Nat) (f : Nat → Nat) (i : Nat) (h : i < n) : (row n f)[i]? = some (.int .u8 (f i : Nat)) := by simp [row, h]
theorem qks (n : Nat) (f : Nat → Nat) (i v : Nat) : (row n f).setIfInBounds i (.int .u8 (v : Int)) = row n (fun j => if j = i then v else f j) := by
 apply Array.ext
 ·simp [row]
 ·intro j h1 h2
  by_cases e : i = j
  ·subst e; simp [row]
  ·rw [Array.getElem_setIfInBounds_ne (by simpa using h1) e]; simp [row, Ne.symm e]
theorem qed (n : Nat) (f f' : Nat → Nat) (h : ∀ i, i < n → f i = f' i) : row n f = row n f' := by
 apply Array.ext
 ·simp [row]
 ·intro j h1 h2
  simp [qa5] at h1
  simp [row, h j h1]
theorem row_one (n : Nat) (f : Nat → Nat) : (row n f).all (·.oneCell') = true := by
 simp only [row, Array.all_eq_true]
 intro i hi
 simp
 rfl
theorem zero54 (w : World) : Sem.run Tryz.prog (zeroValue 162) w = .ok (.agg (row 255 fun _ => 0)) w := by kernel_rfl
theorem zero56 (w : World) : Sem.run Tryz.prog (zeroValue 164) w = .ok (.agg (row 256 fun _ => 0)) w := by kernel_rfl
theorem qgm : (Tryz.prog.info? 162).map (·.size) = some 255 := by kernel_rfl
theorem size56 : (Tryz.prog.info? 164).map (·.size) = some 256 := by kernel_rfl
/-- The block of an array of bytes. -/
def RowAt (w : World) (b : Nat) (t : TypeId) (n : Nat) (f : Nat → Nat) : Prop := w.heap[b]? = some (.cells (row n f) t (0, 0))
theorem RowAt.cell {w : World} {b : Nat} {t : TypeId} {n : Nat} {f : Nat → Nat} (h : RowAt w b t n f) (i : Nat) (hi : i < n) : w.cell? ⟨b, i, none⟩ = some (.int .u8 (f i : Nat)) := by
 rw [cell_of_row w b i _ t _ h, qb9 n f i hi]
theorem RowAt.free {w : World} {b : Nat} {t : TypeId} {n : Nat} {f : Nat → Nat} (h : RowAt w b t n f) (i : Nat) : w.frozen? ⟨b, i, none⟩ = false := by
 unfold RowAt at h
 simp [World.frozen?, h]
theorem RowAt.set {w : World} {b : Nat} {t : TypeId} {n : Nat} {f : Nat → Nat} (h : RowAt w b t n f) (i v : Nat) : RowAt (w.setCell ⟨b, i, none⟩ (.int .u8 (v : Int))) b t n (fun j => if j = i then v else f j) := by
 unfold RowAt at *
 rw [setCell_eq_setRow w b i _ t (0, 0) _ h, setRow_heap w b _ _ t (0, 0) h, qks]
theorem RowAt.other {w : World} {b : Nat} {t : TypeId} {n : Nat} {f : Nat → Nat} (h : RowAt w b t n f) (a : Addr) (v : Value) (hb : b ≠ a.block) : RowAt (w.setCell a v) b t n f := by
 unfold RowAt at *
 rw [Below.heap_setCell w a v b hb, h]
theorem RowAt.congr {w : World} {b : Nat} {t : TypeId} {n : Nat} {f f' : Nat → Nat} (h : RowAt w b t n f) (e : ∀ i, i < n → f i = f' i) : RowAt w b t n f' := by
 unfold RowAt at *
 rw [h, qed n f f' e]
theorem qja (w : World) : Calls Tryz.prog 136 #[] w fun e w' => e = .returned (.agg (row 255 g)) ∧ Below w.heap.size w w' := by
 have z := zero54
 go_enter Tryz.func136, Tryz.ntmps136
 go_wp2
 clear z
 go_loopw [2, 4] (fun p i wr => ∃ k : Nat, k ≤ 255 ∧ i = .int .i64 (k : Int) ∧ p = .int .u8 ((g k : Nat) : Int) ∧ Below w.heap.size w wr ∧ RowAt wr w.heap.size 162 255 (fun _ => 0) ∧ RowAt wr (w.heap.size + 1) 162 255 (fun j => if j < k then g j else 0)) (fun _ i _ => 255 - (intOf i).toNat)
 case atStart =>
  refine ⟨0, by omega, rfl, rfl, ((Below.refl _ _).alloc (Nat.le_refl _) _).alloc (by simp) _, ?_, ?_⟩
  ·exact heap_alloc2_old ..
  ·exact RowAt.congr (heap_alloc2_new ..) (by intro i _; simp)
 case round =>
  obtain ⟨k, hk, rfl, rfl, hb, h0, h1⟩ := hrel
  by_cases hlt : k < 255
  ·have hc := h1.cell k hlt
   have hf := h1.free k
   have hg := g_lt k
   have R : Hid (Below w.heap.size w (wr.setCell ⟨w.heap.size + 1, k, none⟩ (.int .u8 (g k : Nat))) ∧ RowAt (wr.setCell ⟨w.heap.size + 1, k, none⟩ (.int .u8 (g k : Nat))) w.heap.size 162 255 (fun _ => 0) ∧ RowAt (wr.setCell ⟨w.heap.size + 1, k, none⟩ (.int .u8 (g k : Nat))) (w.heap.size + 1) 162 255 (fun j => if j < k + 1 then g j else 0)) := by
    refine ⟨hb.setCell (by simp) _, h0.other _ _ (by simp), (h1.set k (g k)).congr ?_⟩
    intro i _
    by_cases e : i = k
    ·subst e; simp
    ·by_cases e2 : i < k
     ·simp [e, e2, show i < k + 1 by omega]
     ·simp [e, e2, show ¬ i < k + 1 by omega]
   clear h0 h1 hb
   go_wp2_with (go_at_call 154; refine (qbm _ _ hg).mono ?_; rintro e w' ⟨rfl, rfl⟩)
   exact ⟨⟨k + 1, by omega, by go_num, rfl, R.out.1, R.out.2.1, R.out.2.2⟩, by simp [intOf]; omega⟩
  ·have h1' : RowAt wr (w.heap.size + 1) 162 255 g := h1.congr (by intro i hi; simp [show i < k by omega])
   clear h1
   go_wp2_with (first | (refine wpList_load_row rfl 162 _ rfl (w.heap.size + 1) rfl 162 (row 255 g) (0, 0) _ h1' Tryz.underlying162 rfl (by rw [qa5]; exact qgm) ?_) | (refine wpList_store_row rfl 162 _ _ rfl w.heap.size (row 255 g) rfl rfl 162 _ h0 (by rw [qa5]; exact qgm) (by rw [qa5, qa5]) (row_one _ _) ?_))
   exact bodyPost_ret (results_cell_row Tryz.results136 _ _ w.heap.size 162 (row 255 g) (0, 0) _ rfl (setRow_heap _ _ _ _ _ _ h0) Tryz.underlying162 rfl (by rw [qa5]; exact qgm)) rfl ⟨rfl, below_setRow hb (Nat.le_refl _) _⟩
theorem info5 : (Tryz.prog.info? 5).map (·.size) = some 1 := by kernel_rfl
theorem idx_row {t : TypeId} {n : Nat} (hu : Tryz.prog.underlying t = some (.array n 5)) (f : Nat → Nat) (k : IntKind) (i : Nat) (hi : i < n) (w : World) :
  (Instr.index t (.agg (row n f)) (.int k (i : Int))).run Tryz.prog w = .ok (.int .u8 (f i : Nat)) w := by
 have hr := qb9 n f i hi
 cases hq : Tryz.prog.info? 5 with
 | none => have := info5; simp [hq] at this
 | some inf =>
  have hs : inf.size = 1 := by have := info5; simpa [hq] using this
  simp [Instr.index, run_underlying hu, asIntOf, hi, part, isAgg, run_underlying Tryz.underlying5, sizeOf, typeInfo, hq, hs, hr, go_sem]
theorem ex_step (k j : Nat) (hk : k < 255) (hj : j < 256) : (if j = g k then k else if lg j < k ∧ j ≠ 0 then lg j else 0) = if lg j < k + 1 ∧ j ≠ 0 then lg j else 0 := by
 by_cases h : j = g k
 ·rw [if_pos h, h, lg_g k hk, if_pos ⟨by omega, g_pos k⟩]
 ·rw [if_neg h]
  by_cases h0 : j = 0
  ·simp [h0]
  ·have : lg j ≠ k := by intro e; apply h; rw [← e, (qk5 j hj h0).2]
   by_cases h2 : lg j < k
   ·simp [h2, h0, show lg j < k + 1 by omega]
   ·simp [h2, show ¬ lg j < k + 1 by omega]
theorem lg_zero : lg 0 = 0 := by kernel_rfl
theorem heap3_0 (w : World) (A B C : Obj) : (((w.alloc A).alloc B).alloc C).heap[w.heap.size]? = some A := by
 rw [Below.heap_alloc _ _ _ (by simp; omega), heap_alloc2_old]
theorem heap3_1 (w : World) (A B C : Obj) : (((w.alloc A).alloc B).alloc C).heap[w.heap.size + 1]? = some B := by
 rw [Below.heap_alloc _ _ _ (by simp), heap_alloc2_new]
theorem heap3_2 (w : World) (A B C : Obj) : (((w.alloc A).alloc B).alloc C).heap[w.heap.size + 1 + 1]? = some C := by
 have := heap_alloc_new ((w.alloc A).alloc B) C
 simpa using this
open Go.RowKit
theorem exps_raw (w : World) (cs zs : Array Value) (HC : Hid (cs = row 255 g)) (HZ : Hid (zs = row 256 fun _ => 0)) : Calls Tryz.prog 137 #[.agg cs] w fun e w' => e = .returned (.agg (row 256 lg)) ∧ Below w.heap.size w w' := by
 have z : ∀ w, Sem.run Tryz.prog (zeroValue 164) w = .ok (.agg zs) w := by rw [HZ.out]; exact zero56
 have hA : (((w.alloc (Obj.cells cs 162)).alloc (Obj.cells zs 164)).alloc (Obj.cells zs 164)).heap[w.heap.size]? = some (.cells cs 162 (0, 0)) := heap3_0 ..
 have hsz : (Tryz.prog.info? 162).map (·.size) = some cs.size := by rw [HC.out, qa5]; exact qgm
 go_enter Tryz.func137, Tryz.ntmps137
 go_wp2_with (refine wpList_load_row rfl 162 _ rfl w.heap.size rfl 162 cs (0, 0) _ hA Tryz.underlying162 rfl hsz ?_)
 clear z hA hsz
 go_loopw [7] (fun i wr => ∃ k : Nat, k ≤ 255 ∧ i = .int .i64 (k : Int) ∧ Below w.heap.size w wr ∧ RowAt wr (w.heap.size + 1) 164 256 (fun _ => 0) ∧ RowAt wr (w.heap.size + 1 + 1) 164 256 (fun j => if lg j < k ∧ j ≠ 0 then lg j else 0)) (fun i _ => 255 - (intOf i).toNat)
 case atStart =>
  refine ⟨0, by omega, rfl, (((Below.refl _ _).alloc (Nat.le_refl _) _).alloc (by simp) _).alloc (by simp; omega) _, ?_, ?_⟩
  ·unfold RowAt; rw [← HZ.out]; exact heap3_1 ..
  ·refine RowAt.congr (f := fun _ => 0) ?_ (by intro i _; simp)
   unfold RowAt; rw [← HZ.out]; exact heap3_2 ..
 case round =>
  obtain ⟨k, hk, rfl, hb, h0, h1⟩ := hrel
  by_cases hlt : k < 255
  ·have hg := g_lt k
   have hc := h1.cell (g k) hg
   have hf := h1.free (g k)
   have hi : ∀ w, (Instr.index 162 (.agg cs) (.int .i64 (k : Int))).run Tryz.prog w = .ok (.int .u8 (g k : Nat)) w := by rw [HC.out]; exact idx_row Tryz.underlying162 g .i64 k hlt
   have R : Hid (Below w.heap.size w (wr.setCell ⟨w.heap.size + 1 + 1, g k, none⟩ (.int .u8 (k : Nat))) ∧ RowAt (wr.setCell ⟨w.heap.size + 1 + 1, g k, none⟩ (.int .u8 (k : Nat))) (w.heap.size + 1) 164 256 (fun _ => 0) ∧ RowAt (wr.setCell ⟨w.heap.size + 1 + 1, g k, none⟩ (.int .u8 (k : Nat))) (w.heap.size + 1 + 1) 164 256 (fun j => if lg j < k + 1 ∧ j ≠ 0 then lg j else 0)) := by
    refine ⟨hb.setCell (by simp; omega) _, h0.other _ _ (by simp), (h1.set (g k) k).congr ?_⟩
    intro j hj
    exact ex_step k j hlt hj
   clear h0 h1 hb
   obtain ⟨v, hv⟩ : ∃ v, v = (Value.int IntKind.u8 ↑(if lg (g k) < k ∧ g k ≠ 0 then lg (g k) else 0)) := ⟨_, rfl⟩
   rw [← hv] at hc
   clear hv
   go_wp2
   exact ⟨⟨k + 1, by omega, by go_num, R.out.1, R.out.2.1, R.out.2.2⟩, by simp [intOf]; omega⟩
  ·have h1' : RowAt wr (w.heap.size + 1 + 1) 164 256 lg := h1.congr (by
    intro i hi
    by_cases e : i = 0
    ·subst e; simp [lg_zero]
    ·have := qk5 i hi e
     simp [e, show lg i < k by omega])
   clear h1
   obtain ⟨ls, HL⟩ : ∃ ls, Hid (ls = row 256 lg) := ⟨_, rfl⟩
   have hB : wr.heap[w.heap.size + 1 + 1]? = some (.cells ls 164 (0, 0)) := by rw [HL.out]; exact h1'
   have hO : wr.heap[w.heap.size + 1]? = some (.cells zs 164 (0, 0)) := by rw [HZ.out]; exact h0
   have hsz : (Tryz.prog.info? 164).map (·.size) = some ls.size := by rw [HL.out, qa5]; exact size56
   have hol : zs.size = ls.size := by rw [HZ.out, HL.out, qa5, qa5]
   have hone : ls.all (·.oneCell') = true := by rw [HL.out]; exact row_one _ _
   clear h0 h1'
   go_wp2_with (first | (refine wpList_load_row rfl 164 _ rfl (w.heap.size + 1 + 1) rfl 164 ls (0, 0) _ hB Tryz.underlying164 rfl hsz ?_) | (refine wpList_store_row rfl 164 _ _ rfl (w.heap.size + 1) ls rfl rfl 164 zs hO hsz hol hone ?_))
   exact bodyPost_ret (results_cell_row Tryz.results137 _ _ (w.heap.size + 1) 164 ls (0, 0) _ rfl (setRow_heap _ _ _ _ _ _ hO) Tryz.underlying164 rfl hsz) rfl ⟨by rw [HL.out], below_setRow hb (by omega) _⟩
open Go.RowKit
/-- A number that an int holds. -/
def I64 (n : Int) : Prop := -9223372036854775808 ≤ n ∧ n ≤ 9223372036854775807
/-- The exponent from 0 to 254 whose power is that of n. -/
def inb (n : Int) : Int := n % 255
theorem inb_bd (n : Int) : 0 ≤ inb n ∧ inb n < 255 := by unfold inb; omega
theorem tmod_neg (n : Int) (h : n < 0) : n.tmod 255 = -((-n) % 255) := by
 have e : n = -(-n) := by omega
 have e2 : (-n).tmod 255 = (-n) % 255 := Int.tmod_eq_emod_of_nonneg (by omega)
 rw [← e2, ← Int.neg_tmod, ← e]
theorem inb_any (n : Int) (w : World) (h : I64 n) : Calls Tryz.prog 155 #[.int .i64 n] w fun e w' => e = .returned (.int .i64 (inb n)) ∧ w' = w := by
 obtain ⟨h1, h2⟩ := h
 by_cases h0 : 0 ≤ n
 ·go_enter Tryz.func155, Tryz.ntmps155
  go_wp2
  go_ret
  exact ⟨rfl, rfl⟩
 ·have HT : Hid (n.tmod 255 = -((-n) % 255)) := tmod_neg n (by omega)
  go_enter Tryz.func155, Tryz.ntmps155
  go_wp2
  ·have h3 : n.tmod 255 < 0 := by assumption
   go_ret
   exact ⟨qec (by unfold inb wrap64; rw [HT.out] at *; omega), rfl⟩
  ·have h3 : 0 ≤ n.tmod 255 := by assumption
   go_ret
   exact ⟨qec (by unfold inb; rw [HT.out] at *; omega), rfl⟩
theorem qjb (w : World) (cs ls : Array Value) (HC : Hid (cs = row 255 g)) (HL : Hid (ls = row 256 lg)) (a : Nat) (n : Int) (ha : a < 256) (h0 : a ≠ 0) (hn : I64 n) :
  Calls Tryz.prog 138 #[.agg cs, .agg ls, .int .u8 (a : Int), .int .i64 n] w fun e w' => e = .returned (.int .u8 ((g (lg a * (inb n).toNat % 255) : Nat) : Int)) ∧ Below w.heap.size w w' := by
 obtain ⟨m, hm, hm2⟩ : ∃ m : Nat, inb n = (m : Int) ∧ m < 255 := ⟨(inb n).toNat, by have := inb_bd n; omega, by have := inb_bd n; omega⟩
 obtain ⟨l, hl, hl2⟩ : ∃ l : Nat, lg a = l ∧ l < 255 := ⟨_, rfl, (qk5 a ha h0).1⟩
 have hlm : l * m ≤ 254 * 254 := Nat.mul_le_mul (by omega) (by omega)
 have hp : ((l : Int) * (m : Int)) = ((l * m : Nat) : Int) := by simp
 obtain ⟨q, hq, hq2, HQ⟩ : ∃ q : Nat, wrap64 ((l : Int) * (m : Int)) = (q : Int) ∧ q ≤ 64516 ∧ Hid (q = l * m) := ⟨l * m, by rw [hp]; unfold wrap64; omega, hlm, rfl⟩
 obtain ⟨r, hr, hr2, HR⟩ : ∃ r : Nat, inb (q : Int) = (r : Int) ∧ r < 255 ∧ Hid (r = l * m % 255) := ⟨q % 255, by unfold inb; omega, by omega, by rw [HQ.out]; rfl⟩
 have hi1 : ((w.alloc (.cells cs 162)).alloc (.cells ls 164)).cell? ⟨w.heap.size + 1, a, none⟩ = some (.int .u8 (l : Int)) := by
  rw [cell_of_row _ _ _ ls 164 (0, 0) (heap_alloc2_new ..), HL.out, qb9 256 lg a ha, hl]
 have hi2 : ((w.alloc (.cells cs 162)).alloc (.cells ls 164)).cell? ⟨w.heap.size, r, none⟩ = some (.int .u8 (g r : Nat)) := by
  rw [cell_of_row _ _ _ cs 162 (0, 0) (heap_alloc2_old ..), HC.out, qb9 255 g _ (by omega)]
 rw [hm, hl, Int.toNat_natCast, ← HR.out]
 clear hp hlm hl HC HL
 obtain ⟨hn1, hn2⟩ := hn
 go_enter Tryz.func138, Tryz.ntmps138
 go_wp2
 go_quiet ((go_at_call 155; exact Calls.quiet_of_same (inb_any _ _ ⟨by omega, by omega⟩)))
 go_wp2
 go_ret
 exact ⟨rfl, below_drewN (((Below.refl _ _).alloc (Nat.le_refl _) _).alloc (by simp) _) _⟩
open Go.RowKit
theorem qdm (w : World) (old cs : Array Value) (t : TypeId) : (w.alloc (.cells old t)).setRow w.heap.size cs = w.alloc (.cells cs t) := by
 cases w with
 | mk heap tape drawn os output =>
  show World.mk ((heap.push _).modify heap.size _) _ _ _ _ = World.mk (heap.push _) _ _ _ _
  congr 1
  apply Array.ext
  ·simp
  ·intro i h1 h2
   simp only [Array.getElem_modify, Array.getElem_push]
   split
   ·rename_i hk; subst hk; simp
   ·rename_i hk
    simp at h2
    simp [show i < heap.size by omega]
theorem qbz (w : World) (o : Obj) : (w.alloc o).heap[w.heap.size]? = some o := Go.heap_alloc_new w o
theorem keep_row {w1 w2 : World} {o : Obj} (p : Obj) (hb : Below (w1.alloc o).heap.size (w1.alloc o) w2) : (w2.alloc p).heap[w1.heap.size]? = some o := by
 have h1 := hb.size
 simp at h1
 rw [Below.heap_alloc _ _ _ (by omega), hb.block _ (by simp), qbz]
theorem chain {w w1 w2 w3 : World} {o p : Obj} (h1 : Below w.heap.size w w1) (h2 : Below (w1.alloc o).heap.size (w1.alloc o) w2) (h3 : Below (w2.alloc p).heap.size (w2.alloc p) w3) : Below w.heap.size w w3 := by
 have s1 := h1.size
 have s2 := h2.size
 simp at s2
 exact (((h1.alloc s1 _).trans (h2.mono (by simp; omega))).alloc (by omega) _).trans (h3.mono (by simp; omega))
theorem qkt (w : World) : Calls Tryz.prog 136 #[] w fun e w' => ∃ cs, Hid (cs = row 255 g) ∧ e = .returned (.agg cs) ∧ Below w.heap.size w w' :=
 (qja w).mono fun _ _ h => ⟨_, rfl, h.1, h.2⟩
theorem exps_ex (w : World) (cs : Array Value) (HC : Hid (cs = row 255 g)) : Calls Tryz.prog 137 #[.agg cs] w fun e w' => ∃ ls, Hid (ls = row 256 lg) ∧ e = .returned (.agg ls) ∧ Below w.heap.size w w' :=
 (exps_raw w cs _ HC rfl).mono fun _ _ h => ⟨_, rfl, h.1, h.2⟩
theorem facts (t : TypeId) (n : Nat) (f : Nat → Nat) (cs zs : Array Value) (hs : (Tryz.prog.info? t).map (·.size) = some n) (HC : Hid (cs = row n f)) (HZ : Hid (zs = row n fun _ => 0)) :
  (Tryz.prog.info? t).map (·.size) = some cs.size ∧ zs.size = cs.size ∧ cs.all (·.oneCell') = true := by
 rw [HC.out, HZ.out]; exact ⟨by rw [qa5]; exact hs, by rw [qa5, qa5], row_one _ _⟩
theorem pow_main (a : Nat) (n : Int) (w : World) (ha : a < 256) (h0 : a ≠ 0) (hn : I64 n) (hn0 : n ≠ 0) :
  Calls Tryz.prog 126 #[.int .u8 (a : Int), .int .i64 n] w fun e w' => e = .returned (.tuple #[.int .u8 ((g (lg a * (inb n).toNat % 255) : Nat) : Int), .int .i64 0]) ∧ Below w.heap.size w w' := by
 have t0 : ((a : Int) == 0) = false := by simp; omega
 have t1 : (n == 0) = false := by simpa using hn0
 obtain ⟨zs, HZ⟩ : ∃ zs, Hid (zs = row 255 fun _ => 0) := ⟨_, rfl⟩
 obtain ⟨zt, HZt⟩ : ∃ zs, Hid (zs = row 256 fun _ => 0) := ⟨_, rfl⟩
 have z54 : ∀ w, Sem.run Tryz.prog (zeroValue 162) w = .ok (.agg zs) w := by rw [HZ.out]; exact zero54
 have z56 : ∀ w, Sem.run Tryz.prog (zeroValue 164) w = .ok (.agg zt) w := by rw [HZt.out]; exact zero56
 have HN : Hid (I64 n) := hn
 clear hn hn0
 go_enter Tryz.func126, Tryz.ntmps126
 go_wp2_with (first
  | (go_at_call 136; refine (qkt _).mono ?_; rintro e w1 ⟨cs, HC, rfl, hb1⟩; have hk54 : Hid _ := facts 162 255 g cs zs qgm HC HZ)
  | (refine wpList_store_row rfl 162 _ _ rfl w1.heap.size cs rfl rfl 162 zs (qbz w1 _) hk54.out.1 hk54.out.2.1 hk54.out.2.2 ?_; rw [qdm])
  | (refine wpList_load_row rfl 162 _ rfl w1.heap.size rfl 162 cs (0, 0) _ (qbz w1 _) Tryz.underlying162 rfl hk54.out.1 ?_)
  | (go_at_call 137; refine (exps_ex _ cs HC).mono ?_; rintro e w2 ⟨ls, HL, rfl, hb2⟩; have hk56 : Hid _ := facts 164 256 lg ls zt size56 HL HZt)
  | (refine wpList_store_row rfl 164 _ _ rfl w2.heap.size ls rfl rfl 164 zt (qbz w2 _) hk56.out.1 hk56.out.2.1 hk56.out.2.2 ?_; rw [qdm]; have hA2 : Hid _ := keep_row (.cells ls 164) hb2)
  | (refine wpList_load_row rfl 162 _ rfl w1.heap.size rfl 162 cs (0, 0) _ hA2.out Tryz.underlying162 rfl hk54.out.1 ?_)
  | (refine wpList_load_row rfl 164 _ rfl w2.heap.size rfl 164 ls (0, 0) _ (qbz w2 _) Tryz.underlying164 rfl hk56.out.1 ?_)
  | (go_at_call 138; refine (qjb _ cs ls HC HL a n ha h0 HN.out).mono ?_; rintro e w3 ⟨rfl, hb3⟩))
 go_ret2
 exact ⟨rfl, chain (by assumption) (by assumption) (by assumption)⟩
open Go.RowKit
/-- What Pow answers: the power, and the error. -/
def pwv (a : Nat) (n : Int) : Nat := if n = 0 then 1 else if a = 0 then 0 else g (lg a * (inb n).toNat % 255)
def pwe (a : Nat) (n : Int) : Int := if a = 0 ∧ n < 0 then 5 else 0
theorem ret_two {k : IntKind} {a b : Int} {c d : Int} (h : a = b) (h2 : c = d) : Ending.returned (.tuple #[.int k a, .int .i64 c]) = .returned (.tuple #[.int k b, .int .i64 d]) := by rw [h, h2]
theorem pow_any (a : Nat) (n : Int) (w : World) (ha : a < 256) (hn : I64 n) :
  Calls Tryz.prog 126 #[.int .u8 (a : Int), .int .i64 n] w fun e w' => e = .returned (.tuple #[.int .u8 (pwv a n : Nat), .int .i64 (pwe a n)]) ∧ Below w.heap.size w w' := by
 by_cases h0 : n = 0
 ·have e1 : pwv a n = 1 := by simp [pwv, h0]
  have e2 : pwe a n = 0 := by simp [pwe, h0]
  rw [e1, e2]
  subst h0
  clear e1 e2
  go_enter Tryz.func126, Tryz.ntmps126
  go_wp2
  go_ret2
  exact ⟨rfl, Below.refl _ _⟩
 by_cases h1 : a = 0
 ·subst h1
  have t1 : (n == 0) = false := by simpa using h0
  by_cases h2 : n < 0
  ·have e1 : pwv 0 n = 0 := by simp [pwv, h0]
   have e2 : pwe 0 n = 5 := by simp [pwe, h2]
   rw [e1, e2]
   clear e1 e2 h0
   go_enter Tryz.func126, Tryz.ntmps126
   go_wp2
   go_ret2
   exact ⟨rfl, Below.refl _ _⟩
  ·have e1 : pwv 0 n = 0 := by simp [pwv, h0]
   have e2 : pwe 0 n = 0 := by simp [pwe, h2]
   rw [e1, e2]
   clear e1 e2 h0
   go_enter Tryz.func126, Tryz.ntmps126
   go_wp2
   go_ret2
   exact ⟨rfl, Below.refl _ _⟩
 ·have e1 : pwv a n = g (lg a * (inb n).toNat % 255) := by simp [pwv, h0, h1]
  have e2 : pwe a n = 0 := by simp [pwe, h1]
  rw [e1, e2]
  exact pow_main a n w ha h1 hn h0
theorem qa0 {w w1 w2 : World} (h1 : Below w.heap.size w w1) (h2 : Below w1.heap.size w1 w2) : Below w.heap.size w w2 := h1.trans (h2.mono h1.size)
/-- What Inv answers. -/
def ive (a : Nat) : Int := if a = 0 then 5 else 0
theorem pwv_inv (a : Nat) (ha : a < 256) : pwv a (-1) = finv a := by
 unfold pwv finv
 rw [if_neg (by decide)]
 by_cases h : a = 0
 ·simp [h]
 ·rw [if_neg h, if_neg h, g_mod, show (inb (-1)).toNat = 254 from rfl]
  have h1 := (qk5 a ha h).1
  rw [← g_mod (255 - lg a), ← g_mod (lg a * 254)]
  congr 1
  omega
theorem pwe_inv (a : Nat) : pwe a (-1) = ive a := by simp [pwe, ive]
theorem qku (a : Nat) (w : World) (ha : a < 256) : Calls Tryz.prog 109 #[.int .u8 (a : Int)] w fun e w' => e = .returned (.tuple #[.int .u8 (finv a : Nat), .int .i64 (ive a)]) ∧ Below w.heap.size w w' := by
 have HP : Hid (∀ w, Calls Tryz.prog 126 #[.int .u8 (a : Int), .int .i64 (-1)] w fun e w' => e = .returned (.tuple #[.int .u8 (finv a : Nat), .int .i64 (ive a)]) ∧ Below w.heap.size w w') := by
  intro w
  have hp := pow_any a (-1) w ha ⟨by decide, by decide⟩
  rw [pwv_inv a ha, pwe_inv] at hp
  exact hp
 go_enter Tryz.func109, Tryz.ntmps109
 go_wp2_with (go_at_call 126; refine (HP.out _).mono ?_; rintro e w1 ⟨rfl, hb1⟩)
 go_ret2
 exact ⟨rfl, by assumption⟩
end Go.Proofs.YtblagbghpfopcaaGreat
