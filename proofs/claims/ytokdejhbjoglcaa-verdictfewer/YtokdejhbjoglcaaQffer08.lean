/-
  Contracts of the field's plain calls: Add, double, Mul, and the reference's Mul.
  Contracts of the tables: powersOfTwo, exponentsOfTwo.
-/
import Derived.Test.YtokdejhbjoglcaaQffer00
import Derived.Test.YtokdejhbjoglcaaRows
import Derived.WalkKit
import Derived.WalkSpells
import Derived.WalkLawsBesides
import Derived.ProofKit
import Derived.Laws.Rows
import Derived.Laws.Tables
import Derived.Below
import Derived.OneCell
import Derived.Laws.CopyOwn
set_option maxRecDepth 100000
set_option maxHeartbeats 16000000
namespace Go.Proofs.Ytokdejhbjoglcaa
open Go.RowKit
theorem qd8 {k : IntKind} {a b : Int} (h : a = b) : Ending.returned (.int k a) = .returned (.int k b) := by rw [h]
theorem qgx (a : Int) (w : World) (ha : Byte a) :
  Calls Try.prog 107 #[.int .u8 a] w fun e w' => e = .returned (.int .u8 (idbl a)) ∧ w' = w := by
 obtain ⟨h0, h1⟩ := ha
 by_cases h : a < 128
 ·go_enter Try.func107, Try.ntmps107
  go_wp2
  go_ret
  exact ⟨qd8 (qgu a h0 h).symm, rfl⟩
 ·go_enter Try.func107, Try.ntmps107
  go_wp2
  go_ret
  exact ⟨qd8 (idbl_big a (by omega) h1), rfl⟩
theorem qb4 (a : Nat) (w : World) (ha : a < 256) :
  Calls Try.prog 107 #[.int .u8 (a : Int)] w fun e w' => e = .returned (.int .u8 (dbl a : Nat)) ∧ w' = w :=
 qgx a w (byte_nat a ha)
theorem mul_nat (a b : Nat) (w : World) (ha : a < 256) (hb : b < 256) :
  Calls Try.prog 102 #[.int .u8 (a : Int), .int .u8 (b : Int)] w fun e w' => e = .returned (.int .u8 (fm a b : Nat)) ∧ w' = w := by
 go_enter Try.func102, Try.ntmps102
 go_wp2
 go_loop [0, 1, 5] (fun s t p => ∃ n x y z : Nat, x < 256 ∧ y < 2 ^ n ∧ n ≤ 8 ∧ z < 256 ∧ Hid (z ^^^ sm n x y = fm a b) ∧ s = .int .u8 (x : Int) ∧ t = .int .u8 (y : Int) ∧ p = .int .u8 (z : Int)) (fun _ t _ => (intOf t).toNat)
 case atStart => exact ⟨8, a, b, 0, ha, hb, by omega, by omega, by rw [Nat.zero_xor]; rfl, rfl, rfl, rfl⟩
 case round =>
  obtain ⟨n, x, y, z, hx, hy, hn, hz, HI, rfl, rfl, rfl⟩ := hrel
  have hy2 : y < 256 := Nat.lt_of_lt_of_le hy (Nat.pow_le_pow_right (n := 2) (by omega) hn)
  by_cases h0 : y = 0
  ·subst h0
   go_wp2
   go_ret
   have := HI.out
   rw [qek, Nat.xor_zero] at this
   exact ⟨qd8 (by rw [this]), rfl⟩
  ·obtain ⟨m, rfl⟩ : ∃ m, n = m + 1 := ⟨n - 1, by
    cases n with
    | zero => simp at hy; omega
    | succ n => rfl⟩
   have hne : ((y : Int) != 0) = true := by simp; omega
   have hlt : y / 2 < 2 ^ m := by rw [Nat.pow_succ] at hy; omega
   have hand := qd4 y hy2
   by_cases h1 : y % 2 = 1
   ·rw [h1] at hand
    have hxo : bits .xor .u8 (z : Int) (x : Int) = ((z ^^^ x : Nat) : Int) := u8_xor_nat z x hz hx
    go_wp2_with (go_at_call 107; refine (qb4 _ _ hx).mono ?_; rintro e w' ⟨rfl, rfl⟩)
    have HR := qfo m x y z _ HI.out
    rw [h1, Nat.one_mul] at HR
    exact ⟨⟨m, dbl x, y / 2, z ^^^ x, qbf x hx, hlt, by omega, qb3 _ _ hz hx, HR, rfl, rfl, rfl⟩, by simp [intOf]; omega⟩
   ·rw [show y % 2 = 0 by omega] at hand
    go_wp2_with (go_at_call 107; refine (qb4 _ _ hx).mono ?_; rintro e w' ⟨rfl, rfl⟩)
    have HR := qfo m x y z _ HI.out
    rw [show y % 2 = 0 by omega, Nat.zero_mul, Nat.xor_zero] at HR
    exact ⟨⟨m, dbl x, y / 2, z, qbf x hx, hlt, by omega, hz, HR, rfl, rfl, rfl⟩, by simp [intOf]; omega⟩
theorem qe5 (a b : Nat) (w : World) (ha : a < 256) (hb : b < 256) :
  Calls Try.prog 60 #[.int .u8 (a : Int), .int .u8 (b : Int)] w fun e w' => e = .returned (.int .u8 (fm a b : Nat)) ∧ w' = w := by
 go_enter Try.func60, Try.ntmps60
 go_wp2
 go_loop [5, 6] (fun p i => ∃ k z : Nat, k ≤ 8 ∧ z < 32768 ∧ Hid (z = cl a b k) ∧ i = .int .i64 (k : Int) ∧ p = .int .i64 (z : Int)) (fun _ i => 8 - (intOf i).toNat)
 case atStart => exact ⟨0, 0, by omega, by omega, rfl, rfl, rfl⟩
 case round =>
  obtain ⟨k, z, hk, hz, HZ, rfl, rfl⟩ := hrel
  by_cases h8 : k < 8
  ·have hand := bit_u8 b k hb
   have hst := qgv a k z (b / 2 ^ k) ha h8 hz
   by_cases h1 : b / 2 ^ k % 2 = 1
   ·rw [h1] at hand hst
    have hx := qhq a z k ha hz h8
    have HS : Hid (z ^^^ a * 2 ^ k = cl a b (k + 1)) := by show _ = _; simp only [cl]; rw [h1, HZ.out, Nat.one_mul]
    rw [Nat.one_mul] at hst
    clear h1
    go_wp2
    exact ⟨⟨k + 1, _, by omega, hst, HS, by go_num, rfl⟩, by simp [intOf]; omega⟩
   ·have h1' : b / 2 ^ k % 2 = 0 := by omega
    rw [h1'] at hand
    have HS : Hid (z = cl a b (k + 1)) := by show _ = _; simp only [cl]; rw [h1', ← HZ.out, Nat.zero_mul, Nat.xor_zero]
    clear h1 h1'
    go_wp2
    exact ⟨⟨k + 1, _, by omega, hz, HS, by go_num, rfl⟩, by simp [intOf]; omega⟩
  ·obtain rfl : k = 8 := by omega
   have HR : Hid (rd 7 z = fm a b) := by show _ = _; rw [HZ.out, rmul_eq a b ha hb]
   clear HZ
   go_wp2
   go_loop [5, 7] (fun p i => ∃ m z : Nat, m ≤ 7 ∧ z < 32768 ∧ Hid (rd m z = fm a b) ∧ i = .int .i64 ((m : Int) + 7) ∧ p = .int .i64 (z : Int)) (fun _ i => (intOf i).toNat)
   case atStart => exact ⟨7, z, by omega, hz, HR, rfl, rfl⟩
   case round =>
    clear hz HR
    obtain ⟨m, z, hm, hz, HR, rfl, rfl⟩ := hrel
    by_cases h7 : m = 0
    ·subst h7
     have hlt : z < 256 := by
      have := HR.out
      simp only [rd] at this
      rw [this]; exact qak a b ha
     have hr : z = fm a b := HR.out
     go_wp2
     go_ret
     exact ⟨rfl, rfl⟩
    ·obtain ⟨n, rfl⟩ : ∃ n, m = n + 1 := ⟨m - 1, by omega⟩
     have hand := bit_i64 z (n + 8) hz
     have hst := qgw n z (z / 2 ^ (n + 8)) (by omega) hz
     by_cases h1 : z / 2 ^ (n + 8) % 2 = 1
     ·rw [h1] at hand hst
      have hx := qf6 z n hz (by omega)
      have HS : Hid (rd n (z ^^^ 285 * 2 ^ n) = fm a b) := by
       have := HR.out
       simp only [rd] at this
       rw [h1, Nat.one_mul] at this
       exact this
      rw [Nat.one_mul] at hst
      go_wp2
      exact ⟨⟨n, _, by omega, hst, HS, by go_num, rfl⟩, by simp [intOf]; omega⟩
     ·have h1' : z / 2 ^ (n + 8) % 2 = 0 := by omega
      rw [h1'] at hand
      have HS : Hid (rd n z = fm a b) := by
       have := HR.out
       simp only [rd] at this
       rw [h1', Nat.zero_mul, Nat.xor_zero] at this
       exact this
      go_wp2
      exact ⟨⟨n, _, by omega, hz, HS, by go_num, rfl⟩, by simp [intOf]; omega⟩
open Go.RowKit
/-- The cells of an array of n bytes, by their numbers. -/
def row (n : Nat) (f : Nat → Nat) : Array Value := (Array.range n).map fun i => .int .u8 (f i : Nat)
theorem qa4 (n : Nat) (f : Nat → Nat) : (row n f).size = n := by simp [row]
theorem qav (n : Nat) (f : Nat → Nat) (i : Nat) (h : i < n) : (row n f)[i]? = some (.int .u8 (f i : Nat)) := by simp [row, h]
theorem qhz (n : Nat) (f : Nat → Nat) (i v : Nat) : (row n f).setIfInBounds i (.int .u8 (v : Int)) = row n (fun j => if j = i then v else f j) := by
 apply Array.ext
 ·simp [row]
 ·intro j h1 h2
  by_cases e : i = j
  ·subst e; simp [row]
  ·rw [Array.getElem_setIfInBounds_ne (by simpa using h1) e]; simp [row, Ne.symm e]
theorem qd9 (n : Nat) (f f' : Nat → Nat) (h : ∀ i, i < n → f i = f' i) : row n f = row n f' := by
 apply Array.ext
 ·simp [row]
 ·intro j h1 h2
  simp [qa4] at h1
  simp [row, h j h1]
theorem row_one (n : Nat) (f : Nat → Nat) : (row n f).all (·.oneCell') = true := by
 simp only [row, Array.all_eq_true]
 intro i hi
 simp
 rfl
theorem zero54 (w : World) : Sem.run Try.prog (zeroValue 131) w = .ok (.agg (row 255 fun _ => 0)) w := by kernel_rfl
theorem zero56 (w : World) : Sem.run Try.prog (zeroValue 133) w = .ok (.agg (row 256 fun _ => 0)) w := by kernel_rfl
theorem qep : (Try.prog.info? 131).map (·.size) = some 255 := by kernel_rfl
theorem size56 : (Try.prog.info? 133).map (·.size) = some 256 := by kernel_rfl
/-- The block of an array of bytes. -/
def RowAt (w : World) (b : Nat) (t : TypeId) (n : Nat) (f : Nat → Nat) : Prop := w.heap[b]? = some (.cells (row n f) t (0, 0))
theorem RowAt.cell {w : World} {b : Nat} {t : TypeId} {n : Nat} {f : Nat → Nat} (h : RowAt w b t n f) (i : Nat) (hi : i < n) : w.cell? ⟨b, i, none⟩ = some (.int .u8 (f i : Nat)) := by
 rw [cell_of_row w b i _ t _ h, qav n f i hi]
theorem RowAt.free {w : World} {b : Nat} {t : TypeId} {n : Nat} {f : Nat → Nat} (h : RowAt w b t n f) (i : Nat) : w.frozen? ⟨b, i, none⟩ = false := by
 unfold RowAt at h
 simp [World.frozen?, h]
theorem RowAt.set {w : World} {b : Nat} {t : TypeId} {n : Nat} {f : Nat → Nat} (h : RowAt w b t n f) (i v : Nat) : RowAt (w.setCell ⟨b, i, none⟩ (.int .u8 (v : Int))) b t n (fun j => if j = i then v else f j) := by
 unfold RowAt at *
 rw [setCell_eq_setRow w b i _ t (0, 0) _ h, setRow_heap w b _ _ t (0, 0) h, qhz]
theorem RowAt.other {w : World} {b : Nat} {t : TypeId} {n : Nat} {f : Nat → Nat} (h : RowAt w b t n f) (a : Addr) (v : Value) (hb : b ≠ a.block) : RowAt (w.setCell a v) b t n f := by
 unfold RowAt at *
 rw [Below.heap_setCell w a v b hb, h]
theorem RowAt.congr {w : World} {b : Nat} {t : TypeId} {n : Nat} {f f' : Nat → Nat} (h : RowAt w b t n f) (e : ∀ i, i < n → f i = f' i) : RowAt w b t n f' := by
 unfold RowAt at *
 rw [h, qd9 n f f' e]
theorem qgy (w : World) : Calls Try.prog 103 #[] w fun e w' => e = .returned (.agg (row 255 g)) ∧ Below w.heap.size w w' := by
 have z := zero54
 go_enter Try.func103, Try.ntmps103
 go_wp2
 clear z
 go_loopw [2, 4] (fun p i wr => ∃ k : Nat, k ≤ 255 ∧ i = .int .i64 (k : Int) ∧ p = .int .u8 ((g k : Nat) : Int) ∧ Below w.heap.size w wr ∧ RowAt wr w.heap.size 131 255 (fun _ => 0) ∧ RowAt wr (w.heap.size + 1) 131 255 (fun j => if j < k then g j else 0)) (fun _ i _ => 255 - (intOf i).toNat)
 case atStart =>
  refine ⟨0, by omega, rfl, rfl, ((Below.refl _ _).alloc (Nat.le_refl _) _).alloc (by simp) _, ?_, ?_⟩
  ·exact heap_alloc2_old ..
  ·exact RowAt.congr (heap_alloc2_new ..) (by intro i _; simp)
 case round =>
  obtain ⟨k, hk, rfl, rfl, hb, h0, h1⟩ := hrel
  by_cases hlt : k < 255
  ·have hc := h1.cell k hlt
   have hf := h1.free k
   have hg := g_lt k
   have R : Hid (Below w.heap.size w (wr.setCell ⟨w.heap.size + 1, k, none⟩ (.int .u8 (g k : Nat))) ∧ RowAt (wr.setCell ⟨w.heap.size + 1, k, none⟩ (.int .u8 (g k : Nat))) w.heap.size 131 255 (fun _ => 0) ∧ RowAt (wr.setCell ⟨w.heap.size + 1, k, none⟩ (.int .u8 (g k : Nat))) (w.heap.size + 1) 131 255 (fun j => if j < k + 1 then g j else 0)) := by
    refine ⟨hb.setCell (by simp) _, h0.other _ _ (by simp), (h1.set k (g k)).congr ?_⟩
    intro i _
    by_cases e : i = k
    ·subst e; simp
    ·by_cases e2 : i < k
     ·simp [e, e2, show i < k + 1 by omega]
     ·simp [e, e2, show ¬ i < k + 1 by omega]
   clear h0 h1 hb
   go_wp2_with (go_at_call 107; refine (qb4 _ _ hg).mono ?_; rintro e w' ⟨rfl, rfl⟩)
   exact ⟨⟨k + 1, by omega, by go_num, rfl, R.out.1, R.out.2.1, R.out.2.2⟩, by simp [intOf]; omega⟩
  ·have h1' : RowAt wr (w.heap.size + 1) 131 255 g := h1.congr (by intro i hi; simp [show i < k by omega])
   clear h1
   go_wp2_with (first | (refine wpList_load_row rfl 131 _ rfl (w.heap.size + 1) rfl 131 (row 255 g) (0, 0) _ h1' Try.underlying131 rfl (by rw [qa4]; exact qep) ?_) | (refine wpList_store_row rfl 131 _ _ rfl w.heap.size (row 255 g) rfl rfl 131 _ h0 (by rw [qa4]; exact qep) (by rw [qa4, qa4]) (row_one _ _) ?_))
   exact bodyPost_ret (results_cell_row Try.results103 _ _ w.heap.size 131 (row 255 g) (0, 0) _ rfl (setRow_heap _ _ _ _ _ _ h0) Try.underlying131 rfl (by rw [qa4]; exact qep)) rfl ⟨rfl, below_setRow hb (Nat.le_refl _) _⟩
theorem info5 : (Try.prog.info? 5).map (·.size) = some 1 := by kernel_rfl
theorem idx_row {t : TypeId} {n : Nat} (hu : Try.prog.underlying t = some (.array n 5)) (f : Nat → Nat) (k : IntKind) (i : Nat) (hi : i < n) (w : World) :
  (Instr.index t (.agg (row n f)) (.int k (i : Int))).run Try.prog w = .ok (.int .u8 (f i : Nat)) w := by
 have hr := qav n f i hi
 cases hq : Try.prog.info? 5 with
 | none => have := info5; simp [hq] at this
 | some inf =>
  have hs : inf.size = 1 := by have := info5; simpa [hq] using this
  simp [Instr.index, run_underlying hu, asIntOf, hi, part, isAgg, run_underlying Try.underlying5, sizeOf, typeInfo, hq, hs, hr, go_sem]
theorem ex_step (k j : Nat) (hk : k < 255) (hj : j < 256) : (if j = g k then k else if lg j < k ∧ j ≠ 0 then lg j else 0) = if lg j < k + 1 ∧ j ≠ 0 then lg j else 0 := by
 by_cases h : j = g k
 ·rw [if_pos h, h, lg_g k hk, if_pos ⟨by omega, g_pos k⟩]
 ·rw [if_neg h]
  by_cases h0 : j = 0
  ·simp [h0]
  ·have : lg j ≠ k := by intro e; apply h; rw [← e, (qho j hj h0).2]
   by_cases h2 : lg j < k
   ·simp [h2, h0, show lg j < k + 1 by omega]
   ·simp [h2, show ¬ lg j < k + 1 by omega]
theorem lg_zero : lg 0 = 0 := by kernel_rfl
theorem heap3_0 (w : World) (A B C : Obj) : (((w.alloc A).alloc B).alloc C).heap[w.heap.size]? = some A := by
 rw [Below.heap_alloc _ _ _ (by simp; omega), heap_alloc2_old]
theorem heap3_1 (w : World) (A B C : Obj) : (((w.alloc A).alloc B).alloc C).heap[w.heap.size + 1]? = some B := by
 rw [Below.heap_alloc _ _ _ (by simp), heap_alloc2_new]
theorem heap3_2 (w : World) (A B C : Obj) : (((w.alloc A).alloc B).alloc C).heap[w.heap.size + 1 + 1]? = some C := by
 have := heap_alloc_new ((w.alloc A).alloc B) C
 simpa using this
end Go.Proofs.Ytokdejhbjoglcaa
