/-
  Contracts of the field's plain calls: Add, double, Mul, and the reference's Mul.
  Contracts of the tables: powersOfTwo, exponentsOfTwo.
  Contract of the table of exponents.
  Contracts of inBounds, powerWithin, Pow, Exp, Log, Inv, Div.
  Contracts of Pow, Exp, Log, Inv, Div.
  Contracts of Pow (all of it), Exp, Log, Inv, Div.
  Lists of bytes in memory: what a slice reads as, and what stays; no call yet.
-/
import Derived.Test.YtkfnedpnkeacpaaQffsh00
import Derived.Test.YtkfnedpnkeacpaaRows
import Derived.WalkKit
import Derived.WalkSpells
import Derived.WalkLawsBesides
import Derived.ProofKit
import Derived.Laws.Rows
import Derived.Laws.Tables
import Derived.Below
import Derived.OneCell
import Derived.Laws.CopyOwn
import Derived.Deep.QuietTactic
import Derived.BigQuiet
import Derived.OwnWalk
import Derived.Laws.BytesArg
import Derived.Laws.IdiomStrings
set_option maxRecDepth 100000
set_option maxHeartbeats 16000000
namespace Go.Proofs.Ytkfnedpnkeacpaa
open Go.RowKit
theorem qd4 {k : IntKind} {a b : Int} (h : a = b) : Ending.returned (.int k a) = .returned (.int k b) := by rw [h]
theorem qe6 (a : Int) (w : World) (ha : Byte a) :
  Calls Try.prog 64 #[.int .u8 a] w fun e w' => e = .returned (.int .u8 (idbl a)) ∧ w' = w := by
 obtain ⟨h0, h1⟩ := ha
 by_cases h : a < 128
 ·go_enter Try.func64, Try.ntmps64
  go_wp2
  go_ret
  exact ⟨qd4 (qe3 a h0 h).symm, rfl⟩
 ·go_enter Try.func64, Try.ntmps64
  go_wp2
  go_ret
  exact ⟨qd4 (idbl_big a (by omega) h1), rfl⟩
theorem qb2 (a : Nat) (w : World) (ha : a < 256) :
  Calls Try.prog 64 #[.int .u8 (a : Int)] w fun e w' => e = .returned (.int .u8 (dbl a : Nat)) ∧ w' = w :=
 qe6 a w (byte_nat a ha)
theorem mul_nat (a b : Nat) (w : World) (ha : a < 256) (hb : b < 256) :
  Calls Try.prog 63 #[.int .u8 (a : Int), .int .u8 (b : Int)] w fun e w' => e = .returned (.int .u8 (fm a b : Nat)) ∧ w' = w := by
 go_enter Try.func63, Try.ntmps63
 go_wp2
 go_loop [0, 1, 5] (fun s t p => ∃ n x y z : Nat, x < 256 ∧ y < 2 ^ n ∧ n ≤ 8 ∧ z < 256 ∧ Hid (z ^^^ sm n x y = fm a b) ∧ s = .int .u8 (x : Int) ∧ t = .int .u8 (y : Int) ∧ p = .int .u8 (z : Int)) (fun _ t _ => (intOf t).toNat)
 case atStart => exact ⟨8, a, b, 0, ha, hb, by omega, by omega, by rw [Nat.zero_xor]; rfl, rfl, rfl, rfl⟩
 case round =>
  obtain ⟨n, x, y, z, hx, hy, hn, hz, HI, rfl, rfl, rfl⟩ := hrel
  have hy2 : y < 256 := Nat.lt_of_lt_of_le hy (Nat.pow_le_pow_right (n := 2) (by omega) hn)
  by_cases h0 : y = 0
  ·subst h0
   go_wp2
   go_ret
   have := HI.out
   rw [qcp, Nat.xor_zero] at this
   exact ⟨qd4 (by rw [this]), rfl⟩
  ·obtain ⟨m, rfl⟩ : ∃ m, n = m + 1 := ⟨n - 1, by
    cases n with
    | zero => simp at hy; omega
    | succ n => rfl⟩
   have hne : ((y : Int) != 0) = true := by simp; omega
   have hlt : y / 2 < 2 ^ m := by rw [Nat.pow_succ] at hy; omega
   have hand := qbt y hy2
   by_cases h1 : y % 2 = 1
   ·rw [h1] at hand
    have hxo : bits .xor .u8 (z : Int) (x : Int) = ((z ^^^ x : Nat) : Int) := u8_xor_nat z x hz hx
    go_wp2_with (go_at_call 64; refine (qb2 _ _ hx).mono ?_; rintro e w' ⟨rfl, rfl⟩)
    have HR := qdi m x y z _ HI.out
    rw [h1, Nat.one_mul] at HR
    exact ⟨⟨m, dbl x, y / 2, z ^^^ x, qay x hx, hlt, by omega, qdf _ _ hz hx, HR, rfl, rfl, rfl⟩, by simp [intOf]; omega⟩
   ·rw [show y % 2 = 0 by omega] at hand
    go_wp2_with (go_at_call 64; refine (qb2 _ _ hx).mono ?_; rintro e w' ⟨rfl, rfl⟩)
    have HR := qdi m x y z _ HI.out
    rw [show y % 2 = 0 by omega, Nat.zero_mul, Nat.xor_zero] at HR
    exact ⟨⟨m, dbl x, y / 2, z, qay x hx, hlt, by omega, hz, HR, rfl, rfl, rfl⟩, by simp [intOf]; omega⟩
theorem rmul_nat (a b : Nat) (w : World) (ha : a < 256) (hb : b < 256) :
  Calls Try.prog 55 #[.int .u8 (a : Int), .int .u8 (b : Int)] w fun e w' => e = .returned (.int .u8 (fm a b : Nat)) ∧ w' = w := by
 go_enter Try.func55, Try.ntmps55
 go_wp2
 go_loop [5, 6] (fun p i => ∃ k z : Nat, k ≤ 8 ∧ z < 32768 ∧ Hid (z = cl a b k) ∧ i = .int .i64 (k : Int) ∧ p = .int .i64 (z : Int)) (fun _ i => 8 - (intOf i).toNat)
 case atStart => exact ⟨0, 0, by omega, by omega, rfl, rfl, rfl⟩
 case round =>
  obtain ⟨k, z, hk, hz, HZ, rfl, rfl⟩ := hrel
  by_cases h8 : k < 8
  ·have hand := bit_u8 b k hb
   have hst := qe4 a k z (b / 2 ^ k) ha h8 hz
   by_cases h1 : b / 2 ^ k % 2 = 1
   ·rw [h1] at hand hst
    have hx := qer a z k ha hz h8
    have HS : Hid (z ^^^ a * 2 ^ k = cl a b (k + 1)) := by show _ = _; simp only [cl]; rw [h1, HZ.out, Nat.one_mul]
    rw [Nat.one_mul] at hst
    clear h1
    go_wp2
    exact ⟨⟨k + 1, _, by omega, hst, HS, by go_num, rfl⟩, by simp [intOf]; omega⟩
   ·have h1' : b / 2 ^ k % 2 = 0 := by omega
    rw [h1'] at hand
    have HS : Hid (z = cl a b (k + 1)) := by show _ = _; simp only [cl]; rw [h1', ← HZ.out, Nat.zero_mul, Nat.xor_zero]
    clear h1 h1'
    go_wp2
    exact ⟨⟨k + 1, _, by omega, hz, HS, by go_num, rfl⟩, by simp [intOf]; omega⟩
  ·obtain rfl : k = 8 := by omega
   have HR : Hid (rd 7 z = fm a b) := by show _ = _; rw [HZ.out, rmul_eq a b ha hb]
   clear HZ
   go_wp2
   go_loop [5, 7] (fun p i => ∃ m z : Nat, m ≤ 7 ∧ z < 32768 ∧ Hid (rd m z = fm a b) ∧ i = .int .i64 ((m : Int) + 7) ∧ p = .int .i64 (z : Int)) (fun _ i => (intOf i).toNat)
   case atStart => exact ⟨7, z, by omega, hz, HR, rfl, rfl⟩
   case round =>
    clear hz HR
    obtain ⟨m, z, hm, hz, HR, rfl, rfl⟩ := hrel
    by_cases h7 : m = 0
    ·subst h7
     have hlt : z < 256 := by
      have := HR.out
      simp only [rd] at this
      rw [this]; exact qch a b ha
     have hr : z = fm a b := HR.out
     go_wp2
     go_ret
     exact ⟨rfl, rfl⟩
    ·obtain ⟨n, rfl⟩ : ∃ n, m = n + 1 := ⟨m - 1, by omega⟩
     have hand := bit_i64 z (n + 8) hz
     have hst := qe5 n z (z / 2 ^ (n + 8)) (by omega) hz
     by_cases h1 : z / 2 ^ (n + 8) % 2 = 1
     ·rw [h1] at hand hst
      have hx := qd3 z n hz (by omega)
      have HS : Hid (rd n (z ^^^ 285 * 2 ^ n) = fm a b) := by
       have := HR.out
       simp only [rd] at this
       rw [h1, Nat.one_mul] at this
       exact this
      rw [Nat.one_mul] at hst
      go_wp2
      exact ⟨⟨n, _, by omega, hst, HS, by go_num, rfl⟩, by simp [intOf]; omega⟩
     ·have h1' : z / 2 ^ (n + 8) % 2 = 0 := by omega
      rw [h1'] at hand
      have HS : Hid (rd n z = fm a b) := by
       have := HR.out
       simp only [rd] at this
       rw [h1', Nat.zero_mul, Nat.xor_zero] at this
       exact this
      go_wp2
      exact ⟨⟨n, _, by omega, hz, HS, by go_num, rfl⟩, by simp [intOf]; omega⟩
open Go.RowKit
/-- The cells of an array of n bytes, by their numbers. -/
def row (n : Nat) (f : Nat → Nat) : Array Value := (Array.range n).map fun i => .int .u8 (f i : Nat)
theorem qa6 (n : Nat) (f : Nat → Nat) : (row n f).size = n := by simp [row]
theorem qd5 (n : Nat) (f : Nat → Nat) (i : Nat) (h : i < n) : (row n f)[i]? = some (.int .u8 (f i : Nat)) := by simp [row, h]
theorem row_set (n : Nat) (f : Nat → Nat) (i v : Nat) : (row n f).setIfInBounds i (.int .u8 (v : Int)) = row n (fun j => if j = i then v else f j) := by
 apply Array.ext
 ·simp [row]
 ·intro j h1 h2
  by_cases e : i = j
  ·subst e; simp [row]
  ·rw [Array.getElem_setIfInBounds_ne (by simpa using h1) e]; simp [row, Ne.symm e]
theorem qes (n : Nat) (f f' : Nat → Nat) (h : ∀ i, i < n → f i = f' i) : row n f = row n f' := by
 apply Array.ext
 ·simp [row]
 ·intro j h1 h2
  simp [qa6] at h1
  simp [row, h j h1]
theorem row_one (n : Nat) (f : Nat → Nat) : (row n f).all (·.oneCell') = true := by
 simp only [row, Array.all_eq_true]
 intro i hi
 simp
 rfl
/-- The block of an array of bytes. -/
def RowAt (w : World) (b : Nat) (t : TypeId) (n : Nat) (f : Nat → Nat) : Prop := w.heap[b]? = some (.cells (row n f) t (0, 0))
theorem RowAt.cell {w : World} {b : Nat} {t : TypeId} {n : Nat} {f : Nat → Nat} (h : RowAt w b t n f) (i : Nat) (hi : i < n) : w.cell? ⟨b, i, none⟩ = some (.int .u8 (f i : Nat)) := by
 rw [cell_of_row w b i _ t _ h, qd5 n f i hi]
theorem RowAt.free {w : World} {b : Nat} {t : TypeId} {n : Nat} {f : Nat → Nat} (h : RowAt w b t n f) (i : Nat) : w.frozen? ⟨b, i, none⟩ = false := by
 unfold RowAt at h
 simp [World.frozen?, h]
theorem RowAt.set {w : World} {b : Nat} {t : TypeId} {n : Nat} {f : Nat → Nat} (h : RowAt w b t n f) (i v : Nat) : RowAt (w.setCell ⟨b, i, none⟩ (.int .u8 (v : Int))) b t n (fun j => if j = i then v else f j) := by
 unfold RowAt at *
 rw [setCell_eq_setRow w b i _ t (0, 0) _ h, setRow_heap w b _ _ t (0, 0) h, row_set]
theorem RowAt.other {w : World} {b : Nat} {t : TypeId} {n : Nat} {f : Nat → Nat} (h : RowAt w b t n f) (a : Addr) (v : Value) (hb : b ≠ a.block) : RowAt (w.setCell a v) b t n f := by
 unfold RowAt at *
 rw [Below.heap_setCell w a v b hb, h]
theorem RowAt.congr {w : World} {b : Nat} {t : TypeId} {n : Nat} {f f' : Nat → Nat} (h : RowAt w b t n f) (e : ∀ i, i < n → f i = f' i) : RowAt w b t n f' := by
 unfold RowAt at *
 rw [h, qes n f f' e]
open Go.RowKit
theorem new_at (w : World) (o : Obj) : (w.alloc o).heap[w.heap.size]? = some o := Go.heap_alloc_new w o
theorem facts (t : TypeId) (n : Nat) (f : Nat → Nat) (cs zs : Array Value) (hs : (Try.prog.info? t).map (·.size) = some n) (HC : Hid (cs = row n f)) (HZ : Hid (zs = row n fun _ => 0)) :
  (Try.prog.info? t).map (·.size) = some cs.size ∧ zs.size = cs.size ∧ cs.all (·.oneCell') = true := by
 rw [HC.out, HZ.out]; exact ⟨by rw [qa6]; exact hs, by rw [qa6, qa6], row_one _ _⟩
open Go.RowKit
theorem qai {w w1 w2 : World} (h1 : Below w.heap.size w w1) (h2 : Below w1.heap.size w1 w2) : Below w.heap.size w w2 := h1.trans (h2.mono h1.size)
open Go.RowKit
/-- A slice at the address a reads as the n bytes f 0, f 1, .. -/
def Sl (w : World) (a : Option Addr) (n : Nat) (f : Nat → Nat) : Prop :=
 (∀ i, i < n → f i < 256) ∧ ∀ i, i < n → ∃ b o, a = some ⟨b, o, none⟩ ∧ w.cell? ⟨b, o + i, none⟩ = some (.int .u8 (f i : Nat))
/-- It lies in blocks from B on. -/
def From (B : Nat) (a : Option Addr) : Prop := ∀ x, a = some x → B ≤ x.block
/-- It lies in another block than g. -/
def Off (g : Nat) (a : Option Addr) : Prop := ∀ x, a = some x → x.block ≠ g
theorem qa5 {w : World} {b o : Nat} {v : Value} (h : w.cell? ⟨b, o, none⟩ = some v) : b < w.heap.size := by
 by_cases hb : b < w.heap.size
 ·exact hb
 ·simp [World.cell?, hb] at h
theorem Sl.later {w w' : World} {a : Option Addr} {n : Nat} {f : Nat → Nat} (h : Sl w a n f) (hb : Below w.heap.size w w') : Sl w' a n f :=
 ⟨h.1, fun i hi => by
  obtain ⟨b, o, e, hc⟩ := h.2 i hi
  exact ⟨b, o, e, by rw [hb.cell (p := ⟨b, o + i, none⟩) (qa5 hc)]; exact hc⟩⟩
theorem Sl.kept {w w' : World} {a : Option Addr} {n : Nat} {f : Nat → Nat} {g : Nat} (h : Sl w a n f) (hg : w.grownBy w' (some g)) (ho : Off g a) : Sl w' a n f :=
 ⟨h.1, fun i hi => by
  obtain ⟨b, o, e, hc⟩ := h.2 i hi
  refine ⟨b, o, e, hg.cell hc ?_⟩
  intro hh
  exact ho _ e (by simpa using hh)⟩
theorem Sl.congr {w : World} {a : Option Addr} {n : Nat} {f f' : Nat → Nat} (h : Sl w a n f) (e : ∀ i, i < n → f i = f' i) : Sl w a n f' :=
 ⟨fun i hi => by rw [← e i hi]; exact h.1 i hi, fun i hi => by rw [← e i hi]; exact h.2 i hi⟩
theorem Sl.nil (w : World) (a : Option Addr) (f : Nat → Nat) : Sl w a 0 f := ⟨fun i hi => by omega, fun i hi => by omega⟩
theorem RowAt.sl {w : World} {g : Nat} {t : TypeId} {n : Nat} {f : Nat → Nat} (h : RowAt w g t n f) (hf : ∀ i, i < n → f i < 256) : Sl w (some ⟨g, 0, none⟩) n f :=
 ⟨hf, fun i hi => ⟨g, 0, rfl, by rw [Nat.zero_add]; exact h.cell i hi⟩⟩
theorem RowAt.lt {w : World} {g : Nat} {t : TypeId} {n : Nat} {f : Nat → Nat} (h : RowAt w g t n f) : g < w.heap.size := lt_of_block h
theorem RowAt.later {w w' : World} {g : Nat} {t : TypeId} {n : Nat} {f : Nat → Nat} (h : RowAt w g t n f) (hb : Below w.heap.size w w') : RowAt w' g t n f := by
 unfold RowAt; rw [hb.block g h.lt]; exact h
theorem RowAt.kept {w w' : World} {g k : Nat} {t : TypeId} {n : Nat} {f : Nat → Nat} (h : RowAt w g t n f) (hg : w.grownBy w' (some k)) (hk : g ≠ k) : RowAt w' g t n f := by
 unfold RowAt; rw [hg.block g h.lt (by simpa using hk)]; exact h
theorem qag {w w' : World} : w.grownBy w' none ↔ Below w.heap.size w w' :=
 ⟨fun h => ⟨h.os, h.tape, h.output, h.size, fun k hk => h.block k hk (by simp)⟩, fun h => ⟨h.os, h.tape, h.output, h.size, fun k hk _ => h.block k hk⟩⟩
theorem qad {a b c : World} {row : Option Nat} (h : a.grownBy b row) (k : b.grownBy c row) : a.grownBy c row :=
 ⟨k.os.trans h.os, k.tape.trans h.tape, k.output.trans h.output, Nat.le_trans h.size k.size, fun i hi hn => (k.block i (Nat.lt_of_lt_of_le hi h.size) hn).trans (h.block i hi hn)⟩
theorem qa9 {a b : World} (h : Below a.heap.size a b) (row : Option Nat) : a.grownBy b row := ⟨h.os, h.tape, h.output, h.size, fun k hk _ => h.block k hk⟩
theorem qa2 (w : World) (g i : Nat) (v : Value) : w.grownBy (w.setCell ⟨g, i, none⟩ v) (some g) :=
 ⟨rfl, rfl, rfl, by simp, fun k _ hk => Below.heap_setCell w ⟨g, i, none⟩ v k (by intro e; apply hk; simpa using e)⟩
theorem qbw {w : World} {a : Option Addr} {n : Nat} {f : Nat → Nat} {g : Nat} (h : Sl w a n f) (hg : w.heap.size ≤ g) (hn : 0 < n) : Off g a := by
 intro x hx
 obtain ⟨b, o, e, hc⟩ := h.2 0 hn
 rw [e] at hx
 cases hx
 have := qa5 hc
 show b ≠ g
 omega
/-- A row of noughts as 'make' lays it. -/
theorem qdj (n : Nat) : (madeCells #[Value.int .u8 0] n) = row n fun _ => 0 := by
 apply Array.toList_inj.mp
 rw [toList_madeCells_one]
 apply List.ext_getElem
 ·simp [row]
 ·intro i h1 h2; simp [row]
theorem qet {w : World} {base g n : Nat} {e : TypeId} {xs : List Value} {f : Nat → Nat} (h : w.ownsRow base e 1 (.slice (some ⟨g, 0, none⟩) n n) n xs) (hx : xs = (row n f).toList) : RowAt w g e n f := by
 rcases h.2 with ⟨h', _⟩ | ⟨g', cap', cur, h', _, hg, _, _, hs, htake⟩
 ·simp at h'
 ·simp only [Value.slice.injEq, Option.some.injEq, Addr.mk.injEq, and_true, true_and] at h'
  obtain ⟨rfl, rfl⟩ := h'
  unfold RowAt
  rw [hg]
  congr 2
  apply Array.toList_inj.mp
  rw [← hx, ← htake, List.take_of_length_le (by simp; omega)]
theorem sl_nums {w : World} {b o n : Nat} {f : Nat → Nat} (h : Sl w (some ⟨b, o, none⟩) n f) : ∀ i, i < n → w.cell? ⟨b, o + i, none⟩ = some (.int .u8 (((List.range n).map fun i => (f i : Int)).getD i 0)) := by
 intro i hi
 obtain ⟨b', o', e, hc⟩ := h.2 i hi
 cases e
 rw [hc]
 simp [hi]
/-- The string of n bytes. -/
def strOf (n : Nat) (f : Nat → Nat) : ByteArray := strOfNums ((List.range n).map fun i => (f i : Int))
theorem qe7 (f : Nat → Nat) : strOf 0 f = ByteArray.empty := rfl
theorem qb7 {w : World} {a : Option Addr} {n c : Nat} {f : Nat → Nat} (h : Sl w a n f) :
  (convert 22 9 (.slice a n c)).run Try.prog w = .ok (.string (strOf n f)) w := by
 by_cases hn : n = 0
 ·subst hn
  rw [qe7]
  cases a with
  | none => exact run_convert_bytes_nil w _ _ Try.underlying22 Try.underlying5 _ _ _ Try.underlying9
  | some x => exact run_convert_bytes_back w _ _ _ x c [] Try.underlying22 Try.underlying5 Try.underlying9 (fun j hj => by simp at hj)
 ·obtain ⟨b, o, e, _⟩ := h.2 0 (by omega)
  subst e
  exact run_convert_bytes_arg w _ _ Try.underlying22 Try.underlying5 b o n c _ (by simp) (sl_nums h) _ Try.underlying9
theorem qeu (w : World) (a b : Option Addr) (n c d : Nat) (f : Nat → Nat) (ha : Sl w a n f) (hb : Sl w b n f) :
  Calls Try.prog 28 #[.slice a n c, .slice b n d] w fun e w' => e = .returned (.bool true) ∧ w' = w := by
 have h1 : (convert 22 9 (.slice a n c)).run Try.prog w = .ok (.string (strOf n f)) w := qb7 ha
 have h2 : (convert 22 9 (.slice b n d)).run Try.prog w = .ok (.string (strOf n f)) w := qb7 hb
 obtain ⟨s, hs⟩ : ∃ s, strOf n f = s := ⟨_, rfl⟩
 rw [hs] at h1 h2
 clear hs ha hb
 go_enter Try.func28, Try.ntmps28
 go_wp2
 go_ret
 exact ⟨rfl, rfl⟩
end Go.Proofs.Ytkfnedpnkeacpaa
