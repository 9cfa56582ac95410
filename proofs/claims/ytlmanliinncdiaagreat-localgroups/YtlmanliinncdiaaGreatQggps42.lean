/-
  Contract of the generators' reference: Vandermonde.
  Contracts of the generators' reference: Vandermonde's error, top.
  Contracts of the generators' reference: Systematic, Check.
  Contract of the generators' reference: Check.
  Contract of the generators' reference: Cauchy.
  Contracts of the generators' reference: Cauchy's errors.
  Matrices that send nothing but nothing to nothing: Vandermonde's, Cauchy's, and the identity above Cauchy's.
  Divisors of polynomials, and the greatest common one: no Go in sight.
  Lagrange's polynomials: no Go in sight.
  Any k rows of the generators; what a check's rows tell.
  Contracts of the generators' reference: fits, Reed.
  Contract of the generators' reference: Cross.
  Codes of portions: the entries of their generators and their groups, as numbers.
  Contracts of the program's build: numbers, elements, isTall, areCounts.
  Contracts of the program's build: writePowers, Vandermonde.
  Contracts of the program's build: anyTwice.
  Contracts of the program's build: Cauchy.
  Contracts of the program's build: Systematic.
  Contracts of the program's build: Vandermonde.
  Contracts of the program's build: Reed, Cross, Check.
  The program's gauss and the reference's, together.
  The checks' own anchors.
  Ranks: of the matrix transposed, of the reduced one, and the free columns.
  Contracts of the program's build: Check.
  What the laws about generators ask: two answers are alike; the program's answers and the document's, in pairs.
  Rows of a code: a row as it stands, noughts, counts that are too many, a piece copied into a greater one.
  bytes.Repeat of one byte.
  Rows laid into greater ones; the last rows of a matrix.
  A group's blocks, moved to where they stand.
  Codes of portions, made.
  Codes by their numbers: Reed, Cross, Local, Pyramid, and what fails of the numbers.
-/
import Derived.Test.YtlmanliinncdiaaGreatQggps00
import Derived.Test.YtlmanliinncdiaaGreatQggps20
import Derived.Test.YtlmanliinncdiaaGreatQggps21
import Derived.Test.YtlmanliinncdiaaGreatQggps24
import Derived.Test.YtlmanliinncdiaaGreatQggps25
import Derived.Test.YtlmanliinncdiaaGreatQggps10
import Derived.Test.YtlmanliinncdiaaGreatQggps26
import Derived.Test.YtlmanliinncdiaaGreatQggps27
import Derived.Test.YtlmanliinncdiaaGreatQggps28
import Derived.Test.YtlmanliinncdiaaGreatQggps31
import Derived.Test.YtlmanliinncdiaaGreatQggps41
import Derived.Test.YtlmanliinncdiaaGreatQggps33
import Derived.Test.YtlmanliinncdiaaGreatQggps15
import Derived.Laws.Bits64b
import Derived.Laws.Externs
import Derived.Lib.MakeNoZero
import Derived.Lib.SlBuf
import Derived.Lib.MinMax
import Derived.Deep.RegionHeld3
set_option maxRecDepth 100000
set_option maxHeartbeats 16000000
namespace Go.Proofs.YtlmanliinncdiaaGreat
open Go.RowKit
theorem Mt.congr {w : World} {a : Option Addr} {n k : Nat} {F G : Nat → Nat} (h : Mt w a n k F) (e : ∀ i, i < n → F i = G i) : Mt w a n k G := ⟨h.sl.congr e, h.room, h.nil⟩
theorem Rk.uniq {A : Nat → Nat → Nat} {r s t : Nat} (h : Rk A r s) (hA : El2 A) (h2 : Rk A r t) : s = t := h.unique h2 (SpEq.refl hA r)
open Go.RowKit
/-- A variable of several cells. -/
def Vq (w : World) (b : Nat) (T : TypeId) (xs : Array Value) : Prop := w.heap[b]? = some (.cells xs T (0, 0))
theorem Vq.new (w : World) (T : TypeId) (xs : Array Value) : Vq (w.alloc (.cells xs T)) w.heap.size T xs := qby w _
theorem Vq.lt {w : World} {b : Nat} {T : TypeId} {xs : Array Value} (h : Vq w b T xs) : b < w.heap.size := lt_of_block h
theorem Vq.later {w w' : World} {b : Nat} {T : TypeId} {xs : Array Value} (h : Vq w b T xs) (hb : Below w.heap.size w w') : Vq w' b T xs := by unfold Vq; rw [hb.block b h.lt]; exact h
theorem Vq.kept {w w' : World} {b g : Nat} {T : TypeId} {xs : Array Value} (h : Vq w b T xs) (hg : w.grownBy w' (some g)) (hne : b ≠ g) : Vq w' b T xs := by unfold Vq; rw [hg.block b h.lt (by simpa using hne)]; exact h
theorem Vq.cell {w : World} {b : Nat} {T : TypeId} {xs : Array Value} (h : Vq w b T xs) (i : Nat) (v : Value) (hv : xs[i]? = some v) : w.cell? ⟨b, i, none⟩ = some v := by rw [cell_of_row w b i _ _ _ h]; exact hv
theorem Vq.free {w : World} {b : Nat} {T : TypeId} {xs : Array Value} (h : Vq w b T xs) (i : Nat) : w.frozen? ⟨b, i, none⟩ = false := by
 unfold Vq at h
 simp [World.frozen?, h]
theorem Vq.row {w : World} {b : Nat} {T : TypeId} {xs : Array Value} (h : Vq w b T xs) (ys : Array Value) : Vq (w.setRow b ys) b T ys := setRow_heap w b _ _ _ (0, 0) h
theorem qcv (w : World) (o : Obj) : (w.alloc o).heap.size = w.heap.size + 1 := by simp
theorem Vq.new1 (w : World) (o : Obj) (T : TypeId) (xs : Array Value) : Vq ((w.alloc o).alloc (.cells xs T)) (w.heap.size + 1) T xs := by
 have := Vq.new (w.alloc o) T xs
 rwa [qcv] at this
theorem Vq.new2 (w : World) (o o2 : Obj) (T : TypeId) (xs : Array Value) : Vq (((w.alloc o).alloc o2).alloc (.cells xs T)) (w.heap.size + 2) T xs := by
 have := Vq.new1 (w.alloc o) o2 T xs
 rwa [qcv] at this
theorem Vq.new3 (w : World) (o o2 o3 : Obj) (T : TypeId) (xs : Array Value) : Vq ((((w.alloc o).alloc o2).alloc o3).alloc (.cells xs T)) (w.heap.size + 3) T xs := by
 have := Vq.new2 (w.alloc o) o2 o3 T xs
 rwa [qcv] at this
theorem qg2 (w : World) : Below w.heap.size w w.drew := ⟨rfl, rfl, rfl, Nat.le_refl _, fun _ _ => rfl⟩
/-- A code as a value. -/
abbrev cv (r c : Int) (a : Option Addr) (n k : Nat) (b : Option Addr) (m d : Nat) : Value := .agg #[.int .i64 r, .int .i64 c, .slice a n k, .slice b m d]
theorem row16 (w : World) (r : Int) (c n k i p : Nat) (a s : Option Addr) (h0 : a = none → n = 0 ∧ k = 0) (hk : n ≤ k) (hfit : p + c ≤ n) (hn : n ≤ 4096) (hi : i ≤ 4096) (HP : Hid (i * c = p)) (HS : Hid (pc a p c = s)) :
  Calls Tryz.prog 133 #[mv r c a n k, .int .i64 (i : Int)] w fun e w' => e = .returned (.slice s c c) ∧ Below w.heap.size w w' := by
 have e1 : ((i : Int) * (c : Int)) = (p : Int) := by rw [← HP.out]; simp
 have e2 : (((i : Int) + 1) * (c : Int)) = ((p + c : Nat) : Int) := by rw [Int.add_mul, e1]; simp
 have w1 : IntKind.i64.wrap (p : Int) = (p : Int) := by rw [IntKind.wrap_i64]; omega
 have w3 : IntKind.i64.wrap ((i : Int) + 1) = (i : Int) + 1 := by rw [IntKind.wrap_i64]; omega
 obtain ⟨q, HQ⟩ : ∃ q, Hid (p + c = q) := ⟨_, rfl⟩
 rw [HQ.out] at e2
 have w2 : IntKind.i64.wrap (q : Int) = (q : Int) := by rw [IntKind.wrap_i64]; have := HQ.out; omega
 have y0 := (Vq.new w 114 #[.int .i64 r, .int .i64 (c : Int), .slice a n k]).cell 1 (.int .i64 (c : Int)) rfl
 by_cases hc0 : c = 0
 ·subst hc0
  obtain rfl : p = q := by have := HQ.out; omega
  obtain rfl : a = s := by have := HS.out; simpa [pc] using this
  clear HS HQ h0
  go_enter Tryz.func133, Tryz.ntmps133
  go_wp2
  go_region
  go_wp2
  go_ret
  exact ⟨by simp, qa0 (qa1 _ _) (qg2 _)⟩
 ·cases a with
  | none => have := (h0 rfl).1; omega
  | some x =>
   obtain rfl : some (x.add p) = s := by have := HS.out; rw [← this]; unfold pc; rw [if_neg hc0]; rfl
   have hq := HQ.out
   have hpq : p < q := by omega
   have hqn : q ≤ k := by omega
   have hcq : q - p = c := by omega
   clear HS HQ h0
   go_enter Tryz.func133, Tryz.ntmps133
   go_wp2
   go_region
   go_wp2
   go_ret
   exact ⟨by simp, qa0 (qa1 _ _) (qg2 _)⟩
open Go.RowKit
theorem Jo.set16 {w : World} {B n d g : Nat} {T : TypeId} {K : IntKind} {f : Nat → Nat} (h : Jo w B T K (.slice (some ⟨g, 0, none⟩) n d) n f) (j v : Nat) : Jo (w.setCell ⟨g, j, none⟩ (.int K (v : Int))) B T K (.slice (some ⟨g, 0, none⟩) n d) n (fun i => if i = j then v else f i) := by
 have := (World.ownsRow.stored h j (.int K (v : Int))).1
 unfold Jo
 rw [← jrow_set, Array.toList_setIfInBounds]
 exact this
open Go.RowKit
theorem Vq.set {w : World} {b : Nat} {T : TypeId} {xs : Array Value} (h : Vq w b T xs) (i : Nat) (v : Value) : Vq (w.setCell ⟨b, i, none⟩ v) b T (xs.setIfInBounds i v) := by
 unfold Vq at *
 rw [setCell_eq_setRow w b i _ _ (0, 0) _ h, setRow_heap w b _ _ _ (0, 0) h]
end Go.Proofs.YtlmanliinncdiaaGreat
