/-
  Stage 12: what an operation makes of two numbers: Work, of the program and of the reference.
-/
import Derived.Test.YtgmndjbicandfaaDoorQnnes00
import Derived.Laws.Rows
import Derived.Laws.Tables
set_option maxRecDepth 100000
set_option maxHeartbeats 16000000
namespace Go.Proofs.YtgmndjbicandfaaDoor
open Go.RowKit
/-- Is it a number of the document? -/
def nmB (n : Int) : Bool := decide (-2147483647 ≤ n) && decide (n ≤ 2147483647)
theorem nm_iff {n : Int} : nmB n = true ↔ -2147483647 ≤ n ∧ n ≤ 2147483647 := by
 unfold nmB
 rw [Bool.and_eq_true, decide_eq_true_eq, decide_eq_true_eq]
/-- What an operation does. -/
def wop (k : Nat) (a b : Int) : Int := if k = 3 then -a else if k = 4 then a + b else if k = 5 then a - b else if k = 6 then a * b else if k = 7 then a.tdiv b else a.tmod b
/-- Work's error. -/
def wre (k : Nat) (a b : Int) : Nat := if ¬ (3 ≤ k ∧ k ≤ 8 ∧ nmB a = true ∧ nmB b = true) then 2 else if 7 ≤ k ∧ b = 0 then 5 else if nmB (wop k a b) = true then 0 else 120
/-- Work's number. -/
def wrv (k : Nat) (a b : Int) : Int := if wre k a b = 0 then wop k a b else 0
theorem wop_wide {k : Nat} {a b : Int} (ha : nmB a = true) (hb : nmB b = true) : -9223372036854775808 ≤ wop k a b ∧ wop k a b ≤ 9223372036854775807 := by
 obtain ⟨a1, a2⟩ := nm_iff.1 ha
 obtain ⟨b1, b2⟩ := nm_iff.1 hb
 unfold wop
 split
 ·omega
 ·split
  ·omega
  ·split
   ·omega
   ·split
    ·have h := Int.natAbs_mul a b
     have h1 : a.natAbs ≤ 2147483647 := by omega
     have h2 : b.natAbs ≤ 2147483647 := by omega
     have h3 : a.natAbs * b.natAbs ≤ 2147483647 * 2147483647 := Nat.mul_le_mul h1 h2
     omega
    ·split
     ·have h : (a.tdiv b).natAbs = a.natAbs / b.natAbs := Int.natAbs_tdiv a b
      have h3 : a.natAbs / b.natAbs ≤ a.natAbs := Nat.div_le_self _ _
      omega
     ·have h : (a.tmod b).natAbs = a.natAbs % b.natAbs := Int.natAbs_tmod a b
      have h3 : a.natAbs % b.natAbs ≤ a.natAbs := Nat.mod_le _ _
      omega
theorem qaw (w : World) (n : Int) : Calls Tryd.prog 38 #[.int .i64 n] w fun e w' => e = .returned (.bool (nmB n)) ∧ w = w' := by
 unfold nmB
 cases h1 : decide (-2147483647 ≤ n) <;> cases h2 : decide (n ≤ 2147483647) <;>
 ·go_enter Tryd.func38, Tryd.ntmps38
  go_wp2
  go_ret
  exact ⟨rfl, rfl⟩
theorem isop_any (w : World) (k : Nat) (h : k < 256) : Calls Tryd.prog 37 #[.int .u8 (k : Int)] w fun e w' => e = .returned (.bool (decide (3 ≤ k) && decide (k ≤ 8))) ∧ w = w' := by
 cases h1 : decide (3 ≤ k) <;> cases h2 : decide (k ≤ 8) <;>
 ·have q1 : decide ((3 : Int) ≤ (k : Int)) = decide (3 ≤ k) := by congr 1; exact propext (by omega)
  have q2 : decide ((k : Int) ≤ 8) = decide (k ≤ 8) := by congr 1; exact propext (by omega)
  rw [h1] at q1
  rw [h2] at q2
  go_enter Tryd.func37, Tryd.ntmps37
  go_wp2
  go_ret
  exact ⟨rfl, rfl⟩
theorem qdp (w : World) (k : Nat) (h : k < 256) : Calls Tryd.prog 39 #[.int .u8 (k : Int)] w fun e w' => e = .returned (.bool (decide (k = 7) || decide (k = 8))) ∧ w = w' := by
 by_cases h7 : k = 7
 ·subst h7
  go_enter Tryd.func39, Tryd.ntmps39
  go_wp2
  go_ret
  exact ⟨rfl, rfl⟩
 ·have q7 : ((k : Int) == 7) = false := by simp; omega
  by_cases h8 : k = 8
  ·subst h8
   go_enter Tryd.func39, Tryd.ntmps39
   go_wp2
   go_ret
   exact ⟨rfl, rfl⟩
  ·have q8 : ((k : Int) == 8) = false := by simp; omega
   rw [decide_eq_false h7, decide_eq_false h8]
   go_enter Tryd.func39, Tryd.ntmps39
   go_wp2
   go_ret
   exact ⟨rfl, rfl⟩
/-- The array of what is done. -/
def opsV : Array Value := #[.nilFunc, .nilFunc, .nilFunc, .func (.func 52) #[] #[], .func (.func 53) #[] #[], .func (.func 54) #[] #[], .func (.func 55) #[] #[], .func (.func 56) #[] #[], .func (.func 57) #[] #[]]
/-- A variable of several cells. -/
def V12 (w : World) (b : Nat) (T : TypeId) (xs : Array Value) : Prop := w.heap[b]? = some (.cells xs T (0, 0))
theorem V12.new (w : World) (T : TypeId) (xs : Array Value) : V12 (w.alloc (.cells xs T)) w.heap.size T xs := Array.getElem?_push_size
theorem V12.cell {w : World} {b : Nat} {T : TypeId} {xs : Array Value} (h : V12 w b T xs) (i : Nat) (v : Value) (hv : xs[i]? = some v) : w.cell? ⟨b, i, none⟩ = some v := by rw [cell_of_row w b i _ _ _ h]; exact hv
/-- A whole variable is written. -/
theorem qb6 {ops : Array Oper} {rest : List Oper} {op : Oper} {a : Act} {w : World} {Q : Exit → Act → World → Prop} (hgd : op.guard = none) (T : TypeId) (p q : Operand) (ho : op.op = .store T p q)
  (b : Nat) (xs ys : Array Value) (hp : a.eval p = .pointer (some ⟨b, 0, none⟩)) (hq : a.eval q = .agg ys) (hv : V12 w b T xs) (hi : (Tryd.prog.info? T).map (·.size) = some ys.size) (hsz : xs.size = ys.size) (h1 : ys.all (·.oneCell') = true)
  (h : ∀ w', Hid (V12 w' b T ys) → Hid (w.grownBy w' (some b)) → wpList Tryd.prog ops Q rest (a.put op.dst undef) w') : wpList Tryd.prog ops Q (op :: rest) a w :=
 wpList_store_row hgd T p q ho b ys hp hq T xs hv hi hsz h1 (h _ (setRow_heap w b _ _ _ (0, 0) hv) ⟨rfl, rfl, rfl, by simp [World.setRow], fun k _ hk => setRow_other w b k ys (fun e => hk (by rw [e]))⟩)
theorem sizeOps : (Tryd.prog.info? 77).map (·.size) = some 9 := by kernel_rfl
theorem opsV_all : opsV.all (·.oneCell') = true := by simp [opsV, Value.oneCell']
theorem qa9 (w : World) : Calls Tryd.prog 40 #[] w fun e w' => e = .returned (.agg opsV) ∧ Below w.heap.size w w' := by
 have HN : Hid (V12 (w.alloc (.cells #[.nilFunc, .nilFunc, .nilFunc, .nilFunc, .nilFunc, .nilFunc, .nilFunc, .nilFunc, .nilFunc] 77)) w.heap.size 77 #[.nilFunc, .nilFunc, .nilFunc, .nilFunc, .nilFunc, .nilFunc, .nilFunc, .nilFunc, .nilFunc]) := V12.new _ _ _
 unfold opsV
 go_enter Tryd.func40, Tryd.ntmps40
 go_wp2_with (refine qb6 rfl 77 _ _ rfl w.heap.size _ #[.nilFunc, .nilFunc, .nilFunc, .func (.func 52) #[] #[], .func (.func 53) #[] #[], .func (.func 54) #[] #[], .func (.func 55) #[] #[], .func (.func 56) #[] #[], .func (.func 57) #[] #[]] rfl rfl HN.out sizeOps rfl opsV_all ?_; intro w8 HV8 hg8)
 have d0 := HV8.out.cell 0 (.nilFunc) rfl
 have d1 := HV8.out.cell 1 (.nilFunc) rfl
 have d2 := HV8.out.cell 2 (.nilFunc) rfl
 have d3 := HV8.out.cell 3 (.func (.func 52) #[] #[]) rfl
 have d4 := HV8.out.cell 4 (.func (.func 53) #[] #[]) rfl
 have d5 := HV8.out.cell 5 (.func (.func 54) #[] #[]) rfl
 have d6 := HV8.out.cell 6 (.func (.func 55) #[] #[]) rfl
 have d7 := HV8.out.cell 7 (.func (.func 56) #[] #[]) rfl
 have d8 := HV8.out.cell 8 (.func (.func 57) #[] #[]) rfl
 refine bodyPost_ret (v := .agg #[.nilFunc, .nilFunc, .nilFunc, .func (.func 52) #[] #[], .func (.func 53) #[] #[], .func (.func 54) #[] #[], .func (.func 55) #[] #[], .func (.func 56) #[] #[], .func (.func 57) #[] #[]]) (by simp [results, Tryd.results40, go_sem, d0, d1, d2, d3, d4, d5, d6, d7, d8]) rfl ?_
 exact ⟨rfl, (jlow _ _).trans (jbelow hg8.out (jlow _ _).size (fun g e => by cases e; exact Nat.le_refl _))⟩
theorem op1_any (w : World) (a b : Int) (h1 : -9223372036854775808 ≤ -a) (h2 : -a ≤ 9223372036854775807) : Calls Tryd.prog 52 #[.int .i64 a, .int .i64 b] w fun e w' => e = .returned (.int .i64 (-a)) ∧ w = w' := by
 go_enter Tryd.func52, Tryd.ntmps52
 go_wp2
 go_ret
 exact ⟨rfl, rfl⟩
theorem op2_any (w : World) (a b : Int) (h1 : -9223372036854775808 ≤ a + b) (h2 : a + b ≤ 9223372036854775807) : Calls Tryd.prog 53 #[.int .i64 a, .int .i64 b] w fun e w' => e = .returned (.int .i64 (a + b)) ∧ w = w' := by
 go_enter Tryd.func53, Tryd.ntmps53
 go_wp2
 go_ret
 exact ⟨rfl, rfl⟩
theorem op3_any (w : World) (a b : Int) (h1 : -9223372036854775808 ≤ a - b) (h2 : a - b ≤ 9223372036854775807) : Calls Tryd.prog 54 #[.int .i64 a, .int .i64 b] w fun e w' => e = .returned (.int .i64 (a - b)) ∧ w = w' := by
 go_enter Tryd.func54, Tryd.ntmps54
 go_wp2
 go_ret
 exact ⟨rfl, rfl⟩
theorem op4_any (w : World) (a b : Int) (h1 : -9223372036854775808 ≤ a * b) (h2 : a * b ≤ 9223372036854775807) : Calls Tryd.prog 55 #[.int .i64 a, .int .i64 b] w fun e w' => e = .returned (.int .i64 (a * b)) ∧ w = w' := by
 go_enter Tryd.func55, Tryd.ntmps55
 go_wp2
 go_ret
 exact ⟨rfl, rfl⟩
theorem op5_any (w : World) (a b : Int) (h1 : -9223372036854775808 ≤ a.tdiv b) (h2 : a.tdiv b ≤ 9223372036854775807) (h0 : b ≠ 0) : Calls Tryd.prog 56 #[.int .i64 a, .int .i64 b] w fun e w' => e = .returned (.int .i64 (a.tdiv b)) ∧ w = w' := by
 have q0 : (b == 0) = false := by simpa using h0
 go_enter Tryd.func56, Tryd.ntmps56
 go_wp2
 go_ret
 exact ⟨rfl, rfl⟩
theorem op6_any (w : World) (a b : Int) (_h1 : -9223372036854775808 ≤ a.tmod b) (_h2 : a.tmod b ≤ 9223372036854775807) (h0 : b ≠ 0) : Calls Tryd.prog 57 #[.int .i64 a, .int .i64 b] w fun e w' => e = .returned (.int .i64 (a.tmod b)) ∧ w = w' := by
 have q0 : (b == 0) = false := by simpa using h0
 go_enter Tryd.func57, Tryd.ntmps57
 go_wp2
 go_ret
 exact ⟨rfl, rfl⟩
end Go.Proofs.YtgmndjbicandfaaDoor
