/-
  Contracts of the program's tree: what a shape is asked for.
-/
import Derived.Test.YtemhodenkgngmaaDoorQuues00
import Derived.Test.YtemhodenkgngmaaDoorQuues07
set_option maxRecDepth 100000
set_option maxHeartbeats 16000000
namespace Go.Proofs.YtemhodenkgngmaaDoor
open Go.RowKit
theorem sizeSF : (Tryd.prog.info? 149).map (·.size) = some 4 := by kernel_rfl
theorem szBool : (Tryd.prog.info? 4).map (·.size) = some 1 := by kernel_rfl
theorem all4 {x y z u : Value} (h0 : x.oneCell' = true) (h1 : y.oneCell' = true) (h2 : z.oneCell' = true) (h3 : u.oneCell' = true) : (#[x, y, z, u] : Array Value).all (·.oneCell') = true := by simp [h0, h1, h2, h3]
/-- What a shape's fields must be: a name, rows, how many arguments, how many parts. -/
def skr (k : Nat) : Bool := decide (k = 8)
def ska (k : Nat) : Nat := if k = 4 ∨ k = 5 then 3 else if k = 2 ∨ k = 3 then 2 else 0
def skp (k : Nat) : Nat := if k = 6 ∨ k = 7 then 2 else 0
def skk (k : Nat) : Bool := decide (1 ≤ k ∧ k ≤ 8)
theorem taskedS (w : World) (k : Nat) (h8 : k < 256) : Calls Tryd.prog 90 #[.int .u8 (k : Int)] w fun e w' => e = .returned (.tuple #[.agg #[.bool (decide (k = 1)), .bool (skr k), .int .i64 (ska k : Nat), .int .i64 (skp k : Nat)], .bool (skk k)]) ∧ Below w.heap.size w w' := by
 by_cases e1 : k = 1
 ·subst e1
  show Calls _ _ _ _ fun e w' => e = .returned (.tuple #[.agg #[.bool true, .bool false, .int .i64 0, .int .i64 0], .bool true]) ∧ _
  have HV := qa0 (Vn.new w 149 #[.bool false, .bool false, .int .i64 0, .int .i64 0])
  have HB := qa0 (jlow w (.cells #[.bool false, .bool false, .int .i64 0, .int .i64 0] 149))
  have d0 := HV.out.cell 0 _ rfl
  have d1 := HV.out.cell 1 _ rfl
  have d2 := HV.out.cell 2 _ rfl
  have d3 := HV.out.cell 3 _ rfl
  have M0 : True := trivial
  have M1 : True := trivial
  go_enter Tryd.func90, Tryd.ntmps90
  go_wp2_with (first
   | (refine wpList_store_one rfl 4 _ _ rfl w.heap.size 0 149 _ (.bool true) rfl rfl szBool rfl rfl HV.out (by simp) ?_; clear M0; intro w1 hv1 hg1; replace HV : Hid (Vn w1 w.heap.size 149 #[.bool true, .bool false, .int .i64 0, .int .i64 0]) := hv1; replace HB := qa0 (HB.out.trans (jbelow hg1.out HB.out.size (fun g e => by cases e; exact Nat.le_refl _))); clear hv1 hg1; replace d0 := HV.out.cell 0 _ rfl; replace d1 := HV.out.cell 1 _ rfl; replace d2 := HV.out.cell 2 _ rfl; replace d3 := HV.out.cell 3 _ rfl)
   | (refine qa1 rfl 149 _ _ rfl w.heap.size _ #[.bool true, .bool false, .int .i64 0, .int .i64 0] rfl rfl HV.out sizeSF rfl (all4 rfl rfl rfl rfl) ?_; clear M1; intro w1 hv1 hg1; replace HV := qa0 hv1.out; replace HB := qa0 (HB.out.trans (jbelow hg1.out HB.out.size (fun g e => by cases e; exact Nat.le_refl _))); clear hv1 hg1; replace d0 := HV.out.cell 0 _ rfl; replace d1 := HV.out.cell 1 _ rfl; replace d2 := HV.out.cell 2 _ rfl; replace d3 := HV.out.cell 3 _ rfl))
  refine bodyPost_ret (v := .tuple #[.agg #[.bool true, .bool false, .int .i64 0, .int .i64 0], .bool true]) (by simp [results, Tryd.results90, go_sem, d0, d1, d2, d3]) rfl ?_
  exact ⟨rfl, HB.out⟩
 have q1 : ((k : Int) == 1) = false := by simp; omega
 by_cases e2 : k = 2
 ·subst e2
  show Calls _ _ _ _ fun e w' => e = .returned (.tuple #[.agg #[.bool false, .bool false, .int .i64 2, .int .i64 0], .bool true]) ∧ _
  have HV := qa0 (Vn.new w 149 #[.bool false, .bool false, .int .i64 0, .int .i64 0])
  have HB := qa0 (jlow w (.cells #[.bool false, .bool false, .int .i64 0, .int .i64 0] 149))
  have d0 := HV.out.cell 0 _ rfl
  have d1 := HV.out.cell 1 _ rfl
  have d2 := HV.out.cell 2 _ rfl
  have d3 := HV.out.cell 3 _ rfl
  have M0 : True := trivial
  have M1 : True := trivial
  go_enter Tryd.func90, Tryd.ntmps90
  go_wp2_with (first
   | (refine wpList_store_one rfl 3 _ _ rfl w.heap.size 2 149 _ (.int .i64 2) rfl rfl sizeInt rfl rfl HV.out (by simp) ?_; clear M0; intro w1 hv1 hg1; replace HV : Hid (Vn w1 w.heap.size 149 #[.bool false, .bool false, .int .i64 2, .int .i64 0]) := hv1; replace HB := qa0 (HB.out.trans (jbelow hg1.out HB.out.size (fun g e => by cases e; exact Nat.le_refl _))); clear hv1 hg1; replace d0 := HV.out.cell 0 _ rfl; replace d1 := HV.out.cell 1 _ rfl; replace d2 := HV.out.cell 2 _ rfl; replace d3 := HV.out.cell 3 _ rfl)
   | (refine qa1 rfl 149 _ _ rfl w.heap.size _ #[.bool false, .bool false, .int .i64 2, .int .i64 0] rfl rfl HV.out sizeSF rfl (all4 rfl rfl rfl rfl) ?_; clear M1; intro w1 hv1 hg1; replace HV := qa0 hv1.out; replace HB := qa0 (HB.out.trans (jbelow hg1.out HB.out.size (fun g e => by cases e; exact Nat.le_refl _))); clear hv1 hg1; replace d0 := HV.out.cell 0 _ rfl; replace d1 := HV.out.cell 1 _ rfl; replace d2 := HV.out.cell 2 _ rfl; replace d3 := HV.out.cell 3 _ rfl))
  refine bodyPost_ret (v := .tuple #[.agg #[.bool false, .bool false, .int .i64 2, .int .i64 0], .bool true]) (by simp [results, Tryd.results90, go_sem, d0, d1, d2, d3]) rfl ?_
  exact ⟨rfl, HB.out⟩
 have q2 : ((k : Int) == 2) = false := by simp; omega
 by_cases e3 : k = 3
 ·subst e3
  show Calls _ _ _ _ fun e w' => e = .returned (.tuple #[.agg #[.bool false, .bool false, .int .i64 2, .int .i64 0], .bool true]) ∧ _
  have HV := qa0 (Vn.new w 149 #[.bool false, .bool false, .int .i64 0, .int .i64 0])
  have HB := qa0 (jlow w (.cells #[.bool false, .bool false, .int .i64 0, .int .i64 0] 149))
  have d0 := HV.out.cell 0 _ rfl
  have d1 := HV.out.cell 1 _ rfl
  have d2 := HV.out.cell 2 _ rfl
  have d3 := HV.out.cell 3 _ rfl
  have M0 : True := trivial
  have M1 : True := trivial
  go_enter Tryd.func90, Tryd.ntmps90
  go_wp2_with (first
   | (refine wpList_store_one rfl 3 _ _ rfl w.heap.size 2 149 _ (.int .i64 2) rfl rfl sizeInt rfl rfl HV.out (by simp) ?_; clear M0; intro w1 hv1 hg1; replace HV : Hid (Vn w1 w.heap.size 149 #[.bool false, .bool false, .int .i64 2, .int .i64 0]) := hv1; replace HB := qa0 (HB.out.trans (jbelow hg1.out HB.out.size (fun g e => by cases e; exact Nat.le_refl _))); clear hv1 hg1; replace d0 := HV.out.cell 0 _ rfl; replace d1 := HV.out.cell 1 _ rfl; replace d2 := HV.out.cell 2 _ rfl; replace d3 := HV.out.cell 3 _ rfl)
   | (refine qa1 rfl 149 _ _ rfl w.heap.size _ #[.bool false, .bool false, .int .i64 2, .int .i64 0] rfl rfl HV.out sizeSF rfl (all4 rfl rfl rfl rfl) ?_; clear M1; intro w1 hv1 hg1; replace HV := qa0 hv1.out; replace HB := qa0 (HB.out.trans (jbelow hg1.out HB.out.size (fun g e => by cases e; exact Nat.le_refl _))); clear hv1 hg1; replace d0 := HV.out.cell 0 _ rfl; replace d1 := HV.out.cell 1 _ rfl; replace d2 := HV.out.cell 2 _ rfl; replace d3 := HV.out.cell 3 _ rfl))
  refine bodyPost_ret (v := .tuple #[.agg #[.bool false, .bool false, .int .i64 2, .int .i64 0], .bool true]) (by simp [results, Tryd.results90, go_sem, d0, d1, d2, d3]) rfl ?_
  exact ⟨rfl, HB.out⟩
 have q3 : ((k : Int) == 3) = false := by simp; omega
 by_cases e4 : k = 4
 ·subst e4
  show Calls _ _ _ _ fun e w' => e = .returned (.tuple #[.agg #[.bool false, .bool false, .int .i64 3, .int .i64 0], .bool true]) ∧ _
  have HV := qa0 (Vn.new w 149 #[.bool false, .bool false, .int .i64 0, .int .i64 0])
  have HB := qa0 (jlow w (.cells #[.bool false, .bool false, .int .i64 0, .int .i64 0] 149))
  have d0 := HV.out.cell 0 _ rfl
  have d1 := HV.out.cell 1 _ rfl
  have d2 := HV.out.cell 2 _ rfl
  have d3 := HV.out.cell 3 _ rfl
  have M0 : True := trivial
  have M1 : True := trivial
  have M2 : True := trivial
  go_enter Tryd.func90, Tryd.ntmps90
  go_wp2_with (first
   | (refine wpList_store_one rfl 3 _ _ rfl w.heap.size 2 149 _ (.int .i64 1) rfl rfl sizeInt rfl rfl HV.out (by simp) ?_; clear M0; intro w1 hv1 hg1; replace HV : Hid (Vn w1 w.heap.size 149 #[.bool false, .bool false, .int .i64 1, .int .i64 0]) := hv1; replace HB := qa0 (HB.out.trans (jbelow hg1.out HB.out.size (fun g e => by cases e; exact Nat.le_refl _))); clear hv1 hg1; replace d0 := HV.out.cell 0 _ rfl; replace d1 := HV.out.cell 1 _ rfl; replace d2 := HV.out.cell 2 _ rfl; replace d3 := HV.out.cell 3 _ rfl)
   | (refine wpList_store_one rfl 3 _ _ rfl w.heap.size 2 149 _ (.int .i64 3) rfl rfl sizeInt rfl rfl HV.out (by simp) ?_; clear M1; intro w1 hv1 hg1; replace HV : Hid (Vn w1 w.heap.size 149 #[.bool false, .bool false, .int .i64 3, .int .i64 0]) := hv1; replace HB := qa0 (HB.out.trans (jbelow hg1.out HB.out.size (fun g e => by cases e; exact Nat.le_refl _))); clear hv1 hg1; replace d0 := HV.out.cell 0 _ rfl; replace d1 := HV.out.cell 1 _ rfl; replace d2 := HV.out.cell 2 _ rfl; replace d3 := HV.out.cell 3 _ rfl)
   | (refine qa1 rfl 149 _ _ rfl w.heap.size _ #[.bool false, .bool false, .int .i64 3, .int .i64 0] rfl rfl HV.out sizeSF rfl (all4 rfl rfl rfl rfl) ?_; clear M2; intro w1 hv1 hg1; replace HV := qa0 hv1.out; replace HB := qa0 (HB.out.trans (jbelow hg1.out HB.out.size (fun g e => by cases e; exact Nat.le_refl _))); clear hv1 hg1; replace d0 := HV.out.cell 0 _ rfl; replace d1 := HV.out.cell 1 _ rfl; replace d2 := HV.out.cell 2 _ rfl; replace d3 := HV.out.cell 3 _ rfl))
  refine bodyPost_ret (v := .tuple #[.agg #[.bool false, .bool false, .int .i64 3, .int .i64 0], .bool true]) (by simp [results, Tryd.results90, go_sem, d0, d1, d2, d3]) rfl ?_
  exact ⟨rfl, HB.out⟩
 have q4 : ((k : Int) == 4) = false := by simp; omega
 by_cases e5 : k = 5
 ·subst e5
  show Calls _ _ _ _ fun e w' => e = .returned (.tuple #[.agg #[.bool false, .bool false, .int .i64 3, .int .i64 0], .bool true]) ∧ _
  have HV := qa0 (Vn.new w 149 #[.bool false, .bool false, .int .i64 0, .int .i64 0])
  have HB := qa0 (jlow w (.cells #[.bool false, .bool false, .int .i64 0, .int .i64 0] 149))
  have d0 := HV.out.cell 0 _ rfl
  have d1 := HV.out.cell 1 _ rfl
  have d2 := HV.out.cell 2 _ rfl
  have d3 := HV.out.cell 3 _ rfl
  have M0 : True := trivial
  have M1 : True := trivial
  have M2 : True := trivial
  go_enter Tryd.func90, Tryd.ntmps90
  go_wp2_with (first
   | (refine wpList_store_one rfl 3 _ _ rfl w.heap.size 2 149 _ (.int .i64 1) rfl rfl sizeInt rfl rfl HV.out (by simp) ?_; clear M0; intro w1 hv1 hg1; replace HV : Hid (Vn w1 w.heap.size 149 #[.bool false, .bool false, .int .i64 1, .int .i64 0]) := hv1; replace HB := qa0 (HB.out.trans (jbelow hg1.out HB.out.size (fun g e => by cases e; exact Nat.le_refl _))); clear hv1 hg1; replace d0 := HV.out.cell 0 _ rfl; replace d1 := HV.out.cell 1 _ rfl; replace d2 := HV.out.cell 2 _ rfl; replace d3 := HV.out.cell 3 _ rfl)
   | (refine wpList_store_one rfl 3 _ _ rfl w.heap.size 2 149 _ (.int .i64 3) rfl rfl sizeInt rfl rfl HV.out (by simp) ?_; clear M1; intro w1 hv1 hg1; replace HV : Hid (Vn w1 w.heap.size 149 #[.bool false, .bool false, .int .i64 3, .int .i64 0]) := hv1; replace HB := qa0 (HB.out.trans (jbelow hg1.out HB.out.size (fun g e => by cases e; exact Nat.le_refl _))); clear hv1 hg1; replace d0 := HV.out.cell 0 _ rfl; replace d1 := HV.out.cell 1 _ rfl; replace d2 := HV.out.cell 2 _ rfl; replace d3 := HV.out.cell 3 _ rfl)
   | (refine qa1 rfl 149 _ _ rfl w.heap.size _ #[.bool false, .bool false, .int .i64 3, .int .i64 0] rfl rfl HV.out sizeSF rfl (all4 rfl rfl rfl rfl) ?_; clear M2; intro w1 hv1 hg1; replace HV := qa0 hv1.out; replace HB := qa0 (HB.out.trans (jbelow hg1.out HB.out.size (fun g e => by cases e; exact Nat.le_refl _))); clear hv1 hg1; replace d0 := HV.out.cell 0 _ rfl; replace d1 := HV.out.cell 1 _ rfl; replace d2 := HV.out.cell 2 _ rfl; replace d3 := HV.out.cell 3 _ rfl))
  refine bodyPost_ret (v := .tuple #[.agg #[.bool false, .bool false, .int .i64 3, .int .i64 0], .bool true]) (by simp [results, Tryd.results90, go_sem, d0, d1, d2, d3]) rfl ?_
  exact ⟨rfl, HB.out⟩
 have q5 : ((k : Int) == 5) = false := by simp; omega
 by_cases e6 : k = 6
 ·subst e6
  show Calls _ _ _ _ fun e w' => e = .returned (.tuple #[.agg #[.bool false, .bool false, .int .i64 0, .int .i64 2], .bool true]) ∧ _
  have HV := qa0 (Vn.new w 149 #[.bool false, .bool false, .int .i64 0, .int .i64 0])
  have HB := qa0 (jlow w (.cells #[.bool false, .bool false, .int .i64 0, .int .i64 0] 149))
  have d0 := HV.out.cell 0 _ rfl
  have d1 := HV.out.cell 1 _ rfl
  have d2 := HV.out.cell 2 _ rfl
  have d3 := HV.out.cell 3 _ rfl
  have M0 : True := trivial
  have M1 : True := trivial
  go_enter Tryd.func90, Tryd.ntmps90
  go_wp2_with (first
   | (refine wpList_store_one rfl 3 _ _ rfl w.heap.size 3 149 _ (.int .i64 2) rfl rfl sizeInt rfl rfl HV.out (by simp) ?_; clear M0; intro w1 hv1 hg1; replace HV : Hid (Vn w1 w.heap.size 149 #[.bool false, .bool false, .int .i64 0, .int .i64 2]) := hv1; replace HB := qa0 (HB.out.trans (jbelow hg1.out HB.out.size (fun g e => by cases e; exact Nat.le_refl _))); clear hv1 hg1; replace d0 := HV.out.cell 0 _ rfl; replace d1 := HV.out.cell 1 _ rfl; replace d2 := HV.out.cell 2 _ rfl; replace d3 := HV.out.cell 3 _ rfl)
   | (refine qa1 rfl 149 _ _ rfl w.heap.size _ #[.bool false, .bool false, .int .i64 0, .int .i64 2] rfl rfl HV.out sizeSF rfl (all4 rfl rfl rfl rfl) ?_; clear M1; intro w1 hv1 hg1; replace HV := qa0 hv1.out; replace HB := qa0 (HB.out.trans (jbelow hg1.out HB.out.size (fun g e => by cases e; exact Nat.le_refl _))); clear hv1 hg1; replace d0 := HV.out.cell 0 _ rfl; replace d1 := HV.out.cell 1 _ rfl; replace d2 := HV.out.cell 2 _ rfl; replace d3 := HV.out.cell 3 _ rfl))
  refine bodyPost_ret (v := .tuple #[.agg #[.bool false, .bool false, .int .i64 0, .int .i64 2], .bool true]) (by simp [results, Tryd.results90, go_sem, d0, d1, d2, d3]) rfl ?_
  exact ⟨rfl, HB.out⟩
 have q6 : ((k : Int) == 6) = false := by simp; omega
 by_cases e7 : k = 7
 ·subst e7
  show Calls _ _ _ _ fun e w' => e = .returned (.tuple #[.agg #[.bool false, .bool false, .int .i64 0, .int .i64 2], .bool true]) ∧ _
  have HV := qa0 (Vn.new w 149 #[.bool false, .bool false, .int .i64 0, .int .i64 0])
  have HB := qa0 (jlow w (.cells #[.bool false, .bool false, .int .i64 0, .int .i64 0] 149))
  have d0 := HV.out.cell 0 _ rfl
  have d1 := HV.out.cell 1 _ rfl
  have d2 := HV.out.cell 2 _ rfl
  have d3 := HV.out.cell 3 _ rfl
  have M0 : True := trivial
  have M1 : True := trivial
  go_enter Tryd.func90, Tryd.ntmps90
  go_wp2_with (first
   | (refine wpList_store_one rfl 3 _ _ rfl w.heap.size 3 149 _ (.int .i64 2) rfl rfl sizeInt rfl rfl HV.out (by simp) ?_; clear M0; intro w1 hv1 hg1; replace HV : Hid (Vn w1 w.heap.size 149 #[.bool false, .bool false, .int .i64 0, .int .i64 2]) := hv1; replace HB := qa0 (HB.out.trans (jbelow hg1.out HB.out.size (fun g e => by cases e; exact Nat.le_refl _))); clear hv1 hg1; replace d0 := HV.out.cell 0 _ rfl; replace d1 := HV.out.cell 1 _ rfl; replace d2 := HV.out.cell 2 _ rfl; replace d3 := HV.out.cell 3 _ rfl)
   | (refine qa1 rfl 149 _ _ rfl w.heap.size _ #[.bool false, .bool false, .int .i64 0, .int .i64 2] rfl rfl HV.out sizeSF rfl (all4 rfl rfl rfl rfl) ?_; clear M1; intro w1 hv1 hg1; replace HV := qa0 hv1.out; replace HB := qa0 (HB.out.trans (jbelow hg1.out HB.out.size (fun g e => by cases e; exact Nat.le_refl _))); clear hv1 hg1; replace d0 := HV.out.cell 0 _ rfl; replace d1 := HV.out.cell 1 _ rfl; replace d2 := HV.out.cell 2 _ rfl; replace d3 := HV.out.cell 3 _ rfl))
  refine bodyPost_ret (v := .tuple #[.agg #[.bool false, .bool false, .int .i64 0, .int .i64 2], .bool true]) (by simp [results, Tryd.results90, go_sem, d0, d1, d2, d3]) rfl ?_
  exact ⟨rfl, HB.out⟩
 have q7 : ((k : Int) == 7) = false := by simp; omega
 by_cases e8 : k = 8
 ·subst e8
  show Calls _ _ _ _ fun e w' => e = .returned (.tuple #[.agg #[.bool false, .bool true, .int .i64 0, .int .i64 0], .bool true]) ∧ _
  have HV := qa0 (Vn.new w 149 #[.bool false, .bool false, .int .i64 0, .int .i64 0])
  have HB := qa0 (jlow w (.cells #[.bool false, .bool false, .int .i64 0, .int .i64 0] 149))
  have d0 := HV.out.cell 0 _ rfl
  have d1 := HV.out.cell 1 _ rfl
  have d2 := HV.out.cell 2 _ rfl
  have d3 := HV.out.cell 3 _ rfl
  have M0 : True := trivial
  have M1 : True := trivial
  go_enter Tryd.func90, Tryd.ntmps90
  go_wp2_with (first
   | (refine wpList_store_one rfl 4 _ _ rfl w.heap.size 1 149 _ (.bool true) rfl rfl szBool rfl rfl HV.out (by simp) ?_; clear M0; intro w1 hv1 hg1; replace HV : Hid (Vn w1 w.heap.size 149 #[.bool false, .bool true, .int .i64 0, .int .i64 0]) := hv1; replace HB := qa0 (HB.out.trans (jbelow hg1.out HB.out.size (fun g e => by cases e; exact Nat.le_refl _))); clear hv1 hg1; replace d0 := HV.out.cell 0 _ rfl; replace d1 := HV.out.cell 1 _ rfl; replace d2 := HV.out.cell 2 _ rfl; replace d3 := HV.out.cell 3 _ rfl)
   | (refine qa1 rfl 149 _ _ rfl w.heap.size _ #[.bool false, .bool true, .int .i64 0, .int .i64 0] rfl rfl HV.out sizeSF rfl (all4 rfl rfl rfl rfl) ?_; clear M1; intro w1 hv1 hg1; replace HV := qa0 hv1.out; replace HB := qa0 (HB.out.trans (jbelow hg1.out HB.out.size (fun g e => by cases e; exact Nat.le_refl _))); clear hv1 hg1; replace d0 := HV.out.cell 0 _ rfl; replace d1 := HV.out.cell 1 _ rfl; replace d2 := HV.out.cell 2 _ rfl; replace d3 := HV.out.cell 3 _ rfl))
  refine bodyPost_ret (v := .tuple #[.agg #[.bool false, .bool true, .int .i64 0, .int .i64 0], .bool true]) (by simp [results, Tryd.results90, go_sem, d0, d1, d2, d3]) rfl ?_
  exact ⟨rfl, HB.out⟩
 have q8 : ((k : Int) == 8) = false := by simp; omega
 have HR : Hid (decide (k = 1) = false ∧ skr k = false ∧ ska k = 0 ∧ skp k = 0 ∧ skk k = false) := by
  unfold skr ska skp skk
  refine ⟨by simp; omega, by simp; omega, by rw [if_neg (by omega), if_neg (by omega)], by rw [if_neg (by omega)], by simp; omega⟩
 rw [HR.out.1, HR.out.2.1, HR.out.2.2.1, HR.out.2.2.2.1, HR.out.2.2.2.2]
 clear HR
 show Calls _ _ _ _ fun e w' => e = .returned (.tuple #[.agg #[.bool false, .bool false, .int .i64 0, .int .i64 0], .bool false]) ∧ _
 have HV := qa0 (Vn.new w 149 #[.bool false, .bool false, .int .i64 0, .int .i64 0])
 have HB := qa0 (jlow w (.cells #[.bool false, .bool false, .int .i64 0, .int .i64 0] 149))
 have d0 := HV.out.cell 0 _ rfl
 have d1 := HV.out.cell 1 _ rfl
 have d2 := HV.out.cell 2 _ rfl
 have d3 := HV.out.cell 3 _ rfl
 have M0 : True := trivial
 go_enter Tryd.func90, Tryd.ntmps90
 go_wp2_with (first
  | (refine qa1 rfl 149 _ _ rfl w.heap.size _ #[.bool false, .bool false, .int .i64 0, .int .i64 0] rfl rfl HV.out sizeSF rfl (all4 rfl rfl rfl rfl) ?_; clear M0; intro w1 hv1 hg1; replace HV := qa0 hv1.out; replace HB := qa0 (HB.out.trans (jbelow hg1.out HB.out.size (fun g e => by cases e; exact Nat.le_refl _))); clear hv1 hg1; replace d0 := HV.out.cell 0 _ rfl; replace d1 := HV.out.cell 1 _ rfl; replace d2 := HV.out.cell 2 _ rfl; replace d3 := HV.out.cell 3 _ rfl))
 refine bodyPost_ret (v := .tuple #[.agg #[.bool false, .bool false, .int .i64 0, .int .i64 0], .bool false]) (by simp [results, Tryd.results90, go_sem, d0, d1, d2, d3]) rfl ?_
 exact ⟨rfl, HB.out⟩
end Go.Proofs.YtemhodenkgngmaaDoor
