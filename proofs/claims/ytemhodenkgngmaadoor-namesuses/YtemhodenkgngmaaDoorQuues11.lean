/-
  Contracts of the program's tree: what an item is asked for; what is zero.
-/
import Derived.Test.YtemhodenkgngmaaDoorQuues00
import Derived.Test.YtemhodenkgngmaaDoorQuues09
set_option maxRecDepth 100000
set_option maxHeartbeats 16000000
namespace Go.Proofs.YtemhodenkgngmaaDoor
open Go.RowKit
theorem sizeIF : (Tryd.prog.info? 108).map (·.size) = some 5 := by kernel_rfl
/-- What an item's fields must be: a name, a value, a shape, a place, a list; is its kind known? -/
def ikn (k : Nat) : Bool := decide (k = 1 ∨ k = 2 ∨ k = 3)
def ikp (k pl : Nat) : Bool := decide (k = 5 ∧ 1 ≤ pl ∧ pl ≤ 4)
def ikv (k pl : Nat) : Bool := decide (k = 1 ∨ k = 4 ∨ k = 6 ∨ (k = 5 ∧ pl = 3))
def ikl (k pl : Nat) : Bool := decide (k = 5 ∧ pl = 4)
def ikk (k pl : Nat) : Bool := decide ((1 ≤ k ∧ k ≤ 6) ∧ (k = 5 → 1 ≤ pl ∧ pl ≤ 4))
theorem taskedP (w : World) (pl : Nat) (h8 : pl < 256) : Calls Tryd.prog 65 #[.int .u8 (pl : Int)] w fun e w' => e = .returned (.tuple #[.agg #[.bool false, .bool (decide (pl = 3)), .bool false, .bool (decide (1 ≤ pl ∧ pl ≤ 4)), .bool (decide (pl = 4))], .bool (decide (1 ≤ pl ∧ pl ≤ 4))]) ∧ Below w.heap.size w w' := by
 by_cases e1 : pl = 1
 ·subst e1
  show Calls _ _ _ _ fun e w' => e = .returned (.tuple #[.agg #[.bool false, .bool false, .bool false, .bool true, .bool false], .bool true]) ∧ _
  have HV := qa0 (Vn.new w 108 #[.bool false, .bool false, .bool false, .bool false, .bool false])
  have HB := qa0 (jlow w (.cells #[.bool false, .bool false, .bool false, .bool false, .bool false] 108))
  have d0 := HV.out.cell 0 _ rfl
  have d1 := HV.out.cell 1 _ rfl
  have d2 := HV.out.cell 2 _ rfl
  have d3 := HV.out.cell 3 _ rfl
  have d4 := HV.out.cell 4 _ rfl
  have M0 : True := trivial
  have M1 : True := trivial
  go_enter Tryd.func65, Tryd.ntmps65
  go_wp2_with (first
   | (clear M0; refine wpList_store_one rfl 4 _ _ rfl w.heap.size 3 108 _ (.bool true) rfl rfl szBool rfl rfl HV.out (by simp) ?_; intro w1 hv1 hg1; replace HV : Hid (Vn w1 w.heap.size 108 #[.bool false, .bool false, .bool false, .bool true, .bool false]) := hv1; replace HB := qa0 (HB.out.trans (jbelow hg1.out HB.out.size (fun g e => by cases e; exact Nat.le_refl _))); clear hv1 hg1; replace d0 := HV.out.cell 0 _ rfl; replace d1 := HV.out.cell 1 _ rfl; replace d2 := HV.out.cell 2 _ rfl; replace d3 := HV.out.cell 3 _ rfl; replace d4 := HV.out.cell 4 _ rfl)
   | (clear M1; refine qa1 rfl 108 _ _ rfl w.heap.size _ #[.bool false, .bool false, .bool false, .bool true, .bool false] rfl rfl HV.out sizeIF rfl (all5 rfl rfl rfl rfl rfl) ?_; intro w1 hv1 hg1; replace HV := qa0 hv1.out; replace HB := qa0 (HB.out.trans (jbelow hg1.out HB.out.size (fun g e => by cases e; exact Nat.le_refl _))); clear hv1 hg1; replace d0 := HV.out.cell 0 _ rfl; replace d1 := HV.out.cell 1 _ rfl; replace d2 := HV.out.cell 2 _ rfl; replace d3 := HV.out.cell 3 _ rfl; replace d4 := HV.out.cell 4 _ rfl))
  refine bodyPost_ret (v := .tuple #[.agg #[.bool false, .bool false, .bool false, .bool true, .bool false], .bool true]) (by simp [results, Tryd.results65, go_sem, d0, d1, d2, d3, d4]) rfl ?_
  exact ⟨rfl, HB.out⟩
 have q1 : ((pl : Int) == 1) = false := by simp; omega
 by_cases e2 : pl = 2
 ·subst e2
  show Calls _ _ _ _ fun e w' => e = .returned (.tuple #[.agg #[.bool false, .bool false, .bool false, .bool true, .bool false], .bool true]) ∧ _
  have HV := qa0 (Vn.new w 108 #[.bool false, .bool false, .bool false, .bool false, .bool false])
  have HB := qa0 (jlow w (.cells #[.bool false, .bool false, .bool false, .bool false, .bool false] 108))
  have d0 := HV.out.cell 0 _ rfl
  have d1 := HV.out.cell 1 _ rfl
  have d2 := HV.out.cell 2 _ rfl
  have d3 := HV.out.cell 3 _ rfl
  have d4 := HV.out.cell 4 _ rfl
  have M0 : True := trivial
  have M1 : True := trivial
  go_enter Tryd.func65, Tryd.ntmps65
  go_wp2_with (first
   | (clear M0; refine wpList_store_one rfl 4 _ _ rfl w.heap.size 3 108 _ (.bool true) rfl rfl szBool rfl rfl HV.out (by simp) ?_; intro w1 hv1 hg1; replace HV : Hid (Vn w1 w.heap.size 108 #[.bool false, .bool false, .bool false, .bool true, .bool false]) := hv1; replace HB := qa0 (HB.out.trans (jbelow hg1.out HB.out.size (fun g e => by cases e; exact Nat.le_refl _))); clear hv1 hg1; replace d0 := HV.out.cell 0 _ rfl; replace d1 := HV.out.cell 1 _ rfl; replace d2 := HV.out.cell 2 _ rfl; replace d3 := HV.out.cell 3 _ rfl; replace d4 := HV.out.cell 4 _ rfl)
   | (clear M1; refine qa1 rfl 108 _ _ rfl w.heap.size _ #[.bool false, .bool false, .bool false, .bool true, .bool false] rfl rfl HV.out sizeIF rfl (all5 rfl rfl rfl rfl rfl) ?_; intro w1 hv1 hg1; replace HV := qa0 hv1.out; replace HB := qa0 (HB.out.trans (jbelow hg1.out HB.out.size (fun g e => by cases e; exact Nat.le_refl _))); clear hv1 hg1; replace d0 := HV.out.cell 0 _ rfl; replace d1 := HV.out.cell 1 _ rfl; replace d2 := HV.out.cell 2 _ rfl; replace d3 := HV.out.cell 3 _ rfl; replace d4 := HV.out.cell 4 _ rfl))
  refine bodyPost_ret (v := .tuple #[.agg #[.bool false, .bool false, .bool false, .bool true, .bool false], .bool true]) (by simp [results, Tryd.results65, go_sem, d0, d1, d2, d3, d4]) rfl ?_
  exact ⟨rfl, HB.out⟩
 have q2 : ((pl : Int) == 2) = false := by simp; omega
 by_cases e3 : pl = 3
 ·subst e3
  show Calls _ _ _ _ fun e w' => e = .returned (.tuple #[.agg #[.bool false, .bool true, .bool false, .bool true, .bool false], .bool true]) ∧ _
  have HV := qa0 (Vn.new w 108 #[.bool false, .bool false, .bool false, .bool false, .bool false])
  have HB := qa0 (jlow w (.cells #[.bool false, .bool false, .bool false, .bool false, .bool false] 108))
  have d0 := HV.out.cell 0 _ rfl
  have d1 := HV.out.cell 1 _ rfl
  have d2 := HV.out.cell 2 _ rfl
  have d3 := HV.out.cell 3 _ rfl
  have d4 := HV.out.cell 4 _ rfl
  have M0 : True := trivial
  have M1 : True := trivial
  have M2 : True := trivial
  go_enter Tryd.func65, Tryd.ntmps65
  go_wp2_with (first
   | (clear M0; refine wpList_store_one rfl 4 _ _ rfl w.heap.size 1 108 _ (.bool true) rfl rfl szBool rfl rfl HV.out (by simp) ?_; intro w1 hv1 hg1; replace HV : Hid (Vn w1 w.heap.size 108 #[.bool false, .bool true, .bool false, .bool false, .bool false]) := hv1; replace HB := qa0 (HB.out.trans (jbelow hg1.out HB.out.size (fun g e => by cases e; exact Nat.le_refl _))); clear hv1 hg1; replace d0 := HV.out.cell 0 _ rfl; replace d1 := HV.out.cell 1 _ rfl; replace d2 := HV.out.cell 2 _ rfl; replace d3 := HV.out.cell 3 _ rfl; replace d4 := HV.out.cell 4 _ rfl)
   | (clear M1; refine wpList_store_one rfl 4 _ _ rfl w.heap.size 3 108 _ (.bool true) rfl rfl szBool rfl rfl HV.out (by simp) ?_; intro w1 hv1 hg1; replace HV : Hid (Vn w1 w.heap.size 108 #[.bool false, .bool true, .bool false, .bool true, .bool false]) := hv1; replace HB := qa0 (HB.out.trans (jbelow hg1.out HB.out.size (fun g e => by cases e; exact Nat.le_refl _))); clear hv1 hg1; replace d0 := HV.out.cell 0 _ rfl; replace d1 := HV.out.cell 1 _ rfl; replace d2 := HV.out.cell 2 _ rfl; replace d3 := HV.out.cell 3 _ rfl; replace d4 := HV.out.cell 4 _ rfl)
   | (clear M2; refine qa1 rfl 108 _ _ rfl w.heap.size _ #[.bool false, .bool true, .bool false, .bool true, .bool false] rfl rfl HV.out sizeIF rfl (all5 rfl rfl rfl rfl rfl) ?_; intro w1 hv1 hg1; replace HV := qa0 hv1.out; replace HB := qa0 (HB.out.trans (jbelow hg1.out HB.out.size (fun g e => by cases e; exact Nat.le_refl _))); clear hv1 hg1; replace d0 := HV.out.cell 0 _ rfl; replace d1 := HV.out.cell 1 _ rfl; replace d2 := HV.out.cell 2 _ rfl; replace d3 := HV.out.cell 3 _ rfl; replace d4 := HV.out.cell 4 _ rfl))
  refine bodyPost_ret (v := .tuple #[.agg #[.bool false, .bool true, .bool false, .bool true, .bool false], .bool true]) (by simp [results, Tryd.results65, go_sem, d0, d1, d2, d3, d4]) rfl ?_
  exact ⟨rfl, HB.out⟩
 have q3 : ((pl : Int) == 3) = false := by simp; omega
 by_cases e4 : pl = 4
 ·subst e4
  show Calls _ _ _ _ fun e w' => e = .returned (.tuple #[.agg #[.bool false, .bool false, .bool false, .bool true, .bool true], .bool true]) ∧ _
  have HV := qa0 (Vn.new w 108 #[.bool false, .bool false, .bool false, .bool false, .bool false])
  have HB := qa0 (jlow w (.cells #[.bool false, .bool false, .bool false, .bool false, .bool false] 108))
  have d0 := HV.out.cell 0 _ rfl
  have d1 := HV.out.cell 1 _ rfl
  have d2 := HV.out.cell 2 _ rfl
  have d3 := HV.out.cell 3 _ rfl
  have d4 := HV.out.cell 4 _ rfl
  have M0 : True := trivial
  have M1 : True := trivial
  have M2 : True := trivial
  go_enter Tryd.func65, Tryd.ntmps65
  go_wp2_with (first
   | (clear M0; refine wpList_store_one rfl 4 _ _ rfl w.heap.size 3 108 _ (.bool true) rfl rfl szBool rfl rfl HV.out (by simp) ?_; intro w1 hv1 hg1; replace HV : Hid (Vn w1 w.heap.size 108 #[.bool false, .bool false, .bool false, .bool true, .bool false]) := hv1; replace HB := qa0 (HB.out.trans (jbelow hg1.out HB.out.size (fun g e => by cases e; exact Nat.le_refl _))); clear hv1 hg1; replace d0 := HV.out.cell 0 _ rfl; replace d1 := HV.out.cell 1 _ rfl; replace d2 := HV.out.cell 2 _ rfl; replace d3 := HV.out.cell 3 _ rfl; replace d4 := HV.out.cell 4 _ rfl)
   | (clear M1; refine wpList_store_one rfl 4 _ _ rfl w.heap.size 4 108 _ (.bool true) rfl rfl szBool rfl rfl HV.out (by simp) ?_; intro w1 hv1 hg1; replace HV : Hid (Vn w1 w.heap.size 108 #[.bool false, .bool false, .bool false, .bool true, .bool true]) := hv1; replace HB := qa0 (HB.out.trans (jbelow hg1.out HB.out.size (fun g e => by cases e; exact Nat.le_refl _))); clear hv1 hg1; replace d0 := HV.out.cell 0 _ rfl; replace d1 := HV.out.cell 1 _ rfl; replace d2 := HV.out.cell 2 _ rfl; replace d3 := HV.out.cell 3 _ rfl; replace d4 := HV.out.cell 4 _ rfl)
   | (clear M2; refine qa1 rfl 108 _ _ rfl w.heap.size _ #[.bool false, .bool false, .bool false, .bool true, .bool true] rfl rfl HV.out sizeIF rfl (all5 rfl rfl rfl rfl rfl) ?_; intro w1 hv1 hg1; replace HV := qa0 hv1.out; replace HB := qa0 (HB.out.trans (jbelow hg1.out HB.out.size (fun g e => by cases e; exact Nat.le_refl _))); clear hv1 hg1; replace d0 := HV.out.cell 0 _ rfl; replace d1 := HV.out.cell 1 _ rfl; replace d2 := HV.out.cell 2 _ rfl; replace d3 := HV.out.cell 3 _ rfl; replace d4 := HV.out.cell 4 _ rfl))
  refine bodyPost_ret (v := .tuple #[.agg #[.bool false, .bool false, .bool false, .bool true, .bool true], .bool true]) (by simp [results, Tryd.results65, go_sem, d0, d1, d2, d3, d4]) rfl ?_
  exact ⟨rfl, HB.out⟩
 have q4 : ((pl : Int) == 4) = false := by simp; omega
 have HR : Hid (decide (pl = 3) = false ∧ decide (1 ≤ pl ∧ pl ≤ 4) = false ∧ decide (pl = 4) = false) := ⟨by simp; omega, by simp; omega, by simp; omega⟩
 rw [HR.out.1, HR.out.2.1, HR.out.2.2]
 clear HR
 have HV := qa0 (Vn.new w 108 #[.bool false, .bool false, .bool false, .bool false, .bool false])
 have HB := qa0 (jlow w (.cells #[.bool false, .bool false, .bool false, .bool false, .bool false] 108))
 have d0 := HV.out.cell 0 _ rfl
 have d1 := HV.out.cell 1 _ rfl
 have d2 := HV.out.cell 2 _ rfl
 have d3 := HV.out.cell 3 _ rfl
 have d4 := HV.out.cell 4 _ rfl
 have M0 : True := trivial
 go_enter Tryd.func65, Tryd.ntmps65
 go_wp2_with (first
  | (clear M0; refine qa1 rfl 108 _ _ rfl w.heap.size _ #[.bool false, .bool false, .bool false, .bool false, .bool false] rfl rfl HV.out sizeIF rfl (all5 rfl rfl rfl rfl rfl) ?_; intro w1 hv1 hg1; replace HV := qa0 hv1.out; replace HB := qa0 (HB.out.trans (jbelow hg1.out HB.out.size (fun g e => by cases e; exact Nat.le_refl _))); clear hv1 hg1; replace d0 := HV.out.cell 0 _ rfl; replace d1 := HV.out.cell 1 _ rfl; replace d2 := HV.out.cell 2 _ rfl; replace d3 := HV.out.cell 3 _ rfl; replace d4 := HV.out.cell 4 _ rfl))
 refine bodyPost_ret (v := .tuple #[.agg #[.bool false, .bool false, .bool false, .bool false, .bool false], .bool false]) (by simp [results, Tryd.results65, go_sem, d0, d1, d2, d3, d4]) rfl ?_
 exact ⟨rfl, HB.out⟩
theorem taskedI (w : World) (k pl : Nat) (h8 : k < 256) (hp8 : pl < 256) : Calls Tryd.prog 50 #[.int .u8 (k : Int), .int .u8 (pl : Int)] w fun e w' => e = .returned (.tuple #[.agg #[.bool (ikn k), .bool (ikv k pl), .bool (decide (k = 2)), .bool (ikp k pl), .bool (ikl k pl)], .bool (ikk k pl)]) ∧ Below w.heap.size w w' := by
 by_cases e1 : k = 1
 ·subst e1
  have HR : Hid (ikn 1 = true ∧ ikv 1 pl = true ∧ decide (1 = 2) = false ∧ ikp 1 pl = false ∧ ikl 1 pl = false ∧ ikk 1 pl = true) := by show _ ∧ _; unfold ikn ikv ikp ikl ikk; simp
  rw [HR.out.1, HR.out.2.1, HR.out.2.2.1, HR.out.2.2.2.1, HR.out.2.2.2.2.1, HR.out.2.2.2.2.2]
  clear HR
  have HV := qa0 (Vn.new w 108 #[.bool false, .bool false, .bool false, .bool false, .bool false])
  have HB := qa0 (jlow w (.cells #[.bool false, .bool false, .bool false, .bool false, .bool false] 108))
  have d0 := HV.out.cell 0 _ rfl
  have d1 := HV.out.cell 1 _ rfl
  have d2 := HV.out.cell 2 _ rfl
  have d3 := HV.out.cell 3 _ rfl
  have d4 := HV.out.cell 4 _ rfl
  have M0 : True := trivial
  have M1 : True := trivial
  have M2 : True := trivial
  go_enter Tryd.func50, Tryd.ntmps50
  go_wp2_with (first
   | (clear M0; refine wpList_store_one rfl 4 _ _ rfl w.heap.size 0 108 _ (.bool true) rfl rfl szBool rfl rfl HV.out (by simp) ?_; intro w1 hv1 hg1; replace HV : Hid (Vn w1 w.heap.size 108 #[.bool true, .bool false, .bool false, .bool false, .bool false]) := hv1; replace HB := qa0 (HB.out.trans (jbelow hg1.out HB.out.size (fun g e => by cases e; exact Nat.le_refl _))); clear hv1 hg1; replace d0 := HV.out.cell 0 _ rfl; replace d1 := HV.out.cell 1 _ rfl; replace d2 := HV.out.cell 2 _ rfl; replace d3 := HV.out.cell 3 _ rfl; replace d4 := HV.out.cell 4 _ rfl)
   | (clear M1; refine wpList_store_one rfl 4 _ _ rfl w.heap.size 1 108 _ (.bool true) rfl rfl szBool rfl rfl HV.out (by simp) ?_; intro w1 hv1 hg1; replace HV : Hid (Vn w1 w.heap.size 108 #[.bool true, .bool true, .bool false, .bool false, .bool false]) := hv1; replace HB := qa0 (HB.out.trans (jbelow hg1.out HB.out.size (fun g e => by cases e; exact Nat.le_refl _))); clear hv1 hg1; replace d0 := HV.out.cell 0 _ rfl; replace d1 := HV.out.cell 1 _ rfl; replace d2 := HV.out.cell 2 _ rfl; replace d3 := HV.out.cell 3 _ rfl; replace d4 := HV.out.cell 4 _ rfl)
   | (clear M2; refine qa1 rfl 108 _ _ rfl w.heap.size _ #[.bool true, .bool true, .bool false, .bool false, .bool false] rfl rfl HV.out sizeIF rfl (all5 rfl rfl rfl rfl rfl) ?_; intro w1 hv1 hg1; replace HV := qa0 hv1.out; replace HB := qa0 (HB.out.trans (jbelow hg1.out HB.out.size (fun g e => by cases e; exact Nat.le_refl _))); clear hv1 hg1; replace d0 := HV.out.cell 0 _ rfl; replace d1 := HV.out.cell 1 _ rfl; replace d2 := HV.out.cell 2 _ rfl; replace d3 := HV.out.cell 3 _ rfl; replace d4 := HV.out.cell 4 _ rfl))
  refine bodyPost_ret (v := .tuple #[.agg #[.bool true, .bool true, .bool false, .bool false, .bool false], .bool true]) (by simp [results, Tryd.results50, go_sem, d0, d1, d2, d3, d4]) rfl ?_
  exact ⟨rfl, HB.out⟩
 have q1 : ((k : Int) == 1) = false := by simp; omega
 by_cases e2 : k = 2
 ·subst e2
  have HR : Hid (ikn 2 = true ∧ ikv 2 pl = false ∧ decide (2 = 2) = true ∧ ikp 2 pl = false ∧ ikl 2 pl = false ∧ ikk 2 pl = true) := by show _ ∧ _; unfold ikn ikv ikp ikl ikk; simp
  rw [HR.out.1, HR.out.2.1, HR.out.2.2.1, HR.out.2.2.2.1, HR.out.2.2.2.2.1, HR.out.2.2.2.2.2]
  clear HR
  have HV := qa0 (Vn.new w 108 #[.bool false, .bool false, .bool false, .bool false, .bool false])
  have HB := qa0 (jlow w (.cells #[.bool false, .bool false, .bool false, .bool false, .bool false] 108))
  have d0 := HV.out.cell 0 _ rfl
  have d1 := HV.out.cell 1 _ rfl
  have d2 := HV.out.cell 2 _ rfl
  have d3 := HV.out.cell 3 _ rfl
  have d4 := HV.out.cell 4 _ rfl
  have M0 : True := trivial
  have M1 : True := trivial
  have M2 : True := trivial
  go_enter Tryd.func50, Tryd.ntmps50
  go_wp2_with (first
   | (clear M0; refine wpList_store_one rfl 4 _ _ rfl w.heap.size 2 108 _ (.bool true) rfl rfl szBool rfl rfl HV.out (by simp) ?_; intro w1 hv1 hg1; replace HV : Hid (Vn w1 w.heap.size 108 #[.bool false, .bool false, .bool true, .bool false, .bool false]) := hv1; replace HB := qa0 (HB.out.trans (jbelow hg1.out HB.out.size (fun g e => by cases e; exact Nat.le_refl _))); clear hv1 hg1; replace d0 := HV.out.cell 0 _ rfl; replace d1 := HV.out.cell 1 _ rfl; replace d2 := HV.out.cell 2 _ rfl; replace d3 := HV.out.cell 3 _ rfl; replace d4 := HV.out.cell 4 _ rfl)
   | (clear M1; refine wpList_store_one rfl 4 _ _ rfl w.heap.size 0 108 _ (.bool true) rfl rfl szBool rfl rfl HV.out (by simp) ?_; intro w1 hv1 hg1; replace HV : Hid (Vn w1 w.heap.size 108 #[.bool true, .bool false, .bool true, .bool false, .bool false]) := hv1; replace HB := qa0 (HB.out.trans (jbelow hg1.out HB.out.size (fun g e => by cases e; exact Nat.le_refl _))); clear hv1 hg1; replace d0 := HV.out.cell 0 _ rfl; replace d1 := HV.out.cell 1 _ rfl; replace d2 := HV.out.cell 2 _ rfl; replace d3 := HV.out.cell 3 _ rfl; replace d4 := HV.out.cell 4 _ rfl)
   | (clear M2; refine qa1 rfl 108 _ _ rfl w.heap.size _ #[.bool true, .bool false, .bool true, .bool false, .bool false] rfl rfl HV.out sizeIF rfl (all5 rfl rfl rfl rfl rfl) ?_; intro w1 hv1 hg1; replace HV := qa0 hv1.out; replace HB := qa0 (HB.out.trans (jbelow hg1.out HB.out.size (fun g e => by cases e; exact Nat.le_refl _))); clear hv1 hg1; replace d0 := HV.out.cell 0 _ rfl; replace d1 := HV.out.cell 1 _ rfl; replace d2 := HV.out.cell 2 _ rfl; replace d3 := HV.out.cell 3 _ rfl; replace d4 := HV.out.cell 4 _ rfl))
  refine bodyPost_ret (v := .tuple #[.agg #[.bool true, .bool false, .bool true, .bool false, .bool false], .bool true]) (by simp [results, Tryd.results50, go_sem, d0, d1, d2, d3, d4]) rfl ?_
  exact ⟨rfl, HB.out⟩
 have q2 : ((k : Int) == 2) = false := by simp; omega
 by_cases e3 : k = 3
 ·subst e3
  have HR : Hid (ikn 3 = true ∧ ikv 3 pl = false ∧ decide (3 = 2) = false ∧ ikp 3 pl = false ∧ ikl 3 pl = false ∧ ikk 3 pl = true) := by show _ ∧ _; unfold ikn ikv ikp ikl ikk; simp
  rw [HR.out.1, HR.out.2.1, HR.out.2.2.1, HR.out.2.2.2.1, HR.out.2.2.2.2.1, HR.out.2.2.2.2.2]
  clear HR
  have HV := qa0 (Vn.new w 108 #[.bool false, .bool false, .bool false, .bool false, .bool false])
  have HB := qa0 (jlow w (.cells #[.bool false, .bool false, .bool false, .bool false, .bool false] 108))
  have d0 := HV.out.cell 0 _ rfl
  have d1 := HV.out.cell 1 _ rfl
  have d2 := HV.out.cell 2 _ rfl
  have d3 := HV.out.cell 3 _ rfl
  have d4 := HV.out.cell 4 _ rfl
  have M0 : True := trivial
  have M1 : True := trivial
  go_enter Tryd.func50, Tryd.ntmps50
  go_wp2_with (first
   | (clear M0; refine wpList_store_one rfl 4 _ _ rfl w.heap.size 0 108 _ (.bool true) rfl rfl szBool rfl rfl HV.out (by simp) ?_; intro w1 hv1 hg1; replace HV : Hid (Vn w1 w.heap.size 108 #[.bool true, .bool false, .bool false, .bool false, .bool false]) := hv1; replace HB := qa0 (HB.out.trans (jbelow hg1.out HB.out.size (fun g e => by cases e; exact Nat.le_refl _))); clear hv1 hg1; replace d0 := HV.out.cell 0 _ rfl; replace d1 := HV.out.cell 1 _ rfl; replace d2 := HV.out.cell 2 _ rfl; replace d3 := HV.out.cell 3 _ rfl; replace d4 := HV.out.cell 4 _ rfl)
   | (clear M1; refine qa1 rfl 108 _ _ rfl w.heap.size _ #[.bool true, .bool false, .bool false, .bool false, .bool false] rfl rfl HV.out sizeIF rfl (all5 rfl rfl rfl rfl rfl) ?_; intro w1 hv1 hg1; replace HV := qa0 hv1.out; replace HB := qa0 (HB.out.trans (jbelow hg1.out HB.out.size (fun g e => by cases e; exact Nat.le_refl _))); clear hv1 hg1; replace d0 := HV.out.cell 0 _ rfl; replace d1 := HV.out.cell 1 _ rfl; replace d2 := HV.out.cell 2 _ rfl; replace d3 := HV.out.cell 3 _ rfl; replace d4 := HV.out.cell 4 _ rfl))
  refine bodyPost_ret (v := .tuple #[.agg #[.bool true, .bool false, .bool false, .bool false, .bool false], .bool true]) (by simp [results, Tryd.results50, go_sem, d0, d1, d2, d3, d4]) rfl ?_
  exact ⟨rfl, HB.out⟩
 have q3 : ((k : Int) == 3) = false := by simp; omega
 by_cases e4 : k = 4
 ·subst e4
  have HR : Hid (ikn 4 = false ∧ ikv 4 pl = true ∧ decide (4 = 2) = false ∧ ikp 4 pl = false ∧ ikl 4 pl = false ∧ ikk 4 pl = true) := by show _ ∧ _; unfold ikn ikv ikp ikl ikk; simp
  rw [HR.out.1, HR.out.2.1, HR.out.2.2.1, HR.out.2.2.2.1, HR.out.2.2.2.2.1, HR.out.2.2.2.2.2]
  clear HR
  have HV := qa0 (Vn.new w 108 #[.bool false, .bool false, .bool false, .bool false, .bool false])
  have HB := qa0 (jlow w (.cells #[.bool false, .bool false, .bool false, .bool false, .bool false] 108))
  have d0 := HV.out.cell 0 _ rfl
  have d1 := HV.out.cell 1 _ rfl
  have d2 := HV.out.cell 2 _ rfl
  have d3 := HV.out.cell 3 _ rfl
  have d4 := HV.out.cell 4 _ rfl
  have M0 : True := trivial
  have M1 : True := trivial
  go_enter Tryd.func50, Tryd.ntmps50
  go_wp2_with (first
   | (clear M0; refine wpList_store_one rfl 4 _ _ rfl w.heap.size 1 108 _ (.bool true) rfl rfl szBool rfl rfl HV.out (by simp) ?_; intro w1 hv1 hg1; replace HV : Hid (Vn w1 w.heap.size 108 #[.bool false, .bool true, .bool false, .bool false, .bool false]) := hv1; replace HB := qa0 (HB.out.trans (jbelow hg1.out HB.out.size (fun g e => by cases e; exact Nat.le_refl _))); clear hv1 hg1; replace d0 := HV.out.cell 0 _ rfl; replace d1 := HV.out.cell 1 _ rfl; replace d2 := HV.out.cell 2 _ rfl; replace d3 := HV.out.cell 3 _ rfl; replace d4 := HV.out.cell 4 _ rfl)
   | (clear M1; refine qa1 rfl 108 _ _ rfl w.heap.size _ #[.bool false, .bool true, .bool false, .bool false, .bool false] rfl rfl HV.out sizeIF rfl (all5 rfl rfl rfl rfl rfl) ?_; intro w1 hv1 hg1; replace HV := qa0 hv1.out; replace HB := qa0 (HB.out.trans (jbelow hg1.out HB.out.size (fun g e => by cases e; exact Nat.le_refl _))); clear hv1 hg1; replace d0 := HV.out.cell 0 _ rfl; replace d1 := HV.out.cell 1 _ rfl; replace d2 := HV.out.cell 2 _ rfl; replace d3 := HV.out.cell 3 _ rfl; replace d4 := HV.out.cell 4 _ rfl))
  refine bodyPost_ret (v := .tuple #[.agg #[.bool false, .bool true, .bool false, .bool false, .bool false], .bool true]) (by simp [results, Tryd.results50, go_sem, d0, d1, d2, d3, d4]) rfl ?_
  exact ⟨rfl, HB.out⟩
 have q4 : ((k : Int) == 4) = false := by simp; omega
 by_cases e6 : k = 6
 ·subst e6
  have HR : Hid (ikn 6 = false ∧ ikv 6 pl = true ∧ decide (6 = 2) = false ∧ ikp 6 pl = false ∧ ikl 6 pl = false ∧ ikk 6 pl = true) := by show _ ∧ _; unfold ikn ikv ikp ikl ikk; simp
  rw [HR.out.1, HR.out.2.1, HR.out.2.2.1, HR.out.2.2.2.1, HR.out.2.2.2.2.1, HR.out.2.2.2.2.2]
  clear HR
  have HV := qa0 (Vn.new w 108 #[.bool false, .bool false, .bool false, .bool false, .bool false])
  have HB := qa0 (jlow w (.cells #[.bool false, .bool false, .bool false, .bool false, .bool false] 108))
  have d0 := HV.out.cell 0 _ rfl
  have d1 := HV.out.cell 1 _ rfl
  have d2 := HV.out.cell 2 _ rfl
  have d3 := HV.out.cell 3 _ rfl
  have d4 := HV.out.cell 4 _ rfl
  have M0 : True := trivial
  have M1 : True := trivial
  go_enter Tryd.func50, Tryd.ntmps50
  go_wp2_with (first
   | (clear M0; refine wpList_store_one rfl 4 _ _ rfl w.heap.size 1 108 _ (.bool true) rfl rfl szBool rfl rfl HV.out (by simp) ?_; intro w1 hv1 hg1; replace HV : Hid (Vn w1 w.heap.size 108 #[.bool false, .bool true, .bool false, .bool false, .bool false]) := hv1; replace HB := qa0 (HB.out.trans (jbelow hg1.out HB.out.size (fun g e => by cases e; exact Nat.le_refl _))); clear hv1 hg1; replace d0 := HV.out.cell 0 _ rfl; replace d1 := HV.out.cell 1 _ rfl; replace d2 := HV.out.cell 2 _ rfl; replace d3 := HV.out.cell 3 _ rfl; replace d4 := HV.out.cell 4 _ rfl)
   | (clear M1; refine qa1 rfl 108 _ _ rfl w.heap.size _ #[.bool false, .bool true, .bool false, .bool false, .bool false] rfl rfl HV.out sizeIF rfl (all5 rfl rfl rfl rfl rfl) ?_; intro w1 hv1 hg1; replace HV := qa0 hv1.out; replace HB := qa0 (HB.out.trans (jbelow hg1.out HB.out.size (fun g e => by cases e; exact Nat.le_refl _))); clear hv1 hg1; replace d0 := HV.out.cell 0 _ rfl; replace d1 := HV.out.cell 1 _ rfl; replace d2 := HV.out.cell 2 _ rfl; replace d3 := HV.out.cell 3 _ rfl; replace d4 := HV.out.cell 4 _ rfl))
  refine bodyPost_ret (v := .tuple #[.agg #[.bool false, .bool true, .bool false, .bool false, .bool false], .bool true]) (by simp [results, Tryd.results50, go_sem, d0, d1, d2, d3, d4]) rfl ?_
  exact ⟨rfl, HB.out⟩
 have q6 : ((k : Int) == 6) = false := by simp; omega
 by_cases e5 : k = 5
 ·subst e5
  have HR : Hid (ikn 5 = false ∧ ikv 5 pl = decide (pl = 3) ∧ decide (5 = 2) = false ∧ ikp 5 pl = decide (1 ≤ pl ∧ pl ≤ 4) ∧ ikl 5 pl = decide (pl = 4) ∧ ikk 5 pl = decide (1 ≤ pl ∧ pl ≤ 4)) := by show _ ∧ _; unfold ikn ikv ikp ikl ikk; simp
  rw [HR.out.1, HR.out.2.1, HR.out.2.2.1, HR.out.2.2.2.1, HR.out.2.2.2.2.1, HR.out.2.2.2.2.2]
  clear HR
  have HC := qa0 (fun w' => taskedP w' pl hp8)
  generalize decide (pl = 3) = u1 at *
  generalize decide (1 ≤ pl ∧ pl ≤ 4) = u2 at *
  generalize decide (pl = 4) = u3 at *
  have HV := qa0 (Vn.new w 108 #[.bool false, .bool false, .bool false, .bool false, .bool false])
  have HB := qa0 (jlow w (.cells #[.bool false, .bool false, .bool false, .bool false, .bool false] 108))
  have M0 : True := trivial
  go_enter Tryd.func50, Tryd.ntmps50
  go_wp2_with (first
   | (go_at_call 65; refine (HC.out _).mono ?_; rintro e w1 ⟨rfl, hb1⟩; replace HV := qa0 (HV.out.later hb1); replace HB := qa0 (jtwo HB.out hb1); clear hb1)
   | (clear M0; refine qa1 rfl 108 _ _ rfl w.heap.size _ #[.bool false, .bool u1, .bool false, .bool u2, .bool u3] rfl rfl HV.out sizeIF rfl (all5 rfl rfl rfl rfl rfl) ?_; intro w1 hv1 hg1; replace HV := qa0 hv1.out; replace HB := qa0 (HB.out.trans (jbelow hg1.out HB.out.size (fun g e => by cases e; exact Nat.le_refl _))); clear hv1 hg1; have d0 := HV.out.cell 0 _ rfl; have d1 := HV.out.cell 1 _ rfl; have d2 := HV.out.cell 2 _ rfl; have d3 := HV.out.cell 3 _ rfl; have d4 := HV.out.cell 4 _ rfl))
  refine bodyPost_ret (v := .tuple #[.agg #[.bool false, .bool u1, .bool false, .bool u2, .bool u3], .bool u2]) (by simp [results, Tryd.results50, go_sem, d0, d1, d2, d3, d4]) rfl ?_
  exact ⟨rfl, HB.out⟩
 have q5 : ((k : Int) == 5) = false := by simp; omega
 have HR : Hid (ikn k = false ∧ ikv k pl = false ∧ decide (k = 2) = false ∧ ikp k pl = false ∧ ikl k pl = false ∧ ikk k pl = false) := by
  unfold ikn ikv ikp ikl ikk
  refine ⟨decide_eq_false (by omega), decide_eq_false (by omega), decide_eq_false (by omega), decide_eq_false (by omega), decide_eq_false (by omega), decide_eq_false (by omega)⟩
 rw [HR.out.1, HR.out.2.1, HR.out.2.2.1, HR.out.2.2.2.1, HR.out.2.2.2.2.1, HR.out.2.2.2.2.2]
 clear HR
 have HV := qa0 (Vn.new w 108 #[.bool false, .bool false, .bool false, .bool false, .bool false])
 have HB := qa0 (jlow w (.cells #[.bool false, .bool false, .bool false, .bool false, .bool false] 108))
 have d0 := HV.out.cell 0 _ rfl
 have d1 := HV.out.cell 1 _ rfl
 have d2 := HV.out.cell 2 _ rfl
 have d3 := HV.out.cell 3 _ rfl
 have d4 := HV.out.cell 4 _ rfl
 have M0 : True := trivial
 go_enter Tryd.func50, Tryd.ntmps50
 go_wp2_with (first
  | (clear M0; refine qa1 rfl 108 _ _ rfl w.heap.size _ #[.bool false, .bool false, .bool false, .bool false, .bool false] rfl rfl HV.out sizeIF rfl (all5 rfl rfl rfl rfl rfl) ?_; intro w1 hv1 hg1; replace HV := qa0 hv1.out; replace HB := qa0 (HB.out.trans (jbelow hg1.out HB.out.size (fun g e => by cases e; exact Nat.le_refl _))); clear hv1 hg1; replace d0 := HV.out.cell 0 _ rfl; replace d1 := HV.out.cell 1 _ rfl; replace d2 := HV.out.cell 2 _ rfl; replace d3 := HV.out.cell 3 _ rfl; replace d4 := HV.out.cell 4 _ rfl))
 refine bodyPost_ret (v := .tuple #[.agg #[.bool false, .bool false, .bool false, .bool false, .bool false], .bool false]) (by simp [results, Tryd.results50, go_sem, d0, d1, d2, d3, d4]) rfl ?_
 exact ⟨rfl, HB.out⟩
theorem tzerox (w : World) (T : Xt) (v : Value) (hX : XV w v T) : Calls Tryd.prog 66 #[v] w fun e w' => e = .returned (.bool (zxB (T []))) ∧ Below w.heap.size w w' := by
 obtain ⟨⟨a, cap, rfl, _⟩, hok⟩ := hX
 generalize T [] = l at *
 obtain ⟨k, n, nm, len, ln, cl⟩ := l
 have e0 := qcb (x := nm)
 have hv := Vn.new w 53 #[.int .u8 (k : Int), .int .i64 n, .string nm, .slice a len cap, .int .i64 ln, .int .i64 cl]
 have c0 := hv.cell 0 _ rfl
 have c1 := hv.cell 1 _ rfl
 have c2 := hv.cell 2 _ rfl
 have c3 := hv.cell 3 _ rfl
 have c4 := hv.cell 4 _ rfl
 have c5 := hv.cell 5 _ rfl
 have HZ : Hid (zxB ⟨k, n, nm, len, ln, cl⟩ = (decide (k = 0) && (decide (n = 0) && (decide (nm.size = 0) && (decide (len = 0) && (decide (ln = 0) && decide (cl = 0))))))) := rfl
 rw [HZ.out]
 clear hv hok HZ
 by_cases h1 : k = 0
 ·subst h1
  by_cases h2 : n = 0
  ·subst h2
   by_cases h3 : nm.size = 0
   ·rw [decide_eq_true h3] at e0 ⊢
    by_cases h4 : len = 0
    ·subst h4
     by_cases h5 : ln = 0
     ·subst h5
      by_cases h6 : cl = 0
      ·subst h6
       go_enter Tryd.func66, Tryd.ntmps66
       go_wp2
       go_ret
       exact ⟨rfl, jlow _ _⟩
      ·rw [decide_eq_false h6]
       have q : (cl == 0) = false := by simpa using h6
       go_enter Tryd.func66, Tryd.ntmps66
       go_wp2
       go_ret
       exact ⟨rfl, jlow _ _⟩
     ·rw [decide_eq_false h5]
      have q : (ln == 0) = false := by simpa using h5
      go_enter Tryd.func66, Tryd.ntmps66
      go_wp2
      go_ret
      exact ⟨rfl, jlow _ _⟩
    ·rw [decide_eq_false h4]
     have q : ((len : Int) == 0) = false := by simp; omega
     go_enter Tryd.func66, Tryd.ntmps66
     go_wp2
     go_ret
     exact ⟨rfl, jlow _ _⟩
   ·rw [decide_eq_false h3] at e0 ⊢
    go_enter Tryd.func66, Tryd.ntmps66
    go_wp2
    go_ret
    exact ⟨rfl, jlow _ _⟩
  ·rw [decide_eq_false h2]
   have q : (n == 0) = false := by simpa using h2
   go_enter Tryd.func66, Tryd.ntmps66
   go_wp2
   go_ret
   exact ⟨rfl, jlow _ _⟩
 ·rw [decide_eq_false h1]
  have q : ((k : Int) == 0) = false := by simp; omega
  go_enter Tryd.func66, Tryd.ntmps66
  go_wp2
  go_ret
  exact ⟨rfl, jlow _ _⟩
/-- Is it the zero shape, in the program's order? -/
theorem zs_order (k : Nat) (nm : ByteArray) (na : Nat) (args : Nat → Xt) (np nr : Nat) (rl : Nat → Nat) (rows : Nat → Nat → Xt) (ln cl : Int) : zsB ⟨k, nm, na, args, np, nr, rl, rows, ln, cl⟩ = (decide (k = 0) && (decide (nm.size = 0) && (decide (na = 0) && (decide (np = 0) && (decide (nr = 0) && (decide (ln = 0) && decide (cl = 0))))))) := by
 show (decide (ln = 0) && (decide (cl = 0) && (decide (k = 0) && (decide (nm.size = 0) && (decide (na = 0) && (decide (np = 0) && decide (nr = 0))))))) = _
 generalize decide (ln = 0) = x1
 generalize decide (cl = 0) = x2
 generalize decide (k = 0) = x3
 generalize decide (nm.size = 0) = x4
 generalize decide (na = 0) = x5
 generalize decide (np = 0) = x6
 generalize decide (nr = 0) = x7
 cases x1 <;> cases x2 <;> cases x3 <;> cases x4 <;> cases x5 <;> cases x6 <;> cases x7 <;> rfl
theorem tzeros (w : World) (S : St) (v : Value) (hX : SV w v S) : Calls Tryd.prog 67 #[v] w fun e w' => e = .returned (.bool (zsB (S []))) ∧ Below w.heap.size w w' := by
 obtain ⟨⟨aa, pa, ra, ca, cp, cr, rfl, _⟩, _⟩ := hX
 generalize S [] = l at *
 obtain ⟨k, nm, na, args, np, nr, rl, rows, ln, cl⟩ := l
 have e0 := qcb (x := nm)
 have hv := Vn.new w 58 #[.int .u8 (k : Int), .string nm, .slice aa na ca, .slice pa np cp, .slice ra nr cr, .int .i64 ln, .int .i64 cl]
 have c0 := hv.cell 0 _ rfl
 have c1 := hv.cell 1 _ rfl
 have c2 := hv.cell 2 _ rfl
 have c3 := hv.cell 3 _ rfl
 have c4 := hv.cell 4 _ rfl
 have c5 := hv.cell 5 _ rfl
 have c6 := hv.cell 6 _ rfl
 rw [zs_order]
 clear hv
 by_cases h0 : k = 0
 ·subst h0
  by_cases h1 : nm.size = 0
  ·rw [decide_eq_true h1] at e0 ⊢
   by_cases h2 : na = 0
   ·subst h2
    by_cases h3 : np = 0
    ·subst h3
     by_cases h4 : nr = 0
     ·subst h4
      by_cases h5 : ln = 0
      ·subst h5
       by_cases h6 : cl = 0
       ·subst h6
        go_enter Tryd.func67, Tryd.ntmps67
        go_wp2
        go_ret
        exact ⟨rfl, jlow _ _⟩
       ·rw [decide_eq_false h6]
        have q : (cl == 0) = false := by simpa using h6
        go_enter Tryd.func67, Tryd.ntmps67
        go_wp2
        go_ret
        exact ⟨rfl, jlow _ _⟩
      ·rw [decide_eq_false h5]
       have q : (ln == 0) = false := by simpa using h5
       go_enter Tryd.func67, Tryd.ntmps67
       go_wp2
       go_ret
       exact ⟨rfl, jlow _ _⟩
     ·rw [decide_eq_false h4]
      have q : ((nr : Int) == 0) = false := by simp; omega
      go_enter Tryd.func67, Tryd.ntmps67
      go_wp2
      go_ret
      exact ⟨rfl, jlow _ _⟩
    ·rw [decide_eq_false h3]
     have q : ((np : Int) == 0) = false := by simp; omega
     go_enter Tryd.func67, Tryd.ntmps67
     go_wp2
     go_ret
     exact ⟨rfl, jlow _ _⟩
   ·rw [decide_eq_false h2]
    have q : ((na : Int) == 0) = false := by simp; omega
    go_enter Tryd.func67, Tryd.ntmps67
    go_wp2
    go_ret
    exact ⟨rfl, jlow _ _⟩
  ·rw [decide_eq_false h1] at e0 ⊢
   go_enter Tryd.func67, Tryd.ntmps67
   go_wp2
   go_ret
   exact ⟨rfl, jlow _ _⟩
 ·rw [decide_eq_false h0]
  have q : ((k : Int) == 0) = false := by simp; omega
  go_enter Tryd.func67, Tryd.ntmps67
  go_wp2
  go_ret
  exact ⟨rfl, jlow _ _⟩
end Go.Proofs.YtemhodenkgngmaaDoor
