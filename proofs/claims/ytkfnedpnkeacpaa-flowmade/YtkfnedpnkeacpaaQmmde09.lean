/-
  Contracts of the matrices' reference: Right, At, Zero, Make, Like.
-/
import Derived.Test.YtkfnedpnkeacpaaQmmde00
import Derived.Test.YtkfnedpnkeacpaaQmmde08
import Derived.Deep.MidRow
set_option maxRecDepth 100000
set_option maxHeartbeats 16000000
namespace Go.Proofs.Ytkfnedpnkeacpaa
open Go.RowKit
/-- A matrix as a value. -/
abbrev mv (r c : Int) (a : Option Addr) (n k : Nat) : Value := .agg #[.int .i64 r, .int .i64 c, .slice a n k]
/-- Right, in numbers. -/
def RightP (r c : Int) (n : Nat) : Prop := 0 ≤ r ∧ r ≤ 64 ∧ 0 ≤ c ∧ c ≤ 64 ∧ (n : Int) = r * c
theorem qbb {r c : Int} (h1 : 0 ≤ r) (h2 : r ≤ 64) (h3 : 0 ≤ c) (h4 : c ≤ 64) : 0 ≤ r * c ∧ r * c ≤ 4096 :=
 ⟨Int.mul_nonneg h1 h3, Int.le_trans (Int.mul_le_mul_of_nonneg_right h2 h3) (by omega)⟩
theorem qa2 (w : World) (o : Obj) : Below w.heap.size w (w.alloc o) := (Below.refl _ _).alloc (Nat.le_refl _) _
/-- A variable of three cells: a matrix's. -/
def Vr (w : World) (b : Nat) (x y z : Value) : Prop := w.heap[b]? = some (.cells #[x, y, z] 24 (0, 0))
theorem Vr.lt {w : World} {b : Nat} {x y z : Value} (h : Vr w b x y z) : b < w.heap.size := lt_of_block h
theorem Vr.c0 {w : World} {b : Nat} {x y z : Value} (h : Vr w b x y z) : w.cell? ⟨b, 0, none⟩ = some x := by rw [cell_of_row w b 0 _ _ _ h]; rfl
theorem Vr.c1 {w : World} {b : Nat} {x y z : Value} (h : Vr w b x y z) : w.cell? ⟨b, 1, none⟩ = some y := by rw [cell_of_row w b 1 _ _ _ h]; rfl
theorem Vr.c2 {w : World} {b : Nat} {x y z : Value} (h : Vr w b x y z) : w.cell? ⟨b, 2, none⟩ = some z := by rw [cell_of_row w b 2 _ _ _ h]; rfl
theorem Vr.free {w : World} {b : Nat} {x y z : Value} (h : Vr w b x y z) (i : Nat) : w.frozen? ⟨b, i, none⟩ = false := by
 unfold Vr at h
 simp [World.frozen?, h]
theorem Vr.later {w w' : World} {b : Nat} {x y z : Value} (h : Vr w b x y z) (hb : Below w.heap.size w w') : Vr w' b x y z := by unfold Vr; rw [hb.block b h.lt]; exact h
theorem Vr.kept {w w' : World} {b g : Nat} {x y z : Value} (h : Vr w b x y z) (hg : w.grownBy w' (some g)) (hne : b ≠ g) : Vr w' b x y z := by unfold Vr; rw [hg.block b h.lt (by simpa using hne)]; exact h
theorem Vr.new (w : World) (x y z : Value) : Vr (w.alloc (.cells #[x, y, z] 24)) w.heap.size x y z := new_at w _
theorem size24 : (Try.prog.info? 24).map (·.size) = some 3 := by kernel_rfl
theorem Vr.set0 {w : World} {b : Nat} {x y z : Value} (h : Vr w b x y z) (v : Value) : Vr (w.setCell ⟨b, 0, none⟩ v) b v y z := by
 unfold Vr at *
 rw [setCell_eq_setRow w b 0 _ _ (0, 0) _ h, setRow_heap w b _ _ _ (0, 0) h]; rfl
theorem Vr.set1 {w : World} {b : Nat} {x y z : Value} (h : Vr w b x y z) (v : Value) : Vr (w.setCell ⟨b, 1, none⟩ v) b x v z := by
 unfold Vr at *
 rw [setCell_eq_setRow w b 1 _ _ (0, 0) _ h, setRow_heap w b _ _ _ (0, 0) h]; rfl
theorem Vr.set2 {w : World} {b : Nat} {x y z : Value} (h : Vr w b x y z) (v : Value) : Vr (w.setCell ⟨b, 2, none⟩ v) b x y v := by
 unfold Vr at *
 rw [setCell_eq_setRow w b 2 _ _ (0, 0) _ h, setRow_heap w b _ _ _ (0, 0) h]; rfl
theorem Vr.there {w : World} {b : Nat} {x y z : Value} (h : Vr w b x y z) : w.there b 0 3 := by
 intro j hj
 rcases (by omega : j = 0 ∨ j = 1 ∨ j = 2) with rfl | rfl | rfl
 ·exact ⟨by rw [Nat.zero_add, h.c0]; rfl, h.free _⟩
 ·exact ⟨by rw [Nat.zero_add, h.c1]; rfl, h.free _⟩
 ·exact ⟨by rw [Nat.zero_add, h.c2]; rfl, h.free _⟩
theorem qag {ops : Array Oper} {rest : List Oper} {op : Oper} {a : Act} {w : World} {Q : Exit → Act → World → Prop} (hgd : op.guard = none) (p q : Operand) (ho : op.op = .store 24 p q)
  (b : Nat) (x y z x' y' z' : Value) (hp : a.eval p = .pointer (some ⟨b, 0, none⟩)) (hq : a.eval q = .agg #[x', y', z']) (hv : Vr w b x y z) (h0 : x'.oneCell' = true) (h1 : y'.oneCell' = true) (h2 : z'.oneCell' = true)
  (h : ∀ w', Hid (Vr w' b x' y' z') → Hid (w.grownBy w' (some b)) → wpList Try.prog ops Q rest (a.put op.dst undef) w') : wpList Try.prog ops Q (op :: rest) a w :=
 wpList_store_mid hgd 24 p q ho b 0 #[x', y', z'] hp hq hv.there size24 (by simp [h0, h1, h2]) (h _ (((hv.set0 x').set1 y').set2 z') (qac (qac (qa1 _ _ _ _) (qa1 _ _ _ _)) (qa1 _ _ _ _)))
theorem qer (w : World) (r c : Int) (a : Option Addr) (n k : Nat) (h : RightP r c n) :
  Calls Try.prog 19 #[mv r c a n k] w fun e w' => e = .returned (.bool true) ∧ Below w.heap.size w w' := by
 obtain ⟨h1, h2, h3, h4, h5⟩ := h
 have hm := qbb h1 h2 h3 h4
 have hw : IntKind.i64.wrap (r * c) = r * c := by rw [IntKind.wrap_i64]; omega
 have g1 : decide (0 ≤ r) = true := by simpa using h1
 have g2 : decide (r ≤ 64) = true := by simpa using h2
 have g3 : decide (0 ≤ c) = true := by simpa using h3
 have g4 : decide (c ≤ 64) = true := by simpa using h4
 have g5 : ((n : Int) == r * c) = true := by simpa using h5
 clear h5 hm
 go_enter Try.func19, Try.ntmps19
 go_wp2
 go_ret
 exact ⟨rfl, qa2 _ _⟩
theorem right_no (w : World) (r c : Int) (a : Option Addr) (n k : Nat) (h : ¬ RightP r c n) :
  Calls Try.prog 19 #[mv r c a n k] w fun e w' => e = .returned (.bool false) ∧ Below w.heap.size w w' := by
 by_cases h1 : 0 ≤ r
 ·by_cases h2 : r ≤ 64
  ·by_cases h3 : 0 ≤ c
   ·by_cases h4 : c ≤ 64
    ·have h5 : ¬ ((n : Int) = r * c) := fun e => h ⟨h1, h2, h3, h4, e⟩
     have hm := qbb h1 h2 h3 h4
     have hw : IntKind.i64.wrap (r * c) = r * c := by rw [IntKind.wrap_i64]; omega
     have g1 : decide (0 ≤ r) = true := by simpa using h1
     have g2 : decide (r ≤ 64) = true := by simpa using h2
     have g3 : decide (0 ≤ c) = true := by simpa using h3
     have g4 : decide (c ≤ 64) = true := by simpa using h4
     have g5 : ((n : Int) == r * c) = false := by simpa using h5
     clear h h5 hm
     go_enter Try.func19, Try.ntmps19
     go_wp2
     go_ret
     exact ⟨rfl, qa2 _ _⟩
    ·have g4 : decide (c ≤ 64) = false := by simpa using h4
     clear h
     go_enter Try.func19, Try.ntmps19
     go_wp2
     go_ret
     exact ⟨rfl, qa2 _ _⟩
   ·have g3 : decide (0 ≤ c) = false := by simpa using h3
    clear h
    go_enter Try.func19, Try.ntmps19
    go_wp2
    go_ret
    exact ⟨rfl, qa2 _ _⟩
  ·have g2 : decide (r ≤ 64) = false := by simpa using h2
   clear h
   go_enter Try.func19, Try.ntmps19
   go_wp2
   go_ret
   exact ⟨rfl, qa2 _ _⟩
 ·have g1 : decide (0 ≤ r) = false := by simpa using h1
  clear h
  go_enter Try.func19, Try.ntmps19
  go_wp2
  go_ret
  exact ⟨rfl, qa2 _ _⟩
theorem at3_any (w : World) (r : Int) (c i j n k v : Nat) (a : Option Addr) (f : Nat → Nat) (h : Sl w a n f) (hi : i * c + j < n) (hn : n ≤ 4096) (HV : Hid (f (i * c + j) = v)) :
  Calls Try.prog 33 #[mv r c a n k, .int .i64 (i : Int), .int .i64 (j : Int)] w fun e w' => e = .returned (.int .u8 (v : Int)) ∧ Below w.heap.size w w' := by
 obtain ⟨b, o, ea, hcl⟩ := h.2 _ hi
 rw [HV.out] at hcl
 have hlt := qa5 hcl
 obtain ⟨p, HP⟩ : ∃ p, Hid (i * c + j = p) := ⟨_, rfl⟩
 rw [HP.out] at hcl hi
 have hb : i * c ≤ p := by rw [← HP.out]; omega
 have e1 : ((i : Int) * (c : Int)) = ((i * c : Nat) : Int) := by simp
 have w1 : IntKind.i64.wrap ((i : Int) * (c : Int)) = (i : Int) * (c : Int) := by rw [e1, IntKind.wrap_i64]; omega
 have w2 : IntKind.i64.wrap ((i : Int) * (c : Int) + (j : Int)) = (p : Int) := by rw [e1, IntKind.wrap_i64]; have := HP.out; omega
 have hcl2 : (w.alloc (.cells #[.int .i64 r, .int .i64 (c : Int), .slice (some ⟨b, o, none⟩) n k] 24)).cell? ⟨b, o + p, none⟩ = some (.int .u8 (v : Int)) := by rw [(qa2 w _).cell (p := ⟨b, o + p, none⟩) hlt]; exact hcl
 clear h hcl e1
 subst ea
 go_enter Try.func33, Try.ntmps33
 go_wp2
 go_ret
 exact ⟨rfl, qa2 _ _⟩
end Go.Proofs.Ytkfnedpnkeacpaa
