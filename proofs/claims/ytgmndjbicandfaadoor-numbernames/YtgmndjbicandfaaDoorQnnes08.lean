/-
  Contracts of the program's tree: tokens made, which expressions may be.
-/
import Derived.Test.YtgmndjbicandfaaDoorQnnes00
import Derived.Test.YtgmndjbicandfaaDoorQnnes06
import Derived.Test.YtgmndjbicandfaaDoorQnnes07
import Derived.Lib.MinMax
set_option maxRecDepth 100000
set_option maxHeartbeats 16000000
namespace Go.Proofs.YtgmndjbicandfaaDoor
open Go.RowKit
theorem sizeX : (Tryd.prog.info? 25).map (·.size) = some 6 := by kernel_rfl
theorem all6 {x y z u v t : Value} (h0 : x.oneCell' = true) (h1 : y.oneCell' = true) (h2 : z.oneCell' = true) (h3 : u.oneCell' = true) (h4 : v.oneCell' = true) (h5 : t.oneCell' = true) : (#[x, y, z, u, v, t] : Array Value).all (·.oneCell') = true := by simp [h0, h1, h2, h3, h4, h5]
theorem qa2 (w : World) (o : Obj) : (w.alloc o).heap.size = w.heap.size + 1 := Array.size_push _
theorem tleaf (w : World) (k len cap q : Nat) (n ln cl : Int) (nm : ByteArray) (a : Option Addr) (hq : q = if k = 2 then 1 else 3) : Calls Tryd.prog 65 #[.agg #[.int .u8 (k : Int), .int .i64 n, .string nm, .slice a len cap, .int .i64 ln, .int .i64 cl]] w fun e w' => e = .returned (.agg #[.int .u8 (q : Int), .string nm, .int .i64 n, .int .i64 0, .int .i64 0]) ∧ Below w.heap.size w w' := by
 have HX := qa0 (Vn.new w 25 #[.int .u8 (k : Int), .int .i64 n, .string nm, .slice a len cap, .int .i64 ln, .int .i64 cl])
 have HX2 := qa0 (HX.out.later (jlow _ (.cells #[.int .u8 0, .string ⟨#[]⟩, .int .i64 0, .int .i64 0, .int .i64 0] 96)))
 have HVt := qa0 (Vn.new (w.alloc (.cells #[.int .u8 (k : Int), .int .i64 n, .string nm, .slice a len cap, .int .i64 ln, .int .i64 cl] 25)) 96 #[.int .u8 0, .string ⟨#[]⟩, .int .i64 0, .int .i64 0, .int .i64 0])
 have HB := qa0 (jtwo (jlow w (.cells #[.int .u8 (k : Int), .int .i64 n, .string nm, .slice a len cap, .int .i64 ln, .int .i64 cl] 25)) (jlow _ (.cells #[.int .u8 0, .string ⟨#[]⟩, .int .i64 0, .int .i64 0, .int .i64 0] 96)))
 rw [qa2] at HVt
 have c0 := HX2.out.cell 0 _ rfl
 have c1 := HX2.out.cell 1 _ rfl
 have c2 := HX2.out.cell 2 _ rfl
 clear HX HX2
 by_cases hk : k = 2
 ·obtain rfl : q = 1 := by rw [hq, if_pos hk]
  subst hk
  clear hq
  go_enter Tryd.func65, Tryd.ntmps65
  go_wp2_with (refine qa1 rfl 96 _ _ rfl (w.heap.size + 1) _ #[.int .u8 1, .string nm, .int .i64 n, .int .i64 0, .int .i64 0] rfl rfl HVt.out sizeTok rfl (all5 rfl rfl rfl rfl rfl) ?_; intro w8 HV8 hg8)
  have d0 := HV8.out.cell 0 _ rfl
  have d1 := HV8.out.cell 1 _ rfl
  have d2 := HV8.out.cell 2 _ rfl
  have d3 := HV8.out.cell 3 _ rfl
  have d4 := HV8.out.cell 4 _ rfl
  refine bodyPost_ret (v := .agg #[.int .u8 1, .string nm, .int .i64 n, .int .i64 0, .int .i64 0]) (by simp [results, Tryd.results65, go_sem, d0, d1, d2, d3, d4]) rfl ?_
  exact ⟨rfl, HB.out.trans (jbelow hg8.out HB.out.size (fun g e => by cases e; omega))⟩
 ·obtain rfl : q = 3 := by rw [hq, if_neg hk]
  have q2 : ((k : Int) == 2) = false := by simp; omega
  clear hq
  go_enter Tryd.func65, Tryd.ntmps65
  go_wp2_with (refine qa1 rfl 96 _ _ rfl (w.heap.size + 1) _ #[.int .u8 3, .string nm, .int .i64 n, .int .i64 0, .int .i64 0] rfl rfl HVt.out sizeTok rfl (all5 rfl rfl rfl rfl rfl) ?_; intro w8 HV8 hg8)
  have d0 := HV8.out.cell 0 _ rfl
  have d1 := HV8.out.cell 1 _ rfl
  have d2 := HV8.out.cell 2 _ rfl
  have d3 := HV8.out.cell 3 _ rfl
  have d4 := HV8.out.cell 4 _ rfl
  refine bodyPost_ret (v := .agg #[.int .u8 3, .string nm, .int .i64 n, .int .i64 0, .int .i64 0]) (by simp [results, Tryd.results65, go_sem, d0, d1, d2, d3, d4]) rfl ?_
  exact ⟨rfl, HB.out.trans (jbelow hg8.out HB.out.size (fun g e => by cases e; omega))⟩
/-- Has an expression what its kind asks for? -/
def fxB (l : Lx) : Bool := (xwant l).isSome
theorem fx1 (n ln cl : Int) (nm : ByteArray) : fxB ⟨1, n, nm, 0, ln, cl⟩ = mayB ⟨3, nm, n, 0, 0⟩ := by
 show (if 0 ≤ n ∧ n ≤ 2147483647 ∧ nm.size = 0 ∧ (0 : Nat) = 0 then some 0 else none : Option Nat).isSome = (decide (nm.size = 0) && (decide (0 ≤ n) && decide (n ≤ 2147483647)))
 generalize nm.size = s
 by_cases g1 : s = 0 <;> by_cases g2 : 0 ≤ n <;> by_cases g3 : n ≤ 2147483647 <;> simp [g1, g2, g3]
theorem fx2 (n ln cl : Int) (nm : ByteArray) : fxB ⟨2, n, nm, 0, ln, cl⟩ = mayB ⟨1, nm, n, 0, 0⟩ := by
 show (if n = 0 ∧ isN nm = true ∧ (0 : Nat) = 0 then some 0 else none : Option Nat).isSome = (decide (n = 0) && isN nm)
 by_cases g1 : n = 0 <;> cases g2 : isN nm <;> simp [g1]
theorem fx3 (n ln cl : Int) (nm : ByteArray) (len : Nat) : fxB ⟨3, n, nm, len, ln, cl⟩ = (decide (len = 1) && (decide (n = 0) && decide (nm.size = 0))) := by
 show (if n = 0 ∧ nm.size = 0 ∧ len = 1 then some 1 else none : Option Nat).isSome = _
 generalize nm.size = s
 by_cases g1 : s = 0 <;> by_cases g2 : n = 0 <;> by_cases g3 : len = 1 <;> simp [g1, g2, g3]
theorem fx4 (k : Nat) (n ln cl : Int) (nm : ByteArray) (len : Nat) (h4 : 4 ≤ k) (h8 : k ≤ 8) : fxB ⟨k, n, nm, len, ln, cl⟩ = (decide (len = 2) && (decide (n = 0) && decide (nm.size = 0))) := by
 unfold fxB xwant
 rw [if_neg (show ¬ k = 1 by omega), if_neg (show ¬ k = 2 by omega), if_neg (show ¬ k = 3 by omega), if_pos (show 4 ≤ k ∧ k ≤ 8 from ⟨h4, h8⟩)]
 generalize nm.size = s
 by_cases g1 : s = 0 <;> by_cases g2 : n = 0 <;> by_cases g3 : len = 2 <;> simp [g1, g2, g3]
theorem fx0 (k : Nat) (n ln cl : Int) (nm : ByteArray) (len : Nat) (h : k = 0 ∨ 8 < k) : fxB ⟨k, n, nm, len, ln, cl⟩ = false := by
 unfold fxB xwant
 rw [if_neg (show ¬ k = 1 by omega), if_neg (show ¬ k = 2 by omega), if_neg (show ¬ k = 3 by omega), if_neg (show ¬ (4 ≤ k ∧ k ≤ 8) by omega)]
 rfl
theorem tfitsx (w : World) (T : Xt) (v : Value) (hX : XV w v T) (hw : Wt9 w) : Calls Tryd.prog 58 #[v] w fun e w' => e = .returned (.bool (fxB (T []))) ∧ Below w.heap.size w w' := by
 obtain ⟨⟨a, cap, rfl, _⟩, hok⟩ := hX
 generalize T [] = l at *
 obtain ⟨k, n, nm, len, ln, cl⟩ := l
 obtain ⟨h8, hn1, hn2, hx, hlen47⟩ := hok
 have h8 : k < 256 := h8
 have hn1 : -9223372036854775808 ≤ n := hn1
 have hn2 : n ≤ 9223372036854775807 := hn2
 have hx : nm.size ≤ 140737488351232 := hx
 have hlen47 : len ≤ 140737488351232 := hlen47
 have HW := qa0 hw
 clear hw
 have e0 := tl_nil (x := nm)
 have hv := Vn.new w 25 #[.int .u8 (k : Int), .int .i64 n, .string nm, .slice a len cap, .int .i64 ln, .int .i64 cl]
 have c0 := hv.cell 0 _ rfl
 have c1 := hv.cell 1 _ rfl
 have c2 := hv.cell 2 _ rfl
 have c3 := hv.cell 3 _ rfl
 have c4 := hv.cell 4 _ rfl
 have c5 := hv.cell 5 _ rfl
 clear hv
 have HL : Hid (∀ (w' : World) (q : Nat), (q = if k = 2 then 1 else 3) → Calls Tryd.prog 65 #[.agg #[.int .u8 (k : Int), .int .i64 n, .string nm, .slice a len cap, .int .i64 ln, .int .i64 cl]] w' fun e w'' => e = .returned (.agg #[.int .u8 (q : Int), .string nm, .int .i64 n, .int .i64 0, .int .i64 0]) ∧ Below w'.heap.size w' w'') := fun w' q hq => tleaf w' k len cap q n ln cl nm a hq
 have HM : Hid (∀ (w' : World) (q : Nat), q < 256 → Below w.heap.size w w' → Calls Tryd.prog 64 #[.agg #[.int .u8 (q : Int), .string nm, .int .i64 n, .int .i64 0, .int .i64 0]] w' fun e w'' => e = .returned (.bool (mayB ⟨q, nm, n, 0, 0⟩)) ∧ Below w'.heap.size w' w'') := fun w' q hq hb => tmay w' q nm n 0 0 ⟨hq, hx, hn1, hn2⟩ (HW.out.later hb)
 obtain ⟨r, Hr⟩ : ∃ r, Hid (fxB ⟨k, n, nm, len, ln, cl⟩ = r) := ⟨_, rfl⟩
 rw [Hr.out]
 by_cases h12 : k = 1 ∨ k = 2
 ·by_cases hl : len = 0
  ·subst hl
   have HR : Hid (mayB ⟨if k = 2 then 1 else 3, nm, n, 0, 0⟩ = r) := by
    show _ = _
    rw [← Hr.out]
    rcases h12 with rfl | rfl
    ·rw [fx1]; rfl
    ·rw [fx2]; rfl
   rcases h12 with rfl | rfl
   ·have HR2 : Hid (mayB ⟨3, nm, n, 0, 0⟩ = r) := HR.out
    have HL2 := qa0 (fun w' => HL.out w' 3 rfl)
    have HM2 := qa0 (fun w' => HM.out w' 3 (by omega))
    rw [HR2.out] at HM2
    clear HL HM HR HR2 Hr
    go_enter Tryd.func58, Tryd.ntmps58
    go_wp2_with (first
     | (go_at_call 65; refine (HL2.out _).mono ?_; rintro e w1 ⟨rfl, hb1⟩; have HB1 := qa0 (jtwo (jlow _ _) hb1); clear hb1)
     | (go_at_call 64; refine (HM2.out _ HB1.out).mono ?_; rintro e w2 ⟨rfl, hb2⟩; have HB2 := qa0 (jtwo HB1.out hb2); clear hb2))
    go_ret
    exact ⟨rfl, HB2.out⟩
   ·have HR2 : Hid (mayB ⟨1, nm, n, 0, 0⟩ = r) := HR.out
    have HL2 := qa0 (fun w' => HL.out w' 1 rfl)
    have HM2 := qa0 (fun w' => HM.out w' 1 (by omega))
    rw [HR2.out] at HM2
    clear HL HM HR HR2 Hr
    go_enter Tryd.func58, Tryd.ntmps58
    go_wp2_with (first
     | (go_at_call 65; refine (HL2.out _).mono ?_; rintro e w1 ⟨rfl, hb1⟩; have HB1 := qa0 (jtwo (jlow _ _) hb1); clear hb1)
     | (go_at_call 64; refine (HM2.out _ HB1.out).mono ?_; rintro e w2 ⟨rfl, hb2⟩; have HB2 := qa0 (jtwo HB1.out hb2); clear hb2))
    go_ret
    exact ⟨rfl, HB2.out⟩
  ·obtain rfl : r = false := by
    rw [← Hr.out]
    unfold fxB xwant
    rcases h12 with rfl | rfl <;> simp [hl]
   have q3 : ((len : Int) == 0) = false := by simp; omega
   clear HL HM Hr
   rcases h12 with rfl | rfl
   ·go_enter Tryd.func58, Tryd.ntmps58
    go_wp2
    go_ret
    exact ⟨rfl, jlow _ _⟩
   ·go_enter Tryd.func58, Tryd.ntmps58
    go_wp2
    go_ret
    exact ⟨rfl, jlow _ _⟩
 clear HL HM
 have k1 : ((k : Int) == 1) = false := by simp; omega
 have k2 : ((k : Int) == 2) = false := by simp; omega
 by_cases hk3 : k = 3
 ·subst hk3
  by_cases hl : len = 1
  ·subst hl
   by_cases hn : n = 0
   ·subst hn
    obtain rfl : decide (nm.size = 0) = r := by
     rw [← Hr.out, fx3]
     simp only [decide_true, Bool.true_and]
    obtain ⟨b, Hb⟩ : ∃ b, Hid (decide (nm.size = 0) = b) := ⟨_, rfl⟩
    rw [Hb.out] at e0 ⊢
    clear Hr
    go_enter Tryd.func58, Tryd.ntmps58
    go_wp2
    go_ret
    exact ⟨rfl, jlow _ _⟩
   ·obtain rfl : r = false := by rw [← Hr.out, fx3]; simp [hn]
    have q4 : (n == 0) = false := by simpa using hn
    clear Hr
    go_enter Tryd.func58, Tryd.ntmps58
    go_wp2
    go_ret
    exact ⟨rfl, jlow _ _⟩
  ·obtain rfl : r = false := by rw [← Hr.out, fx3]; simp [hl]
   have q3 : ((len : Int) == 1) = false := by simp; omega
   clear Hr
   go_enter Tryd.func58, Tryd.ntmps58
   go_wp2
   go_ret
   exact ⟨rfl, jlow _ _⟩
 have k3 : ((k : Int) == 3) = false := by simp; omega
 by_cases h48 : 4 ≤ k ∧ k ≤ 8
 ·have hr : r = (decide (len = 2) && (decide (n = 0) && decide (nm.size = 0))) := by rw [← Hr.out, fx4 k n ln cl nm len h48.1 h48.2]
  clear Hr
  subst hr
  obtain ⟨b, Hb⟩ : ∃ b, Hid (decide (nm.size = 0) = b) := ⟨_, rfl⟩
  rw [Hb.out] at e0 ⊢
  obtain ⟨c, Hc⟩ : ∃ c, Hid (decide (n = 0) = c) := ⟨_, rfl⟩
  have qn : (n == 0) = c := by rw [← Hc.out]; by_cases g : n = 0 <;> simp [g]
  obtain ⟨d, Hd⟩ : ∃ d, Hid (decide (len = 2) = d) := ⟨_, rfl⟩
  have ql : ((len : Int) - 1 == 1) = d := by rw [← Hd.out]; by_cases g : len = 2 <;> simp [g]; omega
  rw [Hc.out, Hd.out]
  obtain ⟨u4, u5⟩ := h48
  obtain rfl | rfl | rfl | rfl | rfl : k = 4 ∨ k = 5 ∨ k = 6 ∨ k = 7 ∨ k = 8 := by omega
  all_goals
   clear k1 k2 k3 h12 hk3 u4 u5
   cases d <;> cases c
   all_goals
    go_enter Tryd.func58, Tryd.ntmps58
    go_wp2
    go_ret
    exact ⟨rfl, jlow _ _⟩
 ·obtain rfl : r = false := by rw [← Hr.out]; exact fx0 k n ln cl nm len (by omega)
  have k4 : ((k : Int) == 4) = false := by simp; omega
  have k5 : ((k : Int) == 5) = false := by simp; omega
  have k6 : ((k : Int) == 6) = false := by simp; omega
  have k7 : ((k : Int) == 7) = false := by simp; omega
  have k8 : ((k : Int) == 8) = false := by simp; omega
  clear Hr
  go_enter Tryd.func58, Tryd.ntmps58
  go_wp2
  go_ret
  exact ⟨rfl, jlow _ _⟩
end Go.Proofs.YtgmndjbicandfaaDoor
