/-
  Contracts of the program's tree: which shapes may be.
-/
import Derived.Test.YtemhodenkgngmaaDoorQuues00
import Derived.Test.YtemhodenkgngmaaDoorQuues08
import Derived.Laws.StructEq
set_option maxRecDepth 100000
set_option maxHeartbeats 16000000
namespace Go.Proofs.YtemhodenkgngmaaDoor
open Go.RowKit
theorem sizeS : (Tryd.prog.info? 58).map (·.size) = some 7 := by kernel_rfl
/-- Are the rows' lengths right? -/
def rlB (rl : Nat → Nat) : Nat → Bool
 | 0 => true
 | n + 1 => rlB rl n && decide (1 ≤ rl n ∧ rl n ≤ 64)
theorem qdy {rl : Nat → Nat} {n i : Nat} (h : rlB rl (i + 1) = false) (hi : i < n) : rlB rl n = false := by
 obtain ⟨j, rfl⟩ : ∃ j, n = i + 1 + j := ⟨n - (i + 1), by omega⟩
 clear hi
 induction j with
 | zero => exact h
 | succ j ih => show (rlB rl (i + 1 + j) && _) = false; rw [ih]; rfl
/-- Has a shape what its kind asks for? -/
def fsB (l : Ls) : Bool := skk l.k && ((!decide (l.nm.size = 0)) == decide (l.k = 1)) && (decide (0 < l.nr) == skr l.k) && decide (l.na = ska l.k) && decide (l.np = skp l.k) && (!decide (l.k = 1) || isN l.nm) && decide (l.nr ≤ 64)
theorem qcn (l : Ls) : fsB l = swant l := by
 unfold fsB swant skk skr ska skp
 obtain ⟨k, nm, na, args, np, nr, rl, rows, ln, cl⟩ := l
 show (decide (1 ≤ k ∧ k ≤ 8) && ((!decide (nm.size = 0)) == decide (k = 1)) && (decide (0 < nr) == decide (k = 8)) && decide (na = if k = 4 ∨ k = 5 then 3 else if k = 2 ∨ k = 3 then 2 else 0) && decide (np = if k = 6 ∨ k = 7 then 2 else 0) && (!decide (k = 1) || isN nm) && decide (nr ≤ 64)) = (if k = 1 then isN nm && (decide (na = 0) && (decide (np = 0) && decide (nr = 0))) else decide (nm.size = 0) && (if k = 2 ∨ k = 3 then decide (na = 2) && (decide (np = 0) && decide (nr = 0)) else if k = 4 ∨ k = 5 then decide (na = 3) && (decide (np = 0) && decide (nr = 0)) else if k = 6 ∨ k = 7 then decide (na = 0) && (decide (np = 2) && decide (nr = 0)) else if k = 8 then decide (na = 0) && (decide (np = 0) && (decide (1 ≤ nr) && decide (nr ≤ 64))) else false))
 have hN : isN nm = true → nm.size ≠ 0 := fun h => by have := (qa8.1 h).pos; omega
 generalize isN nm = b at *
 generalize nm.size = s at *
 by_cases h1 : k = 1
 ·subst h1
  cases b with
  | true =>
   have := hN rfl
   by_cases g1 : na = 0 <;> by_cases g2 : np = 0 <;> by_cases g3 : nr = 0 <;> simp [g1, g2, g3, this]
  | false => simp
 by_cases h23 : k = 2 ∨ k = 3
 ·have a1 : 1 ≤ k ∧ k ≤ 8 := by omega
  have a2 : ¬ k = 8 := by omega
  have a3 : ¬ (k = 4 ∨ k = 5) := by omega
  have a4 : ¬ (k = 6 ∨ k = 7) := by omega
  by_cases g0 : s = 0 <;> by_cases g1 : na = 2 <;> by_cases g2 : np = 0 <;> by_cases g3 : nr = 0 <;> simp [h1, h23, a1, a2, a3, a4, g0, g1, g2, g3] <;> omega
 by_cases h45 : k = 4 ∨ k = 5
 ·have a1 : 1 ≤ k ∧ k ≤ 8 := by omega
  have a2 : ¬ k = 8 := by omega
  have a4 : ¬ (k = 6 ∨ k = 7) := by omega
  by_cases g0 : s = 0 <;> by_cases g1 : na = 3 <;> by_cases g2 : np = 0 <;> by_cases g3 : nr = 0 <;> simp [h1, h23, h45, a1, a2, a4, g0, g1, g2, g3] <;> omega
 by_cases h67 : k = 6 ∨ k = 7
 ·have a1 : 1 ≤ k ∧ k ≤ 8 := by omega
  have a2 : ¬ k = 8 := by omega
  by_cases g0 : s = 0 <;> by_cases g1 : na = 0 <;> by_cases g2 : np = 2 <;> by_cases g3 : nr = 0 <;> simp [h1, h23, h45, h67, a1, a2, g0, g1, g2, g3] <;> omega
 by_cases h8 : k = 8
 ·subst h8
  by_cases g0 : s = 0 <;> by_cases g1 : na = 0 <;> by_cases g2 : np = 0 <;> by_cases g3 : nr = 0 <;> simp [g0, g1, g2, g3]
  all_goals by_cases g4 : nr ≤ 64 <;> simp [g4] <;> omega
 ·have a1 : ¬ (1 ≤ k ∧ k ≤ 8) := by omega
  simp [h1, h23, h45, h67, h8, a1]
theorem qfb : ∀ (op : BinOp) (x y : Operand) (xs ys : Array Value) (w : World), (eqGuard op 149 x y (.agg xs) (.agg ys)).run Tryd.prog w = .ok () w := fun op x y xs ys w => run_eqGuard_agg w op _ x y xs ys (by kernel_rfl)
theorem neq_sf : ∀ (a1 a2 b1 b2 : Bool) (a3 a4 b3 b4 : Int) (w : World), (binOp .neq 149 (.agg #[.bool a1, .bool a2, .int .i64 a3, .int .i64 a4]) (.agg #[.bool b1, .bool b2, .int .i64 b3, .int .i64 b4])).run Tryd.prog w = .ok (.bool (!((a1 == b1) && ((a2 == b2) && ((a3 == b3) && (a4 == b4)))))) w := by
 intro a1 a2 b1 b2 a3 a4 b3 b4 w
 rw [run_neq_struct, run_equalIn_struct w 9999 _ _ _ (by kernel_rfl) (by kernel_rfl)]
 by_cases h1 : a1 = b1 <;> by_cases h2 : a2 = b2 <;> by_cases h3 : a3 = b3 <;> by_cases h4 : a4 = b4 <;> simp [Op.eqFields, go_sem, h1, h2, h3, h4]
theorem tfitss (w : World) (S : St) (v : Value) (hX : SV w v S) (hw : Wt9 w) : Calls Tryd.prog 70 #[v] w fun e w' => e = .returned (.bool (fsB (S []) && rlB (S []).rl (S []).nr)) ∧ Below w.heap.size w w' := by
  obtain ⟨⟨aa, pa, ra, ca, cp, cr, rfl, _, hr, _⟩, hok⟩ := hX
  have HW := qa0 hw
  have HXr := qa0 hr
  clear hw hr
  generalize S [] = l at *
  obtain ⟨k, nm, na, args, np, nr, rl, rows, ln, cl⟩ := l
  have h8 : k < 256 := hok.k8
  have hx : nm.size ≤ 140737488351232 := hok.nm47
  have hna : na ≤ 140737488351232 := hok.na47
  have hnp : np ≤ 140737488351232 := hok.np47
  have hnr : nr ≤ 140737488351232 := hok.nr47
  have HRl := qa0 hok.rl47
  clear hok
  have HXr : Hid (XR w ra nr rl rows) := HXr
  have HA : Hid (∀ w' : World, Calls Tryd.prog 90 #[.int .u8 (k : Int)] w' fun e w'' => e = .returned (.tuple #[.agg #[.bool (decide (k = 1)), .bool (skr k), .int .i64 (ska k : Nat), .int .i64 (skp k : Nat)], .bool (skk k)]) ∧ Below w'.heap.size w' w'') := fun w' => taskedS w' k h8
  have HN : Hid (∀ w' : World, Below w.heap.size w w' → Calls Tryd.prog 68 #[.string nm] w' fun e w'' => e = .returned (.bool (isN nm)) ∧ Below w'.heap.size w' w'') := fun w' hb => qcw w' nm hx (HW.out.later hb)
  have HF : Hid (fsB ⟨k, nm, na, args, np, nr, rl, rows, ln, cl⟩ = (skk k && ((!decide (nm.size = 0)) == decide (k = 1)) && (decide (0 < nr) == skr k) && decide (na = ska k) && decide (np = skp k) && (!decide (k = 1) || isN nm) && decide (nr ≤ 64))) := rfl
  show Calls _ _ _ _ fun e w' => e = .returned (.bool (fsB ⟨k, nm, na, args, np, nr, rl, rows, ln, cl⟩ && rlB rl nr)) ∧ _
  rw [HF.out]
  clear HF
  have e0 := qcb (x := nm)
  obtain ⟨b0, Hb0⟩ : ∃ b0, Hid (decide (nm.size = 0) = b0) := ⟨_, rfl⟩
  rw [Hb0.out] at e0 ⊢
  generalize decide (k = 1) = a1 at *
  generalize skr k = a2 at *
  generalize ska k = a3 at *
  generalize skp k = a4 at *
  generalize skk k = kn at *
  generalize isN nm = nb at *
  have HVs := qa0 (Vn.new w 58 #[.int .u8 (k : Int), .string nm, .slice aa na ca, .slice pa np cp, .slice ra nr cr, .int .i64 ln, .int .i64 cl])
  have c0 := HVs.out.cell 0 _ rfl
  have c1 := HVs.out.cell 1 _ rfl
  have c2 := HVs.out.cell 2 _ rfl
  have c3 := HVs.out.cell 3 _ rfl
  have c4 := HVs.out.cell 4 _ rfl
  obtain ⟨pr, Hpr⟩ : ∃ pr, Hid (decide (0 < nr) = pr) := ⟨_, rfl⟩
  have qr : decide (0 < nr) = pr := Hpr.out
  have qr2 : decide ((0 : Int) < (nr : Int)) = pr := by rw [← Hpr.out]; simp
  rw [Hpr.out]
  have hne := neq_sf
  have hng := qfb
  obtain ⟨eq, Heq⟩ : ∃ eq, Hid (((a1 == !b0) && ((a2 == pr) && (((a3 : Int) == (na : Int)) && ((a4 : Int) == (np : Int))))) = eq) := ⟨_, rfl⟩
  have heq := Heq.out
  have HG : Hid ((kn && ((!b0) == a1) && (pr == a2) && decide (na = a3) && decide (np = a4)) = (kn && eq)) := by
    show _ = _
    rw [← Heq.out, Bool.and_assoc, Bool.and_assoc, Bool.and_assoc]
    congr 1
    have e1 : ((!b0) == a1) = (a1 == !b0) := by cases b0 <;> cases a1 <;> rfl
    have e2 : (pr == a2) = (a2 == pr) := by cases pr <;> cases a2 <;> rfl
    have e3 : decide (na = a3) = ((a3 : Int) == (na : Int)) := by by_cases h : na = a3 <;> simp [h]; omega
    have e4 : decide (np = a4) = ((a4 : Int) == (np : Int)) := by by_cases h : np = a4 <;> simp [h]; omega
    rw [e1, e2, e3, e4]
  rw [HG.out]
  clear HG Heq
  have q64 : decide ((64 : Int) < (nr : Int)) = decide (64 < nr) := by by_cases h : 64 < nr <;> simp [h] <;> omega
  cases kn with
  | false =>
    show Calls _ _ _ _ fun e w' => e = .returned (.bool false) ∧ _
    have M1 : True := trivial
    go_enter Tryd.func70, Tryd.ntmps70
    go_wp2_with (first
      | (go_at_call 90; refine (HA.out _).mono ?_; rintro e w1 ⟨rfl, hb1⟩; have HB1 := qa0 (jtwo (jlow _ _) hb1); have HV1 := qa0 (HVs.out.later hb1); clear hb1)
      | (clear M1; refine qa1 rfl 149 _ _ rfl w1.heap.size _ #[.bool a1, .bool a2, .int .i64 (a3 : Int), .int .i64 (a4 : Int)] rfl rfl (Vn.new w1 _ _) sizeSF rfl (all4 rfl rfl rfl rfl) ?_; intro w2 HVa hg2; have hb2 : Below w1.heap.size w1 w2 := (jlow _ _).trans (jbelow hg2.out (jlow _ _).size (fun g e => by cases e; exact Nat.le_refl _)); have HB2 := qa0 (jtwo HB1.out hb2); have HV2 := qa0 (HV1.out.later hb2); clear hb2 hg2; have f0 := HVa.out.cell 0 _ rfl; have f1 := HVa.out.cell 1 _ rfl; have f2 := HVa.out.cell 2 _ rfl; have f3 := HVa.out.cell 3 _ rfl; have c0 := HV2.out.cell 0 _ rfl; have c1 := HV2.out.cell 1 _ rfl; have c2 := HV2.out.cell 2 _ rfl; have c3 := HV2.out.cell 3 _ rfl; have c4 := HV2.out.cell 4 _ rfl; have HB3 := qa0 (jtwo HB2.out (jlow w2 (.cells #[.bool (!b0), .bool pr, .int .i64 (na : Int), .int .i64 (np : Int)] 149))); have HVa3 := qa0 (HVa.out.later (jlow w2 (.cells #[.bool (!b0), .bool pr, .int .i64 (na : Int), .int .i64 (np : Int)] 149))); have HV3 := qa0 (HV2.out.later (jlow w2 (.cells #[.bool (!b0), .bool pr, .int .i64 (na : Int), .int .i64 (np : Int)] 149))); have f0 := HVa3.out.cell 0 _ rfl; have f1 := HVa3.out.cell 1 _ rfl; have f2 := HVa3.out.cell 2 _ rfl; have f3 := HVa3.out.cell 3 _ rfl; have k0 := HV3.out.cell 0 _ rfl; have k1 := HV3.out.cell 1 _ rfl; have k2 := HV3.out.cell 2 _ rfl; have k3 := HV3.out.cell 3 _ rfl; have k4 := HV3.out.cell 4 _ rfl))
    go_ret
    exact ⟨rfl, HB3.out⟩
  | true =>
   cases eq with
   | false =>
    show Calls _ _ _ _ fun e w' => e = .returned (.bool false) ∧ _
    have M1 : True := trivial
    go_enter Tryd.func70, Tryd.ntmps70
    go_wp2_with (first
      | (go_at_call 90; refine (HA.out _).mono ?_; rintro e w1 ⟨rfl, hb1⟩; have HB1 := qa0 (jtwo (jlow _ _) hb1); have HV1 := qa0 (HVs.out.later hb1); clear hb1)
      | (clear M1; refine qa1 rfl 149 _ _ rfl w1.heap.size _ #[.bool a1, .bool a2, .int .i64 (a3 : Int), .int .i64 (a4 : Int)] rfl rfl (Vn.new w1 _ _) sizeSF rfl (all4 rfl rfl rfl rfl) ?_; intro w2 HVa hg2; have hb2 : Below w1.heap.size w1 w2 := (jlow _ _).trans (jbelow hg2.out (jlow _ _).size (fun g e => by cases e; exact Nat.le_refl _)); have HB2 := qa0 (jtwo HB1.out hb2); have HV2 := qa0 (HV1.out.later hb2); clear hb2 hg2; have f0 := HVa.out.cell 0 _ rfl; have f1 := HVa.out.cell 1 _ rfl; have f2 := HVa.out.cell 2 _ rfl; have f3 := HVa.out.cell 3 _ rfl; have c0 := HV2.out.cell 0 _ rfl; have c1 := HV2.out.cell 1 _ rfl; have c2 := HV2.out.cell 2 _ rfl; have c3 := HV2.out.cell 3 _ rfl; have c4 := HV2.out.cell 4 _ rfl; have HB3 := qa0 (jtwo HB2.out (jlow w2 (.cells #[.bool (!b0), .bool pr, .int .i64 (na : Int), .int .i64 (np : Int)] 149))); have HVa3 := qa0 (HVa.out.later (jlow w2 (.cells #[.bool (!b0), .bool pr, .int .i64 (na : Int), .int .i64 (np : Int)] 149))); have HV3 := qa0 (HV2.out.later (jlow w2 (.cells #[.bool (!b0), .bool pr, .int .i64 (na : Int), .int .i64 (np : Int)] 149))); have f0 := HVa3.out.cell 0 _ rfl; have f1 := HVa3.out.cell 1 _ rfl; have f2 := HVa3.out.cell 2 _ rfl; have f3 := HVa3.out.cell 3 _ rfl; have k0 := HV3.out.cell 0 _ rfl; have k1 := HV3.out.cell 1 _ rfl; have k2 := HV3.out.cell 2 _ rfl; have k3 := HV3.out.cell 3 _ rfl; have k4 := HV3.out.cell 4 _ rfl))
    go_ret
    exact ⟨rfl, HB3.out⟩
   | true =>
    have hne2 : ∀ w : World, (binOp .neq 149 (.agg #[.bool a1, .bool a2, .int .i64 (a3 : Int), .int .i64 (a4 : Int)]) (.agg #[.bool (!b0), .bool pr, .int .i64 (na : Int), .int .i64 (np : Int)])).run Tryd.prog w = .ok (.bool false) w := fun w => by rw [neq_sf, heq]; rfl
    clear hne heq
    by_cases h64 : 64 < nr
    · have HD : Hid (decide (nr ≤ 64) = false) := decide_eq_false (by omega)
      rw [HD.out]
      have q65 : decide (64 < nr) = true := decide_eq_true h64
      rw [q65] at q64
      clear HD
      cases a1 with
      | true =>
        cases nb with
        | true =>
          show Calls _ _ _ _ fun e w' => e = .returned (.bool false) ∧ _
          have M1 : True := trivial
          go_enter Tryd.func70, Tryd.ntmps70
          go_wp2_with (first
            | (go_at_call 90; refine (HA.out _).mono ?_; rintro e w1 ⟨rfl, hb1⟩; have HB1 := qa0 (jtwo (jlow _ _) hb1); have HV1 := qa0 (HVs.out.later hb1); clear hb1)
            | (clear M1; refine qa1 rfl 149 _ _ rfl w1.heap.size _ #[.bool true, .bool a2, .int .i64 (a3 : Int), .int .i64 (a4 : Int)] rfl rfl (Vn.new w1 _ _) sizeSF rfl (all4 rfl rfl rfl rfl) ?_; intro w2 HVa hg2; have hb2 : Below w1.heap.size w1 w2 := (jlow _ _).trans (jbelow hg2.out (jlow _ _).size (fun g e => by cases e; exact Nat.le_refl _)); have HB2 := qa0 (jtwo HB1.out hb2); have HV2 := qa0 (HV1.out.later hb2); clear hb2 hg2; have f0 := HVa.out.cell 0 _ rfl; have f1 := HVa.out.cell 1 _ rfl; have f2 := HVa.out.cell 2 _ rfl; have f3 := HVa.out.cell 3 _ rfl; have c0 := HV2.out.cell 0 _ rfl; have c1 := HV2.out.cell 1 _ rfl; have c2 := HV2.out.cell 2 _ rfl; have c3 := HV2.out.cell 3 _ rfl; have c4 := HV2.out.cell 4 _ rfl; have HB3 := qa0 (jtwo HB2.out (jlow w2 (.cells #[.bool (!b0), .bool pr, .int .i64 (na : Int), .int .i64 (np : Int)] 149))); have HVa3 := qa0 (HVa.out.later (jlow w2 (.cells #[.bool (!b0), .bool pr, .int .i64 (na : Int), .int .i64 (np : Int)] 149))); have HV3 := qa0 (HV2.out.later (jlow w2 (.cells #[.bool (!b0), .bool pr, .int .i64 (na : Int), .int .i64 (np : Int)] 149))); have f0 := HVa3.out.cell 0 _ rfl; have f1 := HVa3.out.cell 1 _ rfl; have f2 := HVa3.out.cell 2 _ rfl; have f3 := HVa3.out.cell 3 _ rfl; have k0 := HV3.out.cell 0 _ rfl; have k1 := HV3.out.cell 1 _ rfl; have k2 := HV3.out.cell 2 _ rfl; have k3 := HV3.out.cell 3 _ rfl; have k4 := HV3.out.cell 4 _ rfl)
            | (go_at_call 68; refine (HN.out _ HB3.out).mono ?_; rintro e w4 ⟨rfl, hb4⟩; have HB4 := qa0 (jtwo HB3.out hb4); have HV4 := qa0 (HV3.out.later hb4); have n4 := HV4.out.cell 4 _ rfl; clear hb4))
          go_ret
          exact ⟨rfl, HB4.out⟩
        | false =>
          show Calls _ _ _ _ fun e w' => e = .returned (.bool false) ∧ _
          have M1 : True := trivial
          go_enter Tryd.func70, Tryd.ntmps70
          go_wp2_with (first
            | (go_at_call 90; refine (HA.out _).mono ?_; rintro e w1 ⟨rfl, hb1⟩; have HB1 := qa0 (jtwo (jlow _ _) hb1); have HV1 := qa0 (HVs.out.later hb1); clear hb1)
            | (clear M1; refine qa1 rfl 149 _ _ rfl w1.heap.size _ #[.bool true, .bool a2, .int .i64 (a3 : Int), .int .i64 (a4 : Int)] rfl rfl (Vn.new w1 _ _) sizeSF rfl (all4 rfl rfl rfl rfl) ?_; intro w2 HVa hg2; have hb2 : Below w1.heap.size w1 w2 := (jlow _ _).trans (jbelow hg2.out (jlow _ _).size (fun g e => by cases e; exact Nat.le_refl _)); have HB2 := qa0 (jtwo HB1.out hb2); have HV2 := qa0 (HV1.out.later hb2); clear hb2 hg2; have f0 := HVa.out.cell 0 _ rfl; have f1 := HVa.out.cell 1 _ rfl; have f2 := HVa.out.cell 2 _ rfl; have f3 := HVa.out.cell 3 _ rfl; have c0 := HV2.out.cell 0 _ rfl; have c1 := HV2.out.cell 1 _ rfl; have c2 := HV2.out.cell 2 _ rfl; have c3 := HV2.out.cell 3 _ rfl; have c4 := HV2.out.cell 4 _ rfl; have HB3 := qa0 (jtwo HB2.out (jlow w2 (.cells #[.bool (!b0), .bool pr, .int .i64 (na : Int), .int .i64 (np : Int)] 149))); have HVa3 := qa0 (HVa.out.later (jlow w2 (.cells #[.bool (!b0), .bool pr, .int .i64 (na : Int), .int .i64 (np : Int)] 149))); have HV3 := qa0 (HV2.out.later (jlow w2 (.cells #[.bool (!b0), .bool pr, .int .i64 (na : Int), .int .i64 (np : Int)] 149))); have f0 := HVa3.out.cell 0 _ rfl; have f1 := HVa3.out.cell 1 _ rfl; have f2 := HVa3.out.cell 2 _ rfl; have f3 := HVa3.out.cell 3 _ rfl; have k0 := HV3.out.cell 0 _ rfl; have k1 := HV3.out.cell 1 _ rfl; have k2 := HV3.out.cell 2 _ rfl; have k3 := HV3.out.cell 3 _ rfl; have k4 := HV3.out.cell 4 _ rfl)
            | (go_at_call 68; refine (HN.out _ HB3.out).mono ?_; rintro e w4 ⟨rfl, hb4⟩; have HB4 := qa0 (jtwo HB3.out hb4); have HV4 := qa0 (HV3.out.later hb4); have n4 := HV4.out.cell 4 _ rfl; clear hb4))
          go_ret
          exact ⟨rfl, HB4.out⟩
      | false =>
        show Calls _ _ _ _ fun e w' => e = .returned (.bool false) ∧ _
        have M1 : True := trivial
        go_enter Tryd.func70, Tryd.ntmps70
        go_wp2_with (first
          | (go_at_call 90; refine (HA.out _).mono ?_; rintro e w1 ⟨rfl, hb1⟩; have HB1 := qa0 (jtwo (jlow _ _) hb1); have HV1 := qa0 (HVs.out.later hb1); clear hb1)
          | (clear M1; refine qa1 rfl 149 _ _ rfl w1.heap.size _ #[.bool false, .bool a2, .int .i64 (a3 : Int), .int .i64 (a4 : Int)] rfl rfl (Vn.new w1 _ _) sizeSF rfl (all4 rfl rfl rfl rfl) ?_; intro w2 HVa hg2; have hb2 : Below w1.heap.size w1 w2 := (jlow _ _).trans (jbelow hg2.out (jlow _ _).size (fun g e => by cases e; exact Nat.le_refl _)); have HB2 := qa0 (jtwo HB1.out hb2); have HV2 := qa0 (HV1.out.later hb2); clear hb2 hg2; have f0 := HVa.out.cell 0 _ rfl; have f1 := HVa.out.cell 1 _ rfl; have f2 := HVa.out.cell 2 _ rfl; have f3 := HVa.out.cell 3 _ rfl; have c0 := HV2.out.cell 0 _ rfl; have c1 := HV2.out.cell 1 _ rfl; have c2 := HV2.out.cell 2 _ rfl; have c3 := HV2.out.cell 3 _ rfl; have c4 := HV2.out.cell 4 _ rfl; have HB3 := qa0 (jtwo HB2.out (jlow w2 (.cells #[.bool (!b0), .bool pr, .int .i64 (na : Int), .int .i64 (np : Int)] 149))); have HVa3 := qa0 (HVa.out.later (jlow w2 (.cells #[.bool (!b0), .bool pr, .int .i64 (na : Int), .int .i64 (np : Int)] 149))); have HV3 := qa0 (HV2.out.later (jlow w2 (.cells #[.bool (!b0), .bool pr, .int .i64 (na : Int), .int .i64 (np : Int)] 149))); have f0 := HVa3.out.cell 0 _ rfl; have f1 := HVa3.out.cell 1 _ rfl; have f2 := HVa3.out.cell 2 _ rfl; have f3 := HVa3.out.cell 3 _ rfl; have k0 := HV3.out.cell 0 _ rfl; have k1 := HV3.out.cell 1 _ rfl; have k2 := HV3.out.cell 2 _ rfl; have k3 := HV3.out.cell 3 _ rfl; have k4 := HV3.out.cell 4 _ rfl))
        go_ret
        exact ⟨rfl, HB3.out⟩
    · have HD : Hid (decide (nr ≤ 64) = true) := decide_eq_true (by omega)
      rw [HD.out]
      have q65 : decide (64 < nr) = false := decide_eq_false h64
      rw [q65] at q64
      clear HD
      cases a1 with
      | true =>
        cases nb with
        | true =>
          show Calls _ _ _ _ fun e w' => e = .returned (.bool (true && rlB rl nr)) ∧ _
          have M1 : True := trivial
          go_enter Tryd.func70, Tryd.ntmps70
          go_wp2_with (first
            | (go_at_call 90; refine (HA.out _).mono ?_; rintro e w1 ⟨rfl, hb1⟩; have HB1 := qa0 (jtwo (jlow _ _) hb1); have HV1 := qa0 (HVs.out.later hb1); clear hb1)
            | (clear M1; refine qa1 rfl 149 _ _ rfl w1.heap.size _ #[.bool true, .bool a2, .int .i64 (a3 : Int), .int .i64 (a4 : Int)] rfl rfl (Vn.new w1 _ _) sizeSF rfl (all4 rfl rfl rfl rfl) ?_; intro w2 HVa hg2; have hb2 : Below w1.heap.size w1 w2 := (jlow _ _).trans (jbelow hg2.out (jlow _ _).size (fun g e => by cases e; exact Nat.le_refl _)); have HB2 := qa0 (jtwo HB1.out hb2); have HV2 := qa0 (HV1.out.later hb2); clear hb2 hg2; have f0 := HVa.out.cell 0 _ rfl; have f1 := HVa.out.cell 1 _ rfl; have f2 := HVa.out.cell 2 _ rfl; have f3 := HVa.out.cell 3 _ rfl; have c0 := HV2.out.cell 0 _ rfl; have c1 := HV2.out.cell 1 _ rfl; have c2 := HV2.out.cell 2 _ rfl; have c3 := HV2.out.cell 3 _ rfl; have c4 := HV2.out.cell 4 _ rfl; have HB3 := qa0 (jtwo HB2.out (jlow w2 (.cells #[.bool (!b0), .bool pr, .int .i64 (na : Int), .int .i64 (np : Int)] 149))); have HVa3 := qa0 (HVa.out.later (jlow w2 (.cells #[.bool (!b0), .bool pr, .int .i64 (na : Int), .int .i64 (np : Int)] 149))); have HV3 := qa0 (HV2.out.later (jlow w2 (.cells #[.bool (!b0), .bool pr, .int .i64 (na : Int), .int .i64 (np : Int)] 149))); have f0 := HVa3.out.cell 0 _ rfl; have f1 := HVa3.out.cell 1 _ rfl; have f2 := HVa3.out.cell 2 _ rfl; have f3 := HVa3.out.cell 3 _ rfl; have k0 := HV3.out.cell 0 _ rfl; have k1 := HV3.out.cell 1 _ rfl; have k2 := HV3.out.cell 2 _ rfl; have k3 := HV3.out.cell 3 _ rfl; have k4 := HV3.out.cell 4 _ rfl)
            | (go_at_call 68; refine (HN.out _ HB3.out).mono ?_; rintro e w4 ⟨rfl, hb4⟩; have HB4 := qa0 (jtwo HB3.out hb4); have HV4 := qa0 (HV3.out.later hb4); have n4 := HV4.out.cell 4 _ rfl; clear hb4))
          go_loop [54] (fun vi => ∃ i : Nat, i ≤ nr ∧ vi = .int .i64 (i : Int) ∧ Hid (rlB rl i = true)) (fun vi => nr - (intOf vi).toNat)
          case atStart => exact ⟨0, by omega, rfl, rfl⟩
          case round =>
            obtain ⟨i, hi, rfl, HR⟩ := hrel
            by_cases hlt : i < nr
            · have p0 : (0 : Int) ≤ (i : Int) := by omega
              have p1 : (i : Int) < (nr : Int) := by omega
              obtain ⟨b, o, a', c, rfl, hc, hxl⟩ := HXr.out i hlt
              have hcc := cell_kept hc HB4.out
              have HR2 : Hid (rlB rl (i + 1) = decide (1 ≤ rl i ∧ rl i ≤ 64)) := by show (rlB rl i && _) = _; rw [HR.out]; rfl
              have HRf : Hid (rlB rl (i + 1) = false → rlB rl nr = false) := fun h => qdy h hlt
              have hrl := HRl.out i hlt
              have hrl : rl i ≤ 140737488351232 := hrl
              generalize rl i = z at *
              clear hc hxl
              by_cases hz : z = 0
              · subst hz
                have HF9 : Hid (rlB rl nr = false) := HRf.out (by rw [HR2.out]; rfl)
                clear HRf HR2
                go_wp2
                go_ret
                exact ⟨by rw [HF9.out]; rfl, HB4.out⟩
              · have qz : ((z : Int) == 0) = false := by simp; omega
                by_cases hz2 : 64 < z
                · have qz2 : decide ((64 : Int) < (z : Int)) = true := decide_eq_true (by omega)
                  have qz3 : decide (64 < z) = true := decide_eq_true hz2
                  have HF9 : Hid (rlB rl nr = false) := HRf.out (by rw [HR2.out]; exact decide_eq_false (by omega))
                  clear HRf HR2
                  go_wp2
                  go_ret
                  exact ⟨by rw [HF9.out]; rfl, HB4.out⟩
                · have qz2 : decide ((64 : Int) < (z : Int)) = false := decide_eq_false (by omega)
                  have qz3 : decide (64 < z) = false := decide_eq_false hz2
                  have HR3 : Hid (rlB rl (i + 1) = true) := by show _ = _; rw [HR2.out]; exact decide_eq_true (by omega)
                  clear HRf HR2
                  go_wp2
                  exact ⟨⟨i + 1, by omega, by go_num, HR3⟩, by simp [intOf]; omega⟩
            · obtain rfl : i = nr := by omega
              go_wp2
              go_ret
              exact ⟨by rw [HR.out]; rfl, HB4.out⟩
        | false =>
          show Calls _ _ _ _ fun e w' => e = .returned (.bool false) ∧ _
          have M1 : True := trivial
          go_enter Tryd.func70, Tryd.ntmps70
          go_wp2_with (first
            | (go_at_call 90; refine (HA.out _).mono ?_; rintro e w1 ⟨rfl, hb1⟩; have HB1 := qa0 (jtwo (jlow _ _) hb1); have HV1 := qa0 (HVs.out.later hb1); clear hb1)
            | (clear M1; refine qa1 rfl 149 _ _ rfl w1.heap.size _ #[.bool true, .bool a2, .int .i64 (a3 : Int), .int .i64 (a4 : Int)] rfl rfl (Vn.new w1 _ _) sizeSF rfl (all4 rfl rfl rfl rfl) ?_; intro w2 HVa hg2; have hb2 : Below w1.heap.size w1 w2 := (jlow _ _).trans (jbelow hg2.out (jlow _ _).size (fun g e => by cases e; exact Nat.le_refl _)); have HB2 := qa0 (jtwo HB1.out hb2); have HV2 := qa0 (HV1.out.later hb2); clear hb2 hg2; have f0 := HVa.out.cell 0 _ rfl; have f1 := HVa.out.cell 1 _ rfl; have f2 := HVa.out.cell 2 _ rfl; have f3 := HVa.out.cell 3 _ rfl; have c0 := HV2.out.cell 0 _ rfl; have c1 := HV2.out.cell 1 _ rfl; have c2 := HV2.out.cell 2 _ rfl; have c3 := HV2.out.cell 3 _ rfl; have c4 := HV2.out.cell 4 _ rfl; have HB3 := qa0 (jtwo HB2.out (jlow w2 (.cells #[.bool (!b0), .bool pr, .int .i64 (na : Int), .int .i64 (np : Int)] 149))); have HVa3 := qa0 (HVa.out.later (jlow w2 (.cells #[.bool (!b0), .bool pr, .int .i64 (na : Int), .int .i64 (np : Int)] 149))); have HV3 := qa0 (HV2.out.later (jlow w2 (.cells #[.bool (!b0), .bool pr, .int .i64 (na : Int), .int .i64 (np : Int)] 149))); have f0 := HVa3.out.cell 0 _ rfl; have f1 := HVa3.out.cell 1 _ rfl; have f2 := HVa3.out.cell 2 _ rfl; have f3 := HVa3.out.cell 3 _ rfl; have k0 := HV3.out.cell 0 _ rfl; have k1 := HV3.out.cell 1 _ rfl; have k2 := HV3.out.cell 2 _ rfl; have k3 := HV3.out.cell 3 _ rfl; have k4 := HV3.out.cell 4 _ rfl)
            | (go_at_call 68; refine (HN.out _ HB3.out).mono ?_; rintro e w4 ⟨rfl, hb4⟩; have HB4 := qa0 (jtwo HB3.out hb4); have HV4 := qa0 (HV3.out.later hb4); have n4 := HV4.out.cell 4 _ rfl; clear hb4))
          go_ret
          exact ⟨rfl, HB4.out⟩
      | false =>
        show Calls _ _ _ _ fun e w' => e = .returned (.bool (true && rlB rl nr)) ∧ _
        have M1 : True := trivial
        go_enter Tryd.func70, Tryd.ntmps70
        go_wp2_with (first
          | (go_at_call 90; refine (HA.out _).mono ?_; rintro e w1 ⟨rfl, hb1⟩; have HB1 := qa0 (jtwo (jlow _ _) hb1); have HV1 := qa0 (HVs.out.later hb1); clear hb1)
          | (clear M1; refine qa1 rfl 149 _ _ rfl w1.heap.size _ #[.bool false, .bool a2, .int .i64 (a3 : Int), .int .i64 (a4 : Int)] rfl rfl (Vn.new w1 _ _) sizeSF rfl (all4 rfl rfl rfl rfl) ?_; intro w2 HVa hg2; have hb2 : Below w1.heap.size w1 w2 := (jlow _ _).trans (jbelow hg2.out (jlow _ _).size (fun g e => by cases e; exact Nat.le_refl _)); have HB2 := qa0 (jtwo HB1.out hb2); have HV2 := qa0 (HV1.out.later hb2); clear hb2 hg2; have f0 := HVa.out.cell 0 _ rfl; have f1 := HVa.out.cell 1 _ rfl; have f2 := HVa.out.cell 2 _ rfl; have f3 := HVa.out.cell 3 _ rfl; have c0 := HV2.out.cell 0 _ rfl; have c1 := HV2.out.cell 1 _ rfl; have c2 := HV2.out.cell 2 _ rfl; have c3 := HV2.out.cell 3 _ rfl; have c4 := HV2.out.cell 4 _ rfl; have HB3 := qa0 (jtwo HB2.out (jlow w2 (.cells #[.bool (!b0), .bool pr, .int .i64 (na : Int), .int .i64 (np : Int)] 149))); have HVa3 := qa0 (HVa.out.later (jlow w2 (.cells #[.bool (!b0), .bool pr, .int .i64 (na : Int), .int .i64 (np : Int)] 149))); have HV3 := qa0 (HV2.out.later (jlow w2 (.cells #[.bool (!b0), .bool pr, .int .i64 (na : Int), .int .i64 (np : Int)] 149))); have f0 := HVa3.out.cell 0 _ rfl; have f1 := HVa3.out.cell 1 _ rfl; have f2 := HVa3.out.cell 2 _ rfl; have f3 := HVa3.out.cell 3 _ rfl; have k0 := HV3.out.cell 0 _ rfl; have k1 := HV3.out.cell 1 _ rfl; have k2 := HV3.out.cell 2 _ rfl; have k3 := HV3.out.cell 3 _ rfl; have k4 := HV3.out.cell 4 _ rfl))
        go_loop [54] (fun vi => ∃ i : Nat, i ≤ nr ∧ vi = .int .i64 (i : Int) ∧ Hid (rlB rl i = true)) (fun vi => nr - (intOf vi).toNat)
        case atStart => exact ⟨0, by omega, rfl, rfl⟩
        case round =>
          obtain ⟨i, hi, rfl, HR⟩ := hrel
          by_cases hlt : i < nr
          · have p0 : (0 : Int) ≤ (i : Int) := by omega
            have p1 : (i : Int) < (nr : Int) := by omega
            obtain ⟨b, o, a', c, rfl, hc, hxl⟩ := HXr.out i hlt
            have hcc := cell_kept hc HB3.out
            have HR2 : Hid (rlB rl (i + 1) = decide (1 ≤ rl i ∧ rl i ≤ 64)) := by show (rlB rl i && _) = _; rw [HR.out]; rfl
            have HRf : Hid (rlB rl (i + 1) = false → rlB rl nr = false) := fun h => qdy h hlt
            have hrl := HRl.out i hlt
            have hrl : rl i ≤ 140737488351232 := hrl
            generalize rl i = z at *
            clear hc hxl
            by_cases hz : z = 0
            · subst hz
              have HF9 : Hid (rlB rl nr = false) := HRf.out (by rw [HR2.out]; rfl)
              clear HRf HR2
              go_wp2
              go_ret
              exact ⟨by rw [HF9.out]; rfl, HB3.out⟩
            · have qz : ((z : Int) == 0) = false := by simp; omega
              by_cases hz2 : 64 < z
              · have qz2 : decide ((64 : Int) < (z : Int)) = true := decide_eq_true (by omega)
                have qz3 : decide (64 < z) = true := decide_eq_true hz2
                have HF9 : Hid (rlB rl nr = false) := HRf.out (by rw [HR2.out]; exact decide_eq_false (by omega))
                clear HRf HR2
                go_wp2
                go_ret
                exact ⟨by rw [HF9.out]; rfl, HB3.out⟩
              · have qz2 : decide ((64 : Int) < (z : Int)) = false := decide_eq_false (by omega)
                have qz3 : decide (64 < z) = false := decide_eq_false hz2
                have HR3 : Hid (rlB rl (i + 1) = true) := by show _ = _; rw [HR2.out]; exact decide_eq_true (by omega)
                clear HRf HR2
                go_wp2
                exact ⟨⟨i + 1, by omega, by go_num, HR3⟩, by simp [intOf]; omega⟩
          · obtain rfl : i = nr := by omega
            go_wp2
            go_ret
            exact ⟨by rw [HR.out]; rfl, HB3.out⟩
end Go.Proofs.YtemhodenkgngmaaDoor
