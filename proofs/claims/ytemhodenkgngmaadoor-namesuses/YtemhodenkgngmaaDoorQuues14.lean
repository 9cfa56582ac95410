/-
  Contracts of the program's tree: how many nodes an item leaves; May.
-/
import Derived.Test.YtemhodenkgngmaaDoorQuues00
import Derived.Test.YtemhodenkgngmaaDoorQuues13
set_option maxRecDepth 100000
set_option maxHeartbeats 16000000
namespace Go.Proofs.YtemhodenkgngmaaDoor
open Go.RowKit
theorem qfh (k pl nl : Nat) (nm : ByteArray) (T : Xt) (S : St) (F : Nat → Xt) (ln cl : Int) : (ikk k pl && fiB (ikn k) (ikv k pl) (decide (k = 2)) (ikp k pl) (ikl k pl) nm (T []) (S []) pl nl) = iwant ⟨k, nm, T, S, pl, nl, F, ln, cl⟩ := by
 have hN : isN nm = true → nm.size ≠ 0 := fun h => by have := (qa8.1 h).pos; omega
 unfold iwant fiB ikk ikn ikv ikp ikl
 show _ = (if k = 1 then isN nm && (!zxB (T []) && (zsB (S []) && (decide (pl = 0) && decide (nl = 0)))) else if k = 2 then isN nm && (zxB (T []) && (!zsB (S []) && (decide (pl = 0) && decide (nl = 0)))) else if k = 3 then isN nm && (zxB (T []) && (zsB (S []) && (decide (pl = 0) && decide (nl = 0)))) else decide (nm.size = 0) && (zsB (S []) && (if k = 4 ∨ k = 6 then !zxB (T []) && (decide (pl = 0) && decide (nl = 0)) else if k = 5 then (if pl = 1 ∨ pl = 2 then zxB (T []) && decide (nl = 0) else if pl = 3 then !zxB (T []) && decide (nl = 0) else if pl = 4 then zxB (T []) && (decide (1 ≤ nl) && decide (nl ≤ 64)) else false) else false)))
 generalize zxB (T []) = a at *
 generalize zsB (S []) = b at *
 generalize isN nm = c at *
 generalize nm.size = s at *
 have e0 : decide (0 < nl) = !decide (nl = 0) := by by_cases h : nl = 0 <;> simp [h]; omega
 have e1 : decide (1 ≤ nl) = !decide (nl = 0) := by by_cases h : nl = 0 <;> simp [h]; omega
 have e2 : nl = 0 → decide (nl ≤ 64) = true := fun h => by rw [h]; rfl
 rw [e0, e1]
 generalize hl64 : decide (nl ≤ 64) = z at *
 by_cases h1 : k = 1
 ·subst h1
  by_cases g0 : s = 0 <;> by_cases g1 : pl = 0 <;> by_cases g2 : nl = 0 <;> cases a <;> cases b <;> cases c <;> simp_all
 by_cases h2 : k = 2
 ·subst h2
  by_cases g0 : s = 0 <;> by_cases g1 : pl = 0 <;> by_cases g2 : nl = 0 <;> cases a <;> cases b <;> cases c <;> simp_all
 by_cases h3 : k = 3
 ·subst h3
  by_cases g0 : s = 0 <;> by_cases g1 : pl = 0 <;> by_cases g2 : nl = 0 <;> cases a <;> cases b <;> cases c <;> simp_all
 by_cases h4 : k = 4
 ·subst h4
  by_cases g0 : s = 0 <;> by_cases g1 : pl = 0 <;> by_cases g2 : nl = 0 <;> cases a <;> cases b <;> simp_all
 by_cases h6 : k = 6
 ·subst h6
  by_cases g0 : s = 0 <;> by_cases g1 : pl = 0 <;> by_cases g2 : nl = 0 <;> cases a <;> cases b <;> simp_all
 by_cases h5 : k = 5
 ·subst h5
  by_cases p1 : pl = 1
  ·subst p1
   by_cases g0 : s = 0 <;> by_cases g2 : nl = 0 <;> cases a <;> cases b <;> simp_all
  by_cases p2 : pl = 2
  ·subst p2
   by_cases g0 : s = 0 <;> by_cases g2 : nl = 0 <;> cases a <;> cases b <;> simp_all
  by_cases p3 : pl = 3
  ·subst p3
   by_cases g0 : s = 0 <;> by_cases g2 : nl = 0 <;> cases a <;> cases b <;> simp_all
  by_cases p4 : pl = 4
  ·subst p4
   by_cases g0 : s = 0 <;> by_cases g2 : nl = 0 <;> cases a <;> cases b <;> simp_all
  ·have hk : ¬ (1 ≤ pl ∧ pl ≤ 4) := by omega
   simp [p1, p2, p3, p4, hk]
 ·have hk : ¬ (1 ≤ k ∧ k ≤ 6) := by omega
  simp [h1, h2, h3, h4, h5, h6, hk]
/-- What is left, as the program counts. -/
theorem qao {k pl nl : Nat} {nm : ByteArray} {T : Xt} {S : St} {F : Nat → Xt} {ln cl : Int} {left X1 X2 : Int} (h0 : 0 < left) (hw : iwant ⟨k, nm, T, S, pl, nl, F, ln, cl⟩ = true)
  (h1 : (if ikv k pl = true then xleft 16 T (left - 1) else left - 1) = X1) (h2 : (if decide (k = 2) = true then sleft 16 S X1 else X1) = X2) : ileft ⟨k, nm, T, S, pl, nl, F, ln, cl⟩ left = xks (xleft 16) F nl X2 := by
 have e : ileft ⟨k, nm, T, S, pl, nl, F, ln, cl⟩ left = if left - 1 < 0 then -1 else if iwant ⟨k, nm, T, S, pl, nl, F, ln, cl⟩ = false then -1 else if ival ⟨k, nm, T, S, pl, nl, F, ln, cl⟩ = true then xleft 16 T (left - 1) else if k = 2 then sleft 16 S (left - 1) else xks (xleft 16) F nl (left - 1) := rfl
 have ev : ival ⟨k, nm, T, S, pl, nl, F, ln, cl⟩ = ikv k pl := by
  show (decide (k = 1) || (decide (k = 4) || (decide (k = 6) || (decide (k = 5) && decide (pl = 3))))) = _
  unfold ikv
  by_cases a : k = 1 <;> by_cases b : k = 4 <;> by_cases c : k = 6 <;> by_cases d : k = 5 <;> by_cases f : pl = 3 <;> simp [a, b, c, d, f]
 have hz : (ikv k pl = true ∨ k = 2) → nl = 0 := by
  intro h
  unfold iwant at hw
  rcases h with h | h
  ·have h := of_decide_eq_true h
   rcases h with rfl | rfl | rfl | ⟨rfl, rfl⟩
   all_goals
    simp only at hw
    simp at hw
    try omega
  ·subst h
   simp only at hw
   simp at hw
   omega
 rw [e, if_neg (by omega), if_neg (by rw [hw]; simp), ev, ← h2]
 by_cases hv : ikv k pl = true
 ·have hk : ¬ k = 2 := by have := of_decide_eq_true hv; omega
  rw [if_pos hv, if_neg (by simp [hk]), hz (.inl hv), qac, ← h1, if_pos hv]
 ·rw [if_neg hv]
  rw [if_neg hv] at h1
  by_cases hk : k = 2
  ·rw [if_pos hk, if_pos (by simp [hk]), hz (.inr hk), qac, ← h1]
  ·rw [if_neg hk, if_neg (by simp [hk]), ← h1]
theorem tafi_few (w : World) (k pl nl vk vl vc sk na ca np cp nr cr lc : Nat) (nm vm sm : ByteArray) (vn vln vcl sln scl ln cl : Int) (va aa pa ra la : Option Addr) (left : Int) (u0 u1 u2 u3 u4 kn : Bool) (_ : -1 ≤ left) (_ : left ≤ 8192) (ql : decide (left ≤ 0) = true) (HA : Hid (∀ w' : World, Calls Tryd.prog 50 #[.int .u8 (k : Int), .int .u8 (pl : Int)] w' fun e w'' => e = .returned (.tuple #[.agg #[.bool u0, .bool u1, .bool u2, .bool u3, .bool u4], .bool kn]) ∧ Below w'.heap.size w' w'')) :
  Calls Tryd.prog 31 #[.agg #[.int .u8 (k : Int), .string nm, .int .u8 (vk : Int), .int .i64 vn, .string vm, .slice va vl vc, .int .i64 vln, .int .i64 vcl, .int .u8 (sk : Int), .string sm, .slice aa na ca, .slice pa np cp, .slice ra nr cr, .int .i64 sln, .int .i64 scl, .int .u8 (pl : Int), .slice la nl lc, .int .i64 ln, .int .i64 cl], .int .i64 left] w fun e w' => e = .returned (.int .i64 (-1)) ∧ Below w.heap.size w w' := by
 have HI := qa0 (Vn.new w 61 #[.int .u8 (k : Int), .string nm, .int .u8 (vk : Int), .int .i64 vn, .string vm, .slice va vl vc, .int .i64 vln, .int .i64 vcl, .int .u8 (sk : Int), .string sm, .slice aa na ca, .slice pa np cp, .slice ra nr cr, .int .i64 sln, .int .i64 scl, .int .u8 (pl : Int), .slice la nl lc, .int .i64 ln, .int .i64 cl])
 have c0 := HI.out.cell 0 _ rfl
 have c1 := HI.out.cell 1 _ rfl
 have c2 := HI.out.cell 2 _ rfl
 have c3 := HI.out.cell 3 _ rfl
 have c4 := HI.out.cell 4 _ rfl
 have c5 := HI.out.cell 5 _ rfl
 have c6 := HI.out.cell 6 _ rfl
 have c7 := HI.out.cell 7 _ rfl
 have c8 := HI.out.cell 8 _ rfl
 have c9 := HI.out.cell 9 _ rfl
 have c10 := HI.out.cell 10 _ rfl
 have c11 := HI.out.cell 11 _ rfl
 have c12 := HI.out.cell 12 _ rfl
 have c13 := HI.out.cell 13 _ rfl
 have c14 := HI.out.cell 14 _ rfl
 have c15 := HI.out.cell 15 _ rfl
 have c16 := HI.out.cell 16 _ rfl
 have c17 := HI.out.cell 17 _ rfl
 have c18 := HI.out.cell 18 _ rfl
 have M1 : True := trivial
 have M2 : True := trivial
 go_enter Tryd.func31, Tryd.ntmps31
 go_wp2_with (first
  | (go_at_call 50; refine (HA.out _).mono ?_; rintro e w1 ⟨rfl, hb1⟩; have HB1 := qa0 (jtwo (jlow _ _) hb1); have HI1 := qa0 (HI.out.later hb1); clear hb1)
  | (clear M1; refine qa1 rfl 108 _ _ rfl w1.heap.size _ #[.bool u0, .bool u1, .bool u2, .bool u3, .bool u4] rfl rfl (Vn.new w1 _ _) sizeIF rfl (all5 rfl rfl rfl rfl rfl) ?_; intro w2 HU2 hg2; have hb2 : Below w1.heap.size w1 w2 := (jlow _ _).trans (jbelow hg2.out (jlow _ _).size (fun g e => by cases e; exact Nat.le_refl _)); have HB2 := qa0 (jtwo HB1.out hb2); have HI2 := qa0 (HI1.out.later hb2); clear hb2 hg2; have f0 := HU2.out.cell 0 _ rfl; have f1 := HU2.out.cell 1 _ rfl; have f2 := HU2.out.cell 2 _ rfl; have f3 := HU2.out.cell 3 _ rfl; have f4 := HU2.out.cell 4 _ rfl; clear c0 c1 c2 c3 c4 c5 c6 c7 c8 c9 c10 c11 c12 c13 c14 c15 c16 c17 c18))
 go_ret
 exact ⟨rfl, HB2.out⟩
theorem qfi (w : World) (k pl nl vk vl vc sk na ca np cp nr cr lc : Nat) (nm vm sm : ByteArray) (vn vln vcl sln scl ln cl : Int) (va aa pa ra la : Option Addr) (left : Int) (u0 u1 u2 u3 u4 : Bool) (_ : -1 ≤ left) (_ : left ≤ 8192) (ql : decide (left ≤ 0) = false) (HA : Hid (∀ w' : World, Calls Tryd.prog 50 #[.int .u8 (k : Int), .int .u8 (pl : Int)] w' fun e w'' => e = .returned (.tuple #[.agg #[.bool u0, .bool u1, .bool u2, .bool u3, .bool u4], .bool false]) ∧ Below w'.heap.size w' w'')) :
  Calls Tryd.prog 31 #[.agg #[.int .u8 (k : Int), .string nm, .int .u8 (vk : Int), .int .i64 vn, .string vm, .slice va vl vc, .int .i64 vln, .int .i64 vcl, .int .u8 (sk : Int), .string sm, .slice aa na ca, .slice pa np cp, .slice ra nr cr, .int .i64 sln, .int .i64 scl, .int .u8 (pl : Int), .slice la nl lc, .int .i64 ln, .int .i64 cl], .int .i64 left] w fun e w' => e = .returned (.int .i64 (-1)) ∧ Below w.heap.size w w' := by
 have HI := qa0 (Vn.new w 61 #[.int .u8 (k : Int), .string nm, .int .u8 (vk : Int), .int .i64 vn, .string vm, .slice va vl vc, .int .i64 vln, .int .i64 vcl, .int .u8 (sk : Int), .string sm, .slice aa na ca, .slice pa np cp, .slice ra nr cr, .int .i64 sln, .int .i64 scl, .int .u8 (pl : Int), .slice la nl lc, .int .i64 ln, .int .i64 cl])
 have c0 := HI.out.cell 0 _ rfl
 have c1 := HI.out.cell 1 _ rfl
 have c2 := HI.out.cell 2 _ rfl
 have c3 := HI.out.cell 3 _ rfl
 have c4 := HI.out.cell 4 _ rfl
 have c5 := HI.out.cell 5 _ rfl
 have c6 := HI.out.cell 6 _ rfl
 have c7 := HI.out.cell 7 _ rfl
 have c8 := HI.out.cell 8 _ rfl
 have c9 := HI.out.cell 9 _ rfl
 have c10 := HI.out.cell 10 _ rfl
 have c11 := HI.out.cell 11 _ rfl
 have c12 := HI.out.cell 12 _ rfl
 have c13 := HI.out.cell 13 _ rfl
 have c14 := HI.out.cell 14 _ rfl
 have c15 := HI.out.cell 15 _ rfl
 have c16 := HI.out.cell 16 _ rfl
 have c17 := HI.out.cell 17 _ rfl
 have c18 := HI.out.cell 18 _ rfl
 have M1 : True := trivial
 have M2 : True := trivial
 go_enter Tryd.func31, Tryd.ntmps31
 go_wp2_with (first
  | (go_at_call 50; refine (HA.out _).mono ?_; rintro e w1 ⟨rfl, hb1⟩; have HB1 := qa0 (jtwo (jlow _ _) hb1); have HI1 := qa0 (HI.out.later hb1); clear hb1)
  | (clear M1; refine qa1 rfl 108 _ _ rfl w1.heap.size _ #[.bool u0, .bool u1, .bool u2, .bool u3, .bool u4] rfl rfl (Vn.new w1 _ _) sizeIF rfl (all5 rfl rfl rfl rfl rfl) ?_; intro w2 HU2 hg2; have hb2 : Below w1.heap.size w1 w2 := (jlow _ _).trans (jbelow hg2.out (jlow _ _).size (fun g e => by cases e; exact Nat.le_refl _)); have HB2 := qa0 (jtwo HB1.out hb2); have HI2 := qa0 (HI1.out.later hb2); clear hb2 hg2; have f0 := HU2.out.cell 0 _ rfl; have f1 := HU2.out.cell 1 _ rfl; have f2 := HU2.out.cell 2 _ rfl; have f3 := HU2.out.cell 3 _ rfl; have f4 := HU2.out.cell 4 _ rfl; clear c0 c1 c2 c3 c4 c5 c6 c7 c8 c9 c10 c11 c12 c13 c14 c15 c16 c17 c18))
 go_ret
 exact ⟨rfl, HB2.out⟩
theorem qek (w : World) (k pl nl vk vl vc sk na ca np cp nr cr lc : Nat) (nm vm sm : ByteArray) (vn vln vcl sln scl ln cl : Int) (va aa pa ra la : Option Addr) (left : Int) (u0 u1 u2 u3 u4 : Bool) (_ : -1 ≤ left) (_ : left ≤ 8192) (ql : decide (left ≤ 0) = false) (HA : Hid (∀ w' : World, Calls Tryd.prog 50 #[.int .u8 (k : Int), .int .u8 (pl : Int)] w' fun e w'' => e = .returned (.tuple #[.agg #[.bool u0, .bool u1, .bool u2, .bool u3, .bool u4], .bool true]) ∧ Below w'.heap.size w' w'')) (HF : Hid (∀ w' : World, Below w.heap.size w w' → Calls Tryd.prog 51 #[.agg #[.int .u8 (k : Int), .string nm, .int .u8 (vk : Int), .int .i64 vn, .string vm, .slice va vl vc, .int .i64 vln, .int .i64 vcl, .int .u8 (sk : Int), .string sm, .slice aa na ca, .slice pa np cp, .slice ra nr cr, .int .i64 sln, .int .i64 scl, .int .u8 (pl : Int), .slice la nl lc, .int .i64 ln, .int .i64 cl], .agg #[.bool u0, .bool u1, .bool u2, .bool u3, .bool u4]] w' fun e w'' => e = .returned (.bool false) ∧ Below w'.heap.size w' w'')) :
  Calls Tryd.prog 31 #[.agg #[.int .u8 (k : Int), .string nm, .int .u8 (vk : Int), .int .i64 vn, .string vm, .slice va vl vc, .int .i64 vln, .int .i64 vcl, .int .u8 (sk : Int), .string sm, .slice aa na ca, .slice pa np cp, .slice ra nr cr, .int .i64 sln, .int .i64 scl, .int .u8 (pl : Int), .slice la nl lc, .int .i64 ln, .int .i64 cl], .int .i64 left] w fun e w' => e = .returned (.int .i64 (-1)) ∧ Below w.heap.size w w' := by
 have HI := qa0 (Vn.new w 61 #[.int .u8 (k : Int), .string nm, .int .u8 (vk : Int), .int .i64 vn, .string vm, .slice va vl vc, .int .i64 vln, .int .i64 vcl, .int .u8 (sk : Int), .string sm, .slice aa na ca, .slice pa np cp, .slice ra nr cr, .int .i64 sln, .int .i64 scl, .int .u8 (pl : Int), .slice la nl lc, .int .i64 ln, .int .i64 cl])
 have c0 := HI.out.cell 0 _ rfl
 have c1 := HI.out.cell 1 _ rfl
 have c2 := HI.out.cell 2 _ rfl
 have c3 := HI.out.cell 3 _ rfl
 have c4 := HI.out.cell 4 _ rfl
 have c5 := HI.out.cell 5 _ rfl
 have c6 := HI.out.cell 6 _ rfl
 have c7 := HI.out.cell 7 _ rfl
 have c8 := HI.out.cell 8 _ rfl
 have c9 := HI.out.cell 9 _ rfl
 have c10 := HI.out.cell 10 _ rfl
 have c11 := HI.out.cell 11 _ rfl
 have c12 := HI.out.cell 12 _ rfl
 have c13 := HI.out.cell 13 _ rfl
 have c14 := HI.out.cell 14 _ rfl
 have c15 := HI.out.cell 15 _ rfl
 have c16 := HI.out.cell 16 _ rfl
 have c17 := HI.out.cell 17 _ rfl
 have c18 := HI.out.cell 18 _ rfl
 have M1 : True := trivial
 have M2 : True := trivial
 go_enter Tryd.func31, Tryd.ntmps31
 go_wp2_with (first
  | (go_at_call 50; refine (HA.out _).mono ?_; rintro e w1 ⟨rfl, hb1⟩; have HB1 := qa0 (jtwo (jlow _ _) hb1); have HI1 := qa0 (HI.out.later hb1); clear hb1)
  | (clear M1; refine qa1 rfl 108 _ _ rfl w1.heap.size _ #[.bool u0, .bool u1, .bool u2, .bool u3, .bool u4] rfl rfl (Vn.new w1 _ _) sizeIF rfl (all5 rfl rfl rfl rfl rfl) ?_; intro w2 HU2 hg2; have hb2 : Below w1.heap.size w1 w2 := (jlow _ _).trans (jbelow hg2.out (jlow _ _).size (fun g e => by cases e; exact Nat.le_refl _)); have HB2 := qa0 (jtwo HB1.out hb2); have HI2 := qa0 (HI1.out.later hb2); clear hb2 hg2; have f0 := HU2.out.cell 0 _ rfl; have f1 := HU2.out.cell 1 _ rfl; have f2 := HU2.out.cell 2 _ rfl; have f3 := HU2.out.cell 3 _ rfl; have f4 := HU2.out.cell 4 _ rfl; clear c0 c1 c2 c3 c4 c5 c6 c7 c8 c9 c10 c11 c12 c13 c14 c15 c16 c17 c18)
  | (clear M2; refine qaa (by rfl) 61 _ rfl w.heap.size rfl 61 #[.int .u8 (k : Int), .string nm, .int .u8 (vk : Int), .int .i64 vn, .string vm, .slice va vl vc, .int .i64 vln, .int .i64 vcl, .int .u8 (sk : Int), .string sm, .slice aa na ca, .slice pa np cp, .slice ra nr cr, .int .i64 sln, .int .i64 scl, .int .u8 (pl : Int), .slice la nl lc, .int .i64 ln, .int .i64 cl] (0, 0) _ HI2.out Tryd.underlying61 rfl sizeI ?_)
  | (go_at_call 51; refine (HF.out _ HB2.out).mono ?_; rintro e w3 ⟨rfl, hb3⟩; have HB3 := qa0 (jtwo HB2.out hb3); have HI3 := qa0 (HI2.out.later hb3); have HU3 := qa0 (HU2.out.later hb3); clear hb3; clear f0 f3 f4; replace f1 := HU3.out.cell 1 _ rfl; replace f2 := HU3.out.cell 2 _ rfl; have c2 := HI3.out.cell 2 _ rfl; have c3 := HI3.out.cell 3 _ rfl; have c4 := HI3.out.cell 4 _ rfl; have c5 := HI3.out.cell 5 _ rfl; have c6 := HI3.out.cell 6 _ rfl; have c7 := HI3.out.cell 7 _ rfl; have c8 := HI3.out.cell 8 _ rfl; have c9 := HI3.out.cell 9 _ rfl; have c10 := HI3.out.cell 10 _ rfl; have c11 := HI3.out.cell 11 _ rfl; have c12 := HI3.out.cell 12 _ rfl; have c13 := HI3.out.cell 13 _ rfl; have c14 := HI3.out.cell 14 _ rfl; have c16 := HI3.out.cell 16 _ rfl))
 go_ret
 exact ⟨rfl, HB3.out⟩
theorem tafi_val (w : World) (k pl nl vk vl vc sk na ca np cp nr cr lc : Nat) (nm vm sm : ByteArray) (vn vln vcl sln scl ln cl : Int) (va aa pa ra la : Option Addr) (left X1 X3 : Int) (u0 u3 u4 : Bool) (h1 : -1 ≤ left) (h2 : left ≤ 8192) (_ : -1 ≤ X1) (_ : X1 ≤ 8192) (ql : decide (left ≤ 0) = false) (HA : Hid (∀ w' : World, Calls Tryd.prog 50 #[.int .u8 (k : Int), .int .u8 (pl : Int)] w' fun e w'' => e = .returned (.tuple #[.agg #[.bool u0, .bool true, .bool false, .bool u3, .bool u4], .bool true]) ∧ Below w'.heap.size w' w'')) (HF : Hid (∀ w' : World, Below w.heap.size w w' → Calls Tryd.prog 51 #[.agg #[.int .u8 (k : Int), .string nm, .int .u8 (vk : Int), .int .i64 vn, .string vm, .slice va vl vc, .int .i64 vln, .int .i64 vcl, .int .u8 (sk : Int), .string sm, .slice aa na ca, .slice pa np cp, .slice ra nr cr, .int .i64 sln, .int .i64 scl, .int .u8 (pl : Int), .slice la nl lc, .int .i64 ln, .int .i64 cl], .agg #[.bool u0, .bool true, .bool false, .bool u3, .bool u4]] w' fun e w'' => e = .returned (.bool true) ∧ Below w'.heap.size w' w'')) (HE2 : Hid (∀ w' : World, Below w.heap.size w w' → Calls Tryd.prog 52 #[.agg #[.int .u8 (vk : Int), .int .i64 vn, .string vm, .slice va vl vc, .int .i64 vln, .int .i64 vcl], .int .i64 16, .int .i64 (left - 1)] w' fun e w'' => e = .returned (.int .i64 X1) ∧ Below w'.heap.size w' w'')) (HL2 : Hid (∀ w' : World, Below w.heap.size w w' → Calls Tryd.prog 54 #[.slice la nl lc, .int .i64 16, .int .i64 X1] w' fun e w'' => e = .returned (.int .i64 X3) ∧ Below w'.heap.size w' w'')) :
  Calls Tryd.prog 31 #[.agg #[.int .u8 (k : Int), .string nm, .int .u8 (vk : Int), .int .i64 vn, .string vm, .slice va vl vc, .int .i64 vln, .int .i64 vcl, .int .u8 (sk : Int), .string sm, .slice aa na ca, .slice pa np cp, .slice ra nr cr, .int .i64 sln, .int .i64 scl, .int .u8 (pl : Int), .slice la nl lc, .int .i64 ln, .int .i64 cl], .int .i64 left] w fun e w' => e = .returned (.int .i64 X3) ∧ Below w.heap.size w w' := by
 have HI := qa0 (Vn.new w 61 #[.int .u8 (k : Int), .string nm, .int .u8 (vk : Int), .int .i64 vn, .string vm, .slice va vl vc, .int .i64 vln, .int .i64 vcl, .int .u8 (sk : Int), .string sm, .slice aa na ca, .slice pa np cp, .slice ra nr cr, .int .i64 sln, .int .i64 scl, .int .u8 (pl : Int), .slice la nl lc, .int .i64 ln, .int .i64 cl])
 have c0 := HI.out.cell 0 _ rfl
 have c1 := HI.out.cell 1 _ rfl
 have c2 := HI.out.cell 2 _ rfl
 have c3 := HI.out.cell 3 _ rfl
 have c4 := HI.out.cell 4 _ rfl
 have c5 := HI.out.cell 5 _ rfl
 have c6 := HI.out.cell 6 _ rfl
 have c7 := HI.out.cell 7 _ rfl
 have c8 := HI.out.cell 8 _ rfl
 have c9 := HI.out.cell 9 _ rfl
 have c10 := HI.out.cell 10 _ rfl
 have c11 := HI.out.cell 11 _ rfl
 have c12 := HI.out.cell 12 _ rfl
 have c13 := HI.out.cell 13 _ rfl
 have c14 := HI.out.cell 14 _ rfl
 have c15 := HI.out.cell 15 _ rfl
 have c16 := HI.out.cell 16 _ rfl
 have c17 := HI.out.cell 17 _ rfl
 have c18 := HI.out.cell 18 _ rfl
 have M1 : True := trivial
 have M2 : True := trivial
 go_enter Tryd.func31, Tryd.ntmps31
 go_wp2_with (first
  | (go_at_call 50; refine (HA.out _).mono ?_; rintro e w1 ⟨rfl, hb1⟩; have HB1 := qa0 (jtwo (jlow _ _) hb1); have HI1 := qa0 (HI.out.later hb1); clear hb1)
  | (clear M1; refine qa1 rfl 108 _ _ rfl w1.heap.size _ #[.bool u0, .bool true, .bool false, .bool u3, .bool u4] rfl rfl (Vn.new w1 _ _) sizeIF rfl (all5 rfl rfl rfl rfl rfl) ?_; intro w2 HU2 hg2; have hb2 : Below w1.heap.size w1 w2 := (jlow _ _).trans (jbelow hg2.out (jlow _ _).size (fun g e => by cases e; exact Nat.le_refl _)); have HB2 := qa0 (jtwo HB1.out hb2); have HI2 := qa0 (HI1.out.later hb2); clear hb2 hg2; have f0 := HU2.out.cell 0 _ rfl; have f1 := HU2.out.cell 1 _ rfl; have f2 := HU2.out.cell 2 _ rfl; have f3 := HU2.out.cell 3 _ rfl; have f4 := HU2.out.cell 4 _ rfl; clear c0 c1 c2 c3 c4 c5 c6 c7 c8 c9 c10 c11 c12 c13 c14 c15 c16 c17 c18)
  | (clear M2; refine qaa (by rfl) 61 _ rfl w.heap.size rfl 61 #[.int .u8 (k : Int), .string nm, .int .u8 (vk : Int), .int .i64 vn, .string vm, .slice va vl vc, .int .i64 vln, .int .i64 vcl, .int .u8 (sk : Int), .string sm, .slice aa na ca, .slice pa np cp, .slice ra nr cr, .int .i64 sln, .int .i64 scl, .int .u8 (pl : Int), .slice la nl lc, .int .i64 ln, .int .i64 cl] (0, 0) _ HI2.out Tryd.underlying61 rfl sizeI ?_)
  | (go_at_call 51; refine (HF.out _ HB2.out).mono ?_; rintro e w3 ⟨rfl, hb3⟩; have HB3 := qa0 (jtwo HB2.out hb3); have HI3 := qa0 (HI2.out.later hb3); have HU3 := qa0 (HU2.out.later hb3); clear hb3; clear f0 f3 f4; replace f1 := HU3.out.cell 1 _ rfl; replace f2 := HU3.out.cell 2 _ rfl; have c2 := HI3.out.cell 2 _ rfl; have c3 := HI3.out.cell 3 _ rfl; have c4 := HI3.out.cell 4 _ rfl; have c5 := HI3.out.cell 5 _ rfl; have c6 := HI3.out.cell 6 _ rfl; have c7 := HI3.out.cell 7 _ rfl; have c8 := HI3.out.cell 8 _ rfl; have c9 := HI3.out.cell 9 _ rfl; have c10 := HI3.out.cell 10 _ rfl; have c11 := HI3.out.cell 11 _ rfl; have c12 := HI3.out.cell 12 _ rfl; have c13 := HI3.out.cell 13 _ rfl; have c14 := HI3.out.cell 14 _ rfl; have c16 := HI3.out.cell 16 _ rfl)
  | (go_at_call 52; refine (HE2.out _ HB3.out).mono ?_; rintro e w4 ⟨rfl, hb4⟩; have HB4 := qa0 (jtwo HB3.out hb4); have HI4 := qa0 (HI3.out.later hb4); have HU4 := qa0 (HU3.out.later hb4); clear hb4; clear c2 c3 c4 c5 c6 c7; replace f1 := HU4.out.cell 1 _ rfl; replace f2 := HU4.out.cell 2 _ rfl; replace c8 := HI4.out.cell 8 _ rfl; replace c9 := HI4.out.cell 9 _ rfl; replace c10 := HI4.out.cell 10 _ rfl; replace c11 := HI4.out.cell 11 _ rfl; replace c12 := HI4.out.cell 12 _ rfl; replace c13 := HI4.out.cell 13 _ rfl; replace c14 := HI4.out.cell 14 _ rfl; replace c16 := HI4.out.cell 16 _ rfl)
  | (go_at_call 54; refine (HL2.out _ HB4.out).mono ?_; rintro e w6 ⟨rfl, hb6⟩; have HB6 := qa0 (jtwo HB4.out hb6); clear hb6))
 go_ret
 exact ⟨rfl, HB6.out⟩
theorem tafi_shp (w : World) (k pl nl vk vl vc sk na ca np cp nr cr lc : Nat) (nm vm sm : ByteArray) (vn vln vcl sln scl ln cl : Int) (va aa pa ra la : Option Addr) (left X2 X3 : Int) (u0 u3 u4 : Bool) (h1 : -1 ≤ left) (h2 : left ≤ 8192) (ql : decide (left ≤ 0) = false) (HA : Hid (∀ w' : World, Calls Tryd.prog 50 #[.int .u8 (k : Int), .int .u8 (pl : Int)] w' fun e w'' => e = .returned (.tuple #[.agg #[.bool u0, .bool false, .bool true, .bool u3, .bool u4], .bool true]) ∧ Below w'.heap.size w' w'')) (HF : Hid (∀ w' : World, Below w.heap.size w w' → Calls Tryd.prog 51 #[.agg #[.int .u8 (k : Int), .string nm, .int .u8 (vk : Int), .int .i64 vn, .string vm, .slice va vl vc, .int .i64 vln, .int .i64 vcl, .int .u8 (sk : Int), .string sm, .slice aa na ca, .slice pa np cp, .slice ra nr cr, .int .i64 sln, .int .i64 scl, .int .u8 (pl : Int), .slice la nl lc, .int .i64 ln, .int .i64 cl], .agg #[.bool u0, .bool false, .bool true, .bool u3, .bool u4]] w' fun e w'' => e = .returned (.bool true) ∧ Below w'.heap.size w' w'')) (HS2 : Hid (∀ w' : World, Below w.heap.size w w' → Calls Tryd.prog 53 #[.agg #[.int .u8 (sk : Int), .string sm, .slice aa na ca, .slice pa np cp, .slice ra nr cr, .int .i64 sln, .int .i64 scl], .int .i64 16, .int .i64 (left - 1)] w' fun e w'' => e = .returned (.int .i64 X2) ∧ Below w'.heap.size w' w'')) (HL2 : Hid (∀ w' : World, Below w.heap.size w w' → Calls Tryd.prog 54 #[.slice la nl lc, .int .i64 16, .int .i64 X2] w' fun e w'' => e = .returned (.int .i64 X3) ∧ Below w'.heap.size w' w'')) :
  Calls Tryd.prog 31 #[.agg #[.int .u8 (k : Int), .string nm, .int .u8 (vk : Int), .int .i64 vn, .string vm, .slice va vl vc, .int .i64 vln, .int .i64 vcl, .int .u8 (sk : Int), .string sm, .slice aa na ca, .slice pa np cp, .slice ra nr cr, .int .i64 sln, .int .i64 scl, .int .u8 (pl : Int), .slice la nl lc, .int .i64 ln, .int .i64 cl], .int .i64 left] w fun e w' => e = .returned (.int .i64 X3) ∧ Below w.heap.size w w' := by
 have HI := qa0 (Vn.new w 61 #[.int .u8 (k : Int), .string nm, .int .u8 (vk : Int), .int .i64 vn, .string vm, .slice va vl vc, .int .i64 vln, .int .i64 vcl, .int .u8 (sk : Int), .string sm, .slice aa na ca, .slice pa np cp, .slice ra nr cr, .int .i64 sln, .int .i64 scl, .int .u8 (pl : Int), .slice la nl lc, .int .i64 ln, .int .i64 cl])
 have c0 := HI.out.cell 0 _ rfl
 have c1 := HI.out.cell 1 _ rfl
 have c2 := HI.out.cell 2 _ rfl
 have c3 := HI.out.cell 3 _ rfl
 have c4 := HI.out.cell 4 _ rfl
 have c5 := HI.out.cell 5 _ rfl
 have c6 := HI.out.cell 6 _ rfl
 have c7 := HI.out.cell 7 _ rfl
 have c8 := HI.out.cell 8 _ rfl
 have c9 := HI.out.cell 9 _ rfl
 have c10 := HI.out.cell 10 _ rfl
 have c11 := HI.out.cell 11 _ rfl
 have c12 := HI.out.cell 12 _ rfl
 have c13 := HI.out.cell 13 _ rfl
 have c14 := HI.out.cell 14 _ rfl
 have c15 := HI.out.cell 15 _ rfl
 have c16 := HI.out.cell 16 _ rfl
 have c17 := HI.out.cell 17 _ rfl
 have c18 := HI.out.cell 18 _ rfl
 have M1 : True := trivial
 have M2 : True := trivial
 go_enter Tryd.func31, Tryd.ntmps31
 go_wp2_with (first
  | (go_at_call 50; refine (HA.out _).mono ?_; rintro e w1 ⟨rfl, hb1⟩; have HB1 := qa0 (jtwo (jlow _ _) hb1); have HI1 := qa0 (HI.out.later hb1); clear hb1)
  | (clear M1; refine qa1 rfl 108 _ _ rfl w1.heap.size _ #[.bool u0, .bool false, .bool true, .bool u3, .bool u4] rfl rfl (Vn.new w1 _ _) sizeIF rfl (all5 rfl rfl rfl rfl rfl) ?_; intro w2 HU2 hg2; have hb2 : Below w1.heap.size w1 w2 := (jlow _ _).trans (jbelow hg2.out (jlow _ _).size (fun g e => by cases e; exact Nat.le_refl _)); have HB2 := qa0 (jtwo HB1.out hb2); have HI2 := qa0 (HI1.out.later hb2); clear hb2 hg2; have f0 := HU2.out.cell 0 _ rfl; have f1 := HU2.out.cell 1 _ rfl; have f2 := HU2.out.cell 2 _ rfl; have f3 := HU2.out.cell 3 _ rfl; have f4 := HU2.out.cell 4 _ rfl; clear c0 c1 c2 c3 c4 c5 c6 c7 c8 c9 c10 c11 c12 c13 c14 c15 c16 c17 c18)
  | (clear M2; refine qaa (by rfl) 61 _ rfl w.heap.size rfl 61 #[.int .u8 (k : Int), .string nm, .int .u8 (vk : Int), .int .i64 vn, .string vm, .slice va vl vc, .int .i64 vln, .int .i64 vcl, .int .u8 (sk : Int), .string sm, .slice aa na ca, .slice pa np cp, .slice ra nr cr, .int .i64 sln, .int .i64 scl, .int .u8 (pl : Int), .slice la nl lc, .int .i64 ln, .int .i64 cl] (0, 0) _ HI2.out Tryd.underlying61 rfl sizeI ?_)
  | (go_at_call 51; refine (HF.out _ HB2.out).mono ?_; rintro e w3 ⟨rfl, hb3⟩; have HB3 := qa0 (jtwo HB2.out hb3); have HI3 := qa0 (HI2.out.later hb3); have HU3 := qa0 (HU2.out.later hb3); clear hb3; clear f0 f3 f4; replace f1 := HU3.out.cell 1 _ rfl; replace f2 := HU3.out.cell 2 _ rfl; have c2 := HI3.out.cell 2 _ rfl; have c3 := HI3.out.cell 3 _ rfl; have c4 := HI3.out.cell 4 _ rfl; have c5 := HI3.out.cell 5 _ rfl; have c6 := HI3.out.cell 6 _ rfl; have c7 := HI3.out.cell 7 _ rfl; have c8 := HI3.out.cell 8 _ rfl; have c9 := HI3.out.cell 9 _ rfl; have c10 := HI3.out.cell 10 _ rfl; have c11 := HI3.out.cell 11 _ rfl; have c12 := HI3.out.cell 12 _ rfl; have c13 := HI3.out.cell 13 _ rfl; have c14 := HI3.out.cell 14 _ rfl; have c16 := HI3.out.cell 16 _ rfl)
  | (go_at_call 53; refine (HS2.out _ HB3.out).mono ?_; rintro e w5 ⟨rfl, hb5⟩; have HB5 := qa0 (jtwo HB3.out hb5); have HI5 := qa0 (HI3.out.later hb5); clear hb5; replace c16 := HI5.out.cell 16 _ rfl)
  | (go_at_call 54; refine (HL2.out _ HB5.out).mono ?_; rintro e w6 ⟨rfl, hb6⟩; have HB6 := qa0 (jtwo HB5.out hb6); clear hb6))
 go_ret
 exact ⟨rfl, HB6.out⟩
theorem tafi_lst (w : World) (k pl nl vk vl vc sk na ca np cp nr cr lc : Nat) (nm vm sm : ByteArray) (vn vln vcl sln scl ln cl : Int) (va aa pa ra la : Option Addr) (left X3 : Int) (u0 u3 u4 : Bool) (h1 : -1 ≤ left) (h2 : left ≤ 8192) (ql : decide (left ≤ 0) = false) (HA : Hid (∀ w' : World, Calls Tryd.prog 50 #[.int .u8 (k : Int), .int .u8 (pl : Int)] w' fun e w'' => e = .returned (.tuple #[.agg #[.bool u0, .bool false, .bool false, .bool u3, .bool u4], .bool true]) ∧ Below w'.heap.size w' w'')) (HF : Hid (∀ w' : World, Below w.heap.size w w' → Calls Tryd.prog 51 #[.agg #[.int .u8 (k : Int), .string nm, .int .u8 (vk : Int), .int .i64 vn, .string vm, .slice va vl vc, .int .i64 vln, .int .i64 vcl, .int .u8 (sk : Int), .string sm, .slice aa na ca, .slice pa np cp, .slice ra nr cr, .int .i64 sln, .int .i64 scl, .int .u8 (pl : Int), .slice la nl lc, .int .i64 ln, .int .i64 cl], .agg #[.bool u0, .bool false, .bool false, .bool u3, .bool u4]] w' fun e w'' => e = .returned (.bool true) ∧ Below w'.heap.size w' w'')) (HL2 : Hid (∀ w' : World, Below w.heap.size w w' → Calls Tryd.prog 54 #[.slice la nl lc, .int .i64 16, .int .i64 (left - 1)] w' fun e w'' => e = .returned (.int .i64 X3) ∧ Below w'.heap.size w' w'')) :
  Calls Tryd.prog 31 #[.agg #[.int .u8 (k : Int), .string nm, .int .u8 (vk : Int), .int .i64 vn, .string vm, .slice va vl vc, .int .i64 vln, .int .i64 vcl, .int .u8 (sk : Int), .string sm, .slice aa na ca, .slice pa np cp, .slice ra nr cr, .int .i64 sln, .int .i64 scl, .int .u8 (pl : Int), .slice la nl lc, .int .i64 ln, .int .i64 cl], .int .i64 left] w fun e w' => e = .returned (.int .i64 X3) ∧ Below w.heap.size w w' := by
 have HI := qa0 (Vn.new w 61 #[.int .u8 (k : Int), .string nm, .int .u8 (vk : Int), .int .i64 vn, .string vm, .slice va vl vc, .int .i64 vln, .int .i64 vcl, .int .u8 (sk : Int), .string sm, .slice aa na ca, .slice pa np cp, .slice ra nr cr, .int .i64 sln, .int .i64 scl, .int .u8 (pl : Int), .slice la nl lc, .int .i64 ln, .int .i64 cl])
 have c0 := HI.out.cell 0 _ rfl
 have c1 := HI.out.cell 1 _ rfl
 have c2 := HI.out.cell 2 _ rfl
 have c3 := HI.out.cell 3 _ rfl
 have c4 := HI.out.cell 4 _ rfl
 have c5 := HI.out.cell 5 _ rfl
 have c6 := HI.out.cell 6 _ rfl
 have c7 := HI.out.cell 7 _ rfl
 have c8 := HI.out.cell 8 _ rfl
 have c9 := HI.out.cell 9 _ rfl
 have c10 := HI.out.cell 10 _ rfl
 have c11 := HI.out.cell 11 _ rfl
 have c12 := HI.out.cell 12 _ rfl
 have c13 := HI.out.cell 13 _ rfl
 have c14 := HI.out.cell 14 _ rfl
 have c15 := HI.out.cell 15 _ rfl
 have c16 := HI.out.cell 16 _ rfl
 have c17 := HI.out.cell 17 _ rfl
 have c18 := HI.out.cell 18 _ rfl
 have M1 : True := trivial
 have M2 : True := trivial
 go_enter Tryd.func31, Tryd.ntmps31
 go_wp2_with (first
  | (go_at_call 50; refine (HA.out _).mono ?_; rintro e w1 ⟨rfl, hb1⟩; have HB1 := qa0 (jtwo (jlow _ _) hb1); have HI1 := qa0 (HI.out.later hb1); clear hb1)
  | (clear M1; refine qa1 rfl 108 _ _ rfl w1.heap.size _ #[.bool u0, .bool false, .bool false, .bool u3, .bool u4] rfl rfl (Vn.new w1 _ _) sizeIF rfl (all5 rfl rfl rfl rfl rfl) ?_; intro w2 HU2 hg2; have hb2 : Below w1.heap.size w1 w2 := (jlow _ _).trans (jbelow hg2.out (jlow _ _).size (fun g e => by cases e; exact Nat.le_refl _)); have HB2 := qa0 (jtwo HB1.out hb2); have HI2 := qa0 (HI1.out.later hb2); clear hb2 hg2; have f0 := HU2.out.cell 0 _ rfl; have f1 := HU2.out.cell 1 _ rfl; have f2 := HU2.out.cell 2 _ rfl; have f3 := HU2.out.cell 3 _ rfl; have f4 := HU2.out.cell 4 _ rfl; clear c0 c1 c2 c3 c4 c5 c6 c7 c8 c9 c10 c11 c12 c13 c14 c15 c16 c17 c18)
  | (clear M2; refine qaa (by rfl) 61 _ rfl w.heap.size rfl 61 #[.int .u8 (k : Int), .string nm, .int .u8 (vk : Int), .int .i64 vn, .string vm, .slice va vl vc, .int .i64 vln, .int .i64 vcl, .int .u8 (sk : Int), .string sm, .slice aa na ca, .slice pa np cp, .slice ra nr cr, .int .i64 sln, .int .i64 scl, .int .u8 (pl : Int), .slice la nl lc, .int .i64 ln, .int .i64 cl] (0, 0) _ HI2.out Tryd.underlying61 rfl sizeI ?_)
  | (go_at_call 51; refine (HF.out _ HB2.out).mono ?_; rintro e w3 ⟨rfl, hb3⟩; have HB3 := qa0 (jtwo HB2.out hb3); have HI3 := qa0 (HI2.out.later hb3); have HU3 := qa0 (HU2.out.later hb3); clear hb3; clear f0 f3 f4; replace f1 := HU3.out.cell 1 _ rfl; replace f2 := HU3.out.cell 2 _ rfl; have c2 := HI3.out.cell 2 _ rfl; have c3 := HI3.out.cell 3 _ rfl; have c4 := HI3.out.cell 4 _ rfl; have c5 := HI3.out.cell 5 _ rfl; have c6 := HI3.out.cell 6 _ rfl; have c7 := HI3.out.cell 7 _ rfl; have c8 := HI3.out.cell 8 _ rfl; have c9 := HI3.out.cell 9 _ rfl; have c10 := HI3.out.cell 10 _ rfl; have c11 := HI3.out.cell 11 _ rfl; have c12 := HI3.out.cell 12 _ rfl; have c13 := HI3.out.cell 13 _ rfl; have c14 := HI3.out.cell 14 _ rfl; have c16 := HI3.out.cell 16 _ rfl)
  | (go_at_call 54; refine (HL2.out _ HB3.out).mono ?_; rintro e w6 ⟨rfl, hb6⟩; have HB6 := qa0 (jtwo HB3.out hb6); clear hb6))
 go_ret
 exact ⟨rfl, HB6.out⟩
theorem tafteri (w : World) (k pl nl vk vl vc sk na ca np cp nr cr lc : Nat) (nm vm sm : ByteArray) (vn vln vcl sln scl ln cl : Int) (va aa pa ra la : Option Addr) (T : Xt) (S : St) (F : Nat → Xt) (left : Int) (hT : XV w (.agg #[.int .u8 (vk : Int), .int .i64 vn, .string vm, .slice va vl vc, .int .i64 vln, .int .i64 vcl]) T) (hS : SV w (.agg #[.int .u8 (sk : Int), .string sm, .slice aa na ca, .slice pa np cp, .slice ra nr cr, .int .i64 sln, .int .i64 scl]) S) (hL : ∀ d, XL d w la nl F) (hk8 : k < 256) (hp8 : pl < 256) (hx : nm.size ≤ 140737488351232) (hnl : nl ≤ 140737488351232) (h1 : -1 ≤ left) (h2 : left ≤ 8192) (hw : Wt9 w) :
  Calls Tryd.prog 31 #[.agg #[.int .u8 (k : Int), .string nm, .int .u8 (vk : Int), .int .i64 vn, .string vm, .slice va vl vc, .int .i64 vln, .int .i64 vcl, .int .u8 (sk : Int), .string sm, .slice aa na ca, .slice pa np cp, .slice ra nr cr, .int .i64 sln, .int .i64 scl, .int .u8 (pl : Int), .slice la nl lc, .int .i64 ln, .int .i64 cl], .int .i64 left] w fun e w' => e = .returned (.int .i64 (ileft ⟨k, nm, T, S, pl, nl, F, ln, cl⟩ left)) ∧ Below w.heap.size w w' := by
 have HT := qa0 hT
 have HS := qa0 hS
 have HLs := qa0 hL
 have HW := qa0 hw
 clear hT hS hw hL
 have HA : Hid (∀ w' : World, Calls Tryd.prog 50 #[.int .u8 (k : Int), .int .u8 (pl : Int)] w' fun e w'' => e = .returned (.tuple #[.agg #[.bool (ikn k), .bool (ikv k pl), .bool (decide (k = 2)), .bool (ikp k pl), .bool (ikl k pl)], .bool (ikk k pl)]) ∧ Below w'.heap.size w' w'') := fun w' => taskedI w' k pl hk8 hp8
 have HF : Hid (∀ (w' : World) (u0 u1 u2 u3 u4 : Bool), Below w.heap.size w w' → Calls Tryd.prog 51 #[.agg #[.int .u8 (k : Int), .string nm, .int .u8 (vk : Int), .int .i64 vn, .string vm, .slice va vl vc, .int .i64 vln, .int .i64 vcl, .int .u8 (sk : Int), .string sm, .slice aa na ca, .slice pa np cp, .slice ra nr cr, .int .i64 sln, .int .i64 scl, .int .u8 (pl : Int), .slice la nl lc, .int .i64 ln, .int .i64 cl], .agg #[.bool u0, .bool u1, .bool u2, .bool u3, .bool u4]] w' fun e w'' => e = .returned (.bool (fiB u0 u1 u2 u3 u4 nm (T []) (S []) pl nl)) ∧ Below w'.heap.size w' w'') := fun w' u0 u1 u2 u3 u4 hb => tfitsi w' k pl nl vk vl vc sk na ca np cp nr cr lc nm vm sm vn vln vcl sln scl ln cl va aa pa ra la T S u0 u1 u2 u3 u4 (HT.out.later hb) (HS.out.later hb) hx hnl (HW.out.later hb)
 obtain ⟨r, Hr⟩ : ∃ r, Hid (ileft ⟨k, nm, T, S, pl, nl, F, ln, cl⟩ left = r) := ⟨_, rfl⟩
 rw [Hr.out]
 obtain ⟨X1, HX1⟩ : ∃ X1, Hid ((if ikv k pl = true then xleft 16 T (left - 1) else left - 1) = X1) := ⟨_, rfl⟩
 obtain ⟨X2, HX2⟩ : ∃ X2, Hid ((if decide (k = 2) = true then sleft 16 S X1 else X1) = X2) := ⟨_, rfl⟩
 have hX1 : 0 < left → -1 ≤ X1 ∧ X1 ≤ 8192 := fun h0 => by
  rw [← HX1.out]
  split
  ·have := qa5 16 T (left - 1) (by omega); omega
  ·omega
 have hX2 : 0 < left → -1 ≤ X2 ∧ X2 ≤ 8192 := fun h0 => by
  have := hX1 h0
  rw [← HX2.out]
  split
  ·rcases Int.lt_or_le X1 0 with g | g
   ·rw [qbw (by omega)]; omega
   ·have := qbe 16 S X1 g; omega
  ·omega
 have HGo : Hid (0 < left → (ikk k pl && fiB (ikn k) (ikv k pl) (decide (k = 2)) (ikp k pl) (ikl k pl) nm (T []) (S []) pl nl) = true → xks (xleft 16) F nl X2 = r) := fun h0 h => by
  rw [← Hr.out]
  exact (qao h0 (by rw [← qfh]; exact h) HX1.out HX2.out).symm
 have HNo : Hid (left ≤ 0 ∨ (ikk k pl && fiB (ikn k) (ikv k pl) (decide (k = 2)) (ikp k pl) (ikl k pl) nm (T []) (S []) pl nl) = false → r = -1) := fun h => by
  rw [← Hr.out]
  show (if left - 1 < 0 then -1 else if iwant ⟨k, nm, T, S, pl, nl, F, ln, cl⟩ = false then -1 else _) = _
  rcases h with h | h
  ·rw [if_pos (by omega)]
  ·rw [qfh k pl nl nm T S F ln cl] at h
   split
   ·rfl
   ·first | rfl | rw [if_pos h]
 have HE : Hid (0 < left → ikv k pl = true → ∀ w' : World, Below w.heap.size w w' → Calls Tryd.prog 52 #[.agg #[.int .u8 (vk : Int), .int .i64 vn, .string vm, .slice va vl vc, .int .i64 vln, .int .i64 vcl], .int .i64 16, .int .i64 (left - 1)] w' fun e w'' => e = .returned (.int .i64 X1) ∧ Below w'.heap.size w' w'') := fun h0 hv w' hb => by
  rw [← HX1.out, if_pos hv]
  exact tafterx 16 w' T _ (left - 1) (by omega) (HT.out.later hb) (by omega) (by omega) (HW.out.later hb)
 have HE0 : Hid (ikv k pl = false → X1 = left - 1) := fun hv => by rw [← HX1.out, if_neg (by rw [hv]; simp)]
 have HSh : Hid (0 < left → decide (k = 2) = true → ∀ w' : World, Below w.heap.size w w' → Calls Tryd.prog 53 #[.agg #[.int .u8 (sk : Int), .string sm, .slice aa na ca, .slice pa np cp, .slice ra nr cr, .int .i64 sln, .int .i64 scl], .int .i64 16, .int .i64 X1] w' fun e w'' => e = .returned (.int .i64 X2) ∧ Below w'.heap.size w' w'') := fun h0 hv w' hb => by
  rw [← HX2.out, if_pos hv]
  exact tafters 16 w' S _ X1 (by omega) (HS.out.later hb) (hX1 h0).1 (hX1 h0).2 (HW.out.later hb)
 have HS0 : Hid (decide (k = 2) = false → X2 = X1) := fun hv => by rw [← HX2.out, if_neg (by rw [hv]; simp)]
 obtain ⟨X3, HX3⟩ : ∃ X3, Hid (xks (xleft 16) F nl X2 = X3) := ⟨_, rfl⟩
 have HLc : Hid (0 < left → ∀ w' : World, Below w.heap.size w w' → Calls Tryd.prog 54 #[.slice la nl lc, .int .i64 16, .int .i64 X2] w' fun e w'' => e = .returned (.int .i64 X3) ∧ Below w'.heap.size w' w'') := fun h0 w' hb => by
  rw [← HX3.out]
  exact tafterxs 16 (fun w T v l hX g1 g2 hw => tafterx 16 w T v l (by omega) hX g1 g2 hw) w' la _ lc F X2 (fun d => (HLs.out d).later hb) hnl (hX2 h0).1 (hX2 h0).2 (HW.out.later hb)
 rw [HX3.out] at HGo
 have HX1b : Hid (0 < left → -1 ≤ X1 ∧ X1 ≤ 8192) := hX1
 have hvs : ikv k pl = true → decide (k = 2) = true → False := fun a b => by have := of_decide_eq_true a; have := of_decide_eq_true b; omega
 clear hX1 hX2 HX1 HX2 HX3 Hr HT HS HLs HW
 generalize ikn k = u0 at *
 generalize ikv k pl = u1 at *
 generalize decide (k = 2) = u2 at *
 generalize ikp k pl = u3 at *
 generalize ikl k pl = u4 at *
 generalize ikk k pl = kn at *
 have HF := qa0 (fun w' => HF.out w' u0 u1 u2 u3 u4)
 generalize fiB u0 u1 u2 u3 u4 nm (T []) (S []) pl nl = fb at *
 by_cases hl : left ≤ 0
 ·obtain rfl : r = -1 := HNo.out (.inl hl)
  exact tafi_few w k pl nl vk vl vc sk na ca np cp nr cr lc nm vm sm vn vln vcl sln scl ln cl va aa pa ra la left u0 u1 u2 u3 u4 kn h1 h2 (decide_eq_true hl) HA
 have ql : decide (left ≤ 0) = false := decide_eq_false hl
 cases kn with
 | false =>
  obtain rfl : r = -1 := HNo.out (.inr rfl)
  exact qfi w k pl nl vk vl vc sk na ca np cp nr cr lc nm vm sm vn vln vcl sln scl ln cl va aa pa ra la left u0 u1 u2 u3 u4 h1 h2 ql HA
 | true =>
  cases fb with
  | false =>
   obtain rfl : r = -1 := HNo.out (.inr rfl)
   exact qek w k pl nl vk vl vc sk na ca np cp nr cr lc nm vm sm vn vln vcl sln scl ln cl va aa pa ra la left u0 u1 u2 u3 u4 h1 h2 ql HA HF
  | true =>
   have hr : X3 = r := HGo.out (by omega) rfl
   subst hr
   have HL2 := qa0 (HLc.out (by omega))
   have hx1 := HX1b.out (by omega)
   cases u1 with
   | true =>
    cases u2 with
    | true => exact (hvs rfl rfl).elim
    | false =>
     obtain rfl : X2 = X1 := HS0.out rfl
     exact tafi_val w k pl nl vk vl vc sk na ca np cp nr cr lc nm vm sm vn vln vcl sln scl ln cl va aa pa ra la left X2 X3 u0 u3 u4 h1 h2 hx1.1 hx1.2 ql HA HF (HE.out (by omega) rfl) HL2
   | false =>
    obtain rfl : X1 = left - 1 := HE0.out rfl
    cases u2 with
    | true => exact tafi_shp w k pl nl vk vl vc sk na ca np cp nr cr lc nm vm sm vn vln vcl sln scl ln cl va aa pa ra la left X2 X3 u0 u3 u4 h1 h2 ql HA HF (HSh.out (by omega) rfl) HL2
    | false =>
     obtain rfl : X2 = left - 1 := HS0.out rfl
     exact tafi_lst w k pl nl vk vl vc sk na ca np cp nr cr lc nm vm sm vn vln vcl sln scl ln cl va aa pa ra la left X3 u0 u3 u4 h1 h2 ql HA HF HL2
end Go.Proofs.YtemhodenkgngmaaDoor
