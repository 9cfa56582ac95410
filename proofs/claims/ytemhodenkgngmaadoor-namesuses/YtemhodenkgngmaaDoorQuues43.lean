/-
  Contracts of the tree's reference: shape, MayShape.
-/
import Derived.Test.YtemhodenkgngmaaDoorQuues00
import Derived.Test.YtemhodenkgngmaaDoorQuues41
import Derived.Test.YtemhodenkgngmaaDoorQuues42
set_option maxRecDepth 100000
set_option maxHeartbeats 16000000
namespace Go.Proofs.YtemhodenkgngmaaDoor
open Go.RowKit
theorem sleft_no {d : Nat} {S : St} {left : Int} {l : Ls} (hl : S [] = l) (h : swant l = false) (h0 : 0 ≤ left - 1) : sleft (d + 1) S left = -1 := by
 rw [qak, if_neg (by omega), hl, if_pos h]
theorem qeo : ∀ (d : Nat) (w : World) (S : St) (v : Value) (left : Int), d ≤ 16 → SV w v S → -1 ≤ left → left ≤ 8192 →
  Calls Tryd.prog 48 #[v, .int .i64 left, .int .i64 (d : Int)] w fun e w' => e = .returned (.int .i64 (sleft d S left)) ∧ Below w.heap.size w w' := by
 intro d
 induction d with
 | zero =>
  intro w S v left _ hX h1 h2
  obtain ⟨⟨aa, pa, ra, ca, cp, cr, rfl, _⟩, _⟩ := hX
  show Calls _ _ _ _ fun e w' => e = .returned (.int .i64 (-1)) ∧ _
  generalize S [] = l
  obtain ⟨k, nm, na, args, np, nr, rl, rows, ln, cl⟩ := l
  by_cases hl : left - 1 < 0
  ·have q : decide (left - 1 < 0) = true := decide_eq_true hl
   go_enter Tryd.func48, Tryd.ntmps48
   go_wp2
   go_ret
   exact ⟨rfl, jlow _ _⟩
  ·have q : decide (left - 1 < 0) = false := decide_eq_false hl
   go_enter Tryd.func48, Tryd.ntmps48
   go_wp2
   go_ret
   exact ⟨rfl, jlow _ _⟩
 | succ d ih =>
  intro w S v left hd hX h1 h2
  obtain ⟨⟨aa, pa, ra, ca, cp, cr, rfl, ha, hr, hp⟩, hok⟩ := hX
  obtain ⟨l, HT⟩ : ∃ l, S [] = l := ⟨_, rfl⟩
  rw [HT] at ha hr hp hok ⊢
  obtain ⟨k, nm, na, args, np, nr, rl, rows, ln, cl⟩ := l
  have h8 : k < 256 := hok.k8
  have hx : nm.size ≤ 140737488351232 := hok.nm47
  have hna : na ≤ 140737488351232 := hok.na47
  have hnp : np ≤ 140737488351232 := hok.np47
  have hnr : nr ≤ 140737488351232 := hok.nr47
  have HRn : Hid (∀ i, i < nr → rl i ≤ 140737488351232) := hok.rl47
  have HAr : Hid (∀ d, XL d w aa na args) := ha
  have HXr : Hid (XR w ra nr rl rows) := hr
  have HXp : Hid (∀ d, SL d w pa np (part S)) := hp
  have HI := qa0 ih
  clear ha hr hp hok ih
  have e0 := qbv (x := nm)
  have HVn := qa0 (Vn.new w 58 #[.int .u8 (k : Int), .string nm, .slice aa na ca, .slice pa np cp, .slice ra nr cr, .int .i64 ln, .int .i64 cl])
  have c0 := HVn.out.cell 0 _ rfl
  have c1 := HVn.out.cell 1 _ rfl
  have c2 := HVn.out.cell 2 _ rfl
  have c3 := HVn.out.cell 3 _ rfl
  have c4 := HVn.out.cell 4 _ rfl
  have qd2 : (((d + 1 : Nat) : Int) == 0) = false := by simp; omega
  have qd1 : ((d + 1 : Nat) : Int) - 1 = (d : Int) := by omega
  obtain ⟨r, Hr⟩ : ∃ r, Hid (sleft (d + 1) S left = r) := ⟨_, rfl⟩
  rw [Hr.out]
  by_cases hl : left - 1 < 0
  ·obtain rfl : r = -1 := by rw [← Hr.out, qak, if_pos hl]
   have q : decide (left - 1 < 0) = true := decide_eq_true hl
   show Calls _ _ _ _ fun e w' => e = .returned (.int .i64 (-1)) ∧ _
   go_enter Tryd.func48, Tryd.ntmps48
   go_wp2
   go_ret
   exact ⟨rfl, jlow _ _⟩
  have q : decide (left - 1 < 0) = false := decide_eq_false hl
  have HNo : Hid (swant ⟨k, nm, na, args, np, nr, rl, rows, ln, cl⟩ = false → r = -1) := fun h => by rw [← Hr.out]; exact sleft_no HT h (by omega)
  have HNm : Hid (∀ w' : World, Calls Tryd.prog 44 #[.string nm] w' fun e w'' => e = .returned (.bool (isN nm)) ∧ Below w'.heap.size w' w'') := fun w' => qbr w' nm _ rfl hx
  obtain ⟨A1, HA1⟩ : ∃ A1, Hid (xks (xleft 16) args na (left - 1) = A1) := ⟨_, rfl⟩
  obtain ⟨L2, HL2e⟩ : ∃ L2, Hid (rks rl rows nr A1 = L2) := ⟨_, rfl⟩
  have hA1 := qb3 (d := 16) (F := args) (left := left - 1) (by omega) na
  rw [HA1.out] at hA1
  have hL2 := qb4 (len := rl) (F := rows) (left := A1) (by omega) nr
  rw [HL2e.out] at hL2
  have HE3 : Hid (swant ⟨k, nm, na, args, np, nr, rl, rows, ln, cl⟩ = true → sks (sleft d) (part S) np L2 = r) := fun h => by
   rw [← Hr.out, qak, if_neg (by omega), HT, if_neg (by rw [h]; simp)]
   show sks (sleft d) (part S) np L2 = sks (sleft d) (part S) np (rks rl rows nr (xks (xleft 16) args na (left - 1)))
   rw [HA1.out, HL2e.out]
  have HBad : Hid (∀ i, i < nr → (rl i < 1 ∨ 64 < rl i) → L2 = -1) := fun i hi hb => by rw [← HL2e.out]; exact qfc (by omega) hi hb
  have HNeg : Hid (L2 = -1 → sks (sleft d) (part S) np L2 = -1) := fun h => by
   rw [h]
   have := qal (f := sleft d) (F := part S) (k := 0) (left := -1) (by show (-1 : Int) < 0; omega) np
   rw [Nat.zero_add] at this
   rw [this]
   rfl
  have HCa : Hid (∀ w' : World, Below w.heap.size w w' → Calls Tryd.prog 49 #[.slice aa na ca, .int .i64 (left - 1)] w' fun e w'' => e = .returned (.int .i64 A1) ∧ Below w'.heap.size w' w'') := fun w' hb => by
   rw [← HA1.out]
   exact qbh w' aa na ca args (left - 1) (fun d => (HAr.out d).later hb) hna (by omega) (by omega)
  have HRow : Hid (∀ (w' : World) (i : Nat) (a' : Option Addr) (c : Nat) (q q2 : Int), i < nr → Below w.heap.size w w' → (∀ d, XL d w a' (rl i) (rows i)) → rks rl rows i A1 = q → rks rl rows (i + 1) A1 = q2 → 1 ≤ rl i → rl i ≤ 64 → Calls Tryd.prog 49 #[.slice a' (rl i) c, .int .i64 q] w' fun e w'' => e = .returned (.int .i64 q2) ∧ Below w'.heap.size w' w'') := fun w' i a' c q q2 hi hb hl e1 e2 g1 g2 => by
   have hlow := qb4 (len := rl) (F := rows) (left := A1) (by omega) i
   rw [← e2, qdz (by omega) i g1 g2, e1]
   exact qbh w' a' _ c (rows i) q (fun d => (hl d).later hb) (by omega) (by omega) (by omega)
  have HPart : Hid (∀ (w' : World) (i : Nat) (v : Value) (q q2 : Int), i < np → Below w.heap.size w w' → SV w v (part S i) → sks (sleft d) (part S) i L2 = q → sks (sleft d) (part S) (i + 1) L2 = q2 → Calls Tryd.prog 48 #[v, .int .i64 q, .int .i64 (d : Int)] w' fun e w'' => e = .returned (.int .i64 q2) ∧ Below w'.heap.size w' w'') := fun w' i v q q2 hi hb hv e1 e2 => by
   have hlow := qbx (d := d) (F := part S) (left := L2) (by omega) i
   rw [← e2, qe0 (by omega) i, e1]
   exact HI.out w' (part S i) v q (by omega) (hv.later hb) (by omega) (by omega)
  have HBnd : Hid (∀ i, -1 ≤ rks rl rows i A1 ∧ rks rl rows i A1 ≤ 8192) := fun i => by have := qb4 (len := rl) (F := rows) (left := A1) (by omega) i; omega
  have HBn2 : Hid (∀ i, -1 ≤ sks (sleft d) (part S) i L2 ∧ sks (sleft d) (part S) i L2 ≤ 8192) := fun i => by have := qbx (d := d) (F := part S) (left := L2) (by omega) i; omega
  have HSw : Hid (swant ⟨k, nm, na, args, np, nr, rl, rows, ln, cl⟩ = (skk k && ((!decide (nm.size = 0)) == decide (k = 1)) && (decide (0 < nr) == skr k) && decide (na = ska k) && decide (np = skp k) && (!decide (k = 1) || isN nm) && decide (nr ≤ 64))) := (qcn _).symm
  clear Hr HA1 HAr HI HT
  obtain ⟨sw, Hsw0⟩ : ∃ sw, Hid (swant ⟨k, nm, na, args, np, nr, rl, rows, ln, cl⟩ = sw) := ⟨_, rfl⟩
  rw [Hsw0.out] at HNo HE3 HSw
  clear Hsw0
  obtain ⟨b0, Hb0⟩ : ∃ b0, Hid (decide (nm.size = 0) = b0) := ⟨_, rfl⟩
  rw [Hb0.out] at e0 HSw
  clear Hb0
  generalize isN nm = nb at *
  by_cases hk1 : k = 1
  ·exact rsh_1 d w S left k na ca np cp nr cr nm aa pa ra rl rows ln cl r A1 L2 sw b0 nb hd h1 h2 q hA1 hL2 e0 hna hnp hnr HRn HXr HXp HNo HE3 HL2e HBad HNeg HNm HCa HRow HPart HBnd HBn2 HSw hk1
  by_cases hk2 : k = 2
  ·exact rsh_2 d w S left k na ca np cp nr cr nm aa pa ra rl rows ln cl r A1 L2 sw b0 nb hd h1 h2 q hA1 hL2 e0 hna hnp hnr HRn HXr HXp HNo HE3 HL2e HBad HNeg HNm HCa HRow HPart HBnd HBn2 HSw hk2
  by_cases hk3 : k = 3
  ·exact rsh_3 d w S left k na ca np cp nr cr nm aa pa ra rl rows ln cl r A1 L2 sw b0 nb hd h1 h2 q hA1 hL2 e0 hna hnp hnr HRn HXr HXp HNo HE3 HL2e HBad HNeg HNm HCa HRow HPart HBnd HBn2 HSw hk3
  by_cases hk4 : k = 4
  ·exact rsh_4 d w S left k na ca np cp nr cr nm aa pa ra rl rows ln cl r A1 L2 sw b0 nb hd h1 h2 q hA1 hL2 e0 hna hnp hnr HRn HXr HXp HNo HE3 HL2e HBad HNeg HNm HCa HRow HPart HBnd HBn2 HSw hk4
  by_cases hk5 : k = 5
  ·exact rsh_5 d w S left k na ca np cp nr cr nm aa pa ra rl rows ln cl r A1 L2 sw b0 nb hd h1 h2 q hA1 hL2 e0 hna hnp hnr HRn HXr HXp HNo HE3 HL2e HBad HNeg HNm HCa HRow HPart HBnd HBn2 HSw hk5
  by_cases hk6 : k = 6
  ·exact rsh_6 d w S left k na ca np cp nr cr nm aa pa ra rl rows ln cl r A1 L2 sw b0 nb hd h1 h2 q hA1 hL2 e0 hna hnp hnr HRn HXr HXp HNo HE3 HL2e HBad HNeg HNm HCa HRow HPart HBnd HBn2 HSw hk6
  by_cases hk7 : k = 7
  ·exact rsh_7 d w S left k na ca np cp nr cr nm aa pa ra rl rows ln cl r A1 L2 sw b0 nb hd h1 h2 q hA1 hL2 e0 hna hnp hnr HRn HXr HXp HNo HE3 HL2e HBad HNeg HNm HCa HRow HPart HBnd HBn2 HSw hk7
  by_cases hk8 : k = 8
  ·exact rsh_8 d w S left k na ca np cp nr cr nm aa pa ra rl rows ln cl r A1 L2 sw b0 nb hd h1 h2 q hA1 hL2 e0 hna hnp hnr HRn HXr HXp HNo HE3 HL2e HBad HNeg HNm HCa HRow HPart HBnd HBn2 HSw hk8
  have hsw : sw = false := by
   have hkk : skk k = false := decide_eq_false (by omega)
   rw [HSw.out, hkk]
   rfl
  obtain rfl : r = -1 := HNo.out hsw
  have k1 : ((k : Int) == 1) = false := beq_eq_false_iff_ne.2 (by omega)
  have k2 : ((k : Int) == 2) = false := beq_eq_false_iff_ne.2 (by omega)
  have k3 : ((k : Int) == 3) = false := beq_eq_false_iff_ne.2 (by omega)
  have k4 : ((k : Int) == 4) = false := beq_eq_false_iff_ne.2 (by omega)
  have k5 : ((k : Int) == 5) = false := beq_eq_false_iff_ne.2 (by omega)
  have k6 : ((k : Int) == 6) = false := beq_eq_false_iff_ne.2 (by omega)
  have k7 : ((k : Int) == 7) = false := beq_eq_false_iff_ne.2 (by omega)
  have k8 : ((k : Int) == 8) = false := beq_eq_false_iff_ne.2 (by omega)
  clear HNo HE3 HBad HNeg HCa HRow HPart HBnd HBn2 HSw hsw HL2e
  cases b0 with
  | true =>
   show Calls _ _ _ _ fun e w' => e = .returned (.int .i64 (-1)) ∧ _
   go_enter Tryd.func48, Tryd.ntmps48
   go_wp2
   go_ret
   exact ⟨rfl, jlow _ _⟩
  | false =>
   show Calls _ _ _ _ fun e w' => e = .returned (.int .i64 (-1)) ∧ _
   go_enter Tryd.func48, Tryd.ntmps48
   go_wp2
   go_ret
   exact ⟨rfl, jlow _ _⟩
end Go.Proofs.YtemhodenkgngmaaDoor
