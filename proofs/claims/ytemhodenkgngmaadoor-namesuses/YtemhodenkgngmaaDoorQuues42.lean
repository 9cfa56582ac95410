/-
  Contracts of the tree's reference: shape, kind by kind.
-/
import Derived.Test.YtemhodenkgngmaaDoorQuues00
import Derived.Test.YtemhodenkgngmaaDoorQuues10
import Derived.Test.YtemhodenkgngmaaDoorQuues06
set_option maxRecDepth 100000
set_option maxHeartbeats 16000000
namespace Go.Proofs.YtemhodenkgngmaaDoor
open Go.RowKit
set_option linter.unusedVariables false in
theorem rsh_5 (d : Nat) (w : World) (S : St) (left : Int) (k na ca np cp nr cr : Nat) (nm : ByteArray) (aa pa ra : Option Addr) (rl : Nat → Nat) (rows : Nat → Nat → Xt) (ln cl : Int) (r A1 L2 : Int) (sw b0 nb : Bool)
  (hd : d + 1 ≤ 16) (h1 : -1 ≤ left) (h2 : left ≤ 8192) (q : decide (left - 1 < 0) = false) (hA1 : -1 ≤ A1 ∧ A1 ≤ left - 1) (hL2 : -1 ≤ L2 ∧ L2 ≤ A1) (e0 : (nm.toList == []) = b0) (hna47 : na ≤ 140737488351232) (hnp47 : np ≤ 140737488351232) (hnr47 : nr ≤ 140737488351232)
  (HRn : Hid (∀ i, i < nr → rl i ≤ 140737488351232)) (HXr : Hid (XR w ra nr rl rows)) (HXp : Hid (∀ d, SL d w pa np (part S)))
  (HNo : Hid (sw = false → r = -1)) (HE3 : Hid (sw = true → sks (sleft d) (part S) np L2 = r)) (HL2e : Hid (rks rl rows nr A1 = L2))
  (HBad : Hid (∀ i, i < nr → (rl i < 1 ∨ 64 < rl i) → L2 = -1)) (HNeg : Hid (L2 = -1 → sks (sleft d) (part S) np L2 = -1))
  (HNm : Hid (∀ w' : World, Calls Tryd.prog 44 #[.string nm] w' fun e w'' => e = .returned (.bool nb) ∧ Below w'.heap.size w' w''))
  (HCa : Hid (∀ w' : World, Below w.heap.size w w' → Calls Tryd.prog 49 #[.slice aa na ca, .int .i64 (left - 1)] w' fun e w'' => e = .returned (.int .i64 A1) ∧ Below w'.heap.size w' w''))
  (HRow : Hid (∀ (w' : World) (i : Nat) (a' : Option Addr) (c : Nat) (q q2 : Int), i < nr → Below w.heap.size w w' → (∀ d, XL d w a' (rl i) (rows i)) → rks rl rows i A1 = q → rks rl rows (i + 1) A1 = q2 → 1 ≤ rl i → rl i ≤ 64 → Calls Tryd.prog 49 #[.slice a' (rl i) c, .int .i64 q] w' fun e w'' => e = .returned (.int .i64 q2) ∧ Below w'.heap.size w' w''))
  (HPart : Hid (∀ (w' : World) (i : Nat) (v : Value) (q q2 : Int), i < np → Below w.heap.size w w' → SV w v (part S i) → sks (sleft d) (part S) i L2 = q → sks (sleft d) (part S) (i + 1) L2 = q2 → Calls Tryd.prog 48 #[v, .int .i64 q, .int .i64 (d : Int)] w' fun e w'' => e = .returned (.int .i64 q2) ∧ Below w'.heap.size w' w''))
  (HBnd : Hid (∀ i, -1 ≤ rks rl rows i A1 ∧ rks rl rows i A1 ≤ 8192)) (HBn2 : Hid (∀ i, -1 ≤ sks (sleft d) (part S) i L2 ∧ sks (sleft d) (part S) i L2 ≤ 8192))
  (HSw : Hid (sw = (skk k && ((!b0) == decide (k = 1)) && (decide (0 < nr) == skr k) && decide (na = ska k) && decide (np = skp k) && (!decide (k = 1) || nb) && decide (nr ≤ 64)))) (hk : k = 5) :
  Calls Tryd.prog 48 #[.agg #[.int .u8 (k : Int), .string nm, .slice aa na ca, .slice pa np cp, .slice ra nr cr, .int .i64 ln, .int .i64 cl], .int .i64 left, .int .i64 ((d + 1 : Nat) : Int)] w fun e w' => e = .returned (.int .i64 r) ∧ Below w.heap.size w w' := by
 have HVn := qa0 (Vn.new w 58 #[.int .u8 (k : Int), .string nm, .slice aa na ca, .slice pa np cp, .slice ra nr cr, .int .i64 ln, .int .i64 cl])
 have c0 := HVn.out.cell 0 _ rfl
 have c1 := HVn.out.cell 1 _ rfl
 have c2 := HVn.out.cell 2 _ rfl
 have c3 := HVn.out.cell 3 _ rfl
 have c4 := HVn.out.cell 4 _ rfl
 have qd2 : (((d + 1 : Nat) : Int) == 0) = false := by simp; omega
 have qd1 : ((d + 1 : Nat) : Int) - 1 = (d : Int) := by omega
 have hsw : sw = (true && ((!b0) == false) && (decide (0 < nr) == false) && decide (na = 3) && decide (np = 0) && (true || nb) && decide (nr ≤ 64)) := by rw [HSw.out, hk]; rfl
 have k1 : ((k : Int) == 1) = false := by rw [hk]; rfl
 have k2 : ((k : Int) == 2) = false := by rw [hk]; rfl
 have k3 : ((k : Int) == 3) = false := by rw [hk]; rfl
 have k4 : ((k : Int) == 4) = false := by rw [hk]; rfl
 have k5 : ((k : Int) == 5) = true := by rw [hk]; rfl
 have k6 : ((k : Int) == 6) = false := by rw [hk]; rfl
 have k7 : ((k : Int) == 7) = false := by rw [hk]; rfl
 have k8 : ((k : Int) == 8) = false := by rw [hk]; rfl
 have kn8 : ((k : Int) != 8) = true := by rw [hk]; rfl
 clear hk
 cases b0 with
 | false =>
  obtain rfl : r = -1 := HNo.out (by rw [hsw]; simp)
  clear HNo HE3 HBad HNeg HCa HRow HPart HBnd HBn2 HSw hsw HL2e
  show Calls _ _ _ _ fun e w' => e = .returned (.int .i64 (-1)) ∧ _
  go_enter Tryd.func48, Tryd.ntmps48
  go_wp2
  go_ret
  exact ⟨rfl, jlow _ _⟩
 | true =>
  by_cases hna : na = 3
  ·have qna : ((na : Int) == 3) = true := by rw [hna]; rfl
   have qqna : ((na : Int) != 3) = false := by rw [bne, qna]; rfl
   by_cases hnp : np = 0
   ·have qnp : ((np : Int) == 0) = true := by rw [hnp]; rfl
    have qqnp : ((np : Int) != 0) = false := by rw [bne, qnp]; rfl
    by_cases h0r : 0 < nr
    ·have qr : decide ((0 : Int) < (nr : Int)) = true := decide_eq_true (by omega)
     have qr2 : decide (0 < nr) = true := decide_eq_true h0r
     obtain rfl : r = -1 := HNo.out (by rw [hsw, decide_eq_true h0r]; simp)
     clear HNo HE3 HBad HNeg HCa HRow HPart HBnd HBn2 HSw hsw HL2e
     show Calls _ _ _ _ fun e w' => e = .returned (.int .i64 (-1)) ∧ _
     go_enter Tryd.func48, Tryd.ntmps48
     go_wp2
     go_ret
     exact ⟨rfl, jlow _ _⟩
    ·have qr : decide ((0 : Int) < (nr : Int)) = false := decide_eq_false (by omega)
     have qr2 : decide (0 < nr) = false := decide_eq_false h0r
     have h64 : nr ≤ 64 := by omega
     have hs : sw = true := by rw [hsw, decide_eq_true hna, decide_eq_true hnp, decide_eq_false h0r, decide_eq_true h64]; rfl
     have HE3 := qa0 (HE3.out hs)
     have HBad : Hid (∀ i, i < nr → (rl i < 1 ∨ 64 < rl i) → r = -1) := fun i hi hb => by rw [← HE3.out]; exact HNeg.out (HBad.out i hi hb)
     have HH : ∃ _ : Unit, np = 0 ∧ nr = 0 := ⟨(), hnp, by omega⟩
     clear HNo HNeg hs hsw HSw hna hnp h0r h64
     show Calls _ _ _ _ fun e w' => e = .returned (.int .i64 r) ∧ _
     go_enter Tryd.func48, Tryd.ntmps48
     go_wp2_with (first
      | (go_at_call 49; refine (HCa.out _ (jlow _ _)).mono ?_; rintro e w3 ⟨rfl, hb3⟩; have HB3 := qa0 (jtwo (jlow _ _) hb3); have HV3 := qa0 (HVn.out.later hb3); clear hb3))
     go_loopw [1, 9] (fun vl vi wr => ∃ (i : Nat) (q : Int), i ≤ nr ∧ vi = .int .i64 (i : Int) ∧ vl = .int .i64 q ∧ Hid (rks rl rows i A1 = q) ∧ Vn wr w.heap.size 58 #[.int .u8 (k : Int), .string nm, .slice aa na ca, .slice pa np cp, .slice ra nr cr, .int .i64 ln, .int .i64 cl] ∧ Below w.heap.size w wr) (fun _ vi _ => nr - (intOf vi).toNat)
     case atStart => exact ⟨0, A1, by omega, rfl, rfl, rfl, HV3.out, HB3.out⟩
     case round =>
      obtain ⟨i, q, hi, rfl, rfl, Hq, hv, hb⟩ := hrel
      have HBr := qa0 hb
      have HVr := qa0 hv
      have c3 := hv.cell 3 _ rfl
      have c4 := hv.cell 4 _ rfl
      have hq := HBnd.out i
      rw [Hq.out] at hq
      obtain rfl : nr = i := by obtain ⟨_, hh⟩ := HH; omega
      obtain rfl : L2 = q := by rw [← HL2e.out]; exact Hq.out
      clear hb hv
      go_wp2
      go_loopw [1, 10] (fun vl vi wr => ∃ (j : Nat) (q : Int), j ≤ np ∧ vi = .int .i64 (j : Int) ∧ vl = .int .i64 q ∧ Hid (sks (sleft d) (part S) j L2 = q) ∧ Vn wr w.heap.size 58 #[.int .u8 (k : Int), .string nm, .slice aa na ca, .slice pa np cp, .slice ra nr cr, .int .i64 ln, .int .i64 cl] ∧ Below w.heap.size w wr) (fun _ vi _ => np - (intOf vi).toNat)
      case atStart => exact ⟨0, L2, by omega, rfl, rfl, rfl, HVr.out, HBr.out⟩
      case round =>
       clear HBr HVr
       obtain ⟨j, q, hj, rfl, rfl, Hq, hv, hb⟩ := hrel
       have HBr := qa0 hb
       have HVr := qa0 hv
       have c3 := hv.cell 3 _ rfl
       have hq := HBn2.out j
       rw [Hq.out] at hq
       obtain rfl : j = np := by obtain ⟨_, hh⟩ := HH; omega
       obtain rfl : r = q := HE3.out.symm.trans Hq.out
       clear hb hv
       go_wp2
       go_ret
       exact ⟨rfl, HBr.out⟩
   ·have qnp : ((np : Int) == 0) = false := beq_eq_false_iff_ne.2 (by omega)
    have qqnp : ((np : Int) != 0) = true := by rw [bne, qnp]; rfl
    obtain rfl : r = -1 := HNo.out (by rw [hsw, decide_eq_false hnp]; simp)
    clear HNo HE3 HBad HNeg HCa HRow HPart HBnd HBn2 HSw hsw HL2e
    show Calls _ _ _ _ fun e w' => e = .returned (.int .i64 (-1)) ∧ _
    go_enter Tryd.func48, Tryd.ntmps48
    go_wp2
    go_ret
    exact ⟨rfl, jlow _ _⟩
  ·have qna : ((na : Int) == 3) = false := beq_eq_false_iff_ne.2 (by omega)
   have qqna : ((na : Int) != 3) = true := by rw [bne, qna]; rfl
   obtain rfl : r = -1 := HNo.out (by rw [hsw, decide_eq_false hna]; simp)
   clear HNo HE3 HBad HNeg HCa HRow HPart HBnd HBn2 HSw hsw HL2e
   show Calls _ _ _ _ fun e w' => e = .returned (.int .i64 (-1)) ∧ _
   go_enter Tryd.func48, Tryd.ntmps48
   go_wp2
   go_ret
   exact ⟨rfl, jlow _ _⟩
set_option linter.unusedVariables false in
theorem rsh_6 (d : Nat) (w : World) (S : St) (left : Int) (k na ca np cp nr cr : Nat) (nm : ByteArray) (aa pa ra : Option Addr) (rl : Nat → Nat) (rows : Nat → Nat → Xt) (ln cl : Int) (r A1 L2 : Int) (sw b0 nb : Bool)
  (hd : d + 1 ≤ 16) (h1 : -1 ≤ left) (h2 : left ≤ 8192) (q : decide (left - 1 < 0) = false) (hA1 : -1 ≤ A1 ∧ A1 ≤ left - 1) (hL2 : -1 ≤ L2 ∧ L2 ≤ A1) (e0 : (nm.toList == []) = b0) (hna47 : na ≤ 140737488351232) (hnp47 : np ≤ 140737488351232) (hnr47 : nr ≤ 140737488351232)
  (HRn : Hid (∀ i, i < nr → rl i ≤ 140737488351232)) (HXr : Hid (XR w ra nr rl rows)) (HXp : Hid (∀ d, SL d w pa np (part S)))
  (HNo : Hid (sw = false → r = -1)) (HE3 : Hid (sw = true → sks (sleft d) (part S) np L2 = r)) (HL2e : Hid (rks rl rows nr A1 = L2))
  (HBad : Hid (∀ i, i < nr → (rl i < 1 ∨ 64 < rl i) → L2 = -1)) (HNeg : Hid (L2 = -1 → sks (sleft d) (part S) np L2 = -1))
  (HNm : Hid (∀ w' : World, Calls Tryd.prog 44 #[.string nm] w' fun e w'' => e = .returned (.bool nb) ∧ Below w'.heap.size w' w''))
  (HCa : Hid (∀ w' : World, Below w.heap.size w w' → Calls Tryd.prog 49 #[.slice aa na ca, .int .i64 (left - 1)] w' fun e w'' => e = .returned (.int .i64 A1) ∧ Below w'.heap.size w' w''))
  (HRow : Hid (∀ (w' : World) (i : Nat) (a' : Option Addr) (c : Nat) (q q2 : Int), i < nr → Below w.heap.size w w' → (∀ d, XL d w a' (rl i) (rows i)) → rks rl rows i A1 = q → rks rl rows (i + 1) A1 = q2 → 1 ≤ rl i → rl i ≤ 64 → Calls Tryd.prog 49 #[.slice a' (rl i) c, .int .i64 q] w' fun e w'' => e = .returned (.int .i64 q2) ∧ Below w'.heap.size w' w''))
  (HPart : Hid (∀ (w' : World) (i : Nat) (v : Value) (q q2 : Int), i < np → Below w.heap.size w w' → SV w v (part S i) → sks (sleft d) (part S) i L2 = q → sks (sleft d) (part S) (i + 1) L2 = q2 → Calls Tryd.prog 48 #[v, .int .i64 q, .int .i64 (d : Int)] w' fun e w'' => e = .returned (.int .i64 q2) ∧ Below w'.heap.size w' w''))
  (HBnd : Hid (∀ i, -1 ≤ rks rl rows i A1 ∧ rks rl rows i A1 ≤ 8192)) (HBn2 : Hid (∀ i, -1 ≤ sks (sleft d) (part S) i L2 ∧ sks (sleft d) (part S) i L2 ≤ 8192))
  (HSw : Hid (sw = (skk k && ((!b0) == decide (k = 1)) && (decide (0 < nr) == skr k) && decide (na = ska k) && decide (np = skp k) && (!decide (k = 1) || nb) && decide (nr ≤ 64)))) (hk : k = 6) :
  Calls Tryd.prog 48 #[.agg #[.int .u8 (k : Int), .string nm, .slice aa na ca, .slice pa np cp, .slice ra nr cr, .int .i64 ln, .int .i64 cl], .int .i64 left, .int .i64 ((d + 1 : Nat) : Int)] w fun e w' => e = .returned (.int .i64 r) ∧ Below w.heap.size w w' := by
 have HVn := qa0 (Vn.new w 58 #[.int .u8 (k : Int), .string nm, .slice aa na ca, .slice pa np cp, .slice ra nr cr, .int .i64 ln, .int .i64 cl])
 have c0 := HVn.out.cell 0 _ rfl
 have c1 := HVn.out.cell 1 _ rfl
 have c2 := HVn.out.cell 2 _ rfl
 have c3 := HVn.out.cell 3 _ rfl
 have c4 := HVn.out.cell 4 _ rfl
 have qd2 : (((d + 1 : Nat) : Int) == 0) = false := by simp; omega
 have qd1 : ((d + 1 : Nat) : Int) - 1 = (d : Int) := by omega
 have hsw : sw = (true && ((!b0) == false) && (decide (0 < nr) == false) && decide (na = 0) && decide (np = 2) && (true || nb) && decide (nr ≤ 64)) := by rw [HSw.out, hk]; rfl
 have k1 : ((k : Int) == 1) = false := by rw [hk]; rfl
 have k2 : ((k : Int) == 2) = false := by rw [hk]; rfl
 have k3 : ((k : Int) == 3) = false := by rw [hk]; rfl
 have k4 : ((k : Int) == 4) = false := by rw [hk]; rfl
 have k5 : ((k : Int) == 5) = false := by rw [hk]; rfl
 have k6 : ((k : Int) == 6) = true := by rw [hk]; rfl
 have k7 : ((k : Int) == 7) = false := by rw [hk]; rfl
 have k8 : ((k : Int) == 8) = false := by rw [hk]; rfl
 have kn8 : ((k : Int) != 8) = true := by rw [hk]; rfl
 clear hk
 cases b0 with
 | false =>
  obtain rfl : r = -1 := HNo.out (by rw [hsw]; simp)
  clear HNo HE3 HBad HNeg HCa HRow HPart HBnd HBn2 HSw hsw HL2e
  show Calls _ _ _ _ fun e w' => e = .returned (.int .i64 (-1)) ∧ _
  go_enter Tryd.func48, Tryd.ntmps48
  go_wp2
  go_ret
  exact ⟨rfl, jlow _ _⟩
 | true =>
  by_cases hna : na = 0
  ·have qna : ((na : Int) == 0) = true := by rw [hna]; rfl
   have qqna : ((na : Int) != 0) = false := by rw [bne, qna]; rfl
   by_cases hnp : np = 2
   ·have qnp : ((np : Int) == 2) = true := by rw [hnp]; rfl
    have qqnp : ((np : Int) != 2) = false := by rw [bne, qnp]; rfl
    by_cases h0r : 0 < nr
    ·have qr : decide ((0 : Int) < (nr : Int)) = true := decide_eq_true (by omega)
     have qr2 : decide (0 < nr) = true := decide_eq_true h0r
     obtain rfl : r = -1 := HNo.out (by rw [hsw, decide_eq_true h0r]; simp)
     clear HNo HE3 HBad HNeg HCa HRow HPart HBnd HBn2 HSw hsw HL2e
     show Calls _ _ _ _ fun e w' => e = .returned (.int .i64 (-1)) ∧ _
     go_enter Tryd.func48, Tryd.ntmps48
     go_wp2
     go_ret
     exact ⟨rfl, jlow _ _⟩
    ·have qr : decide ((0 : Int) < (nr : Int)) = false := decide_eq_false (by omega)
     have qr2 : decide (0 < nr) = false := decide_eq_false h0r
     have h64 : nr ≤ 64 := by omega
     have hs : sw = true := by rw [hsw, decide_eq_true hna, decide_eq_true hnp, decide_eq_false h0r, decide_eq_true h64]; rfl
     have HE3 := qa0 (HE3.out hs)
     have HBad : Hid (∀ i, i < nr → (rl i < 1 ∨ 64 < rl i) → r = -1) := fun i hi hb => by rw [← HE3.out]; exact HNeg.out (HBad.out i hi hb)
     have HH : ∃ _ : Unit, np = 2 ∧ nr = 0 := ⟨(), hnp, by omega⟩
     clear HNo HNeg hs hsw HSw hna hnp h0r h64
     show Calls _ _ _ _ fun e w' => e = .returned (.int .i64 r) ∧ _
     go_enter Tryd.func48, Tryd.ntmps48
     go_wp2_with (first
      | (go_at_call 49; refine (HCa.out _ (jlow _ _)).mono ?_; rintro e w3 ⟨rfl, hb3⟩; have HB3 := qa0 (jtwo (jlow _ _) hb3); have HV3 := qa0 (HVn.out.later hb3); clear hb3))
     go_loopw [1, 9] (fun vl vi wr => ∃ (i : Nat) (q : Int), i ≤ nr ∧ vi = .int .i64 (i : Int) ∧ vl = .int .i64 q ∧ Hid (rks rl rows i A1 = q) ∧ Vn wr w.heap.size 58 #[.int .u8 (k : Int), .string nm, .slice aa na ca, .slice pa np cp, .slice ra nr cr, .int .i64 ln, .int .i64 cl] ∧ Below w.heap.size w wr) (fun _ vi _ => nr - (intOf vi).toNat)
     case atStart => exact ⟨0, A1, by omega, rfl, rfl, rfl, HV3.out, HB3.out⟩
     case round =>
      obtain ⟨i, q, hi, rfl, rfl, Hq, hv, hb⟩ := hrel
      have HBr := qa0 hb
      have HVr := qa0 hv
      have c3 := hv.cell 3 _ rfl
      have c4 := hv.cell 4 _ rfl
      have hq := HBnd.out i
      rw [Hq.out] at hq
      obtain rfl : nr = i := by obtain ⟨_, hh⟩ := HH; omega
      obtain rfl : L2 = q := by rw [← HL2e.out]; exact Hq.out
      clear hb hv
      go_wp2
      go_loopw [1, 10] (fun vl vi wr => ∃ (j : Nat) (q : Int), j ≤ np ∧ vi = .int .i64 (j : Int) ∧ vl = .int .i64 q ∧ Hid (sks (sleft d) (part S) j L2 = q) ∧ Vn wr w.heap.size 58 #[.int .u8 (k : Int), .string nm, .slice aa na ca, .slice pa np cp, .slice ra nr cr, .int .i64 ln, .int .i64 cl] ∧ Below w.heap.size w wr) (fun _ vi _ => np - (intOf vi).toNat)
      case atStart => exact ⟨0, L2, by omega, rfl, rfl, rfl, HVr.out, HBr.out⟩
      case round =>
       clear HBr HVr
       obtain ⟨j, q, hj, rfl, rfl, Hq, hv, hb⟩ := hrel
       have HBr := qa0 hb
       have HVr := qa0 hv
       have c3 := hv.cell 3 _ rfl
       have hq := HBn2.out j
       rw [Hq.out] at hq
       by_cases hlt2 : j < np
       ·have p0 : (0 : Int) ≤ (j : Int) := by omega
        have p1 : (j : Int) < (np : Int) := by omega
        by_cases hq0 : 0 ≤ q
        ·have qq : decide (0 ≤ q) = true := decide_eq_true hq0
         obtain ⟨b, o, kk, na1, np1, nr1, ll, cc, nx, aa1, pa1, ra1, ca1, cp1, cr1, rfl, hkid, hcl⟩ := SL.at_ HXp.out (i := j) hlt2
         obtain ⟨k0, k1, k2, k3, k4, k5, k6⟩ := hcl _ hb
         obtain ⟨q2, Hq2⟩ : ∃ q2, Hid (sks (sleft d) (part S) (j + 1) L2 = q2) := ⟨_, rfl⟩
         have HCr := qa0 (fun w' hb => HPart.out w' j _ q q2 hlt2 hb hkid Hq.out Hq2.out)
         clear hb hkid hcl hv
         go_wp2_with (go_at_call 48; refine (HCr.out _ HBr.out).mono ?_; rintro e w4 ⟨rfl, hb4⟩; have HB4 := qa0 (jtwo HBr.out hb4); have HV4 := qa0 (HVr.out.later hb4); clear hb4)
         exact ⟨⟨j + 1, q2, by omega, by go_num, rfl, Hq2, HV4.out, HB4.out⟩, by simp [intOf]; omega⟩
        ·have qq : decide (0 ≤ q) = false := decide_eq_false hq0
         obtain rfl : r = q := by
          rw [← HE3.out]
          have h := qal (f := sleft d) (F := part S) (k := j) (left := L2) (by rw [Hq.out]; omega) (np - j)
          rw [show j + (np - j) = np by omega] at h
          rw [h]
          exact Hq.out
         clear hb hv
         go_wp2
         go_ret
         exact ⟨rfl, HBr.out⟩
       ·obtain rfl : j = np := by omega
        obtain rfl : r = q := HE3.out.symm.trans Hq.out
        clear hb hv
        go_wp2
        go_ret
        exact ⟨rfl, HBr.out⟩
   ·have qnp : ((np : Int) == 2) = false := beq_eq_false_iff_ne.2 (by omega)
    have qqnp : ((np : Int) != 2) = true := by rw [bne, qnp]; rfl
    obtain rfl : r = -1 := HNo.out (by rw [hsw, decide_eq_false hnp]; simp)
    clear HNo HE3 HBad HNeg HCa HRow HPart HBnd HBn2 HSw hsw HL2e
    show Calls _ _ _ _ fun e w' => e = .returned (.int .i64 (-1)) ∧ _
    go_enter Tryd.func48, Tryd.ntmps48
    go_wp2
    go_ret
    exact ⟨rfl, jlow _ _⟩
  ·have qna : ((na : Int) == 0) = false := beq_eq_false_iff_ne.2 (by omega)
   have qqna : ((na : Int) != 0) = true := by rw [bne, qna]; rfl
   obtain rfl : r = -1 := HNo.out (by rw [hsw, decide_eq_false hna]; simp)
   clear HNo HE3 HBad HNeg HCa HRow HPart HBnd HBn2 HSw hsw HL2e
   show Calls _ _ _ _ fun e w' => e = .returned (.int .i64 (-1)) ∧ _
   go_enter Tryd.func48, Tryd.ntmps48
   go_wp2
   go_ret
   exact ⟨rfl, jlow _ _⟩
set_option linter.unusedVariables false in
theorem rsh_7 (d : Nat) (w : World) (S : St) (left : Int) (k na ca np cp nr cr : Nat) (nm : ByteArray) (aa pa ra : Option Addr) (rl : Nat → Nat) (rows : Nat → Nat → Xt) (ln cl : Int) (r A1 L2 : Int) (sw b0 nb : Bool)
  (hd : d + 1 ≤ 16) (h1 : -1 ≤ left) (h2 : left ≤ 8192) (q : decide (left - 1 < 0) = false) (hA1 : -1 ≤ A1 ∧ A1 ≤ left - 1) (hL2 : -1 ≤ L2 ∧ L2 ≤ A1) (e0 : (nm.toList == []) = b0) (hna47 : na ≤ 140737488351232) (hnp47 : np ≤ 140737488351232) (hnr47 : nr ≤ 140737488351232)
  (HRn : Hid (∀ i, i < nr → rl i ≤ 140737488351232)) (HXr : Hid (XR w ra nr rl rows)) (HXp : Hid (∀ d, SL d w pa np (part S)))
  (HNo : Hid (sw = false → r = -1)) (HE3 : Hid (sw = true → sks (sleft d) (part S) np L2 = r)) (HL2e : Hid (rks rl rows nr A1 = L2))
  (HBad : Hid (∀ i, i < nr → (rl i < 1 ∨ 64 < rl i) → L2 = -1)) (HNeg : Hid (L2 = -1 → sks (sleft d) (part S) np L2 = -1))
  (HNm : Hid (∀ w' : World, Calls Tryd.prog 44 #[.string nm] w' fun e w'' => e = .returned (.bool nb) ∧ Below w'.heap.size w' w''))
  (HCa : Hid (∀ w' : World, Below w.heap.size w w' → Calls Tryd.prog 49 #[.slice aa na ca, .int .i64 (left - 1)] w' fun e w'' => e = .returned (.int .i64 A1) ∧ Below w'.heap.size w' w''))
  (HRow : Hid (∀ (w' : World) (i : Nat) (a' : Option Addr) (c : Nat) (q q2 : Int), i < nr → Below w.heap.size w w' → (∀ d, XL d w a' (rl i) (rows i)) → rks rl rows i A1 = q → rks rl rows (i + 1) A1 = q2 → 1 ≤ rl i → rl i ≤ 64 → Calls Tryd.prog 49 #[.slice a' (rl i) c, .int .i64 q] w' fun e w'' => e = .returned (.int .i64 q2) ∧ Below w'.heap.size w' w''))
  (HPart : Hid (∀ (w' : World) (i : Nat) (v : Value) (q q2 : Int), i < np → Below w.heap.size w w' → SV w v (part S i) → sks (sleft d) (part S) i L2 = q → sks (sleft d) (part S) (i + 1) L2 = q2 → Calls Tryd.prog 48 #[v, .int .i64 q, .int .i64 (d : Int)] w' fun e w'' => e = .returned (.int .i64 q2) ∧ Below w'.heap.size w' w''))
  (HBnd : Hid (∀ i, -1 ≤ rks rl rows i A1 ∧ rks rl rows i A1 ≤ 8192)) (HBn2 : Hid (∀ i, -1 ≤ sks (sleft d) (part S) i L2 ∧ sks (sleft d) (part S) i L2 ≤ 8192))
  (HSw : Hid (sw = (skk k && ((!b0) == decide (k = 1)) && (decide (0 < nr) == skr k) && decide (na = ska k) && decide (np = skp k) && (!decide (k = 1) || nb) && decide (nr ≤ 64)))) (hk : k = 7) :
  Calls Tryd.prog 48 #[.agg #[.int .u8 (k : Int), .string nm, .slice aa na ca, .slice pa np cp, .slice ra nr cr, .int .i64 ln, .int .i64 cl], .int .i64 left, .int .i64 ((d + 1 : Nat) : Int)] w fun e w' => e = .returned (.int .i64 r) ∧ Below w.heap.size w w' := by
 have HVn := qa0 (Vn.new w 58 #[.int .u8 (k : Int), .string nm, .slice aa na ca, .slice pa np cp, .slice ra nr cr, .int .i64 ln, .int .i64 cl])
 have c0 := HVn.out.cell 0 _ rfl
 have c1 := HVn.out.cell 1 _ rfl
 have c2 := HVn.out.cell 2 _ rfl
 have c3 := HVn.out.cell 3 _ rfl
 have c4 := HVn.out.cell 4 _ rfl
 have qd2 : (((d + 1 : Nat) : Int) == 0) = false := by simp; omega
 have qd1 : ((d + 1 : Nat) : Int) - 1 = (d : Int) := by omega
 have hsw : sw = (true && ((!b0) == false) && (decide (0 < nr) == false) && decide (na = 0) && decide (np = 2) && (true || nb) && decide (nr ≤ 64)) := by rw [HSw.out, hk]; rfl
 have k1 : ((k : Int) == 1) = false := by rw [hk]; rfl
 have k2 : ((k : Int) == 2) = false := by rw [hk]; rfl
 have k3 : ((k : Int) == 3) = false := by rw [hk]; rfl
 have k4 : ((k : Int) == 4) = false := by rw [hk]; rfl
 have k5 : ((k : Int) == 5) = false := by rw [hk]; rfl
 have k6 : ((k : Int) == 6) = false := by rw [hk]; rfl
 have k7 : ((k : Int) == 7) = true := by rw [hk]; rfl
 have k8 : ((k : Int) == 8) = false := by rw [hk]; rfl
 have kn8 : ((k : Int) != 8) = true := by rw [hk]; rfl
 clear hk
 cases b0 with
 | false =>
  obtain rfl : r = -1 := HNo.out (by rw [hsw]; simp)
  clear HNo HE3 HBad HNeg HCa HRow HPart HBnd HBn2 HSw hsw HL2e
  show Calls _ _ _ _ fun e w' => e = .returned (.int .i64 (-1)) ∧ _
  go_enter Tryd.func48, Tryd.ntmps48
  go_wp2
  go_ret
  exact ⟨rfl, jlow _ _⟩
 | true =>
  by_cases hna : na = 0
  ·have qna : ((na : Int) == 0) = true := by rw [hna]; rfl
   have qqna : ((na : Int) != 0) = false := by rw [bne, qna]; rfl
   by_cases hnp : np = 2
   ·have qnp : ((np : Int) == 2) = true := by rw [hnp]; rfl
    have qqnp : ((np : Int) != 2) = false := by rw [bne, qnp]; rfl
    by_cases h0r : 0 < nr
    ·have qr : decide ((0 : Int) < (nr : Int)) = true := decide_eq_true (by omega)
     have qr2 : decide (0 < nr) = true := decide_eq_true h0r
     obtain rfl : r = -1 := HNo.out (by rw [hsw, decide_eq_true h0r]; simp)
     clear HNo HE3 HBad HNeg HCa HRow HPart HBnd HBn2 HSw hsw HL2e
     show Calls _ _ _ _ fun e w' => e = .returned (.int .i64 (-1)) ∧ _
     go_enter Tryd.func48, Tryd.ntmps48
     go_wp2
     go_ret
     exact ⟨rfl, jlow _ _⟩
    ·have qr : decide ((0 : Int) < (nr : Int)) = false := decide_eq_false (by omega)
     have qr2 : decide (0 < nr) = false := decide_eq_false h0r
     have h64 : nr ≤ 64 := by omega
     have hs : sw = true := by rw [hsw, decide_eq_true hna, decide_eq_true hnp, decide_eq_false h0r, decide_eq_true h64]; rfl
     have HE3 := qa0 (HE3.out hs)
     have HBad : Hid (∀ i, i < nr → (rl i < 1 ∨ 64 < rl i) → r = -1) := fun i hi hb => by rw [← HE3.out]; exact HNeg.out (HBad.out i hi hb)
     have HH : ∃ _ : Unit, np = 2 ∧ nr = 0 := ⟨(), hnp, by omega⟩
     clear HNo HNeg hs hsw HSw hna hnp h0r h64
     show Calls _ _ _ _ fun e w' => e = .returned (.int .i64 r) ∧ _
     go_enter Tryd.func48, Tryd.ntmps48
     go_wp2_with (first
      | (go_at_call 49; refine (HCa.out _ (jlow _ _)).mono ?_; rintro e w3 ⟨rfl, hb3⟩; have HB3 := qa0 (jtwo (jlow _ _) hb3); have HV3 := qa0 (HVn.out.later hb3); clear hb3))
     go_loopw [1, 9] (fun vl vi wr => ∃ (i : Nat) (q : Int), i ≤ nr ∧ vi = .int .i64 (i : Int) ∧ vl = .int .i64 q ∧ Hid (rks rl rows i A1 = q) ∧ Vn wr w.heap.size 58 #[.int .u8 (k : Int), .string nm, .slice aa na ca, .slice pa np cp, .slice ra nr cr, .int .i64 ln, .int .i64 cl] ∧ Below w.heap.size w wr) (fun _ vi _ => nr - (intOf vi).toNat)
     case atStart => exact ⟨0, A1, by omega, rfl, rfl, rfl, HV3.out, HB3.out⟩
     case round =>
      obtain ⟨i, q, hi, rfl, rfl, Hq, hv, hb⟩ := hrel
      have HBr := qa0 hb
      have HVr := qa0 hv
      have c3 := hv.cell 3 _ rfl
      have c4 := hv.cell 4 _ rfl
      have hq := HBnd.out i
      rw [Hq.out] at hq
      obtain rfl : nr = i := by obtain ⟨_, hh⟩ := HH; omega
      obtain rfl : L2 = q := by rw [← HL2e.out]; exact Hq.out
      clear hb hv
      go_wp2
      go_loopw [1, 10] (fun vl vi wr => ∃ (j : Nat) (q : Int), j ≤ np ∧ vi = .int .i64 (j : Int) ∧ vl = .int .i64 q ∧ Hid (sks (sleft d) (part S) j L2 = q) ∧ Vn wr w.heap.size 58 #[.int .u8 (k : Int), .string nm, .slice aa na ca, .slice pa np cp, .slice ra nr cr, .int .i64 ln, .int .i64 cl] ∧ Below w.heap.size w wr) (fun _ vi _ => np - (intOf vi).toNat)
      case atStart => exact ⟨0, L2, by omega, rfl, rfl, rfl, HVr.out, HBr.out⟩
      case round =>
       clear HBr HVr
       obtain ⟨j, q, hj, rfl, rfl, Hq, hv, hb⟩ := hrel
       have HBr := qa0 hb
       have HVr := qa0 hv
       have c3 := hv.cell 3 _ rfl
       have hq := HBn2.out j
       rw [Hq.out] at hq
       by_cases hlt2 : j < np
       ·have p0 : (0 : Int) ≤ (j : Int) := by omega
        have p1 : (j : Int) < (np : Int) := by omega
        by_cases hq0 : 0 ≤ q
        ·have qq : decide (0 ≤ q) = true := decide_eq_true hq0
         obtain ⟨b, o, kk, na1, np1, nr1, ll, cc, nx, aa1, pa1, ra1, ca1, cp1, cr1, rfl, hkid, hcl⟩ := SL.at_ HXp.out (i := j) hlt2
         obtain ⟨k0, k1, k2, k3, k4, k5, k6⟩ := hcl _ hb
         obtain ⟨q2, Hq2⟩ : ∃ q2, Hid (sks (sleft d) (part S) (j + 1) L2 = q2) := ⟨_, rfl⟩
         have HCr := qa0 (fun w' hb => HPart.out w' j _ q q2 hlt2 hb hkid Hq.out Hq2.out)
         clear hb hkid hcl hv
         go_wp2_with (go_at_call 48; refine (HCr.out _ HBr.out).mono ?_; rintro e w4 ⟨rfl, hb4⟩; have HB4 := qa0 (jtwo HBr.out hb4); have HV4 := qa0 (HVr.out.later hb4); clear hb4)
         exact ⟨⟨j + 1, q2, by omega, by go_num, rfl, Hq2, HV4.out, HB4.out⟩, by simp [intOf]; omega⟩
        ·have qq : decide (0 ≤ q) = false := decide_eq_false hq0
         obtain rfl : r = q := by
          rw [← HE3.out]
          have h := qal (f := sleft d) (F := part S) (k := j) (left := L2) (by rw [Hq.out]; omega) (np - j)
          rw [show j + (np - j) = np by omega] at h
          rw [h]
          exact Hq.out
         clear hb hv
         go_wp2
         go_ret
         exact ⟨rfl, HBr.out⟩
       ·obtain rfl : j = np := by omega
        obtain rfl : r = q := HE3.out.symm.trans Hq.out
        clear hb hv
        go_wp2
        go_ret
        exact ⟨rfl, HBr.out⟩
   ·have qnp : ((np : Int) == 2) = false := beq_eq_false_iff_ne.2 (by omega)
    have qqnp : ((np : Int) != 2) = true := by rw [bne, qnp]; rfl
    obtain rfl : r = -1 := HNo.out (by rw [hsw, decide_eq_false hnp]; simp)
    clear HNo HE3 HBad HNeg HCa HRow HPart HBnd HBn2 HSw hsw HL2e
    show Calls _ _ _ _ fun e w' => e = .returned (.int .i64 (-1)) ∧ _
    go_enter Tryd.func48, Tryd.ntmps48
    go_wp2
    go_ret
    exact ⟨rfl, jlow _ _⟩
  ·have qna : ((na : Int) == 0) = false := beq_eq_false_iff_ne.2 (by omega)
   have qqna : ((na : Int) != 0) = true := by rw [bne, qna]; rfl
   obtain rfl : r = -1 := HNo.out (by rw [hsw, decide_eq_false hna]; simp)
   clear HNo HE3 HBad HNeg HCa HRow HPart HBnd HBn2 HSw hsw HL2e
   show Calls _ _ _ _ fun e w' => e = .returned (.int .i64 (-1)) ∧ _
   go_enter Tryd.func48, Tryd.ntmps48
   go_wp2
   go_ret
   exact ⟨rfl, jlow _ _⟩
set_option linter.unusedVariables false in
theorem rsh_8 (d : Nat) (w : World) (S : St) (left : Int) (k na ca np cp nr cr : Nat) (nm : ByteArray) (aa pa ra : Option Addr) (rl : Nat → Nat) (rows : Nat → Nat → Xt) (ln cl : Int) (r A1 L2 : Int) (sw b0 nb : Bool)
  (hd : d + 1 ≤ 16) (h1 : -1 ≤ left) (h2 : left ≤ 8192) (q : decide (left - 1 < 0) = false) (hA1 : -1 ≤ A1 ∧ A1 ≤ left - 1) (hL2 : -1 ≤ L2 ∧ L2 ≤ A1) (e0 : (nm.toList == []) = b0) (hna47 : na ≤ 140737488351232) (hnp47 : np ≤ 140737488351232) (hnr47 : nr ≤ 140737488351232)
  (HRn : Hid (∀ i, i < nr → rl i ≤ 140737488351232)) (HXr : Hid (XR w ra nr rl rows)) (HXp : Hid (∀ d, SL d w pa np (part S)))
  (HNo : Hid (sw = false → r = -1)) (HE3 : Hid (sw = true → sks (sleft d) (part S) np L2 = r)) (HL2e : Hid (rks rl rows nr A1 = L2))
  (HBad : Hid (∀ i, i < nr → (rl i < 1 ∨ 64 < rl i) → L2 = -1)) (HNeg : Hid (L2 = -1 → sks (sleft d) (part S) np L2 = -1))
  (HNm : Hid (∀ w' : World, Calls Tryd.prog 44 #[.string nm] w' fun e w'' => e = .returned (.bool nb) ∧ Below w'.heap.size w' w''))
  (HCa : Hid (∀ w' : World, Below w.heap.size w w' → Calls Tryd.prog 49 #[.slice aa na ca, .int .i64 (left - 1)] w' fun e w'' => e = .returned (.int .i64 A1) ∧ Below w'.heap.size w' w''))
  (HRow : Hid (∀ (w' : World) (i : Nat) (a' : Option Addr) (c : Nat) (q q2 : Int), i < nr → Below w.heap.size w w' → (∀ d, XL d w a' (rl i) (rows i)) → rks rl rows i A1 = q → rks rl rows (i + 1) A1 = q2 → 1 ≤ rl i → rl i ≤ 64 → Calls Tryd.prog 49 #[.slice a' (rl i) c, .int .i64 q] w' fun e w'' => e = .returned (.int .i64 q2) ∧ Below w'.heap.size w' w''))
  (HPart : Hid (∀ (w' : World) (i : Nat) (v : Value) (q q2 : Int), i < np → Below w.heap.size w w' → SV w v (part S i) → sks (sleft d) (part S) i L2 = q → sks (sleft d) (part S) (i + 1) L2 = q2 → Calls Tryd.prog 48 #[v, .int .i64 q, .int .i64 (d : Int)] w' fun e w'' => e = .returned (.int .i64 q2) ∧ Below w'.heap.size w' w''))
  (HBnd : Hid (∀ i, -1 ≤ rks rl rows i A1 ∧ rks rl rows i A1 ≤ 8192)) (HBn2 : Hid (∀ i, -1 ≤ sks (sleft d) (part S) i L2 ∧ sks (sleft d) (part S) i L2 ≤ 8192))
  (HSw : Hid (sw = (skk k && ((!b0) == decide (k = 1)) && (decide (0 < nr) == skr k) && decide (na = ska k) && decide (np = skp k) && (!decide (k = 1) || nb) && decide (nr ≤ 64)))) (hk : k = 8) :
  Calls Tryd.prog 48 #[.agg #[.int .u8 (k : Int), .string nm, .slice aa na ca, .slice pa np cp, .slice ra nr cr, .int .i64 ln, .int .i64 cl], .int .i64 left, .int .i64 ((d + 1 : Nat) : Int)] w fun e w' => e = .returned (.int .i64 r) ∧ Below w.heap.size w w' := by
 have HVn := qa0 (Vn.new w 58 #[.int .u8 (k : Int), .string nm, .slice aa na ca, .slice pa np cp, .slice ra nr cr, .int .i64 ln, .int .i64 cl])
 have c0 := HVn.out.cell 0 _ rfl
 have c1 := HVn.out.cell 1 _ rfl
 have c2 := HVn.out.cell 2 _ rfl
 have c3 := HVn.out.cell 3 _ rfl
 have c4 := HVn.out.cell 4 _ rfl
 have qd2 : (((d + 1 : Nat) : Int) == 0) = false := by simp; omega
 have qd1 : ((d + 1 : Nat) : Int) - 1 = (d : Int) := by omega
 have hsw : sw = (true && ((!b0) == false) && (decide (0 < nr) == true) && decide (na = 0) && decide (np = 0) && (true || nb) && decide (nr ≤ 64)) := by rw [HSw.out, hk]; rfl
 have k1 : ((k : Int) == 1) = false := by rw [hk]; rfl
 have k2 : ((k : Int) == 2) = false := by rw [hk]; rfl
 have k3 : ((k : Int) == 3) = false := by rw [hk]; rfl
 have k4 : ((k : Int) == 4) = false := by rw [hk]; rfl
 have k5 : ((k : Int) == 5) = false := by rw [hk]; rfl
 have k6 : ((k : Int) == 6) = false := by rw [hk]; rfl
 have k7 : ((k : Int) == 7) = false := by rw [hk]; rfl
 have k8 : ((k : Int) == 8) = true := by rw [hk]; rfl
 have kn8 : ((k : Int) != 8) = false := by rw [hk]; rfl
 clear hk
 cases b0 with
 | false =>
  obtain rfl : r = -1 := HNo.out (by rw [hsw]; simp)
  clear HNo HE3 HBad HNeg HCa HRow HPart HBnd HBn2 HSw hsw HL2e
  show Calls _ _ _ _ fun e w' => e = .returned (.int .i64 (-1)) ∧ _
  go_enter Tryd.func48, Tryd.ntmps48
  go_wp2
  go_ret
  exact ⟨rfl, jlow _ _⟩
 | true =>
  by_cases h0r : 0 < nr
  ·have qr : decide ((nr : Int) < 1) = false := decide_eq_false (by omega)
   by_cases h64 : nr ≤ 64
   ·have q64 : decide ((64 : Int) < (nr : Int)) = false := decide_eq_false (by omega)
    have q65 : decide (64 < nr) = false := decide_eq_false (by omega)
    by_cases hna : na = 0
    ·have qna : ((na : Int) == 0) = true := by rw [hna]; rfl
     have qqna : ((na : Int) != 0) = false := by rw [bne, qna]; rfl
     by_cases hnp : np = 0
     ·have qnp : ((np : Int) == 0) = true := by rw [hnp]; rfl
      have qqnp : ((np : Int) != 0) = false := by rw [bne, qnp]; rfl
      have hs : sw = true := by rw [hsw, decide_eq_true hna, decide_eq_true hnp, decide_eq_true h0r, decide_eq_true h64]; rfl
      have HE3 := qa0 (HE3.out hs)
      have HBad : Hid (∀ i, i < nr → (rl i < 1 ∨ 64 < rl i) → r = -1) := fun i hi hb => by rw [← HE3.out]; exact HNeg.out (HBad.out i hi hb)
      have HH : ∃ _ : Unit, np = 0 := ⟨(), hnp⟩
      clear HNo HNeg hs hsw HSw hna hnp h0r h64
      show Calls _ _ _ _ fun e w' => e = .returned (.int .i64 r) ∧ _
      go_enter Tryd.func48, Tryd.ntmps48
      go_wp2_with (first
       | (go_at_call 49; refine (HCa.out _ (jlow _ _)).mono ?_; rintro e w3 ⟨rfl, hb3⟩; have HB3 := qa0 (jtwo (jlow _ _) hb3); have HV3 := qa0 (HVn.out.later hb3); clear hb3))
      go_loopw [1, 9] (fun vl vi wr => ∃ (i : Nat) (q : Int), i ≤ nr ∧ vi = .int .i64 (i : Int) ∧ vl = .int .i64 q ∧ Hid (rks rl rows i A1 = q) ∧ Vn wr w.heap.size 58 #[.int .u8 (k : Int), .string nm, .slice aa na ca, .slice pa np cp, .slice ra nr cr, .int .i64 ln, .int .i64 cl] ∧ Below w.heap.size w wr) (fun _ vi _ => nr - (intOf vi).toNat)
      case atStart => exact ⟨0, A1, by omega, rfl, rfl, rfl, HV3.out, HB3.out⟩
      case round =>
       obtain ⟨i, q, hi, rfl, rfl, Hq, hv, hb⟩ := hrel
       have HBr := qa0 hb
       have HVr := qa0 hv
       have c3 := hv.cell 3 _ rfl
       have c4 := hv.cell 4 _ rfl
       have hq := HBnd.out i
       rw [Hq.out] at hq
       by_cases hgo : i < nr ∧ 0 ≤ q
       ·obtain ⟨hlt, hq0⟩ := hgo
        have p0 : (0 : Int) ≤ (i : Int) := by omega
        have p1 : (i : Int) < (nr : Int) := by omega
        have qq : decide (0 ≤ q) = true := decide_eq_true hq0
        obtain ⟨b, o, a', c, rfl, hc, hxl⟩ := HXr.out i hlt
        have hcc := cell_kept hc HBr.out
        obtain ⟨q2, Hq2⟩ : ∃ q2, Hid (rks rl rows (i + 1) A1 = q2) := ⟨_, rfl⟩
        have HCr := qa0 (fun w' hb => HRow.out w' i a' c q q2 hlt hb hxl Hq.out Hq2.out)
        have HBd := qa0 (HBad.out i hlt)
        have hrl := HRn.out i hlt
        generalize rl i = z at *
        clear hc hxl hb hv
        by_cases hz : z < 1
        ·have qz : decide ((z : Int) < 1) = true := decide_eq_true (by omega)
         obtain rfl : r = -1 := HBd.out (.inl hz)
         go_wp2
         go_ret
         exact ⟨rfl, HBr.out⟩
        ·have qz : decide ((z : Int) < 1) = false := decide_eq_false (by omega)
         by_cases hz2 : 64 < z
         ·have qz2 : decide ((64 : Int) < (z : Int)) = true := decide_eq_true (by omega)
          have qz3 : decide (64 < z) = true := decide_eq_true hz2
          obtain rfl : r = -1 := HBd.out (.inr hz2)
          go_wp2
          go_ret
          exact ⟨rfl, HBr.out⟩
         ·have qz2 : decide ((64 : Int) < (z : Int)) = false := decide_eq_false (by omega)
          have qz3 : decide (64 < z) = false := decide_eq_false hz2
          have HCr2 := qa0 (fun w' hb => HCr.out w' hb (by omega) (by omega))
          go_wp2_with (go_at_call 49; refine (HCr2.out _ HBr.out).mono ?_; rintro e w4 ⟨rfl, hb4⟩; have HB4 := qa0 (jtwo HBr.out hb4); have HV4 := qa0 (HVr.out.later hb4); clear hb4)
          exact ⟨⟨i + 1, q2, by omega, by go_num, rfl, Hq2, HV4.out, HB4.out⟩, by simp [intOf]; omega⟩
       ·by_cases hlt : i < nr
        ·have hqn : q < 0 := by omega
         obtain rfl : L2 = q := by
          rw [← HL2e.out]
          have h := qas (len := rl) (F := rows) (k := i) (left := A1) (by rw [Hq.out]; omega) (nr - i)
          rw [show i + (nr - i) = nr by omega] at h
          rw [h]
          exact Hq.out
         have p0 : (0 : Int) ≤ (i : Int) := by omega
         have p1 : (i : Int) < (nr : Int) := by omega
         have qq : decide (0 ≤ L2) = false := decide_eq_false (by omega)
         clear hb hv
         go_wp2
         go_loopw [1, 10] (fun vl vi wr => ∃ (j : Nat) (q : Int), j ≤ np ∧ vi = .int .i64 (j : Int) ∧ vl = .int .i64 q ∧ Hid (sks (sleft d) (part S) j L2 = q) ∧ Vn wr w.heap.size 58 #[.int .u8 (k : Int), .string nm, .slice aa na ca, .slice pa np cp, .slice ra nr cr, .int .i64 ln, .int .i64 cl] ∧ Below w.heap.size w wr) (fun _ vi _ => np - (intOf vi).toNat)
         case atStart => exact ⟨0, L2, by omega, rfl, rfl, rfl, HVr.out, HBr.out⟩
         case round =>
          clear HBr HVr
          obtain ⟨j, q, hj, rfl, rfl, Hq, hv, hb⟩ := hrel
          have HBr := qa0 hb
          have HVr := qa0 hv
          have c3 := hv.cell 3 _ rfl
          have hq := HBn2.out j
          rw [Hq.out] at hq
          obtain rfl : j = np := by obtain ⟨_, hh⟩ := HH; omega
          obtain rfl : r = q := HE3.out.symm.trans Hq.out
          clear hb hv
          go_wp2
          go_ret
          exact ⟨rfl, HBr.out⟩
        ·obtain rfl : nr = i := by omega
         obtain rfl : L2 = q := by rw [← HL2e.out]; exact Hq.out
         clear hb hv
         go_wp2
         go_loopw [1, 10] (fun vl vi wr => ∃ (j : Nat) (q : Int), j ≤ np ∧ vi = .int .i64 (j : Int) ∧ vl = .int .i64 q ∧ Hid (sks (sleft d) (part S) j L2 = q) ∧ Vn wr w.heap.size 58 #[.int .u8 (k : Int), .string nm, .slice aa na ca, .slice pa np cp, .slice ra nr cr, .int .i64 ln, .int .i64 cl] ∧ Below w.heap.size w wr) (fun _ vi _ => np - (intOf vi).toNat)
         case atStart => exact ⟨0, L2, by omega, rfl, rfl, rfl, HVr.out, HBr.out⟩
         case round =>
          clear HBr HVr
          obtain ⟨j, q, hj, rfl, rfl, Hq, hv, hb⟩ := hrel
          have HBr := qa0 hb
          have HVr := qa0 hv
          have c3 := hv.cell 3 _ rfl
          have hq := HBn2.out j
          rw [Hq.out] at hq
          obtain rfl : j = np := by obtain ⟨_, hh⟩ := HH; omega
          obtain rfl : r = q := HE3.out.symm.trans Hq.out
          clear hb hv
          go_wp2
          go_ret
          exact ⟨rfl, HBr.out⟩
     ·have qnp : ((np : Int) == 0) = false := beq_eq_false_iff_ne.2 (by omega)
      have qqnp : ((np : Int) != 0) = true := by rw [bne, qnp]; rfl
      obtain rfl : r = -1 := HNo.out (by rw [hsw, decide_eq_false hnp]; simp)
      clear HNo HE3 HBad HNeg HCa HRow HPart HBnd HBn2 HSw hsw HL2e
      show Calls _ _ _ _ fun e w' => e = .returned (.int .i64 (-1)) ∧ _
      go_enter Tryd.func48, Tryd.ntmps48
      go_wp2
      go_ret
      exact ⟨rfl, jlow _ _⟩
    ·have qna : ((na : Int) == 0) = false := beq_eq_false_iff_ne.2 (by omega)
     have qqna : ((na : Int) != 0) = true := by rw [bne, qna]; rfl
     obtain rfl : r = -1 := HNo.out (by rw [hsw, decide_eq_false hna]; simp)
     clear HNo HE3 HBad HNeg HCa HRow HPart HBnd HBn2 HSw hsw HL2e
     show Calls _ _ _ _ fun e w' => e = .returned (.int .i64 (-1)) ∧ _
     go_enter Tryd.func48, Tryd.ntmps48
     go_wp2
     go_ret
     exact ⟨rfl, jlow _ _⟩
   ·have q64 : decide ((64 : Int) < (nr : Int)) = true := decide_eq_true (by omega)
    have q65 : decide (64 < nr) = true := decide_eq_true (by omega)
    obtain rfl : r = -1 := HNo.out (by rw [hsw, decide_eq_false h64]; simp)
    clear HNo HE3 HBad HNeg HCa HRow HPart HBnd HBn2 HSw hsw HL2e
    show Calls _ _ _ _ fun e w' => e = .returned (.int .i64 (-1)) ∧ _
    go_enter Tryd.func48, Tryd.ntmps48
    go_wp2
    go_ret
    exact ⟨rfl, jlow _ _⟩
  ·have qr : decide ((nr : Int) < 1) = true := decide_eq_true (by omega)
   obtain rfl : r = -1 := HNo.out (by rw [hsw, decide_eq_false h0r]; simp)
   clear HNo HE3 HBad HNeg HCa HRow HPart HBnd HBn2 HSw hsw HL2e
   show Calls _ _ _ _ fun e w' => e = .returned (.int .i64 (-1)) ∧ _
   go_enter Tryd.func48, Tryd.ntmps48
   go_wp2
   go_ret
   exact ⟨rfl, jlow _ _⟩
end Go.Proofs.YtemhodenkgngmaaDoor
