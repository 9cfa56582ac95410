/-
  Contracts of the program's tree: how many nodes a shape leaves; MayShape.
-/
import Derived.Test.YtemhodenkgngmaaDoorQuues00
import Derived.Test.YtemhodenkgngmaaDoorQuues09
set_option maxRecDepth 100000
set_option maxHeartbeats 16000000
namespace Go.Proofs.YtemhodenkgngmaaDoor
open Go.RowKit
theorem all7 {x y z u v t s : Value} (h0 : x.oneCell' = true) (h1 : y.oneCell' = true) (h2 : z.oneCell' = true) (h3 : u.oneCell' = true) (h4 : v.oneCell' = true) (h5 : t.oneCell' = true) (h6 : s.oneCell' = true) : (#[x, y, z, u, v, t, s] : Array Value).all (·.oneCell') = true := by simp [h0, h1, h2, h3, h4, h5, h6]
theorem qbw {d : Nat} {S : St} {left : Int} (h : left ≤ 0) : sleft d S left = -1 := by
 cases d with
 | zero => rfl
 | succ d => rw [qak, if_pos (by omega)]
theorem rlB_at {rl : Nat → Nat} : ∀ {n : Nat}, rlB rl n = true → ∀ i, i < n → 1 ≤ rl i ∧ rl i ≤ 64 := by
 intro n
 induction n with
 | zero => intro _ i hi; omega
 | succ n ih =>
  intro h i hi
  have h : (rlB rl n && decide (1 ≤ rl n ∧ rl n ≤ 64)) = true := h
  rw [Bool.and_eq_true] at h
  by_cases e : i = n
  ·rw [e]; exact of_decide_eq_true h.2
  ·exact ih h.1 i (by omega)
theorem rlB_not {rl : Nat → Nat} : ∀ {n : Nat}, rlB rl n = false → ∃ i, i < n ∧ (rl i < 1 ∨ 64 < rl i) := by
 intro n
 induction n with
 | zero => intro h; cases h
 | succ n ih =>
  intro h
  have h : (rlB rl n && decide (1 ≤ rl n ∧ rl n ≤ 64)) = false := h
  cases hb : rlB rl n with
  | false => obtain ⟨i, hi, g⟩ := ih hb; exact ⟨i, by omega, g⟩
  | true =>
   rw [hb, Bool.true_and] at h
   have := of_decide_eq_false h
   exact ⟨n, by omega, by omega⟩
theorem qb4 {len : Nat → Nat} {F : Nat → Nat → Xt} {left : Int} (h : -1 ≤ left) : ∀ k, -1 ≤ rks len F k left ∧ rks len F k left ≤ left := by
 intro k
 rcases Int.lt_or_le left 0 with g | g
 ·have := qas (len := len) (F := F) (k := 0) (left := left) g k
  rw [Nat.zero_add] at this
  rw [this]
  show -1 ≤ left ∧ left ≤ left
  omega
 ·exact qcc k left g
theorem qdz {len : Nat → Nat} {F : Nat → Nat → Xt} {left : Int} (h : -1 ≤ left) (k : Nat) (h1 : 1 ≤ len k) (h2 : len k ≤ 64) : rks len F (k + 1) left = xks (xleft 16) (F k) (len k) (rks len F k left) := by
 rw [qdx]
 split
 ·rename_i g
  have h3 := (qb4 (len := len) (F := F) h k).1
  have h4 := qb3 (d := 16) (F := F k) h3 (len k)
  omega
 ·rw [if_neg (by omega)]
theorem qfc {len : Nat → Nat} {F : Nat → Nat → Xt} {left : Int} (h : -1 ≤ left) {n i : Nat} (hi : i < n) (hb : len i < 1 ∨ 64 < len i) : rks len F n left = -1 := by
 have h1 := (qb4 (len := len) (F := F) h i).1
 have h2 : rks len F (i + 1) left = -1 := by
  rw [qdx]
  split
  ·omega
  ·first | rfl | rw [if_pos hb]
 have := qas (len := len) (F := F) (k := i + 1) (left := left) (by omega) (n - (i + 1))
 rw [show i + 1 + (n - (i + 1)) = n by omega] at this
 rw [this, h2]
theorem qbx {d : Nat} {F : Nat → St} {left : Int} (h : -1 ≤ left) : ∀ k, -1 ≤ sks (sleft d) F k left ∧ sks (sleft d) F k left ≤ left := by
 intro k
 rcases Int.lt_or_le left 0 with g | g
 ·have := qal (f := sleft d) (F := F) (k := 0) (left := left) g k
  rw [Nat.zero_add] at this
  rw [this]
  show -1 ≤ left ∧ left ≤ left
  omega
 ·exact qcv (qbe d) k left g
theorem qe0 {d : Nat} {F : Nat → St} {left : Int} (h : -1 ≤ left) (k : Nat) : sks (sleft d) F (k + 1) left = sleft d (F k) (sks (sleft d) F k left) := by
 rw [qdw]
 split
 ·rename_i g
  rw [qbw (by omega)]
  have := (qbx (d := d) (F := F) h k).1
  omega
 ·rfl
theorem qei {d : Nat} {S : St} {left : Int} (h : 0 < left) (hf : (fsB (S []) && rlB (S []).rl (S []).nr) = false) : sleft (d + 1) S left = -1 := by
 rw [qak, if_neg (by omega)]
 cases hs : fsB (S []) with
 | false => rw [qcn] at hs; rw [if_pos hs]
 | true =>
  rw [hs, Bool.true_and] at hf
  rw [qcn] at hs
  rw [if_neg (by rw [hs]; simp)]
  obtain ⟨i, hi, hb⟩ := rlB_not hf
  have h1 := (qb3 (d := 16) (F := (S []).args) (left := left - 1) (by omega) (S []).na).1
  rw [qfc h1 hi hb]
  have := qal (f := sleft d) (F := part S) (k := 0) (left := -1) (by show (-1 : Int) < 0; omega) (S []).np
  rw [Nat.zero_add] at this
  rw [this]
  rfl
theorem tafters : ∀ (d : Nat) (w : World) (S : St) (v : Value) (left : Int), d ≤ 16 → SV w v S → -1 ≤ left → left ≤ 8192 → Wt9 w →
  Calls Tryd.prog 53 #[v, .int .i64 (d : Int), .int .i64 left] w fun e w' => e = .returned (.int .i64 (sleft d S left)) ∧ Below w.heap.size w w' := by
 intro d
 induction d with
 | zero =>
  intro w S v left _ hX h1 h2 _
  obtain ⟨⟨aa, pa, ra, ca, cp, cr, rfl, _⟩, _⟩ := hX
  show Calls _ _ _ _ fun e w' => e = .returned (.int .i64 (-1)) ∧ _
  generalize S [] = l
  obtain ⟨k, nm, na, args, np, nr, rl, rows, ln, cl⟩ := l
  go_enter Tryd.func53, Tryd.ntmps53
  go_wp2
  go_ret
  exact ⟨rfl, jlow _ _⟩
 | succ d ih =>
  intro w S v left hd hX h1 h2 hw
  have HW := qa0 hw
  have HX := qa0 hX
  have HF : Hid (∀ w' : World, Below w.heap.size w w' → Calls Tryd.prog 70 #[v] w' fun e w'' => e = .returned (.bool (fsB (S []) && rlB (S []).rl (S []).nr)) ∧ Below w'.heap.size w' w'') := fun w' hb => tfitss w' S v (HX.out.later hb) (HW.out.later hb)
  obtain ⟨⟨aa, pa, ra, ca, cp, cr, rfl, ha, hr, hp⟩, hok⟩ := hX
  have HAr := qa0 ha
  have HXr := qa0 hr
  have HXp := qa0 hp
  have HOk := qa0 hok
  have HI := qa0 ih
  obtain ⟨r, Hr⟩ : ∃ r, Hid (sleft (d + 1) S left = r) := ⟨_, rfl⟩
  rw [Hr.out]
  have qd : decide (((d + 1 : Nat) : Int) ≤ 0) = false := decide_eq_false (by omega)
  have qd1 : ((d + 1 : Nat) : Int) - 1 = (d : Int) := by omega
  clear hw ha hr hp hok ih
  by_cases hl : left ≤ 0
  ·obtain rfl : r = -1 := by rw [← Hr.out]; exact qbw hl
   have ql : decide (left ≤ 0) = true := decide_eq_true hl
   clear HF HX Hr HAr HXr HXp HOk HI
   generalize S [] = l
   obtain ⟨k, nm, na, args, np, nr, rl, rows, ln, cl⟩ := l
   go_enter Tryd.func53, Tryd.ntmps53
   go_wp2
   go_ret
   exact ⟨rfl, jlow _ _⟩
  have ql : decide (left ≤ 0) = false := decide_eq_false hl
  cases hf : (fsB (S []) && rlB (S []).rl (S []).nr) with
  | false =>
   obtain rfl : r = -1 := by rw [← Hr.out]; exact qei (by omega) hf
   rw [hf] at HF
   clear HX Hr HAr HXr HXp HOk HI hf
   generalize S [] = l at *
   obtain ⟨k, nm, na, args, np, nr, rl, rows, ln, cl⟩ := l
   have hv := Vn.new w 58 #[.int .u8 (k : Int), .string nm, .slice aa na ca, .slice pa np cp, .slice ra nr cr, .int .i64 ln, .int .i64 cl]
   have c0 := hv.cell 0 _ rfl
   have c1 := hv.cell 1 _ rfl
   have c2 := hv.cell 2 _ rfl
   have c3 := hv.cell 3 _ rfl
   have c4 := hv.cell 4 _ rfl
   have c5 := hv.cell 5 _ rfl
   have c6 := hv.cell 6 _ rfl
   clear hv
   go_enter Tryd.func53, Tryd.ntmps53
   go_wp2_with (go_at_call 70; refine (HF.out _ (jlow _ _)).mono ?_; rintro e w2 ⟨rfl, hb2⟩; have HB2 := qa0 (jtwo (jlow _ _) hb2); clear hb2)
   go_ret
   exact ⟨rfl, HB2.out⟩
  | true =>
   rw [hf] at HF
   rw [Bool.and_eq_true] at hf
   have HRl := qa0 (rlB_at hf.2)
   have HS : Hid (swant (S []) = true) := by show swant _ = true; rw [← qcn]; exact hf.1
   have HE : Hid (sks (sleft d) (part S) (S []).np (rks (S []).rl (S []).rows (S []).nr (xks (xleft 16) (S []).args (S []).na (left - 1))) = r) := by
    show _ = _
    rw [← Hr.out, qak, if_neg (by omega), if_neg (by rw [HS.out]; simp)]
   clear HX Hr HS hf
   obtain ⟨l, HT⟩ : ∃ l, Hid (S [] = l) := ⟨_, rfl⟩
   rw [HT.out] at HF HAr HXr HXp HOk HE HRl
   rw [HT.out]
   clear HT
   obtain ⟨k, nm, na, args, np, nr, rl, rows, ln, cl⟩ := l
   have hna : na ≤ 140737488351232 := HOk.out.na47
   have hnp : np ≤ 140737488351232 := HOk.out.np47
   have hnr : nr ≤ 140737488351232 := HOk.out.nr47
   have HRn : Hid (∀ i, i < nr → rl i ≤ 140737488351232) := HOk.out.rl47
   have HAr : Hid (∀ d, XL d w aa na args) := HAr
   have HXr : Hid (XR w ra nr rl rows) := HXr
   have HXp : Hid (∀ d, SL d w pa np (part S)) := HXp
   have HRl : Hid (∀ i, i < nr → 1 ≤ rl i ∧ rl i ≤ 64) := HRl
   have HE : Hid (sks (sleft d) (part S) np (rks rl rows nr (xks (xleft 16) args na (left - 1))) = r) := HE
   clear HOk
   obtain ⟨L1, HL1⟩ : ∃ L1, Hid (xks (xleft 16) args na (left - 1) = L1) := ⟨_, rfl⟩
   obtain ⟨L2, HL2⟩ : ∃ L2, Hid (rks rl rows nr L1 = L2) := ⟨_, rfl⟩
   have HE3 : Hid (sks (sleft d) (part S) np L2 = r) := by show _ = _; rw [← HL2.out, ← HL1.out]; exact HE.out
   clear HE
   have hL1 := qb3 (d := 16) (F := args) (left := left - 1) (by omega) na
   rw [HL1.out] at hL1
   have hL2 := qb4 (len := rl) (F := rows) (left := L1) (by omega) nr
   rw [HL2.out] at hL2
   have HC : Hid (∀ w' : World, Below w.heap.size w w' → Calls Tryd.prog 54 #[.slice aa na ca, .int .i64 16, .int .i64 (left - 1)] w' fun e w'' => e = .returned (.int .i64 L1) ∧ Below w'.heap.size w' w'') := fun w' hb => by
    rw [← HL1.out]
    exact tafterxs 16 (fun w T v l hX g1 g2 hw => tafterx 16 w T v l (by omega) hX g1 g2 hw) w' aa _ ca args (left - 1) (fun d => (HAr.out d).later hb) hna (by omega) (by omega) (HW.out.later hb)
   have HRow : Hid (∀ (w' : World) (i : Nat) (a' : Option Addr) (c : Nat) (q q2 : Int), i < nr → Below w.heap.size w w' → (∀ d, XL d w a' (rl i) (rows i)) → rks rl rows i L1 = q → rks rl rows (i + 1) L1 = q2 → Calls Tryd.prog 54 #[.slice a' (rl i) c, .int .i64 16, .int .i64 q] w' fun e w'' => e = .returned (.int .i64 q2) ∧ Below w'.heap.size w' w'') := fun w' i a' c q q2 hi hb hl e1 e2 => by
    have hlow := qb4 (len := rl) (F := rows) (left := L1) (by omega) i
    rw [← e2, qdz (by omega) i (HRl.out i hi).1 (HRl.out i hi).2, e1]
    exact tafterxs 16 (fun w T v l hX g1 g2 hw => tafterx 16 w T v l (by omega) hX g1 g2 hw) w' a' _ c (rows i) q (fun d => (hl d).later hb) (HRn.out i hi) (by omega) (by omega) (HW.out.later hb)
   have HPart : Hid (∀ (w' : World) (i : Nat) (v : Value) (q q2 : Int), i < np → Below w.heap.size w w' → SV w v (part S i) → sks (sleft d) (part S) i L2 = q → sks (sleft d) (part S) (i + 1) L2 = q2 → Calls Tryd.prog 53 #[v, .int .i64 (d : Int), .int .i64 q] w' fun e w'' => e = .returned (.int .i64 q2) ∧ Below w'.heap.size w' w'') := fun w' i v q q2 hi hb hv e1 e2 => by
    have hlow := qbx (d := d) (F := part S) (left := L2) (by omega) i
    rw [← e2, qe0 (by omega) i, e1]
    exact HI.out w' (part S i) v q (by omega) (hv.later hb) (by omega) (by omega) (HW.out.later hb)
   have HBnd : Hid (∀ i, -1 ≤ rks rl rows i L1 ∧ rks rl rows i L1 ≤ 8192) := fun i => by have := qb4 (len := rl) (F := rows) (left := L1) (by omega) i; omega
   have HBn2 : Hid (∀ i, -1 ≤ sks (sleft d) (part S) i L2 ∧ sks (sleft d) (part S) i L2 ≤ 8192) := fun i => by have := qbx (d := d) (F := part S) (left := L2) (by omega) i; omega
   clear HI HAr HRl HRn
   have HV := qa0 (Vn.new w 58 #[.int .u8 (k : Int), .string nm, .slice aa na ca, .slice pa np cp, .slice ra nr cr, .int .i64 ln, .int .i64 cl])
   have c0 := HV.out.cell 0 _ rfl
   have c1 := HV.out.cell 1 _ rfl
   have c2 := HV.out.cell 2 _ rfl
   have c3 := HV.out.cell 3 _ rfl
   have c4 := HV.out.cell 4 _ rfl
   have c5 := HV.out.cell 5 _ rfl
   have c6 := HV.out.cell 6 _ rfl
   go_enter Tryd.func53, Tryd.ntmps53
   go_wp2_with (first
    | (go_at_call 70; refine (HF.out _ (jlow _ _)).mono ?_; rintro e w2 ⟨rfl, hb2⟩; have HB2 := qa0 (jtwo (jlow _ _) hb2); have HV2 := qa0 (HV.out.later hb2); have d2 := HV2.out.cell 2 _ rfl; clear hb2)
    | (go_at_call 54; refine (HC.out _ HB2.out).mono ?_; rintro e w3 ⟨rfl, hb3⟩; have HB3 := qa0 (jtwo HB2.out hb3); have HV3 := qa0 (HV2.out.later hb3); have d3 := HV3.out.cell 3 _ rfl; have d4 := HV3.out.cell 4 _ rfl; clear hb3))
   go_loopw [2, 30] (fun vl vi wr => ∃ (i : Nat) (q : Int), i ≤ nr ∧ vi = .int .i64 (i : Int) ∧ vl = .int .i64 q ∧ Hid (rks rl rows i L1 = q) ∧ Below w3.heap.size w3 wr) (fun _ vi _ => nr - (intOf vi).toNat)
   case atStart => exact ⟨0, L1, by omega, rfl, rfl, rfl, Below.refl _ _⟩
   case round =>
    obtain ⟨i, q, hi, rfl, rfl, Hq, hb⟩ := hrel
    have HBr := qa0 (jtwo HB3.out hb)
    have HBw := qa0 hb
    have hq := HBnd.out i
    rw [Hq.out] at hq
    by_cases hlt : i < nr
    ·have p0 : (0 : Int) ≤ (i : Int) := by omega
     have p1 : (i : Int) < (nr : Int) := by omega
     obtain ⟨b, o, a', c, rfl, hc, hxl⟩ := HXr.out i hlt
     have hcc := cell_kept hc HBr.out
     obtain ⟨q2, Hq2⟩ : ∃ q2, Hid (rks rl rows (i + 1) L1 = q2) := ⟨_, rfl⟩
     have hq2 := HBnd.out (i + 1)
     rw [Hq2.out] at hq2
     have HCr := qa0 (fun w' hb => HRow.out w' i a' c q q2 hlt hb hxl Hq.out Hq2.out)
     generalize rl i = rli at *
     clear hb hc hxl
     go_wp2_with (go_at_call 54; refine (HCr.out _ HBr.out).mono ?_; rintro e w4 ⟨rfl, hb4⟩; have HB4 := qa0 (jtwo HBw.out hb4); clear hb4)
     exact ⟨⟨i + 1, q2, by omega, by go_num, rfl, Hq2, HB4.out⟩, by simp [intOf]; omega⟩
    ·obtain rfl : i = nr := by omega
     obtain rfl : L2 = q := by rw [← HL2.out]; exact Hq.out
     have HV4 := qa0 (HV3.out.later hb)
     have d3 := HV4.out.cell 3 _ rfl
     clear hb
     go_wp2
     go_loopw [2, 41] (fun vl vi wr => ∃ (j : Nat) (q : Int), j ≤ np ∧ vi = .int .i64 (j : Int) ∧ vl = .int .i64 q ∧ Hid (sks (sleft d) (part S) j L2 = q) ∧ Below w.heap.size w wr) (fun _ vi _ => np - (intOf vi).toNat)
     case atStart => exact ⟨0, L2, by omega, rfl, rfl, rfl, HBr.out⟩
     case round =>
      clear HBr HBw hq
      obtain ⟨j, q, hj, rfl, rfl, Hq, hb⟩ := hrel
      have HBr := qa0 hb
      have hq := HBn2.out j
      rw [Hq.out] at hq
      by_cases hlt2 : j < np
      ·have p0 : (0 : Int) ≤ (j : Int) := by omega
       have p1 : (j : Int) < (np : Int) := by omega
       obtain ⟨b, o, kk, na1, np1, nr1, ll, cc, nx, aa1, pa1, ra1, ca1, cp1, cr1, rfl, hkid, hcl⟩ := SL.at_ HXp.out (i := j) hlt2
       obtain ⟨k0, k1, k2, k3, k4, k5, k6⟩ := hcl _ hb
       obtain ⟨q2, Hq2⟩ : ∃ q2, Hid (sks (sleft d) (part S) (j + 1) L2 = q2) := ⟨_, rfl⟩
       have hq2 := HBn2.out (j + 1)
       rw [Hq2.out] at hq2
       have HCr := qa0 (fun w' hb => HPart.out w' j _ q q2 hlt2 hb hkid Hq.out Hq2.out)
       clear hb hkid hcl
       go_wp2_with (first
        | (refine qa1 rfl 58 _ _ rfl wr.heap.size _ #[.int .u8 (kk : Int), .string nx, .slice aa1 na1 ca1, .slice pa1 np1 cp1, .slice ra1 nr1 cr1, .int .i64 ll, .int .i64 cc] rfl rfl (Vn.new wr _ _) sizeS rfl (all7 rfl rfl rfl rfl rfl rfl rfl) ?_; intro w1 HV1 hg1; have hb1 : Below wr.heap.size wr w1 := (jlow _ _).trans (jbelow hg1.out (jlow _ _).size (fun g e => by cases e; exact Nat.le_refl _)); have HB1 := qa0 (jtwo HBr.out hb1); have m0 := HV1.out.cell 0 _ rfl; have m1 := HV1.out.cell 1 _ rfl; have m2 := HV1.out.cell 2 _ rfl; have m3 := HV1.out.cell 3 _ rfl; have m4 := HV1.out.cell 4 _ rfl; have m5 := HV1.out.cell 5 _ rfl; have m6 := HV1.out.cell 6 _ rfl; clear hg1 hb1)
        | (go_at_call 53; refine (HCr.out _ HB1.out).mono ?_; rintro e w4 ⟨rfl, hb4⟩; have HB4 := qa0 (jtwo HB1.out hb4); clear hb4))
       exact ⟨⟨j + 1, q2, by omega, by go_num, rfl, Hq2, HB4.out⟩, by simp [intOf]; omega⟩
      ·obtain rfl : j = np := by omega
       obtain rfl : r = q := HE3.out.symm.trans Hq.out
       clear hb
       go_wp2
       go_ret
       exact ⟨rfl, HBr.out⟩
end Go.Proofs.YtemhodenkgngmaaDoor
