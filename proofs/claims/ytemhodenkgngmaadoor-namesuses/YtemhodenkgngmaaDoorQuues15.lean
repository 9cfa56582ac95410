/-
  Contracts of the program's tree: May.
-/
import Derived.Test.YtemhodenkgngmaaDoorQuues00
import Derived.Test.YtemhodenkgngmaaDoorQuues14
set_option maxRecDepth 100000
set_option maxHeartbeats 16000000
namespace Go.Proofs.YtemhodenkgngmaaDoor
open Go.RowKit
theorem range19 {w : World} {b o : Nat} {y0 y1 y2 y3 y4 y5 y6 y7 y8 y9 y10 y11 y12 y13 y14 y15 y16 y17 y18 : Value} (h0 : w.cell? ⟨b, o, none⟩ = some y0) (h1 : w.cell? ⟨b, o + 1, none⟩ = some y1) (h2 : w.cell? ⟨b, o + 2, none⟩ = some y2) (h3 : w.cell? ⟨b, o + 3, none⟩ = some y3) (h4 : w.cell? ⟨b, o + 4, none⟩ = some y4) (h5 : w.cell? ⟨b, o + 5, none⟩ = some y5) (h6 : w.cell? ⟨b, o + 6, none⟩ = some y6) (h7 : w.cell? ⟨b, o + 7, none⟩ = some y7) (h8 : w.cell? ⟨b, o + 8, none⟩ = some y8) (h9 : w.cell? ⟨b, o + 9, none⟩ = some y9) (h10 : w.cell? ⟨b, o + 10, none⟩ = some y10) (h11 : w.cell? ⟨b, o + 11, none⟩ = some y11) (h12 : w.cell? ⟨b, o + 12, none⟩ = some y12) (h13 : w.cell? ⟨b, o + 13, none⟩ = some y13) (h14 : w.cell? ⟨b, o + 14, none⟩ = some y14) (h15 : w.cell? ⟨b, o + 15, none⟩ = some y15) (h16 : w.cell? ⟨b, o + 16, none⟩ = some y16) (h17 : w.cell? ⟨b, o + 17, none⟩ = some y17) (h18 : w.cell? ⟨b, o + 18, none⟩ = some y18) : w.rangeAt b o [y0, y1, y2, y3, y4, y5, y6, y7, y8, y9, y10, y11, y12, y13, y14, y15, y16, y17, y18] := by
 intro j v hj
 rcases j with _ | j
 ·have e : y0 = v := by simpa using hj
  rw [← e]
  exact h0
 rcases j with _ | j
 ·have e : y1 = v := by simpa using hj
  rw [← e]
  exact h1
 rcases j with _ | j
 ·have e : y2 = v := by simpa using hj
  rw [← e]
  exact h2
 rcases j with _ | j
 ·have e : y3 = v := by simpa using hj
  rw [← e]
  exact h3
 rcases j with _ | j
 ·have e : y4 = v := by simpa using hj
  rw [← e]
  exact h4
 rcases j with _ | j
 ·have e : y5 = v := by simpa using hj
  rw [← e]
  exact h5
 rcases j with _ | j
 ·have e : y6 = v := by simpa using hj
  rw [← e]
  exact h6
 rcases j with _ | j
 ·have e : y7 = v := by simpa using hj
  rw [← e]
  exact h7
 rcases j with _ | j
 ·have e : y8 = v := by simpa using hj
  rw [← e]
  exact h8
 rcases j with _ | j
 ·have e : y9 = v := by simpa using hj
  rw [← e]
  exact h9
 rcases j with _ | j
 ·have e : y10 = v := by simpa using hj
  rw [← e]
  exact h10
 rcases j with _ | j
 ·have e : y11 = v := by simpa using hj
  rw [← e]
  exact h11
 rcases j with _ | j
 ·have e : y12 = v := by simpa using hj
  rw [← e]
  exact h12
 rcases j with _ | j
 ·have e : y13 = v := by simpa using hj
  rw [← e]
  exact h13
 rcases j with _ | j
 ·have e : y14 = v := by simpa using hj
  rw [← e]
  exact h14
 rcases j with _ | j
 ·have e : y15 = v := by simpa using hj
  rw [← e]
  exact h15
 rcases j with _ | j
 ·have e : y16 = v := by simpa using hj
  rw [← e]
  exact h16
 rcases j with _ | j
 ·have e : y17 = v := by simpa using hj
  rw [← e]
  exact h17
 rcases j with _ | j
 ·have e : y18 = v := by simpa using hj
  rw [← e]
  exact h18
 ·simp at hj
theorem all19 {y0 y1 y2 y3 y4 y5 y6 y7 y8 y9 y10 y11 y12 y13 y14 y15 y16 y17 y18 : Value} (h0 : y0.oneCell' = true) (h1 : y1.oneCell' = true) (h2 : y2.oneCell' = true) (h3 : y3.oneCell' = true) (h4 : y4.oneCell' = true) (h5 : y5.oneCell' = true) (h6 : y6.oneCell' = true) (h7 : y7.oneCell' = true) (h8 : y8.oneCell' = true) (h9 : y9.oneCell' = true) (h10 : y10.oneCell' = true) (h11 : y11.oneCell' = true) (h12 : y12.oneCell' = true) (h13 : y13.oneCell' = true) (h14 : y14.oneCell' = true) (h15 : y15.oneCell' = true) (h16 : y16.oneCell' = true) (h17 : y17.oneCell' = true) (h18 : y18.oneCell' = true) : (#[y0, y1, y2, y3, y4, y5, y6, y7, y8, y9, y10, y11, y12, y13, y14, y15, y16, y17, y18] : Array Value).all (·.oneCell') = true := by simp [h0, h1, h2, h3, h4, h5, h6, h7, h8, h9, h10, h11, h12, h13, h14, h15, h16, h17, h18]
/-- The cells of an item of a list, in letters. -/
theorem Its.at_ {w : World} {a : Option Addr} {n : Nat} {F : Nat → It} (h : Its w a n F) {i : Nat} (hi : i < n) : ∃ (b o k pl nl vk vl vc sk na ca np cp nr cr lc : Nat) (nm vm sm : ByteArray) (vn vln vcl sln scl ln cl : Int) (va aa pa ra la : Option Addr) (T : Xt) (S : St) (G : Nat → Xt), a = some ⟨b, o, none⟩ ∧ F i = ⟨k, nm, T, S, pl, nl, G, ln, cl⟩ ∧ XV w (.agg #[.int .u8 (vk : Int), .int .i64 vn, .string vm, .slice va vl vc, .int .i64 vln, .int .i64 vcl]) T ∧ SV w (.agg #[.int .u8 (sk : Int), .string sm, .slice aa na ca, .slice pa np cp, .slice ra nr cr, .int .i64 sln, .int .i64 scl]) S ∧ (∀ d, XL d w la nl G) ∧ k < 256 ∧ pl < 256 ∧ nm.size ≤ 140737488351232 ∧ nl ≤ 140737488351232 ∧
  ∀ w', Below w.heap.size w w' → w'.rangeAt b (o + i * 19) [.int .u8 (k : Int), .string nm, .int .u8 (vk : Int), .int .i64 vn, .string vm, .slice va vl vc, .int .i64 vln, .int .i64 vcl, .int .u8 (sk : Int), .string sm, .slice aa na ca, .slice pa np cp, .slice ra nr cr, .int .i64 sln, .int .i64 scl, .int .u8 (pl : Int), .slice la nl lc, .int .i64 ln, .int .i64 cl] := by
 obtain ⟨b, o, e, hI⟩ := h i hi
 obtain ⟨la, lc, hc16, hl⟩ := hI.lst
 obtain ⟨va, vc, x0, x1, x2, x3, x4, x5, xok, _⟩ := hI.val 1
 obtain ⟨aa, pa, ra, ca, cp, cr, s0, s1, s2, s3, s4, s5, s6, sok, sa, sr, _⟩ := hI.shp 1
 refine ⟨b, o, _, _, _, _, _, vc, _, _, ca, _, cp, _, cr, lc, _, _, _, _, _, _, _, _, _, _, va, aa, pa, ra, la, (F i).val, (F i).shp, (F i).list, e, rfl, ⟨⟨va, vc, rfl, fun d j hj => ?_⟩, xok⟩, ⟨⟨aa, pa, ra, ca, cp, cr, rfl, sa, sr, fun d j hj => ?_⟩, sok⟩, hl, hI.k8, hI.pl8, hI.nm47, hI.nl47, fun w' hb => range19 (cell_kept hI.c0 hb) (cell_kept hI.c1 hb) (cell_kept x0 hb) (cell_kept x1 hb) (cell_kept x2 hb) (cell_kept x3 hb) (cell_kept x4 hb) (cell_kept x5 hb) (cell_kept s0 hb) (cell_kept s1 hb) (cell_kept s2 hb) (cell_kept s3 hb) (cell_kept s4 hb) (cell_kept s5 hb) (cell_kept s6 hb) (cell_kept hI.c15 hb) (cell_kept hc16 hb) (cell_kept hI.c17 hb) (cell_kept hI.c18 hb)⟩
 ·obtain ⟨va', vc', _, _, _, g3, _, _, _, hk⟩ := hI.val (d + 1)
  rw [x3] at g3
  cases g3
  exact hk j hj
 ·obtain ⟨aa', pa', ra', ca', cp', cr', _, _, _, g3, _, _, _, _, _, _, hk⟩ := hI.shp (d + 1)
  rw [s3] at g3
  cases g3
  exact hk j hj
theorem qfj {I : It} {left : Int} (h : -1 ≤ left) : -1 ≤ ileft I left ∧ ileft I left ≤ left := by
 unfold ileft
 split
 ·omega
 ·split
  ·omega
  ·split
   ·have := qa5 16 I.val (left - 1) (by omega); omega
   ·split
    ·have := qbe 16 I.shp (left - 1) (by omega); omega
    ·have := qb3 (d := 16) (F := I.list) (left := left - 1) (by omega) I.nl; omega
/-- What is left behind k items. -/
def dks (F : Nat → It) : Nat → Int → Int
 | 0, left => left
 | k + 1, left => ileft (F k) (dks F k left)
theorem qb0 (F : Nat → It) (k : Nat) (left : Int) : dks F (k + 1) left = ileft (F k) (dks F k left) := rfl
theorem qbz {F : Nat → It} {left : Int} (h : -1 ≤ left) : ∀ k, -1 ≤ dks F k left ∧ dks F k left ≤ left := by
 intro k
 induction k with
 | zero => exact ⟨h, Int.le_refl _⟩
 | succ k ih =>
  rw [qb0]
  have := qfj (I := F k) ih.1
  omega
theorem qfk {I : It} {left : Int} (h : left ≤ 0) : ileft I left = -1 := by
 unfold ileft
 rw [if_pos (by omega)]
theorem qc0 {F : Nat → It} {left : Int} (h : -1 ≤ left) {n : Nat} (hn : 0 ≤ dks F n left) : ∀ i, i ≤ n → 0 ≤ dks F i left := by
 intro i hi
 rcases Int.lt_or_le (dks F i left) 0 with g | g
 ·exfalso
  have h1 : ∀ j, dks F (i + j) left = -1 := by
   intro j
   induction j with
   | zero => have := (qbz (F := F) h i).1; rw [Nat.add_zero]; omega
   | succ j ih => rw [← Nat.add_assoc, qb0, ih, qfk (by omega)]
  have := h1 (n - i)
  rw [show i + (n - i) = n by omega] at this
  omega
 ·exact g
/-- May a description be? -/
def mayD (F : Nat → It) (n : Nat) : Bool := decide (n ≤ 64) && decide (0 ≤ dks F n 8192)
theorem qfl {T : Xt} (h : zxB (T []) = true) : ZX T := by
 unfold zxB at h
 simp only [Bool.and_eq_true, decide_eq_true_eq] at h
 exact ⟨h.1, h.2.1, qad h.2.2.1, h.2.2.2.1⟩
theorem qd4 {S : St} (h : zsB (S []) = true) : ZS S := by
 unfold zsB at h
 simp only [Bool.and_eq_true, decide_eq_true_eq] at h
 exact ⟨h.2.2.1, qad h.2.2.2.1, h.2.2.2.2.1, h.2.2.2.2.2.2, h.2.2.2.2.2.1⟩
theorem mi_of {I : It} {left : Int} (hl : left ≤ 8192) (h : 0 ≤ ileft I left) : MI I := by
 unfold ileft at h
 split at h
 ·omega
 ·rename_i hp
  split at h
  ·omega
  ·rename_i hw
   have hw : iwant I = true := by cases hc : iwant I with | true => rfl | false => exact absurd hc hw
   have hv1 : ival I = true → MX 16 I.val := fun hv => by rw [if_pos hv] at h; exact ⟨left - 1, by omega, h⟩
   have hv2 : ival I = false → I.k = 2 → MS 16 I.shp := fun hv hk => by rw [if_neg (by rw [hv]; simp), if_pos hk] at h; exact ⟨left - 1, by omega, h⟩
   have hv3 : ival I = false → I.k ≠ 2 → ∀ i, i < I.nl → MX 16 (I.list i) := fun hv hk => by rw [if_neg (by rw [hv]; simp), if_neg hk] at h; exact qcg (by omega) (by omega) h
   unfold iwant at hw
   have hval : ival I = (decide (I.k = 1) || (decide (I.k = 4) || (decide (I.k = 6) || (decide (I.k = 5) && decide (I.pl = 3))))) := rfl
   by_cases k1 : I.k = 1
   ·rw [if_pos k1] at hw
    simp only [Bool.and_eq_true, decide_eq_true_eq] at hw
    exact .inl ⟨k1, hw.2.2.2.1, qa8.1 hw.1, hv1 (by rw [hval]; simp [k1]), qd4 hw.2.2.1, hw.2.2.2.2⟩
   by_cases k2 : I.k = 2
   ·rw [if_neg k1, if_pos k2] at hw
    simp only [Bool.and_eq_true, decide_eq_true_eq] at hw
    exact .inr (.inl ⟨k2, hw.2.2.2.1, qa8.1 hw.1, qfl hw.2.1, hv2 (by rw [hval]; simp [k2]) k2, hw.2.2.2.2⟩)
   by_cases k3 : I.k = 3
   ·rw [if_neg k1, if_neg k2, if_pos k3] at hw
    simp only [Bool.and_eq_true, decide_eq_true_eq] at hw
    exact .inr (.inr (.inl ⟨k3, hw.2.2.2.1, qa8.1 hw.1, qfl hw.2.1, qd4 hw.2.2.1, hw.2.2.2.2⟩))
   rw [if_neg k1, if_neg k2, if_neg k3] at hw
   by_cases k46 : I.k = 4 ∨ I.k = 6
   ·rw [if_pos k46] at hw
    simp only [Bool.and_eq_true, decide_eq_true_eq] at hw
    rcases k46 with k4 | k6
    ·exact .inr (.inr (.inr (.inl ⟨k4, hw.2.2.2.1, qad hw.1, hv1 (by rw [hval]; simp [k4]), qd4 hw.2.1, hw.2.2.2.2⟩)))
    ·exact .inr (.inr (.inr (.inr (.inl ⟨k6, hw.2.2.2.1, qad hw.1, hv1 (by rw [hval]; simp [k6]), qd4 hw.2.1, hw.2.2.2.2⟩))))
   by_cases k5 : I.k = 5
   ·rw [if_neg k46, if_pos k5] at hw
    by_cases p12 : I.pl = 1 ∨ I.pl = 2
    ·rw [if_pos p12] at hw
     simp only [Bool.and_eq_true, decide_eq_true_eq] at hw
     rcases p12 with p1 | p2
     ·exact .inr (.inr (.inr (.inr (.inr (.inl ⟨k5, p1, qad hw.1, qfl hw.2.2.1, qd4 hw.2.1, hw.2.2.2⟩)))))
     ·exact .inr (.inr (.inr (.inr (.inr (.inr (.inl ⟨k5, p2, qad hw.1, qfl hw.2.2.1, qd4 hw.2.1, hw.2.2.2⟩))))))
    by_cases p3 : I.pl = 3
    ·rw [if_neg p12, if_pos p3] at hw
     simp only [Bool.and_eq_true, decide_eq_true_eq] at hw
     exact .inr (.inr (.inr (.inr (.inr (.inr (.inr (.inl ⟨k5, p3, qad hw.1, hv1 (by rw [hval]; simp [k5, p3]), qd4 hw.2.1, hw.2.2.2⟩)))))))
    by_cases p4 : I.pl = 4
    ·rw [if_neg p12, if_neg p3, if_pos p4] at hw
     simp only [Bool.and_eq_true, decide_eq_true_eq] at hw
     exact .inr (.inr (.inr (.inr (.inr (.inr (.inr (.inr ⟨k5, p4, qad hw.1, qfl hw.2.2.1, qd4 hw.2.1, hw.2.2.2.1, hv3 (by rw [hval]; simp [k5, p4]) (by omega)⟩)))))))
    ·rw [if_neg p12, if_neg p3, if_neg p4] at hw
     simp at hw
   ·rw [if_neg k46, if_neg k5] at hw
    simp at hw
theorem qdg {F : Nat → It} {n : Nat} (h : mayD F n = true) : n ≤ 64 ∧ ∀ i, i < n → MI (F i) := by
 unfold mayD at h
 simp only [Bool.and_eq_true, decide_eq_true_eq] at h
 refine ⟨h.1, fun i hi => ?_⟩
 have h1 := qc0 (by omega) h.2 (i + 1) (by omega)
 have h2 := (qbz (F := F) (left := 8192) (by omega) i).2
 rw [qb0] at h1
 exact mi_of h2 h1
theorem mayD_nl {F : Nat → It} {n : Nat} (h : mayD F n = true) : ∀ i, i < n → iwant (F i) = true := by
 unfold mayD at h
 simp only [Bool.and_eq_true, decide_eq_true_eq] at h
 intro i hi
 have h1 := qc0 (by omega) h.2 (i + 1) (by omega)
 rw [qb0] at h1
 unfold ileft at h1
 cases hc : iwant (F i) with
 | true => rfl
 | false =>
  rw [if_pos hc] at h1
  split at h1 <;> omega
theorem qfm (w : World) (a : Option Addr) (n c : Nat) (F : Nat → It) (hI : Its w a n F) (hn : n ≤ 549755813888) (hw : Wt9 w) :
  Calls Tryd.prog 21 #[.slice a n c] w fun e w' => e = .returned (.bool (mayD F n)) ∧ Below w.heap.size w w' := by
 have HI := qa0 hI
 have HW := qa0 hw
 clear hI hw
 have HM : Hid (mayD F n = (decide (n ≤ 64) && decide (0 ≤ dks F n 8192))) := rfl
 rw [HM.out]
 clear HM
 by_cases h64 : 64 < n
 ·have HD : Hid (decide (n ≤ 64) = false) := decide_eq_false (by omega)
  rw [HD.out]
  clear HD
  have q1 : decide ((64 : Int) < (n : Int)) = true := decide_eq_true (by omega)
  have q2 : decide (64 < n) = true := decide_eq_true h64
  go_enter Tryd.func21, Tryd.ntmps21
  go_wp2
  go_ret
  exact ⟨rfl, Below.refl _ _⟩
 have HD : Hid (decide (n ≤ 64) = true) := decide_eq_true (by omega)
 rw [HD.out]
 clear HD
 have q1 : decide ((64 : Int) < (n : Int)) = false := decide_eq_false (by omega)
 have q2 : decide (64 < n) = false := decide_eq_false h64
 obtain ⟨R, HR⟩ : ∃ R, Hid (dks F n 8192 = R) := ⟨_, rfl⟩
 rw [HR.out]
 show Calls _ _ _ _ fun e w' => e = .returned (.bool (decide (0 ≤ R))) ∧ _
 have hRl := (qbz (F := F) (left := 8192) (by omega) n).1
 rw [HR.out] at hRl
 have HRr : Hid (decide (0 ≤ R) = (!(R == -1))) := by
  show _ = _
  by_cases h : R = -1
  ·rw [h]; rfl
  ·rw [decide_eq_true (by omega)]; simp [h]
 rw [HRr.out]
 clear HRr
 go_enter Tryd.func21, Tryd.ntmps21
 go_wp2
 go_loopw [3, 11] (fun vl vi wr => ∃ (i : Nat) (q : Int), i ≤ n ∧ vi = .int .i64 (i : Int) ∧ vl = .int .i64 q ∧ Hid (dks F i 8192 = q) ∧ Below w.heap.size w wr) (fun _ vi _ => n - (intOf vi).toNat)
 case atStart => exact ⟨0, 8192, by omega, rfl, rfl, rfl, Below.refl _ _⟩
 case round =>
  obtain ⟨i, q, hi, rfl, rfl, Hq, hb⟩ := hrel
  have HB := qa0 hb
  have hq := qbz (F := F) (left := 8192) (by omega) i
  rw [Hq.out] at hq
  by_cases hlt : i < n
  ·have p0 : (0 : Int) ≤ (i : Int) := by omega
   have p1 : (i : Int) < (n : Int) := by omega
   obtain ⟨b, o, k, pl, nl, vk, vl, vc, sk, na, ca, np, cp, nr, cr, lc, nm, vm, sm, vn, vln, vcl, sln, scl, ln, cl, va, aa, pa, ra, la, T, S, G, rfl, hF, hT, hS, hG, k8, p8, hnm, hnl, hcl⟩ := HI.out.at_ hlt
   obtain ⟨q2, Hq2⟩ : ∃ q2, Hid (dks F (i + 1) 8192 = q2) := ⟨_, rfl⟩
   have HE : Hid (ileft ⟨k, nm, T, S, pl, nl, G, ln, cl⟩ q = q2) := by show _ = _; rw [← Hq2.out, qb0, Hq.out, hF]
   have HC : Hid (∀ w' : World, Below w.heap.size w w' → Calls Tryd.prog 31 #[.agg #[.int .u8 (k : Int), .string nm, .int .u8 (vk : Int), .int .i64 vn, .string vm, .slice va vl vc, .int .i64 vln, .int .i64 vcl, .int .u8 (sk : Int), .string sm, .slice aa na ca, .slice pa np cp, .slice ra nr cr, .int .i64 sln, .int .i64 scl, .int .u8 (pl : Int), .slice la nl lc, .int .i64 ln, .int .i64 cl], .int .i64 q] w' fun e w'' => e = .returned (.int .i64 q2) ∧ Below w'.heap.size w' w'') := fun w' hb => by
    rw [← HE.out]
    exact tafteri w' k pl nl vk vl vc sk na ca np cp nr cr lc nm vm sm vn vln vcl sln scl ln cl va aa pa ra la T S G q (hT.later hb) (hS.later hb) (fun d => (hG d).later hb) k8 p8 hnm hnl (by omega) (by omega) (HW.out.later hb)
   have HRg := qa0 (hcl _ hb)
   clear hcl hT hS hG hF HE hb
   have M1 : True := trivial
   have M2 : True := trivial
   have M3 : True := trivial
   go_wp2_with (first
    | (clear M1; refine wpList_load_mid rfl 61 _ rfl b _ rfl [.int .u8 (k : Int), .string nm, .int .u8 (vk : Int), .int .i64 vn, .string vm, .slice va vl vc, .int .i64 vln, .int .i64 vcl, .int .u8 (sk : Int), .string sm, .slice aa na ca, .slice pa np cp, .slice ra nr cr, .int .i64 sln, .int .i64 scl, .int .u8 (pl : Int), .slice la nl lc, .int .i64 ln, .int .i64 cl] _ HRg.out Tryd.underlying61 rfl sizeI ?_)
    | (clear M2; refine qaa (by rfl) 61 _ rfl wr.heap.size rfl 61 #[.int .u8 (k : Int), .string nm, .int .u8 (vk : Int), .int .i64 vn, .string vm, .slice va vl vc, .int .i64 vln, .int .i64 vcl, .int .u8 (sk : Int), .string sm, .slice aa na ca, .slice pa np cp, .slice ra nr cr, .int .i64 sln, .int .i64 scl, .int .u8 (pl : Int), .slice la nl lc, .int .i64 ln, .int .i64 cl] (0, 0) _ HV1.out Tryd.underlying61 rfl sizeI ?_)
    | (clear M3; refine qa1 rfl 61 _ _ rfl wr.heap.size _ #[.int .u8 (k : Int), .string nm, .int .u8 (vk : Int), .int .i64 vn, .string vm, .slice va vl vc, .int .i64 vln, .int .i64 vcl, .int .u8 (sk : Int), .string sm, .slice aa na ca, .slice pa np cp, .slice ra nr cr, .int .i64 sln, .int .i64 scl, .int .u8 (pl : Int), .slice la nl lc, .int .i64 ln, .int .i64 cl] rfl rfl (Vn.new wr _ _) sizeI rfl (all19 rfl rfl rfl rfl rfl rfl rfl rfl rfl rfl rfl rfl rfl rfl rfl rfl rfl rfl rfl) ?_; intro w1 HV1 hg1; have hb1 : Below wr.heap.size wr w1 := (jlow _ _).trans (jbelow hg1.out (jlow _ _).size (fun g e => by cases e; exact Nat.le_refl _)); have HB1 := qa0 (jtwo HB.out hb1); clear hg1 hb1)
    | (go_at_call 31; refine (HC.out _ HB1.out).mono ?_; rintro e w2 ⟨rfl, hb2⟩; have HB2 := qa0 (jtwo HB1.out hb2); clear hb2))
   exact ⟨⟨i + 1, q2, by omega, by go_num, rfl, Hq2, HB2.out⟩, by simp [intOf]; omega⟩
  ·obtain rfl : i = n := by omega
   obtain rfl : R = q := by rw [← HR.out]; exact Hq.out
   clear hb
   go_wp2
   go_ret
   exact ⟨rfl, HB.out⟩
end Go.Proofs.YtemhodenkgngmaaDoor
