/-
  Contracts of the program's tree: MayExpr, Deep.
-/
import Derived.Test.YtgmndjbicandfaaDoorQnnes00
import Derived.Test.YtgmndjbicandfaaDoorQnnes08
import Derived.Test.YtgmndjbicandfaaDoorQnnes03
set_option maxRecDepth 100000
set_option maxHeartbeats 16000000
namespace Go.Proofs.YtgmndjbicandfaaDoor
open Go.RowKit
theorem qc8 {d : Nat} {T : Xt} {left : Int} (h : left ≤ 0) : xleft d T left = -1 := by
 cases d with
 | zero => rfl
 | succ d => exact qc7 (by omega)
theorem qcl {d : Nat} {F : Nat → Xt} {left : Int} (h : -1 ≤ left) : ∀ k, -1 ≤ xks (xleft d) F k left ∧ xks (xleft d) F k left ≤ left := by
 intro k
 rcases Int.lt_or_le left 0 with g | g
 ·have := qad (f := xleft d) (F := F) (k := 0) (left := left) g k
  rw [Nat.zero_add] at this
  rw [this, qaa]
  omega
 ·exact qb4 (qa5 d) k left g
theorem xks_step {d : Nat} {F : Nat → Xt} {left : Int} (h : -1 ≤ left) (k : Nat) : xks (xleft d) F (k + 1) left = xleft d (F k) (xks (xleft d) F k left) := by
 rw [qa4]
 split
 ·rename_i g
  rw [qc8 (by omega)]
  have := (qcl (d := d) (F := F) h k).1
  omega
 ·rfl
theorem tafterxs (d : Nat) (IH : ∀ (w : World) (T : Xt) (v : Value) (left : Int), XV w v T → -1 ≤ left → left ≤ 8192 → Wt9 w →
      Calls Tryd.prog 41 #[v, .int .i64 (d : Int), .int .i64 left] w fun e w' => e = .returned (.int .i64 (xleft d T left)) ∧ Below w.heap.size w w')
    (w : World) (a : Option Addr) (n c : Nat) (F : Nat → Xt) (left : Int) (hX : ∀ d, XL d w a n F) (hn : n ≤ 140737488351232) (h1 : -1 ≤ left) (h2 : left ≤ 8192) (hw : Wt9 w) :
    Calls Tryd.prog 59 #[.slice a n c, .int .i64 (d : Int), .int .i64 left] w fun e w' => e = .returned (.int .i64 (xks (xleft d) F n left)) ∧ Below w.heap.size w w' := by
  have HX := qa0 hX
  have HW := qa0 hw
  have HI := qa0 IH
  clear hX hw IH
  go_enter Tryd.func59, Tryd.ntmps59
  go_wp2
  go_loopw [2, 11] (fun vl vi wr => ∃ (i : Nat) (r : Int), i ≤ n ∧ vi = .int .i64 (i : Int) ∧ vl = .int .i64 r ∧ Hid (xks (xleft d) F i left = r) ∧ -1 ≤ r ∧ r ≤ 8192 ∧ Below w.heap.size w wr) (fun _ vi _ => n - (intOf vi).toNat)
  case atStart => exact ⟨0, left, by omega, rfl, rfl, rfl, by omega, by omega, Below.refl _ _⟩
  case round =>
    obtain ⟨i, r, hi, rfl, rfl, Hr, hr1, hr2, hb⟩ := hrel
    have HB := qa0 hb
    by_cases hlt : i < n
    · have p0 : (0 : Int) ≤ (i : Int) := by omega
      have p1 : (i : Int) < (n : Int) := by omega
      obtain ⟨b, o, kk, nl, nn, ll, cc, nx, ka, kc, rfl, hkid, hcl⟩ := XL.at_ HX.out (i := i) hlt
      obtain ⟨k0, k1, k2, k3, k4, k5⟩ := hcl _ hb
      obtain ⟨k0', k1', k2', k3', k4', k5'⟩ := hcl _ (jtwo hb (jlow _ (.cells #[.int .u8 0, .int .i64 0, .string ⟨#[]⟩, .slice none 0 0, .int .i64 0, .int .i64 0] 25)))
      have HKid := qa0 hkid
      obtain ⟨r2, Hr2⟩ : ∃ r2, Hid (xks (xleft d) F (i + 1) left = r2) := ⟨_, rfl⟩
      have HS : Hid (xleft d (F i) r = r2) := by show _ = _; rw [← Hr2.out, xks_step h1, Hr.out]
      have hr3 := qcl (d := d) (F := F) h1 (i + 1)
      rw [Hr2.out] at hr3
      have HC : Hid (∀ w' : World, Below w.heap.size w w' → Calls Tryd.prog 41 #[.agg #[.int .u8 (kk : Int), .int .i64 nn, .string nx, .slice ka nl kc, .int .i64 ll, .int .i64 cc], .int .i64 (d : Int), .int .i64 r] w' fun e w'' => e = .returned (.int .i64 r2) ∧ Below w'.heap.size w' w'') := fun w' hb => by rw [← HS.out]; exact HI.out w' (F i) _ r (HKid.out.later hb) (by omega) (by omega) (HW.out.later hb)
      clear hkid hcl hb HS
      by_cases hm : r2 = -1
      · have HE : Hid (xks (xleft d) F n left = -1) := by
          show _ = _
          have h := qad (f := xleft d) (F := F) (k := i + 1) (left := left) (by rw [Hr2.out]; omega) (n - (i + 1))
          rw [show i + 1 + (n - (i + 1)) = n by omega] at h
          rw [h, Hr2.out, hm]
        subst hm
        go_wp2_with (first
          | (refine qa1 rfl 25 _ _ rfl wr.heap.size _ #[.int .u8 (kk : Int), .int .i64 nn, .string nx, .slice ka nl kc, .int .i64 ll, .int .i64 cc] rfl rfl (Vn.new wr _ _) sizeX rfl (all6 rfl rfl rfl rfl rfl rfl) ?_; intro w1 HV1 hg1; have hb1 : Below wr.heap.size wr w1 := (jlow _ _).trans (jbelow hg1.out (jlow _ _).size (fun g e => by cases e; exact Nat.le_refl _)); have HB1 := qa0 (jtwo HB.out hb1); have m0 := HV1.out.cell 0 _ rfl; have m1 := HV1.out.cell 1 _ rfl; have m2 := HV1.out.cell 2 _ rfl; have m3 := HV1.out.cell 3 _ rfl; have m4 := HV1.out.cell 4 _ rfl; have m5 := HV1.out.cell 5 _ rfl; clear hg1 hb1)
          | (go_at_call 41; refine (HC.out _ HB1.out).mono ?_; rintro e w2 ⟨rfl, hb2⟩; have HB2 := qa0 (jtwo HB1.out hb2); clear hb2))
        go_ret
        exact ⟨by rw [HE.out]; rfl, HB2.out⟩
      · have qm : (r2 == -1) = false := by simpa using hm
        go_wp2_with (first
          | (refine qa1 rfl 25 _ _ rfl wr.heap.size _ #[.int .u8 (kk : Int), .int .i64 nn, .string nx, .slice ka nl kc, .int .i64 ll, .int .i64 cc] rfl rfl (Vn.new wr _ _) sizeX rfl (all6 rfl rfl rfl rfl rfl rfl) ?_; intro w1 HV1 hg1; have hb1 : Below wr.heap.size wr w1 := (jlow _ _).trans (jbelow hg1.out (jlow _ _).size (fun g e => by cases e; exact Nat.le_refl _)); have HB1 := qa0 (jtwo HB.out hb1); have m0 := HV1.out.cell 0 _ rfl; have m1 := HV1.out.cell 1 _ rfl; have m2 := HV1.out.cell 2 _ rfl; have m3 := HV1.out.cell 3 _ rfl; have m4 := HV1.out.cell 4 _ rfl; have m5 := HV1.out.cell 5 _ rfl; clear hg1 hb1)
          | (go_at_call 41; refine (HC.out _ HB1.out).mono ?_; rintro e w2 ⟨rfl, hb2⟩; have HB2 := qa0 (jtwo HB1.out hb2); clear hb2))
        exact ⟨⟨i + 1, r2, by omega, by go_num, rfl, Hr2, by omega, by omega, HB2.out⟩, by simp [intOf]; omega⟩
    · obtain rfl : i = n := by omega
      clear hb
      go_wp2
      go_ret
      exact ⟨by rw [Hr.out]; rfl, HB.out⟩
theorem fx_some {l : Lx} (h : fxB l = true) : xwant l = some l.len := by
 unfold fxB at h
 cases hw : xwant l with
 | none => rw [hw] at h; cases h
 | some m => rw [(qaf hw).1]
theorem fx_none {l : Lx} (h : fxB l = false) : xwant l = none := by
 unfold fxB at h
 cases hw : xwant l with
 | none => rfl
 | some m => rw [hw] at h; cases h
theorem tafterx : ∀ (d : Nat) (w : World) (T : Xt) (v : Value) (left : Int), d ≤ 16 → XV w v T → -1 ≤ left → left ≤ 8192 → Wt9 w →
  Calls Tryd.prog 41 #[v, .int .i64 (d : Int), .int .i64 left] w fun e w' => e = .returned (.int .i64 (xleft d T left)) ∧ Below w.heap.size w w' := by
 intro d
 induction d with
 | zero =>
  intro w T v left _ hX h1 h2 _
  obtain ⟨⟨a, cap, rfl, _⟩, _⟩ := hX
  rw [qa7]
  generalize T [] = l
  obtain ⟨k, n, nm, len, ln, cl⟩ := l
  go_enter Tryd.func41, Tryd.ntmps41
  go_wp2
  go_ret
  exact ⟨rfl, jlow _ _⟩
 | succ d ih =>
  intro w T v left hd hX h1 h2 hw
  have HW := qa0 hw
  have HX := qa0 hX
  have HF : Hid (∀ w' : World, Below w.heap.size w w' → Calls Tryd.prog 58 #[v] w' fun e w'' => e = .returned (.bool (fxB (T []))) ∧ Below w'.heap.size w' w'') := fun w' hb => tfitsx w' T v (HX.out.later hb) (HW.out.later hb)
  obtain ⟨⟨a, cap, rfl, hXl⟩, hok⟩ := hX
  have HXl := qa0 hXl
  have hlen := hok.len47
  have HC : Hid (∀ w' : World, Below w.heap.size w w' → 0 < left → Calls Tryd.prog 59 #[.slice a (T []).len cap, .int .i64 (d : Int), .int .i64 (left - 1)] w' fun e w'' => e = .returned (.int .i64 (xks (xleft d) (kid T) (T []).len (left - 1))) ∧ Below w'.heap.size w' w'') := fun w' hb h0 => tafterxs d (fun w T v l hX g1 g2 hw => ih w T v l (by omega) hX g1 g2 hw) w' a _ cap (kid T) (left - 1) (fun d => (HXl.out d).later hb) hlen (by omega) (by omega) (HW.out.later hb)
  obtain ⟨r, Hr⟩ : ∃ r, Hid (xleft (d + 1) T left = r) := ⟨_, rfl⟩
  rw [Hr.out]
  have qd : decide (((d + 1 : Nat) : Int) ≤ 0) = false := decide_eq_false (by omega)
  have qd1 : ((d + 1 : Nat) : Int) - 1 = (d : Int) := by omega
  by_cases hl : left ≤ 0
  ·obtain rfl : r = -1 := by rw [← Hr.out]; exact qc8 hl
   have ql : decide (left ≤ 0) = true := decide_eq_true hl
   clear HF HC HX HXl hXl hok hlen Hr ih
   generalize T [] = l
   obtain ⟨k, n, nm, len, ln, cl⟩ := l
   go_enter Tryd.func41, Tryd.ntmps41
   go_wp2
   go_ret
   exact ⟨rfl, jlow _ _⟩
  have ql : decide (left ≤ 0) = false := decide_eq_false hl
  cases hf : fxB (T []) with
  | false =>
   obtain rfl : r = -1 := by
    rw [← Hr.out]
    show (if left - 1 < 0 then _ else _) = _
    rw [if_neg (by omega), fx_none hf]
   rw [hf] at HF
   clear HC HX HXl hXl hok hlen Hr ih hf
   generalize T [] = l at *
   obtain ⟨k, n, nm, len, ln, cl⟩ := l
   have hv := Vn.new w 25 #[.int .u8 (k : Int), .int .i64 n, .string nm, .slice a len cap, .int .i64 ln, .int .i64 cl]
   have c0 := hv.cell 0 _ rfl
   have c1 := hv.cell 1 _ rfl
   have c2 := hv.cell 2 _ rfl
   have c3 := hv.cell 3 _ rfl
   have c4 := hv.cell 4 _ rfl
   have c5 := hv.cell 5 _ rfl
   clear hv
   go_enter Tryd.func41, Tryd.ntmps41
   go_wp2_with (go_at_call 58; refine (HF.out _ (jlow _ _)).mono ?_; rintro e w2 ⟨rfl, hb2⟩; have HB2 := qa0 (jtwo (jlow _ _) hb2); clear hb2)
   go_ret
   exact ⟨rfl, HB2.out⟩
  | true =>
   have HE : Hid (xks (xleft d) (kid T) (T []).len (left - 1) = r) := by
    show _ = _
    rw [← Hr.out]
    show _ = (if left - 1 < 0 then _ else _)
    rw [if_neg (by omega), fx_some hf]
   rw [hf] at HF
   have HC2 := qa0 (fun w' hb => HC.out w' hb (by omega))
   rw [HE.out] at HC2
   clear HC HX HXl hXl hok hlen Hr ih hf HE
   generalize T [] = l at *
   obtain ⟨k, n, nm, len, ln, cl⟩ := l
   have HV := qa0 (Vn.new w 25 #[.int .u8 (k : Int), .int .i64 n, .string nm, .slice a len cap, .int .i64 ln, .int .i64 cl])
   have c0 := HV.out.cell 0 _ rfl
   have c1 := HV.out.cell 1 _ rfl
   have c2 := HV.out.cell 2 _ rfl
   have c3 := HV.out.cell 3 _ rfl
   have c4 := HV.out.cell 4 _ rfl
   have c5 := HV.out.cell 5 _ rfl
   go_enter Tryd.func41, Tryd.ntmps41
   go_wp2_with (first
    | (go_at_call 58; refine (HF.out _ (jlow _ _)).mono ?_; rintro e w2 ⟨rfl, hb2⟩; have HB2 := qa0 (jtwo (jlow _ _) hb2); have d3 := (HV.out.later hb2).cell 3 _ rfl; clear hb2)
    | (go_at_call 59; refine (HC2.out _ HB2.out).mono ?_; rintro e w3 ⟨rfl, hb3⟩; have HB3 := qa0 (jtwo HB2.out hb3); clear hb3))
   go_ret
   exact ⟨rfl, HB3.out⟩
theorem tmayx (w : World) (T : Xt) (v : Value) (hX : XV w v T) (hw : Wt9 w) : Calls Tryd.prog 23 #[v] w fun e w' => e = .returned (.bool (mayX T)) ∧ Below w.heap.size w w' := by
 have HX := qa0 hX
 have HW := qa0 hw
 obtain ⟨⟨a, cap, rfl, _⟩, _⟩ := hX
 obtain ⟨r, Hr⟩ : ∃ r, Hid (xleft 16 T 8192 = r) := ⟨_, rfl⟩
 have HC : Hid (∀ w' : World, Below w.heap.size w w' → Calls Tryd.prog 41 #[.agg #[.int .u8 ((T []).k : Int), .int .i64 (T []).n, .string (T []).nm, .slice a (T []).len cap, .int .i64 (T []).ln, .int .i64 (T []).cl], .int .i64 ((16 : Nat) : Int), .int .i64 8192] w' fun e w'' => e = .returned (.int .i64 r) ∧ Below w'.heap.size w' w'') := fun w' hb => by rw [← Hr.out]; exact tafterx 16 w' T _ 8192 (by omega) (HX.out.later hb) (by omega) (by omega) (HW.out.later hb)
 have hr := (qa5 16 T 8192 (by omega)).1
 rw [Hr.out] at hr
 have HM : Hid (mayX T = (!(r == -1))) := by
  show mayX T = _
  unfold mayX
  rw [Hr.out]
  by_cases h : r = -1
  ·rw [h]; rfl
  ·rw [decide_eq_true (by omega)]; simp [h]
 rw [HM.out]
 clear HM HX Hr
 generalize T [] = l at *
 obtain ⟨k, n, nm, len, ln, cl⟩ := l
 have hv := Vn.new w 25 #[.int .u8 (k : Int), .int .i64 n, .string nm, .slice a len cap, .int .i64 ln, .int .i64 cl]
 have c0 := hv.cell 0 _ rfl
 have c1 := hv.cell 1 _ rfl
 have c2 := hv.cell 2 _ rfl
 have c3 := hv.cell 3 _ rfl
 have c4 := hv.cell 4 _ rfl
 have c5 := hv.cell 5 _ rfl
 clear hv
 go_enter Tryd.func23, Tryd.ntmps23
 go_wp2_with (go_at_call 41; refine (HC.out _ (jlow _ _)).mono ?_; rintro e w2 ⟨rfl, hb2⟩; have HB2 := qa0 hb2; clear hb2)
 go_ret
 exact ⟨rfl, jtwo (jlow _ _) HB2.out⟩
end Go.Proofs.YtgmndjbicandfaaDoor
