/-
  Contracts of the tree's reference: expr, exprs, MayExpr, Deep.
-/
import Derived.Test.YtgmndjbicandfaaDoorQnnes01
import Derived.Test.YtgmndjbicandfaaDoorQnnes00
set_option maxRecDepth 100000
set_option maxHeartbeats 16000000
namespace Go.Proofs.YtgmndjbicandfaaDoor
open Go.RowKit
theorem tl_nilc {x : ByteArray} : (x.toList == []) = decide (x.size = 0) := by
 rw [ByteArray.toList_eq]
 obtain ⟨⟨l⟩⟩ := x
 cases l with
 | nil => rfl
 | cons a l => rfl
theorem qac {x : ByteArray} (h : x.size = 0) : x = ⟨#[]⟩ := by
 obtain ⟨⟨l⟩⟩ := x
 cases l with
 | nil => rfl
 | cons a l => simp [ByteArray.size] at h
theorem qc7 {d : Nat} {T : Xt} {left : Int} (h : left - 1 < 0) : xleft (d + 1) T left = -1 := by
 show (if left - 1 < 0 then _ else _) = _
 rw [if_pos h]
theorem qa3 {d : Nat} {T : Xt} {left : Int} {l : Lx} (hl : T [] = l) (h : xwant l = none) : xleft (d + 1) T left = -1 := by
 show (if left - 1 < 0 then _ else _) = _
 split
 ·rfl
 ·rw [hl, h]
theorem qaj {d m : Nat} {T : Xt} {left L1 : Int} {l : Lx} (hl : T [] = l) (hL : left - 1 = L1 ∧ 0 ≤ L1) (h : xwant l = some m) : xleft (d + 1) T left = xks (xleft d) (kid T) m L1 := by
 show (if left - 1 < 0 then _ else _) = _
 rw [if_neg (by omega), hl, h, hL.1]
theorem qdw : ∀ (d : Nat) (w : World) (T : Xt) (v : Value) (left : Int), d ≤ 16 → XV w v T → -1 ≤ left → left ≤ 8192 →
  Calls Tryd.prog 36 #[v, .int .i64 left, .int .i64 (d : Int)] w fun e w' => e = .returned (.int .i64 (xleft d T left)) ∧ Below w.heap.size w w' := by
 intro d
 induction d with
 | zero =>
  intro w T v left _ hX h1 h2
  obtain ⟨⟨a, cap, rfl, _⟩, _⟩ := hX
  rw [qa7]
  generalize T [] = l
  obtain ⟨k, n, nm, len, ln, cl⟩ := l
  by_cases hl : left - 1 < 0
  ·have q : decide (left - 1 < 0) = true := decide_eq_true hl
   go_enter Tryd.func36, Tryd.ntmps36
   go_wp2
   go_ret
   exact ⟨rfl, jlow _ _⟩
  ·have q : decide (left - 1 < 0) = false := decide_eq_false hl
   go_enter Tryd.func36, Tryd.ntmps36
   go_wp2
   go_ret
   exact ⟨rfl, jlow _ _⟩
 | succ d ih =>
  intro w T v left hd hX h1 h2
  obtain ⟨⟨a, cap, rfl, hXl⟩, hok⟩ := hX
  obtain ⟨l, HT⟩ : ∃ l, T [] = l := ⟨_, rfl⟩
  rw [HT] at hXl hok ⊢
  obtain ⟨k, n, nm, len, ln, cl⟩ := l
  have HXl := qa0 hXl
  obtain ⟨h8, hn1, hn2, hx, hlen47⟩ := hok
  have h8 : k < 256 := h8
  have hn1 : -9223372036854775808 ≤ n := hn1
  have hn2 : n ≤ 9223372036854775807 := hn2
  have hx : nm.size ≤ 140737488351232 := hx
  have hlen47 : len ≤ 140737488351232 := hlen47
  have HVn := qa0 (Vn.new w 25 #[.int .u8 (k : Int), .int .i64 n, .string nm, .slice a len cap, .int .i64 ln, .int .i64 cl])
  have c0 := HVn.out.cell 0 _ rfl
  have c1 := HVn.out.cell 1 _ rfl
  have c2 := HVn.out.cell 2 _ rfl
  have c3 := HVn.out.cell 3 _ rfl
  have e0 := tl_nilc (x := nm)
  clear hXl
  have qd : ((d + 1 : Nat) : Int) ≠ 0 := by omega
  have qd2 : (((d + 1 : Nat) : Int) == 0) = false := by simp; omega
  by_cases hl : left - 1 < 0
  ·rw [qc7 hl]
   have q : decide (left - 1 < 0) = true := decide_eq_true hl
   go_enter Tryd.func36, Tryd.ntmps36
   go_wp2
   go_ret
   exact ⟨rfl, jlow _ _⟩
  have q : decide (left - 1 < 0) = false := decide_eq_false hl
  obtain ⟨L1, hL1⟩ : ∃ L1, left - 1 = L1 := ⟨_, rfl⟩
  have hleft : left - 1 = L1 ∧ 0 ≤ L1 := ⟨hL1, by omega⟩
  rw [hL1] at q
  have HNm : Hid (∀ w' : World, Calls Tryd.prog 33 #[.string nm] w' fun e w'' => e = .returned (.bool (isN nm)) ∧ Below w'.heap.size w' w'') := fun w' => qbx w' nm _ rfl hx
  by_cases hk1 : k = 1
  ·subst hk1
   by_cases g1 : n < 0
   ·have HF : Hid (xleft (d + 1) T left = -1) := qa3 HT (by unfold xwant; simp; omega)
    rw [HF.out]
    have qn : decide (n < 0) = true := decide_eq_true g1
    go_enter Tryd.func36, Tryd.ntmps36
    go_wp2
    go_ret
    exact ⟨rfl, jlow _ _⟩
   have qn : decide (n < 0) = false := decide_eq_false g1
   by_cases g2 : 2147483647 < n
   ·have HF : Hid (xleft (d + 1) T left = -1) := qa3 HT (by unfold xwant; simp; omega)
    rw [HF.out]
    have qn2 : decide (2147483647 < n) = true := decide_eq_true g2
    go_enter Tryd.func36, Tryd.ntmps36
    go_wp2
    go_ret
    exact ⟨rfl, jlow _ _⟩
   have qn2 : decide (2147483647 < n) = false := decide_eq_false g2
   by_cases hz : nm.size = 0
   ·obtain rfl : nm = ⟨#[]⟩ := qac hz
    by_cases hlen : len = 0
    ·subst hlen
     have HF : Hid (xleft (d + 1) T left = xks (xleft d) (kid T) 0 L1) := qaj HT hleft (by unfold xwant; rw [if_pos rfl, if_pos ⟨by show 0 ≤ n; omega, by show n ≤ 2147483647; omega, rfl, rfl⟩])
     go_enter Tryd.func36, Tryd.ntmps36
     go_wp2
     have HP0 := HVn
     go_loopw [1, 8] (fun vl vi wr => ∃ (i : Nat) (r : Int), i ≤ 0 ∧ vi = .int .i64 (i : Int) ∧ vl = .int .i64 r ∧ Hid (xks (xleft d) (kid T) i L1 = r) ∧ -1 ≤ r ∧ r ≤ 8192 ∧ Vn wr w.heap.size 25 #[.int .u8 1, .int .i64 n, .string ⟨#[]⟩, .slice a 0 cap, .int .i64 ln, .int .i64 cl] ∧ Below w.heap.size w wr) (fun _ vi _ => 0 - (intOf vi).toNat)
     case atStart => exact ⟨0, L1, by omega, rfl, rfl, rfl, by omega, by omega, HP0.out, jlow _ _⟩
     case round =>
      obtain ⟨i, r, hi, rfl, rfl, Hr, hr1, hr2, hv, hb⟩ := hrel
      have HB := qa0 hb
      have HVr := qa0 hv
      have c3 := hv.cell 3 _ rfl
      clear hv
      by_cases hlt : i < 0
      ·omega
      ·obtain rfl : i = 0 := by omega
       clear hb
       go_wp2
       go_ret
       exact ⟨by rw [HF.out, Hr.out]; rfl, HB.out⟩
    ·have HF : Hid (xleft (d + 1) T left = -1) := qa3 HT (by unfold xwant; simp [hlen])
     rw [HF.out]
     have ql : ((len : Int) == 0) = false := by simp; omega
     go_enter Tryd.func36, Tryd.ntmps36
     go_wp2
     go_ret
     exact ⟨rfl, jlow _ _⟩
   ·have HF : Hid (xleft (d + 1) T left = -1) := qa3 HT (by unfold xwant; simp [hz])
    rw [HF.out]
    rw [decide_eq_false hz] at e0
    go_enter Tryd.func36, Tryd.ntmps36
    go_wp2
    go_ret
    exact ⟨rfl, jlow _ _⟩
  have q1 : ((k : Int) == 1) = false := by simp; omega
  by_cases hk2 : k = 2
  ·subst hk2
   by_cases hn : n = 0
   ·subst hn
    obtain ⟨y, Hy⟩ : ∃ y, Hid (isN nm = y) := ⟨_, rfl⟩
    rw [Hy.out] at HNm
    cases y with
    | false =>
     have HF : Hid (xleft (d + 1) T left = -1) := qa3 HT (by unfold xwant; simp [Hy.out])
     rw [HF.out]
     go_enter Tryd.func36, Tryd.ntmps36
     go_wp2_with (go_at_call 33; refine (HNm.out _).mono ?_; rintro r w1 ⟨rfl, hb1⟩; have HN1 := qa0 hb1; clear hb1)
     go_ret
     exact ⟨rfl, jtwo (jlow _ _) HN1.out⟩
    | true =>
     by_cases hlen : len = 0
     ·subst hlen
      have HF : Hid (xleft (d + 1) T left = xks (xleft d) (kid T) 0 L1) := qaj HT hleft (by unfold xwant; simp [Hy.out])
      go_enter Tryd.func36, Tryd.ntmps36
      go_wp2_with (go_at_call 33; refine (HNm.out _).mono ?_; rintro r w1 ⟨rfl, hb1⟩; have HN1 := qa0 hb1; clear hb1; have z3 := (HVn.out.later HN1.out).cell 3 _ rfl)
      have HB0 : Hid (Below w.heap.size w w1) := jtwo (jlow _ _) HN1.out
      have HP0 := qa0 (HVn.out.later HN1.out)
      have HX0 := qa0 (fun d => (HXl.out d).later HB0.out)
      go_loopw [1, 8] (fun vl vi wr => ∃ (i : Nat) (r : Int), i ≤ 0 ∧ vi = .int .i64 (i : Int) ∧ vl = .int .i64 r ∧ Hid (xks (xleft d) (kid T) i L1 = r) ∧ -1 ≤ r ∧ r ≤ 8192 ∧ Vn wr w.heap.size 25 #[.int .u8 2, .int .i64 0, .string nm, .slice a 0 cap, .int .i64 ln, .int .i64 cl] ∧ Below w.heap.size w wr) (fun _ vi _ => 0 - (intOf vi).toNat)
      case atStart => exact ⟨0, L1, by omega, rfl, rfl, rfl, by omega, by omega, HP0.out, HB0.out⟩
      case round =>
       obtain ⟨i, r, hi, rfl, rfl, Hr, hr1, hr2, hv, hb⟩ := hrel
       have HB := qa0 hb
       have HVr := qa0 hv
       have c3 := hv.cell 3 _ rfl
       clear hv
       by_cases hlt : i < 0
       ·omega
       ·obtain rfl : i = 0 := by omega
        clear hb
        go_wp2
        go_ret
        exact ⟨by rw [HF.out, Hr.out]; rfl, HB.out⟩
     ·have HF : Hid (xleft (d + 1) T left = -1) := qa3 HT (by unfold xwant; simp [hlen])
      rw [HF.out]
      have ql : ((len : Int) == 0) = false := by simp; omega
      have HVk := HVn
      go_enter Tryd.func36, Tryd.ntmps36
      go_wp2_with (go_at_call 33; refine (HNm.out _).mono ?_; rintro r w1 ⟨rfl, hb1⟩; have HN1 := qa0 hb1; clear hb1; have z3 := (HVn.out.later HN1.out).cell 3 _ rfl)
      go_ret
      exact ⟨rfl, jtwo (jlow _ _) HN1.out⟩
   ·have HF : Hid (xleft (d + 1) T left = -1) := qa3 HT (by unfold xwant; simp [hn])
    rw [HF.out]
    have qn : (n == 0) = false := by simpa using hn
    go_enter Tryd.func36, Tryd.ntmps36
    go_wp2
    go_ret
    exact ⟨rfl, jlow _ _⟩
  have q2 : ((k : Int) == 2) = false := by simp; omega
  by_cases hk3 : k = 3
  ·subst hk3
   by_cases hlen : len = 1
   ·subst hlen
    by_cases hn : n = 0
    ·subst hn
     by_cases hz : nm.size = 0
     ·obtain rfl : nm = ⟨#[]⟩ := qac hz
      have HF : Hid (xleft (d + 1) T left = xks (xleft d) (kid T) 1 L1) := qaj HT hleft (by rfl)
      go_enter Tryd.func36, Tryd.ntmps36
      go_wp2
      have HP0 := HVn
      go_loopw [1, 8] (fun vl vi wr => ∃ (i : Nat) (r : Int), i ≤ 1 ∧ vi = .int .i64 (i : Int) ∧ vl = .int .i64 r ∧ Hid (xks (xleft d) (kid T) i L1 = r) ∧ -1 ≤ r ∧ r ≤ 8192 ∧ Vn wr w.heap.size 25 #[.int .u8 3, .int .i64 0, .string ⟨#[]⟩, .slice a 1 cap, .int .i64 ln, .int .i64 cl] ∧ Below w.heap.size w wr) (fun _ vi _ => 1 - (intOf vi).toNat)
      case atStart => exact ⟨0, L1, by omega, rfl, rfl, rfl, by omega, by omega, HP0.out, jlow _ _⟩
      case round =>
       obtain ⟨i, r, hi, rfl, rfl, Hr, hr1, hr2, hv, hb⟩ := hrel
       have HB := qa0 hb
       have HVr := qa0 hv
       have c3 := hv.cell 3 _ rfl
       clear hv
       by_cases hlt : i < 1
       ·by_cases hr : 0 ≤ r
        ·obtain ⟨b, o, kk, nl, nn, ll, cc, nx, ka, kc, rfl, hkid, hcl⟩ := XL.at_ HXl.out (i := i) hlt
         obtain ⟨k0, k1, k2, k3, k4, k5⟩ := hcl _ hb
         have HKid := qa0 hkid
         have p0 : (0 : Int) ≤ (i : Int) := by omega
         have p1 : (i : Int) < 1 := by omega
         have ed : ((d + 1 : Nat) : Int) - 1 = (d : Int) := by omega
         have qr : decide (0 ≤ r) = true := decide_eq_true hr
         obtain ⟨r2, Hr2⟩ : ∃ r2, Hid (xleft d (kid T i) r = r2) := ⟨_, rfl⟩
         have hr3 := qa5 d (kid T i) r hr
         rw [Hr2.out] at hr3
         have HC : Hid (∀ w' : World, Below w.heap.size w w' → Calls Tryd.prog 36 #[.agg #[.int .u8 (kk : Int), .int .i64 nn, .string nx, .slice ka nl kc, .int .i64 ll, .int .i64 cc], .int .i64 r, .int .i64 (d : Int)] w' fun e w'' => e = .returned (.int .i64 r2) ∧ Below w'.heap.size w' w'') := fun w' hb => by rw [← Hr2.out]; exact ih w' (kid T i) _ r (by omega) (HKid.out.later hb) (by omega) (by omega)
         have Hk : Hid (xks (xleft d) (kid T) (i + 1) L1 = r2) := by show _ = _; rw [qa4, Hr.out, if_neg (by omega), Hr2.out]
         clear hkid hcl hb
         go_wp2_with (go_at_call 36; refine (HC.out _ HB.out).mono ?_; rintro e w2 ⟨rfl, hb2⟩; have HB2 := qa0 (jtwo HB.out hb2); have HV2 := qa0 (HVr.out.later hb2); clear hb2)
         exact ⟨⟨i + 1, r2, by omega, by go_num, rfl, Hk, by omega, by omega, HV2.out, HB2.out⟩, by simp [intOf]; omega⟩
        ·have qr : decide (0 ≤ r) = false := decide_eq_false hr
         have Hk : Hid (xks (xleft d) (kid T) 1 L1 = r) := by show _ = _; have h := qad (f := xleft d) (F := kid T) (k := i) (left := L1) (by rw [Hr.out]; omega) (1 - i); rw [show i + (1 - i) = 1 by omega] at h; rw [h, Hr.out]
         clear hb
         go_wp2
         go_ret
         exact ⟨by rw [HF.out, Hk.out]; rfl, HB.out⟩
       ·obtain rfl : i = 1 := by omega
        clear hb
        go_wp2
        go_ret
        exact ⟨by rw [HF.out, Hr.out]; rfl, HB.out⟩
     ·have HF : Hid (xleft (d + 1) T left = -1) := qa3 HT (by unfold xwant; simp [hz])
      rw [HF.out]
      rw [decide_eq_false hz] at e0
      go_enter Tryd.func36, Tryd.ntmps36
      go_wp2
      go_ret
      exact ⟨rfl, jlow _ _⟩
    ·have HF : Hid (xleft (d + 1) T left = -1) := qa3 HT (by unfold xwant; simp [hn])
     rw [HF.out]
     have qn : (n == 0) = false := by simpa using hn
     go_enter Tryd.func36, Tryd.ntmps36
     go_wp2
     go_ret
     exact ⟨rfl, jlow _ _⟩
   ·have HF : Hid (xleft (d + 1) T left = -1) := qa3 HT (by unfold xwant; simp [hlen])
    rw [HF.out]
    have ql : ((len : Int) == 1) = false := by simp; omega
    go_enter Tryd.func36, Tryd.ntmps36
    go_wp2
    go_ret
    exact ⟨rfl, jlow _ _⟩
  have q3 : ((k : Int) == 3) = false := by simp; omega
  by_cases hk4 : k = 4
  ·subst hk4
   by_cases hlen : len = 2
   ·subst hlen
    by_cases hn : n = 0
    ·subst hn
     by_cases hz : nm.size = 0
     ·obtain rfl : nm = ⟨#[]⟩ := qac hz
      have HF : Hid (xleft (d + 1) T left = xks (xleft d) (kid T) 2 L1) := qaj HT hleft (by rfl)
      go_enter Tryd.func36, Tryd.ntmps36
      go_wp2
      have HP0 := HVn
      go_loopw [1, 8] (fun vl vi wr => ∃ (i : Nat) (r : Int), i ≤ 2 ∧ vi = .int .i64 (i : Int) ∧ vl = .int .i64 r ∧ Hid (xks (xleft d) (kid T) i L1 = r) ∧ -1 ≤ r ∧ r ≤ 8192 ∧ Vn wr w.heap.size 25 #[.int .u8 4, .int .i64 0, .string ⟨#[]⟩, .slice a 2 cap, .int .i64 ln, .int .i64 cl] ∧ Below w.heap.size w wr) (fun _ vi _ => 2 - (intOf vi).toNat)
      case atStart => exact ⟨0, L1, by omega, rfl, rfl, rfl, by omega, by omega, HP0.out, jlow _ _⟩
      case round =>
       obtain ⟨i, r, hi, rfl, rfl, Hr, hr1, hr2, hv, hb⟩ := hrel
       have HB := qa0 hb
       have HVr := qa0 hv
       have c3 := hv.cell 3 _ rfl
       clear hv
       by_cases hlt : i < 2
       ·by_cases hr : 0 ≤ r
        ·obtain ⟨b, o, kk, nl, nn, ll, cc, nx, ka, kc, rfl, hkid, hcl⟩ := XL.at_ HXl.out (i := i) hlt
         obtain ⟨k0, k1, k2, k3, k4, k5⟩ := hcl _ hb
         have HKid := qa0 hkid
         have p0 : (0 : Int) ≤ (i : Int) := by omega
         have p1 : (i : Int) < 2 := by omega
         have ed : ((d + 1 : Nat) : Int) - 1 = (d : Int) := by omega
         have qr : decide (0 ≤ r) = true := decide_eq_true hr
         obtain ⟨r2, Hr2⟩ : ∃ r2, Hid (xleft d (kid T i) r = r2) := ⟨_, rfl⟩
         have hr3 := qa5 d (kid T i) r hr
         rw [Hr2.out] at hr3
         have HC : Hid (∀ w' : World, Below w.heap.size w w' → Calls Tryd.prog 36 #[.agg #[.int .u8 (kk : Int), .int .i64 nn, .string nx, .slice ka nl kc, .int .i64 ll, .int .i64 cc], .int .i64 r, .int .i64 (d : Int)] w' fun e w'' => e = .returned (.int .i64 r2) ∧ Below w'.heap.size w' w'') := fun w' hb => by rw [← Hr2.out]; exact ih w' (kid T i) _ r (by omega) (HKid.out.later hb) (by omega) (by omega)
         have Hk : Hid (xks (xleft d) (kid T) (i + 1) L1 = r2) := by show _ = _; rw [qa4, Hr.out, if_neg (by omega), Hr2.out]
         clear hkid hcl hb
         go_wp2_with (go_at_call 36; refine (HC.out _ HB.out).mono ?_; rintro e w2 ⟨rfl, hb2⟩; have HB2 := qa0 (jtwo HB.out hb2); have HV2 := qa0 (HVr.out.later hb2); clear hb2)
         exact ⟨⟨i + 1, r2, by omega, by go_num, rfl, Hk, by omega, by omega, HV2.out, HB2.out⟩, by simp [intOf]; omega⟩
        ·have qr : decide (0 ≤ r) = false := decide_eq_false hr
         have Hk : Hid (xks (xleft d) (kid T) 2 L1 = r) := by show _ = _; have h := qad (f := xleft d) (F := kid T) (k := i) (left := L1) (by rw [Hr.out]; omega) (2 - i); rw [show i + (2 - i) = 2 by omega] at h; rw [h, Hr.out]
         clear hb
         go_wp2
         go_ret
         exact ⟨by rw [HF.out, Hk.out]; rfl, HB.out⟩
       ·obtain rfl : i = 2 := by omega
        clear hb
        go_wp2
        go_ret
        exact ⟨by rw [HF.out, Hr.out]; rfl, HB.out⟩
     ·have HF : Hid (xleft (d + 1) T left = -1) := qa3 HT (by unfold xwant; simp [hz])
      rw [HF.out]
      rw [decide_eq_false hz] at e0
      go_enter Tryd.func36, Tryd.ntmps36
      go_wp2
      go_ret
      exact ⟨rfl, jlow _ _⟩
    ·have HF : Hid (xleft (d + 1) T left = -1) := qa3 HT (by unfold xwant; simp [hn])
     rw [HF.out]
     have qn : (n == 0) = false := by simpa using hn
     go_enter Tryd.func36, Tryd.ntmps36
     go_wp2
     go_ret
     exact ⟨rfl, jlow _ _⟩
   ·have HF : Hid (xleft (d + 1) T left = -1) := qa3 HT (by unfold xwant; simp [hlen])
    rw [HF.out]
    have ql : ((len : Int) == 2) = false := by simp; omega
    go_enter Tryd.func36, Tryd.ntmps36
    go_wp2
    go_ret
    exact ⟨rfl, jlow _ _⟩
  have q4 : ((k : Int) == 4) = false := by simp; omega
  by_cases hk5 : k = 5
  ·subst hk5
   by_cases hlen : len = 2
   ·subst hlen
    by_cases hn : n = 0
    ·subst hn
     by_cases hz : nm.size = 0
     ·obtain rfl : nm = ⟨#[]⟩ := qac hz
      have HF : Hid (xleft (d + 1) T left = xks (xleft d) (kid T) 2 L1) := qaj HT hleft (by rfl)
      go_enter Tryd.func36, Tryd.ntmps36
      go_wp2
      have HP0 := HVn
      go_loopw [1, 8] (fun vl vi wr => ∃ (i : Nat) (r : Int), i ≤ 2 ∧ vi = .int .i64 (i : Int) ∧ vl = .int .i64 r ∧ Hid (xks (xleft d) (kid T) i L1 = r) ∧ -1 ≤ r ∧ r ≤ 8192 ∧ Vn wr w.heap.size 25 #[.int .u8 5, .int .i64 0, .string ⟨#[]⟩, .slice a 2 cap, .int .i64 ln, .int .i64 cl] ∧ Below w.heap.size w wr) (fun _ vi _ => 2 - (intOf vi).toNat)
      case atStart => exact ⟨0, L1, by omega, rfl, rfl, rfl, by omega, by omega, HP0.out, jlow _ _⟩
      case round =>
       obtain ⟨i, r, hi, rfl, rfl, Hr, hr1, hr2, hv, hb⟩ := hrel
       have HB := qa0 hb
       have HVr := qa0 hv
       have c3 := hv.cell 3 _ rfl
       clear hv
       by_cases hlt : i < 2
       ·by_cases hr : 0 ≤ r
        ·obtain ⟨b, o, kk, nl, nn, ll, cc, nx, ka, kc, rfl, hkid, hcl⟩ := XL.at_ HXl.out (i := i) hlt
         obtain ⟨k0, k1, k2, k3, k4, k5⟩ := hcl _ hb
         have HKid := qa0 hkid
         have p0 : (0 : Int) ≤ (i : Int) := by omega
         have p1 : (i : Int) < 2 := by omega
         have ed : ((d + 1 : Nat) : Int) - 1 = (d : Int) := by omega
         have qr : decide (0 ≤ r) = true := decide_eq_true hr
         obtain ⟨r2, Hr2⟩ : ∃ r2, Hid (xleft d (kid T i) r = r2) := ⟨_, rfl⟩
         have hr3 := qa5 d (kid T i) r hr
         rw [Hr2.out] at hr3
         have HC : Hid (∀ w' : World, Below w.heap.size w w' → Calls Tryd.prog 36 #[.agg #[.int .u8 (kk : Int), .int .i64 nn, .string nx, .slice ka nl kc, .int .i64 ll, .int .i64 cc], .int .i64 r, .int .i64 (d : Int)] w' fun e w'' => e = .returned (.int .i64 r2) ∧ Below w'.heap.size w' w'') := fun w' hb => by rw [← Hr2.out]; exact ih w' (kid T i) _ r (by omega) (HKid.out.later hb) (by omega) (by omega)
         have Hk : Hid (xks (xleft d) (kid T) (i + 1) L1 = r2) := by show _ = _; rw [qa4, Hr.out, if_neg (by omega), Hr2.out]
         clear hkid hcl hb
         go_wp2_with (go_at_call 36; refine (HC.out _ HB.out).mono ?_; rintro e w2 ⟨rfl, hb2⟩; have HB2 := qa0 (jtwo HB.out hb2); have HV2 := qa0 (HVr.out.later hb2); clear hb2)
         exact ⟨⟨i + 1, r2, by omega, by go_num, rfl, Hk, by omega, by omega, HV2.out, HB2.out⟩, by simp [intOf]; omega⟩
        ·have qr : decide (0 ≤ r) = false := decide_eq_false hr
         have Hk : Hid (xks (xleft d) (kid T) 2 L1 = r) := by show _ = _; have h := qad (f := xleft d) (F := kid T) (k := i) (left := L1) (by rw [Hr.out]; omega) (2 - i); rw [show i + (2 - i) = 2 by omega] at h; rw [h, Hr.out]
         clear hb
         go_wp2
         go_ret
         exact ⟨by rw [HF.out, Hk.out]; rfl, HB.out⟩
       ·obtain rfl : i = 2 := by omega
        clear hb
        go_wp2
        go_ret
        exact ⟨by rw [HF.out, Hr.out]; rfl, HB.out⟩
     ·have HF : Hid (xleft (d + 1) T left = -1) := qa3 HT (by unfold xwant; simp [hz])
      rw [HF.out]
      rw [decide_eq_false hz] at e0
      go_enter Tryd.func36, Tryd.ntmps36
      go_wp2
      go_ret
      exact ⟨rfl, jlow _ _⟩
    ·have HF : Hid (xleft (d + 1) T left = -1) := qa3 HT (by unfold xwant; simp [hn])
     rw [HF.out]
     have qn : (n == 0) = false := by simpa using hn
     go_enter Tryd.func36, Tryd.ntmps36
     go_wp2
     go_ret
     exact ⟨rfl, jlow _ _⟩
   ·have HF : Hid (xleft (d + 1) T left = -1) := qa3 HT (by unfold xwant; simp [hlen])
    rw [HF.out]
    have ql : ((len : Int) == 2) = false := by simp; omega
    go_enter Tryd.func36, Tryd.ntmps36
    go_wp2
    go_ret
    exact ⟨rfl, jlow _ _⟩
  have q5 : ((k : Int) == 5) = false := by simp; omega
  by_cases hk6 : k = 6
  ·subst hk6
   by_cases hlen : len = 2
   ·subst hlen
    by_cases hn : n = 0
    ·subst hn
     by_cases hz : nm.size = 0
     ·obtain rfl : nm = ⟨#[]⟩ := qac hz
      have HF : Hid (xleft (d + 1) T left = xks (xleft d) (kid T) 2 L1) := qaj HT hleft (by rfl)
      go_enter Tryd.func36, Tryd.ntmps36
      go_wp2
      have HP0 := HVn
      go_loopw [1, 8] (fun vl vi wr => ∃ (i : Nat) (r : Int), i ≤ 2 ∧ vi = .int .i64 (i : Int) ∧ vl = .int .i64 r ∧ Hid (xks (xleft d) (kid T) i L1 = r) ∧ -1 ≤ r ∧ r ≤ 8192 ∧ Vn wr w.heap.size 25 #[.int .u8 6, .int .i64 0, .string ⟨#[]⟩, .slice a 2 cap, .int .i64 ln, .int .i64 cl] ∧ Below w.heap.size w wr) (fun _ vi _ => 2 - (intOf vi).toNat)
      case atStart => exact ⟨0, L1, by omega, rfl, rfl, rfl, by omega, by omega, HP0.out, jlow _ _⟩
      case round =>
       obtain ⟨i, r, hi, rfl, rfl, Hr, hr1, hr2, hv, hb⟩ := hrel
       have HB := qa0 hb
       have HVr := qa0 hv
       have c3 := hv.cell 3 _ rfl
       clear hv
       by_cases hlt : i < 2
       ·by_cases hr : 0 ≤ r
        ·obtain ⟨b, o, kk, nl, nn, ll, cc, nx, ka, kc, rfl, hkid, hcl⟩ := XL.at_ HXl.out (i := i) hlt
         obtain ⟨k0, k1, k2, k3, k4, k5⟩ := hcl _ hb
         have HKid := qa0 hkid
         have p0 : (0 : Int) ≤ (i : Int) := by omega
         have p1 : (i : Int) < 2 := by omega
         have ed : ((d + 1 : Nat) : Int) - 1 = (d : Int) := by omega
         have qr : decide (0 ≤ r) = true := decide_eq_true hr
         obtain ⟨r2, Hr2⟩ : ∃ r2, Hid (xleft d (kid T i) r = r2) := ⟨_, rfl⟩
         have hr3 := qa5 d (kid T i) r hr
         rw [Hr2.out] at hr3
         have HC : Hid (∀ w' : World, Below w.heap.size w w' → Calls Tryd.prog 36 #[.agg #[.int .u8 (kk : Int), .int .i64 nn, .string nx, .slice ka nl kc, .int .i64 ll, .int .i64 cc], .int .i64 r, .int .i64 (d : Int)] w' fun e w'' => e = .returned (.int .i64 r2) ∧ Below w'.heap.size w' w'') := fun w' hb => by rw [← Hr2.out]; exact ih w' (kid T i) _ r (by omega) (HKid.out.later hb) (by omega) (by omega)
         have Hk : Hid (xks (xleft d) (kid T) (i + 1) L1 = r2) := by show _ = _; rw [qa4, Hr.out, if_neg (by omega), Hr2.out]
         clear hkid hcl hb
         go_wp2_with (go_at_call 36; refine (HC.out _ HB.out).mono ?_; rintro e w2 ⟨rfl, hb2⟩; have HB2 := qa0 (jtwo HB.out hb2); have HV2 := qa0 (HVr.out.later hb2); clear hb2)
         exact ⟨⟨i + 1, r2, by omega, by go_num, rfl, Hk, by omega, by omega, HV2.out, HB2.out⟩, by simp [intOf]; omega⟩
        ·have qr : decide (0 ≤ r) = false := decide_eq_false hr
         have Hk : Hid (xks (xleft d) (kid T) 2 L1 = r) := by show _ = _; have h := qad (f := xleft d) (F := kid T) (k := i) (left := L1) (by rw [Hr.out]; omega) (2 - i); rw [show i + (2 - i) = 2 by omega] at h; rw [h, Hr.out]
         clear hb
         go_wp2
         go_ret
         exact ⟨by rw [HF.out, Hk.out]; rfl, HB.out⟩
       ·obtain rfl : i = 2 := by omega
        clear hb
        go_wp2
        go_ret
        exact ⟨by rw [HF.out, Hr.out]; rfl, HB.out⟩
     ·have HF : Hid (xleft (d + 1) T left = -1) := qa3 HT (by unfold xwant; simp [hz])
      rw [HF.out]
      rw [decide_eq_false hz] at e0
      go_enter Tryd.func36, Tryd.ntmps36
      go_wp2
      go_ret
      exact ⟨rfl, jlow _ _⟩
    ·have HF : Hid (xleft (d + 1) T left = -1) := qa3 HT (by unfold xwant; simp [hn])
     rw [HF.out]
     have qn : (n == 0) = false := by simpa using hn
     go_enter Tryd.func36, Tryd.ntmps36
     go_wp2
     go_ret
     exact ⟨rfl, jlow _ _⟩
   ·have HF : Hid (xleft (d + 1) T left = -1) := qa3 HT (by unfold xwant; simp [hlen])
    rw [HF.out]
    have ql : ((len : Int) == 2) = false := by simp; omega
    go_enter Tryd.func36, Tryd.ntmps36
    go_wp2
    go_ret
    exact ⟨rfl, jlow _ _⟩
  have q6 : ((k : Int) == 6) = false := by simp; omega
  by_cases hk7 : k = 7
  ·subst hk7
   by_cases hlen : len = 2
   ·subst hlen
    by_cases hn : n = 0
    ·subst hn
     by_cases hz : nm.size = 0
     ·obtain rfl : nm = ⟨#[]⟩ := qac hz
      have HF : Hid (xleft (d + 1) T left = xks (xleft d) (kid T) 2 L1) := qaj HT hleft (by rfl)
      go_enter Tryd.func36, Tryd.ntmps36
      go_wp2
      have HP0 := HVn
      go_loopw [1, 8] (fun vl vi wr => ∃ (i : Nat) (r : Int), i ≤ 2 ∧ vi = .int .i64 (i : Int) ∧ vl = .int .i64 r ∧ Hid (xks (xleft d) (kid T) i L1 = r) ∧ -1 ≤ r ∧ r ≤ 8192 ∧ Vn wr w.heap.size 25 #[.int .u8 7, .int .i64 0, .string ⟨#[]⟩, .slice a 2 cap, .int .i64 ln, .int .i64 cl] ∧ Below w.heap.size w wr) (fun _ vi _ => 2 - (intOf vi).toNat)
      case atStart => exact ⟨0, L1, by omega, rfl, rfl, rfl, by omega, by omega, HP0.out, jlow _ _⟩
      case round =>
       obtain ⟨i, r, hi, rfl, rfl, Hr, hr1, hr2, hv, hb⟩ := hrel
       have HB := qa0 hb
       have HVr := qa0 hv
       have c3 := hv.cell 3 _ rfl
       clear hv
       by_cases hlt : i < 2
       ·by_cases hr : 0 ≤ r
        ·obtain ⟨b, o, kk, nl, nn, ll, cc, nx, ka, kc, rfl, hkid, hcl⟩ := XL.at_ HXl.out (i := i) hlt
         obtain ⟨k0, k1, k2, k3, k4, k5⟩ := hcl _ hb
         have HKid := qa0 hkid
         have p0 : (0 : Int) ≤ (i : Int) := by omega
         have p1 : (i : Int) < 2 := by omega
         have ed : ((d + 1 : Nat) : Int) - 1 = (d : Int) := by omega
         have qr : decide (0 ≤ r) = true := decide_eq_true hr
         obtain ⟨r2, Hr2⟩ : ∃ r2, Hid (xleft d (kid T i) r = r2) := ⟨_, rfl⟩
         have hr3 := qa5 d (kid T i) r hr
         rw [Hr2.out] at hr3
         have HC : Hid (∀ w' : World, Below w.heap.size w w' → Calls Tryd.prog 36 #[.agg #[.int .u8 (kk : Int), .int .i64 nn, .string nx, .slice ka nl kc, .int .i64 ll, .int .i64 cc], .int .i64 r, .int .i64 (d : Int)] w' fun e w'' => e = .returned (.int .i64 r2) ∧ Below w'.heap.size w' w'') := fun w' hb => by rw [← Hr2.out]; exact ih w' (kid T i) _ r (by omega) (HKid.out.later hb) (by omega) (by omega)
         have Hk : Hid (xks (xleft d) (kid T) (i + 1) L1 = r2) := by show _ = _; rw [qa4, Hr.out, if_neg (by omega), Hr2.out]
         clear hkid hcl hb
         go_wp2_with (go_at_call 36; refine (HC.out _ HB.out).mono ?_; rintro e w2 ⟨rfl, hb2⟩; have HB2 := qa0 (jtwo HB.out hb2); have HV2 := qa0 (HVr.out.later hb2); clear hb2)
         exact ⟨⟨i + 1, r2, by omega, by go_num, rfl, Hk, by omega, by omega, HV2.out, HB2.out⟩, by simp [intOf]; omega⟩
        ·have qr : decide (0 ≤ r) = false := decide_eq_false hr
         have Hk : Hid (xks (xleft d) (kid T) 2 L1 = r) := by show _ = _; have h := qad (f := xleft d) (F := kid T) (k := i) (left := L1) (by rw [Hr.out]; omega) (2 - i); rw [show i + (2 - i) = 2 by omega] at h; rw [h, Hr.out]
         clear hb
         go_wp2
         go_ret
         exact ⟨by rw [HF.out, Hk.out]; rfl, HB.out⟩
       ·obtain rfl : i = 2 := by omega
        clear hb
        go_wp2
        go_ret
        exact ⟨by rw [HF.out, Hr.out]; rfl, HB.out⟩
     ·have HF : Hid (xleft (d + 1) T left = -1) := qa3 HT (by unfold xwant; simp [hz])
      rw [HF.out]
      rw [decide_eq_false hz] at e0
      go_enter Tryd.func36, Tryd.ntmps36
      go_wp2
      go_ret
      exact ⟨rfl, jlow _ _⟩
    ·have HF : Hid (xleft (d + 1) T left = -1) := qa3 HT (by unfold xwant; simp [hn])
     rw [HF.out]
     have qn : (n == 0) = false := by simpa using hn
     go_enter Tryd.func36, Tryd.ntmps36
     go_wp2
     go_ret
     exact ⟨rfl, jlow _ _⟩
   ·have HF : Hid (xleft (d + 1) T left = -1) := qa3 HT (by unfold xwant; simp [hlen])
    rw [HF.out]
    have ql : ((len : Int) == 2) = false := by simp; omega
    go_enter Tryd.func36, Tryd.ntmps36
    go_wp2
    go_ret
    exact ⟨rfl, jlow _ _⟩
  have q7 : ((k : Int) == 7) = false := by simp; omega
  by_cases hk8 : k = 8
  ·subst hk8
   by_cases hlen : len = 2
   ·subst hlen
    by_cases hn : n = 0
    ·subst hn
     by_cases hz : nm.size = 0
     ·obtain rfl : nm = ⟨#[]⟩ := qac hz
      have HF : Hid (xleft (d + 1) T left = xks (xleft d) (kid T) 2 L1) := qaj HT hleft (by rfl)
      go_enter Tryd.func36, Tryd.ntmps36
      go_wp2
      have HP0 := HVn
      go_loopw [1, 8] (fun vl vi wr => ∃ (i : Nat) (r : Int), i ≤ 2 ∧ vi = .int .i64 (i : Int) ∧ vl = .int .i64 r ∧ Hid (xks (xleft d) (kid T) i L1 = r) ∧ -1 ≤ r ∧ r ≤ 8192 ∧ Vn wr w.heap.size 25 #[.int .u8 8, .int .i64 0, .string ⟨#[]⟩, .slice a 2 cap, .int .i64 ln, .int .i64 cl] ∧ Below w.heap.size w wr) (fun _ vi _ => 2 - (intOf vi).toNat)
      case atStart => exact ⟨0, L1, by omega, rfl, rfl, rfl, by omega, by omega, HP0.out, jlow _ _⟩
      case round =>
       obtain ⟨i, r, hi, rfl, rfl, Hr, hr1, hr2, hv, hb⟩ := hrel
       have HB := qa0 hb
       have HVr := qa0 hv
       have c3 := hv.cell 3 _ rfl
       clear hv
       by_cases hlt : i < 2
       ·by_cases hr : 0 ≤ r
        ·obtain ⟨b, o, kk, nl, nn, ll, cc, nx, ka, kc, rfl, hkid, hcl⟩ := XL.at_ HXl.out (i := i) hlt
         obtain ⟨k0, k1, k2, k3, k4, k5⟩ := hcl _ hb
         have HKid := qa0 hkid
         have p0 : (0 : Int) ≤ (i : Int) := by omega
         have p1 : (i : Int) < 2 := by omega
         have ed : ((d + 1 : Nat) : Int) - 1 = (d : Int) := by omega
         have qr : decide (0 ≤ r) = true := decide_eq_true hr
         obtain ⟨r2, Hr2⟩ : ∃ r2, Hid (xleft d (kid T i) r = r2) := ⟨_, rfl⟩
         have hr3 := qa5 d (kid T i) r hr
         rw [Hr2.out] at hr3
         have HC : Hid (∀ w' : World, Below w.heap.size w w' → Calls Tryd.prog 36 #[.agg #[.int .u8 (kk : Int), .int .i64 nn, .string nx, .slice ka nl kc, .int .i64 ll, .int .i64 cc], .int .i64 r, .int .i64 (d : Int)] w' fun e w'' => e = .returned (.int .i64 r2) ∧ Below w'.heap.size w' w'') := fun w' hb => by rw [← Hr2.out]; exact ih w' (kid T i) _ r (by omega) (HKid.out.later hb) (by omega) (by omega)
         have Hk : Hid (xks (xleft d) (kid T) (i + 1) L1 = r2) := by show _ = _; rw [qa4, Hr.out, if_neg (by omega), Hr2.out]
         clear hkid hcl hb
         go_wp2_with (go_at_call 36; refine (HC.out _ HB.out).mono ?_; rintro e w2 ⟨rfl, hb2⟩; have HB2 := qa0 (jtwo HB.out hb2); have HV2 := qa0 (HVr.out.later hb2); clear hb2)
         exact ⟨⟨i + 1, r2, by omega, by go_num, rfl, Hk, by omega, by omega, HV2.out, HB2.out⟩, by simp [intOf]; omega⟩
        ·have qr : decide (0 ≤ r) = false := decide_eq_false hr
         have Hk : Hid (xks (xleft d) (kid T) 2 L1 = r) := by show _ = _; have h := qad (f := xleft d) (F := kid T) (k := i) (left := L1) (by rw [Hr.out]; omega) (2 - i); rw [show i + (2 - i) = 2 by omega] at h; rw [h, Hr.out]
         clear hb
         go_wp2
         go_ret
         exact ⟨by rw [HF.out, Hk.out]; rfl, HB.out⟩
       ·obtain rfl : i = 2 := by omega
        clear hb
        go_wp2
        go_ret
        exact ⟨by rw [HF.out, Hr.out]; rfl, HB.out⟩
     ·have HF : Hid (xleft (d + 1) T left = -1) := qa3 HT (by unfold xwant; simp [hz])
      rw [HF.out]
      rw [decide_eq_false hz] at e0
      go_enter Tryd.func36, Tryd.ntmps36
      go_wp2
      go_ret
      exact ⟨rfl, jlow _ _⟩
    ·have HF : Hid (xleft (d + 1) T left = -1) := qa3 HT (by unfold xwant; simp [hn])
     rw [HF.out]
     have qn : (n == 0) = false := by simpa using hn
     go_enter Tryd.func36, Tryd.ntmps36
     go_wp2
     go_ret
     exact ⟨rfl, jlow _ _⟩
   ·have HF : Hid (xleft (d + 1) T left = -1) := qa3 HT (by unfold xwant; simp [hlen])
    rw [HF.out]
    have ql : ((len : Int) == 2) = false := by simp; omega
    go_enter Tryd.func36, Tryd.ntmps36
    go_wp2
    go_ret
    exact ⟨rfl, jlow _ _⟩
  have q8 : ((k : Int) == 8) = false := by simp; omega
  have HF : Hid (xleft (d + 1) T left = -1) := qa3 HT (by unfold xwant; rw [if_neg (show ¬ k = 1 from hk1), if_neg (show ¬ k = 2 from hk2), if_neg (show ¬ k = 3 from hk3), if_neg (show ¬ (4 ≤ k ∧ k ≤ 8) by omega)])
  rw [HF.out]
  go_enter Tryd.func36, Tryd.ntmps36
  go_wp2
  go_ret
  exact ⟨rfl, jlow _ _⟩
end Go.Proofs.YtgmndjbicandfaaDoor
