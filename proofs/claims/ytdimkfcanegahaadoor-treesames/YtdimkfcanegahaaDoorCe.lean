/-
  Contracts of the tree's reference: exprs, MayExpr, Deep.
-/
import Derived.Test.YtdimkfcanegahaaDoorCd
import Derived.Lib.MinMax
namespace Go.Proofs.YtdimkfcanegahaaDoor
open Go.RowKit
set_option maxRecDepth 20000 in
set_option maxHeartbeats 2000000 in
theorem rexprs_any (w : World) (a : Option Addr) (n c : Nat) (F : Nat → Xt) (left : Int) (hX : ∀ d, XL d w a n F) (hn : n ≤ 140737488351232) (h1 : -1 ≤ left) (h2 : left ≤ 8192) :
    Calls Tryd.prog 55 #[.slice a n c, .int .i64 left] w fun e w' => e = .returned (.int .i64 (xks (xleft 16) F n left)) ∧ Below w.heap.size w w' := by
  have HX := jhid9 hX
  clear hX
  go_enter Tryd.func55, Tryd.ntmps55
  go_wp2
  go_loopw [1, 5] (fun vl vi wr => ∃ (i : Nat) (r : Int), i ≤ n ∧ vi = .int .i64 (i : Int) ∧ vl = .int .i64 r ∧ Hid (xks (xleft 16) F i left = r) ∧ -1 ≤ r ∧ r ≤ 8192 ∧ Below w.heap.size w wr) (fun _ vi _ => n - (intOf vi).toNat)
  case atStart => exact ⟨0, left, by omega, rfl, rfl, rfl, by omega, by omega, Below.refl _ _⟩
  case round =>
    obtain ⟨i, r, hi, rfl, rfl, Hr, hr1, hr2, hb⟩ := hrel
    have HB := jhid9 hb
    by_cases hlt : i < n
    · have p0 : (0 : Int) ≤ (i : Int) := by omega
      have p1 : (i : Int) < (n : Int) := by omega
      by_cases hr : 0 ≤ r
      · obtain ⟨b, o, kk, nl, nn, ll, cc, nx, ka, kc, rfl, hkid, hcl⟩ := XL.at_ HX.out (i := i) hlt
        obtain ⟨k0, k1, k2, k3, k4, k5⟩ := hcl _ hb
        have HKid := jhid9 hkid
        have qr : decide (0 ≤ r) = true := decide_eq_true hr
        obtain ⟨r2, Hr2⟩ : ∃ r2, Hid (xleft 16 (F i) r = r2) := ⟨_, rfl⟩
        have hr3 := xleft_le 16 (F i) r hr
        rw [Hr2.out] at hr3
        have HC : Hid (∀ w' : World, Below w.heap.size w w' → Calls Tryd.prog 28 #[.agg #[.int .u8 (kk : Int), .int .i64 nn, .string nx, .slice ka nl kc, .int .i64 ll, .int .i64 cc], .int .i64 r, .int .i64 ((16 : Nat) : Int)] w' fun e w'' => e = .returned (.int .i64 r2) ∧ Below w'.heap.size w' w'') := fun w' hb => by rw [← Hr2.out]; exact rexpr_any 16 w' (F i) _ r (by omega) (HKid.out.later hb) (by omega) (by omega)
        have Hk : Hid (xks (xleft 16) F (i + 1) left = r2) := by show _ = _; rw [xks_succ, Hr.out, if_neg (by omega), Hr2.out]
        clear hkid hcl hb
        go_wp2_with (go_at_call 28; refine (HC.out _ HB.out).mono ?_; rintro e w2 ⟨rfl, hb2⟩; have HB2 := jhid9 (jtwo HB.out hb2); clear hb2)
        exact ⟨⟨i + 1, r2, by omega, by go_num, rfl, Hk, by omega, by omega, HB2.out⟩, by simp [intOf]; omega⟩
      · have qr : decide (0 ≤ r) = false := decide_eq_false hr
        have Hk : Hid (xks (xleft 16) F n left = r) := by show _ = _; have h := xks_stop (f := xleft 16) (F := F) (k := i) (left := left) (by rw [Hr.out]; omega) (n - i); rw [show i + (n - i) = n by omega] at h; rw [h, Hr.out]
        clear hb
        go_wp2
        go_ret
        exact ⟨by rw [Hk.out]; rfl, HB.out⟩
    · obtain rfl : i = n := by omega
      clear hb
      go_wp2
      go_ret
      exact ⟨by rw [Hr.out]; rfl, HB.out⟩
/-- May an expression be? -/
def mayX (T : Xt) : Bool := decide (0 ≤ xleft 16 T 8192)
theorem mayX_mx {T : Xt} (h : mayX T = true) : MX 16 T := ⟨8192, by omega, of_decide_eq_true h⟩
set_option maxRecDepth 20000 in
set_option maxHeartbeats 1000000 in
theorem rmayx_any (w : World) (T : Xt) (v : Value) (hX : XV w v T) : Calls Tryd.prog 10 #[v] w fun e w' => e = .returned (.bool (mayX T)) ∧ Below w.heap.size w w' := by
  have HX := jhid9 hX
  obtain ⟨⟨a, cap, rfl, _⟩, _⟩ := hX
  obtain ⟨r, Hr⟩ : ∃ r, Hid (xleft 16 T 8192 = r) := ⟨_, rfl⟩
  have HC : Hid (∀ w' : World, Below w.heap.size w w' → Calls Tryd.prog 28 #[.agg #[.int .u8 ((T []).k : Int), .int .i64 (T []).n, .string (T []).nm, .slice a (T []).len cap, .int .i64 (T []).ln, .int .i64 (T []).cl], .int .i64 8192, .int .i64 ((16 : Nat) : Int)] w' fun e w'' => e = .returned (.int .i64 r) ∧ Below w'.heap.size w' w'') := fun w' hb => by rw [← Hr.out]; exact rexpr_any 16 w' T _ 8192 (by omega) (HX.out.later hb) (by omega) (by omega)
  have HM : Hid (mayX T = decide (0 ≤ r)) := by show mayX T = _; unfold mayX; rw [Hr.out]
  rw [HM.out]
  clear HM HX Hr
  generalize T [] = l at *
  obtain ⟨k, n, nm, len, ln, cl⟩ := l
  have hv := Vn.new w 28 #[.int .u8 (k : Int), .int .i64 n, .string nm, .slice a len cap, .int .i64 ln, .int .i64 cl]
  have c0 := hv.cell 0 _ rfl
  have c1 := hv.cell 1 _ rfl
  have c2 := hv.cell 2 _ rfl
  have c3 := hv.cell 3 _ rfl
  have c4 := hv.cell 4 _ rfl
  have c5 := hv.cell 5 _ rfl
  clear hv
  go_enter Tryd.func10, Tryd.ntmps10
  go_wp2_with (go_at_call 28; refine (HC.out _ (jlow _ _)).mono ?_; rintro e w2 ⟨rfl, hb2⟩; have HB2 := jhid9 hb2; clear hb2)
  go_ret
  exact ⟨rfl, jtwo (jlow _ _) HB2.out⟩
theorem MX.len {d : Nat} {T : Xt} (h : MX (d + 1) T) : (T []).len ≤ 2 := by
  obtain ⟨left, _, h⟩ := h
  obtain ⟨m, hw, _⟩ := xleft_parts h
  have := xwant_len hw
  omega
theorem MX.no {T : Xt} (h : MX 0 T) : False := by
  obtain ⟨left, _, h⟩ := h
  rw [xleft_zero] at h
  omega
set_option maxRecDepth 20000 in
set_option maxHeartbeats 2000000 in
theorem rdeep_any : ∀ (d : Nat) (w : World) (T : Xt) (v : Value), d ≤ 16 → XV w v T → MX d T →
    Calls Tryd.prog 11 #[v] w fun e w' => e = .returned (.int .i64 (xdeep d T : Nat)) ∧ Below w.heap.size w w' := by
  intro d
  induction d with
  | zero => intro w T v _ _ h; exact h.no.elim
  | succ d ih =>
    intro w T v hd hX hM
    have hl2 := hM.len
    have HMk : Hid (∀ i, i < (T []).len → MX d (kid T i)) := fun i hi => hM.kid hi
    obtain ⟨⟨a, cap, rfl, hXl⟩, hok⟩ := hX
    have HF : Hid (xdeep (d + 1) T = xmx (xdeep d) (kid T) (T []).len + 1) := rfl
    rw [HF.out]
    clear HF
    generalize T [] = l at *
    obtain ⟨k, n, nm, len, ln, cl⟩ := l
    have hl2 : len ≤ 2 := hl2
    have HXl := jhid9 hXl
    have HVn := jhid9 (Vn.new w 28 #[.int .u8 (k : Int), .int .i64 n, .string nm, .slice a len cap, .int .i64 ln, .int .i64 cl])
    clear hXl hok hM
    go_enter Tryd.func11, Tryd.ntmps11
    go_wp2
    go_loopw [3, 4] (fun vn vi wr => ∃ (i m : Nat), i ≤ len ∧ m ≤ 16 ∧ vi = .int .i64 (i : Int) ∧ vn = .int .i64 (m : Int) ∧ Hid (xmx (xdeep d) (kid T) i = m) ∧ Vn wr w.heap.size 28 #[.int .u8 (k : Int), .int .i64 n, .string nm, .slice a len cap, .int .i64 ln, .int .i64 cl] ∧ Below w.heap.size w wr) (fun _ vi _ => len - (intOf vi).toNat)
    case atStart => exact ⟨0, 0, by omega, by omega, rfl, rfl, rfl, HVn.out, jlow _ _⟩
    case round =>
      obtain ⟨i, m, hi, hm16, rfl, rfl, Hm, hv, hb⟩ := hrel
      have HB := jhid9 hb
      have HVr := jhid9 hv
      have c3 := hv.cell 3 _ rfl
      clear hv
      by_cases hlt : i < len
      · obtain ⟨b, o, kk, nl, nn, ll, cc, nx, ka, kc, rfl, hkid, hcl⟩ := XL.at_ HXl.out (i := i) hlt
        obtain ⟨k0, k1, k2, k3, k4, k5⟩ := hcl _ hb
        have HKid := jhid9 hkid
        have p0 : (0 : Int) ≤ (i : Int) := by omega
        have p1 : (i : Int) < (len : Int) := by omega
        obtain ⟨m2, Hm2⟩ : ∃ m2, Hid (xdeep d (kid T i) = m2) := ⟨_, rfl⟩
        have hm2 : m2 ≤ 16 := by rw [← Hm2.out]; have := xdeep_le d (kid T i); omega
        obtain ⟨m3, Hm3⟩ : ∃ m3, Hid (max m m2 = m3) := ⟨_, rfl⟩
        have em : max (m : Int) (m2 : Int) = (m3 : Int) := by have := Hm3.out; omega
        have hm3 : m3 ≤ 16 := by have := Hm3.out; omega
        have HC : Hid (∀ w' : World, Below w.heap.size w w' → Calls Tryd.prog 11 #[.agg #[.int .u8 (kk : Int), .int .i64 nn, .string nx, .slice ka nl kc, .int .i64 ll, .int .i64 cc]] w' fun e w'' => e = .returned (.int .i64 (m2 : Int)) ∧ Below w'.heap.size w' w'') := fun w' hb => by rw [← Hm2.out]; exact ih w' (kid T i) _ (by omega) (HKid.out.later hb) (HMk.out i hlt)
        have Hk : Hid (xmx (xdeep d) (kid T) (i + 1) = m3) := by show max _ _ = _; rw [Hm.out, Hm2.out, Hm3.out]
        clear hkid hcl hb
        go_wp2_with (go_at_call 11; refine (HC.out _ HB.out).mono ?_; rintro e w2 ⟨rfl, hb2⟩; have HB2 := jhid9 (jtwo HB.out hb2); have HV2 := jhid9 (HVr.out.later hb2); clear hb2)
        exact ⟨⟨i + 1, m3, by omega, hm3, by go_num, rfl, Hk, HV2.out, HB2.out⟩, by simp [intOf]; omega⟩
      · obtain rfl : i = len := by omega
        clear hb
        go_wp2
        go_ret
        exact ⟨by rw [Hm.out]; rfl, HB.out⟩
end Go.Proofs.YtdimkfcanegahaaDoor
