/-
  Contracts of the program's tree: Deep, ShapeText.
-/
import Derived.Test.YtdimkfcanegahaaDoorDq
import Derived.Test.YtdimkfcanegahaaDoorDg
namespace Go.Proofs.YtdimkfcanegahaaDoor
open Go.RowKit
set_option maxRecDepth 20000 in
set_option maxHeartbeats 4000000 in
theorem tdeepest : ∀ (d : Nat) (w : World) (T : Xt) (v : Value), d ≤ 16 → XV w v T → MX d T →
    Calls Tryd.prog 30 #[v] w fun e w' => e = .returned (.int .i64 (xdeep d T : Nat)) ∧ Below w.heap.size w w' := by
  intro d
  induction d with
  | zero => intro w T v _ _ h; exact h.no.elim
  | succ d ih =>
    intro w T v hd hX hM
    have hl2 := hM.len
    have HMk : Hid (∀ i, i < (T []).len → MX d (kid T i)) := fun i hi => hM.kid hi
    obtain ⟨⟨a, cap, rfl, hXl⟩, hok⟩ := hX
    have HF : Hid (xdeep (d + 1) T = xmx (xdeep d) (kid T) (T []).len + 1) := rfl
    rw [HF.out]
    clear HF
    generalize T [] = l at *
    obtain ⟨k, n, nm, len, ln, cl⟩ := l
    have hl2 : len ≤ 2 := hl2
    have HXl := jhid9 hXl
    have HVn := jhid9 (Vn.new w 28 #[.int .u8 (k : Int), .int .i64 n, .string nm, .slice a len cap, .int .i64 ln, .int .i64 cl])
    have c3 := HVn.out.cell 3 _ rfl
    clear hXl hok hM
    go_enter Tryd.func30, Tryd.ntmps30
    go_wp2
    go_loopw [3, 9] (fun vn vi wr => ∃ (i m : Nat), i ≤ len ∧ m ≤ 16 ∧ vi = .int .i64 (i : Int) ∧ vn = .int .i64 (m : Int) ∧ Hid (xmx (xdeep d) (kid T) i = m) ∧ Below w.heap.size w wr) (fun _ vi _ => len - (intOf vi).toNat)
    case atStart => exact ⟨0, 0, by omega, by omega, rfl, rfl, rfl, jlow _ _⟩
    case round =>
      obtain ⟨i, m, hi, hm16, rfl, rfl, Hm, hb⟩ := hrel
      have HB := jhid9 hb
      by_cases hlt : i < len
      · obtain ⟨b, o, kk, nl, nn, ll, cc, nx, ka, kc, rfl, hkid, hcl⟩ := XL.at_ HXl.out (i := i) hlt
        obtain ⟨k0, k1, k2, k3, k4, k5⟩ := hcl _ hb
        have HKid := jhid9 hkid
        have p0 : (0 : Int) ≤ (i : Int) := by omega
        have p1 : (i : Int) < (len : Int) := by omega
        obtain ⟨m2, Hm2⟩ : ∃ m2, Hid (xdeep d (kid T i) = m2) := ⟨_, rfl⟩
        have hm2 : m2 ≤ 16 := by rw [← Hm2.out]; have := xdeep_le d (kid T i); omega
        obtain ⟨m3, Hm3⟩ : ∃ m3, Hid (max m m2 = m3) := ⟨_, rfl⟩
        have em : max (m : Int) (m2 : Int) = (m3 : Int) := by have := Hm3.out; omega
        have hm3 : m3 ≤ 16 := by have := Hm3.out; omega
        have HC : Hid (∀ w' : World, Below w.heap.size w w' → Calls Tryd.prog 30 #[.agg #[.int .u8 (kk : Int), .int .i64 nn, .string nx, .slice ka nl kc, .int .i64 ll, .int .i64 cc]] w' fun e w'' => e = .returned (.int .i64 (m2 : Int)) ∧ Below w'.heap.size w' w'') := fun w' hb => by rw [← Hm2.out]; exact ih w' (kid T i) _ (by omega) (HKid.out.later hb) (HMk.out i hlt)
        have Hk : Hid (xmx (xdeep d) (kid T) (i + 1) = m3) := by show max _ _ = _; rw [Hm.out, Hm2.out, Hm3.out]
        clear hkid hcl hb
        have M1 : True := trivial
        go_wp2_with (first
          | (clear M1; refine wpList_store_vn rfl 28 _ _ rfl wr.heap.size _ #[.int .u8 (kk : Int), .int .i64 nn, .string nx, .slice ka nl kc, .int .i64 ll, .int .i64 cc] rfl rfl (Vn.new wr _ _) sizeX rfl (all6 rfl rfl rfl rfl rfl rfl) ?_; intro w1 HV1 hg1; have hb1 : Below wr.heap.size wr w1 := (jlow _ _).trans (jbelow hg1.out (jlow _ _).size (fun g e => by cases e; exact Nat.le_refl _)); have HB1 := jhid9 (jtwo HB.out hb1); have m0 := HV1.out.cell 0 _ rfl; have m1 := HV1.out.cell 1 _ rfl; have m2 := HV1.out.cell 2 _ rfl; have m3 := HV1.out.cell 3 _ rfl; have m4 := HV1.out.cell 4 _ rfl; have m5 := HV1.out.cell 5 _ rfl; clear hg1 hb1)
          | (go_at_call 30; refine (HC.out _ HB1.out).mono ?_; rintro e w2 ⟨rfl, hb2⟩; have HB2 := jhid9 (jtwo HB1.out hb2); clear hb2))
        exact ⟨⟨i + 1, _, by omega, hm3, by go_num, rfl, Hk, HB2.out⟩, by simp [intOf]; omega⟩
      · obtain rfl : i = len := by omega
        clear hb
        go_wp2
        go_ret
        exact ⟨by rw [Hm.out]; rfl, HB.out⟩
/-- How deep an expression is, or 0. -/
def xdp (T : Xt) : Nat := if mayX T = true then xdeep 16 T else 0
set_option maxRecDepth 20000 in
set_option maxHeartbeats 1000000 in
theorem tdeep10 (w : World) (T : Xt) (v : Value) (hX : XV w v T) (hw : Wt9 w) : Calls Tryd.prog 13 #[v] w fun e w' => e = .returned (.int .i64 (xdp T : Nat)) ∧ Below w.heap.size w w' := by
  have HX := jhid9 hX
  have HMy : Hid (∀ w' : World, Below w.heap.size w w' → Calls Tryd.prog 12 #[v] w' fun e w'' => e = .returned (.bool (mayX T)) ∧ Below w'.heap.size w' w'') := fun w' hb => tmayx w' T v (HX.out.later hb) (hw.later hb)
  have HDp : Hid (mayX T = true → ∀ w' : World, Below w.heap.size w w' → Calls Tryd.prog 30 #[v] w' fun e w'' => e = .returned (.int .i64 (xdeep 16 T : Nat)) ∧ Below w'.heap.size w' w'') := fun hm w' hb => tdeepest 16 w' T v (by omega) (HX.out.later hb) (mayX_mx hm)
  obtain ⟨R, HR⟩ : ∃ R, Hid (xdp T = R) := ⟨_, rfl⟩
  rw [HR.out]
  obtain ⟨⟨a, cap, rfl, _⟩, _⟩ := hX
  cases hm : mayX T with
  | false =>
    obtain rfl : R = 0 := by rw [← HR.out]; unfold xdp; rw [hm]; rfl
    rw [hm] at HMy
    clear HX HR hm HDp
    generalize T [] = l at *
    obtain ⟨k, n, nm, len, ln, cl⟩ := l
    have hv := Vn.new w 28 #[.int .u8 (k : Int), .int .i64 n, .string nm, .slice a len cap, .int .i64 ln, .int .i64 cl]
    have c0 := hv.cell 0 _ rfl
    have c1 := hv.cell 1 _ rfl
    have c2 := hv.cell 2 _ rfl
    have c3 := hv.cell 3 _ rfl
    have c4 := hv.cell 4 _ rfl
    have c5 := hv.cell 5 _ rfl
    clear hv
    go_enter Tryd.func13, Tryd.ntmps13
    go_wp2_with (go_at_call 12; refine (HMy.out _ (jlow _ _)).mono ?_; rintro e w2 ⟨rfl, hb2⟩; have HB2 := jhid9 (jtwo (jlow _ _) hb2); clear hb2)
    go_ret
    exact ⟨rfl, HB2.out⟩
  | true =>
    have hR : xdeep 16 T = R := by rw [← HR.out]; unfold xdp; rw [hm]; rfl
    have HD2 := jhid9 (HDp.out hm)
    rw [hR] at HD2
    rw [hm] at HMy
    clear HX HR hm HDp hR
    generalize T [] = l at *
    obtain ⟨k, n, nm, len, ln, cl⟩ := l
    have HV := jhid9 (Vn.new w 28 #[.int .u8 (k : Int), .int .i64 n, .string nm, .slice a len cap, .int .i64 ln, .int .i64 cl])
    have c0 := HV.out.cell 0 _ rfl
    have c1 := HV.out.cell 1 _ rfl
    have c2 := HV.out.cell 2 _ rfl
    have c3 := HV.out.cell 3 _ rfl
    have c4 := HV.out.cell 4 _ rfl
    have c5 := HV.out.cell 5 _ rfl
    go_enter Tryd.func13, Tryd.ntmps13
    go_wp2_with (first
      | (go_at_call 12; refine (HMy.out _ (jlow _ _)).mono ?_; rintro e w2 ⟨rfl, hb2⟩; have HB2 := jhid9 (jtwo (jlow _ _) hb2); have HV2 := jhid9 (HV.out.later hb2); clear hb2; have d0 := HV2.out.cell 0 _ rfl; have d1 := HV2.out.cell 1 _ rfl; have d2 := HV2.out.cell 2 _ rfl; have d3 := HV2.out.cell 3 _ rfl; have d4 := HV2.out.cell 4 _ rfl; have d5 := HV2.out.cell 5 _ rfl)
      | (go_at_call 30; refine (HD2.out _ HB2.out).mono ?_; rintro e w3 ⟨rfl, hb3⟩; have HB3 := jhid9 (jtwo HB2.out hb3); clear hb3))
    go_ret
    exact ⟨rfl, HB3.out⟩
/-- The text and the error of a shape. -/
def sE (S : St) : Nat := if mayS S = false then 2 else if (sby 16 S).length ≤ 65536 then 0 else 4
def sS (S : St) : ByteArray := if mayS S = false then ⟨#[]⟩ else if (sby 16 S).length ≤ 65536 then ⟨(sby 16 S).toArray⟩ else ⟨#[]⟩
theorem rm10_16 : Room [] (rm10 16) := ⟨(), by unfold rm10; show 0 + _ ≤ _; omega⟩
set_option maxRecDepth 20000 in
set_option maxHeartbeats 4000000 in
theorem tstext (w : World) (S : St) (v : Value) (hX : SV w v S) (h9 : Tab9 w) (hw : Wt9 w) (hs : Xs10 w) (hsw : Sw10 w) :
    Calls Tryd.prog 39 #[v] w fun e w' => e = .returned (.tuple #[.string (sS S), .int .i64 (sE S : Nat)]) ∧ Below w.heap.size w w' := by
  have HX := jhid9 hX
  have H9 := jhid9 h9
  have HW := jhid9 hw
  have HS := jhid9 hs
  have HSw := jhid9 hsw
  have HMy : Hid (∀ w' : World, Below w.heap.size w w' → Calls Tryd.prog 14 #[v] w' fun e w'' => e = .returned (.bool (mayS S)) ∧ Below w'.heap.size w' w'') := fun w' hb => tmays w' S v (HX.out.later hb) (HW.out.later hb)
  obtain ⟨R, HSx⟩ : ∃ R, Hid (sS S = R) := ⟨_, rfl⟩
  obtain ⟨E, HEx⟩ : ∃ E, Hid (sE S = E) := ⟨_, rfl⟩
  rw [HSx.out, HEx.out]
  obtain ⟨⟨aa, pa, ra, ca, cp, cr, rfl, _⟩, _⟩ := hX
  clear h9 hw hs hsw
  cases hm : mayS S with
  | false =>
    obtain rfl : E = 2 := by rw [← HEx.out]; unfold sE; rw [hm]; rfl
    obtain rfl : R = ⟨#[]⟩ := by rw [← HSx.out]; unfold sS; rw [hm]; rfl
    rw [hm] at HMy
    clear HX HSx HEx hm H9 HW HS HSw
    generalize S [] = l at *
    obtain ⟨k, nm, na, args, np, nr, rl, rows, ln, cl⟩ := l
    have hv := Vn.new w 33 #[.int .u8 (k : Int), .string nm, .slice aa na ca, .slice pa np cp, .slice ra nr cr, .int .i64 ln, .int .i64 cl]
    have c0 := hv.cell 0 _ rfl
    have c1 := hv.cell 1 _ rfl
    have c2 := hv.cell 2 _ rfl
    have c3 := hv.cell 3 _ rfl
    have c4 := hv.cell 4 _ rfl
    have c5 := hv.cell 5 _ rfl
    have c6 := hv.cell 6 _ rfl
    clear hv
    go_enter Tryd.func39, Tryd.ntmps39
    go_wp2_with (go_at_call 14; refine (HMy.out _ (jlow _ _)).mono ?_; rintro e w2 ⟨rfl, hb2⟩; have HB2 := jhid9 (jtwo (jlow _ _) hb2); clear hb2)
    go_ret2
    exact ⟨rfl, HB2.out⟩
  | true =>
    have HM := jhid9 (mayS_ms hm)
    have HF := jhid9 (stk_f 16 S HM.out)
    have HZ : ∃ _ : Unit, (stk 16 S).length ≤ 57344 := ⟨(), HM.out.toks⟩
    have HSE : Hid ((if (sby 16 S).length ≤ 65536 then (⟨(sby 16 S).toArray⟩ : ByteArray) else ⟨#[]⟩) = R ∧ (if (sby 16 S).length ≤ 65536 then 0 else 4 : Nat) = E) := by
      refine ⟨?_, ?_⟩
      · rw [← HSx.out]; unfold sS; rw [hm]; rfl
      · rw [← HEx.out]; unfold sE; rw [hm]; rfl
    have HPx : Hid (∀ (w0 w' : World) (bc : Nat) (v : Value), SV w0 v S → Xs10 w0 → Sw10 w0 → Lp w0 w' bc [] → Calls Tryd.prog 66 #[.func (.func 60) #[] #[.pointer (some ⟨bc, 0, none⟩)], v] w' fun e w'' => e = .returned (.tuple #[]) ∧ Lp w0 w'' bc (stk 16 S) ∧ Gw bc w' w'') := fun w0 w' bc v h1 h2 h3 h4 => by
      have := tputs 16 w0 w' bc [] S v (by omega) h1 HM.out h2 h3 h4 rm10_16
      simpa using this
    have HTx : Hid (∀ (w0 w' : World) (bc : Nat), Lp w0 w' bc (stk 16 S) → Tab9 w' → Wt9 w' → Calls Tryd.prog 61 #[.pointer (some ⟨bc, 0, none⟩)] w' fun e w'' => e = .returned (.tuple #[.string R, .int .i64 (E : Int)]) ∧ Below w'.heap.size w' w'') := fun w0 w' bc h1 h2 h3 => by
      have := ttext w0 w' bc _ _ h1 HF (by obtain ⟨_, h⟩ := HZ; omega) h2 h3
      rw [HSE.out.1, HSE.out.2] at this
      exact this
    rw [hm] at HMy
    clear HSx HEx hm HF HZ HSE HM
    generalize stk 16 S = X at *
    generalize S [] = l at *
    obtain ⟨k, nm, na, args, np, nr, rl, rows, ln, cl⟩ := l
    have HV := jhid9 (Vn.new w 33 #[.int .u8 (k : Int), .string nm, .slice aa na ca, .slice pa np cp, .slice ra nr cr, .int .i64 ln, .int .i64 cl])
    have c0 := HV.out.cell 0 _ rfl
    have c1 := HV.out.cell 1 _ rfl
    have c2 := HV.out.cell 2 _ rfl
    have c3 := HV.out.cell 3 _ rfl
    have c4 := HV.out.cell 4 _ rfl
    have c5 := HV.out.cell 5 _ rfl
    have c6 := HV.out.cell 6 _ rfl
    go_enter Tryd.func39, Tryd.ntmps39
    go_wp2_with (first
      | (go_at_call 14; refine (HMy.out _ (jlow _ _)).mono ?_; rintro e w2 ⟨rfl, hb2⟩; have HB2 := jhid9 (jtwo (jlow _ _) hb2); have HV2 := jhid9 (HV.out.later hb2); clear hb2)
      | (go_at_call 35; refine (tline _).mono ?_; rintro e w3 ⟨bc, rfl, hl3, hb3⟩; have HL3 := jhid9 hl3; have HB3 := jhid9 (jtwo HB2.out hb3); have HV3 := jhid9 (HV2.out.later hb3); clear hb3 hl3; have d0 := HV3.out.cell 0 _ rfl; have d1 := HV3.out.cell 1 _ rfl; have d2 := HV3.out.cell 2 _ rfl; have d3 := HV3.out.cell 3 _ rfl; have d4 := HV3.out.cell 4 _ rfl; have d5 := HV3.out.cell 5 _ rfl; have d6 := HV3.out.cell 6 _ rfl)
      | (go_at_call 66; refine (HPx.out w2 _ bc _ (HX.out.later HB2.out) (HS.out.later HB2.out) (HSw.out.later HB2.out) HL3.out).mono ?_; rintro e w4 ⟨rfl, hl4, hg4⟩; have HL4 := jhid9 hl4; have HB4 := jhid9 (HB2.out.trans (hl4.below.mono HB2.out.size)); clear hl4 hg4)
      | (go_at_call 61; refine (HTx.out w2 _ bc HL4.out (H9.out.later HB4.out) (HW.out.later HB4.out)).mono ?_; rintro e w5 ⟨rfl, hb5⟩; have HB5 := jhid9 (jtwo HB4.out hb5); clear hb5))
    go_ret2
    exact ⟨rfl, HB5.out⟩
end Go.Proofs.YtdimkfcanegahaaDoor
