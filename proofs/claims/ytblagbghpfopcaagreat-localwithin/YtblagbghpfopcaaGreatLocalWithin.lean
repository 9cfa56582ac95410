/-
  Proved: for every code c and number b: the others of the group that Group tells repair b, and are no fewer than those of Least; each set that Choices tells repairs b, has not b and has as many numbers as Least's, which is the first of them; an error where c may not be or b is no row, else only with more than 14 rows (P19.5); no condition.
-/
import Derived.Test.YtblagbghpfopcaaGreatQwwin00
import Derived.Test.YtblagbghpfopcaaGreatQwwin50
import Derived.Deep.RegionHeld3
import Derived.WalkKit
import Derived.SizedLaws
import Derived.ProofKit
import Derived.OpenShut
import Derived.ShutString
import Derived.ChangeOld
import Derived.Below
import Derived.Lib.SmallJoins
import Derived.Deep.Matrix
set_option maxRecDepth 100000
set_option maxHeartbeats 16000000
namespace Go.Proofs.YtblagbghpfopcaaGreat.localWithin
open Go.ChangeShapes Go.WideShapes Go.ChangeAt Go.RowKit Go.Joins
set_option linter.unusedVariables false
theorem own : ownKnob Tryz.prog.godebug = none := by kernel_rfl
theorem laidOut : laidOutB Tryz.prog = true := by kernel_rfl
/-- A slice of integers that came in. -/
def IsRow (k : IntKind) (w : World) (a : Option Addr) (len cap : Nat) (zs : List Int) : Prop :=
 (a = none ∧ len = 0 ∧ cap = 0 ∧ zs = []) ∨
 ∃ x, a = some x ∧ len ≤ cap ∧ cap ≤ 140737488351232 ∧ zs.length = cap ∧ (∀ i, i < zs.length → w.cell? (x.add i) = some (.int k (zs.getD i 0))) ∧ ∀ n ∈ zs, (Lit.int k n).wf = true
/-- A slice of slices of bytes that came in. -/
def IsRows (w : World) (a : Option Addr) (len cap : Nat) : Prop :=
 (a = none ∧ len = 0 ∧ cap = 0) ∨
 ∃ x, a = some x ∧ len ≤ cap ∧ cap ≤ 140737488351232 ∧ ∀ r, r < cap → ∃ b l c zs, w.cell? (x.add r) = some (.slice b l c) ∧ IsRow .u8 w b l c zs
theorem sized_in {H : Type} {P : Program} {ts : List TypeId} {ds : List (DataW H)} (h : (DataW.weightsEach P ts ds).all (· ≤ reachBytes) = true) {j : Nat} {t : TypeId} {d : DataW H} (ht : ts[j]? = some t) (hd : ds[j]? = some d) : (d.weights P t).all (· ≤ reachBytes) = true :=
 List.all_eq_true.2 fun n hn => List.all_eq_true.1 h n (DataW.weights_mem_each ht hd n hn)
theorem sized_all {H : Type} {P : Program} {e : TypeId} : ∀ {ds : List (DataW H)}, (DataW.weightsAll P e ds).all (· ≤ reachBytes) = true → ∀ d ∈ ds, (d.weights P e).all (· ≤ reachBytes) = true
 | [], _, d, hd => by simp at hd
 | d0 :: r, h, d, hd => by
  simp only [DataW.weightsAll, List.all_append, Bool.and_eq_true] at h
  rcases List.mem_cons.1 hd with rfl | hd
  ·exact h.1
  ·exact sized_all h.2 d hd

theorem walk (r0 c0 : Int) (a0 : Option Addr) (len0 cap0 : Nat) (z0 : List Int) (b0 : Option Addr) (gl0 gc0 : Nat) (y0 : List Int) (n1 : Int) (w : World) (u0 : (Lit.int .i64 r0).wf = true) (v0 : (Lit.int .i64 c0).wf = true) (w0 : IsRow .u8 w a0 len0 cap0 z0) (x0 : IsRow .u64 w b0 gl0 gc0 y0) (t0 : gl0 ≤ 17592186044416) (w1 : (Lit.int .i64 n1).wf = true) :
  Calls Tryz.prog 5 #[.agg #[.int .i64 r0, .int .i64 c0, .slice a0 len0 cap0, .slice b0 gl0 gc0], .int .i64 n1] w fun e w' => e = .returned (.bool true) ∧ Below w.heap.size w w' := by
 obtain ⟨F, hF, _⟩ := qla w a0 len0 cap0 z0 w0
 obtain ⟨q, hq, hq2⟩ := qhl w b0 gl0 gc0 y0 x0
 rcases grp_in w r0 c0 n1 len0 cap0 gc0 gl0 a0 b0 F q hF hq t0 hq2 with ⟨hgq, hb, hMay, u, o, ho1, ho0, hGr⟩ | ⟨v, E, hv, hE, hMay, hGr⟩
 ·have HM := qa2 hMay
  have HG := qa2 hGr
  have HF := qa2 hF
  have HGq := qa2 hgq
  obtain ⟨r, c, rfl, rfl, R, hc1, hcr⟩ := hgq.nat
  obtain ⟨b, rfl⟩ := Int.eq_ofNat_of_zero_le hb.1
  have hbr : b < r := by omega
  have hr := R.r64
  have HRt := qa2 R
  have HMe := qa2 (qax hF.sl.1 R)
  have HO1 : Hid (o = true → u < 2 ^ r ∧ ¬ bt u b = 1 ∧ SS (m2 F r c) r u (m2 F r c b)) := ho1
  have HO0 := qa2 ho0
  obtain ⟨C, f, ix, G, O⟩ := qiz r b hr hbr
  have HO := qa2 O
  have HLe : Hid (∀ w' : World, Below w.heap.size w w' → Calls Tryz.prog 7 #[mv r c a0 len0 cap0, .int .i64 (b : Int)] w' fun e w'' => LeaP w' w'' e (m2 F r c) r b C G) := fun w' h => qgz w' r c len0 cap0 b a0 F (HF.out.later h) R HGq.out hbr C f ix G O
  have HCh : Hid (∀ w' : World, Below w.heap.size w w' → Calls Tryz.prog 12 #[mv r c a0 len0 cap0, .int .i64 (b : Int), .int .i64 3] w' fun e w'' => ChP w' w'' e (m2 F r c) r b C G 3) := fun w' h => qhp w' r c len0 cap0 b 3 a0 F (HF.out.later h) R HGq.out hbr C f ix G O
  have g1 : decide ((b : Int) < 0) = false := decide_eq_false (by omega)
  have g2 : decide ((r : Int) ≤ (b : Int)) = false := decide_eq_false (by omega)
  have g3 : decide (r ≤ b) = false := decide_eq_false (by omega)
  have hu64 : u < 2 ^ r := by
   cases o
   ·rw [ho0 rfl]; exact Nat.two_pow_pos r
   ·exact (ho1 rfl).1
  obtain ⟨PU, hPU⟩ : ∃ P, SpS (m2 F r c) r u P := qmr _ r
  have HSu := qa2 (qh0 hF R hu64 hPU)
  have HPUl := qa2 hPU.1
  have HPUi := qa2 (hPU.2 b hbr)
  have HLu := qa2 (qgd hr hu64)
  clear hF hq hq2 w0 y0 x0 t0 hMay hGr hgq hb R hc1 hcr ho1 ho0 O hPU
  go_enter Tryz.func5, Tryz.ntmps5
  go_wp2_with (first
   | (go_at_call 17; have _x := HB1; refine (HM.out _ HB1.out).mono ?_; rintro e w2 ⟨rfl, hb⟩; have HV2 : Hid (Vq w2 w.heap.size 48 #[.int .i64 (r : Int), .int .i64 (c : Int), .slice a0 len0 cap0, .slice b0 gl0 gc0]) := HV1.out.later hb; have l2_0 := HV2.out.cell 0 _ rfl; have l2_1 := HV2.out.cell 1 _ rfl; have l2_2 := HV2.out.cell 2 _ rfl; have l2_3 := HV2.out.cell 3 _ rfl; have HB2 : Hid (Below w.heap.size w w2) := qa0 HB1.out hb; clear hb)
   | (go_at_call 16; refine (HG.out _ (qa1 _ _)).mono ?_; rintro e w1 ⟨rfl, hb⟩; have HV1 : Hid (Vq w1 w.heap.size 48 #[.int .i64 (r : Int), .int .i64 (c : Int), .slice a0 len0 cap0, .slice b0 gl0 gc0]) := (Vq.new w _ _).later hb; have l1_0 := HV1.out.cell 0 _ rfl; have l1_1 := HV1.out.cell 1 _ rfl; have l1_2 := HV1.out.cell 2 _ rfl; have l1_3 := HV1.out.cell 3 _ rfl; have HB1 : Hid (Below w.heap.size w w1) := qa0 (qa1 _ _) hb; clear hb))
  clear l1_0 l1_1 l1_2 HM HG
  go_wp2_with (go_at_call 7; refine (HLe.out _ HB2.out).mono ?_)
  rintro e w3 (⟨er, rfl, hs, hb⟩ | ⟨x, g, Q, rfl, hs, _, _, _, hb⟩)
  ·have HV3 : Hid (Vq w3 w.heap.size 48 #[.int .i64 (r : Int), .int .i64 (c : Int), .slice a0 len0 cap0, .slice b0 gl0 gc0]) := HV2.out.later hb
   have l3_0 := HV3.out.cell 0 _ rfl
   have l3_1 := HV3.out.cell 1 _ rfl
   have l3_2 := HV3.out.cell 2 _ rfl
   have l3_3 := HV3.out.cell 3 _ rfl
   have HB3 : Hid (Below w.heap.size w w3) := qa0 HB2.out hb
   have HS := qa2 hs
   clear hb hs HLe l2_0 l2_1 l2_2
   go_wp2_with (go_at_call 12; refine (HCh.out _ HB3.out).mono ?_)
   rintro e w4 ⟨x', v', er', hs', hb, hcs⟩
   obtain ⟨e1, e2, e3⟩ := SrP.one HO.out hbr HS.out hs'
   subst e1
   subst e2
   subst e3
   have HV4 : Hid (Vq w4 w.heap.size 48 #[.int .i64 (r : Int), .int .i64 (c : Int), .slice a0 len0 cap0, .slice b0 gl0 gc0]) := HV3.out.later hb
   have l4_0 := HV4.out.cell 0 _ rfl
   have l4_1 := HV4.out.cell 1 _ rfl
   have l4_2 := HV4.out.cell 2 _ rfl
   have l4_3 := HV4.out.cell 3 _ rfl
   have HB4 : Hid (Below w.heap.size w w4) := qa0 HB3.out hb
   clear hb hs' HCh l3_0 l3_1 l3_2
   rcases hcs with ⟨a1, rfl⟩ | ⟨_, a2, _⟩ | ⟨a1, _, _, rfl⟩ | ⟨_, _, a3, _, _⟩ | ⟨_, _, a3, _⟩
   ·have h4 : er = 4 ∧ 15 < r := by
     rcases HS.out with ⟨_, _, h, _⟩ | ⟨h, _⟩ | ⟨_, _, h, k4, j4, hk4, hj4, h4, _⟩
     ·exact absurd h a1
     ·exact absurd h (by decide)
     ·exact ⟨h, Classical.byContradiction (fun hn => few19 HO.out (by omega) k4 j4 hk4 hj4 h4)⟩
    obtain ⟨rfl, hr15⟩ := h4
    have e44 : ((4 : Nat) : Int) = 4 := rfl
    rw [e44]
    have k1 : decide ((14 : Int) < (r : Int)) = true := decide_eq_true (by omega)
    have k2 : decide (14 < r) = true := decide_eq_true (by omega)
    clear e44 a1
    go_wp2_with (first
     | (go_at_call 18; have _x := HB4; refine (qdo _).mono ?_; rintro e w5 ⟨rfl, hb⟩; have HV5 : Hid (Vq w5 w.heap.size 48 #[.int .i64 (r : Int), .int .i64 (c : Int), .slice a0 len0 cap0, .slice b0 gl0 gc0]) := HV4.out.later hb; have l5_0 := HV5.out.cell 0 _ rfl; have l5_1 := HV5.out.cell 1 _ rfl; have l5_2 := HV5.out.cell 2 _ rfl; have l5_3 := HV5.out.cell 3 _ rfl; have HB5 : Hid (Below w.heap.size w w5) := qa0 HB4.out hb; clear hb))
    go_ret
    exact ⟨rfl, HB5.out⟩
   ·exact absurd a2 (by decide)
   ·subst a1
    have hof : o = false := by
     cases o
     ·rfl
     ·obtain ⟨p1, p2, p3⟩ := HO1.out rfl
      rcases HS.out with ⟨_, _, _, hn⟩ | ⟨h, _⟩ | ⟨_, _, h, _⟩
      ·exact absurd p3 (hn u p1 p2)
      ·exact absurd h (by decide)
      ·exact absurd h (by decide)
    subst hof
    have e00 : ((0 : Nat) : Int) = 0 := rfl
    rw [e00]
    have hnv : (!false) = true := rfl
    have hnn : (false != false) = false := rfl
    clear e00
    go_wp2
    go_loopw [14] (fun si wi => si = .int .i64 0 ∧ wi = w4) (fun _ _ => 0)
    case atStart => exact ⟨rfl, rfl⟩
    case round =>
     obtain ⟨rfl, rfl⟩ := hrel
     go_wp2_with (first
      | (go_at_call 18; have _x := HB5; refine (qdo _).mono ?_; rintro e w6 ⟨rfl, hb⟩; have HV6 : Hid (Vq w6 w.heap.size 48 #[.int .i64 (r : Int), .int .i64 (c : Int), .slice a0 len0 cap0, .slice b0 gl0 gc0]) := HV5.out.later hb; have l6_0 := HV6.out.cell 0 _ rfl; have l6_1 := HV6.out.cell 1 _ rfl; have l6_2 := HV6.out.cell 2 _ rfl; have l6_3 := HV6.out.cell 3 _ rfl; have HB6 : Hid (Below w.heap.size w w6) := qa0 HB5.out hb; clear hb)
      | (go_at_call 19; have _x := HB4; refine (HSu.out _ HB4.out).mono ?_; rintro e w5 ⟨rfl, hb⟩; have HV5 : Hid (Vq w5 w.heap.size 48 #[.int .i64 (r : Int), .int .i64 (c : Int), .slice a0 len0 cap0, .slice b0 gl0 gc0]) := HV4.out.later hb; have l5_0 := HV5.out.cell 0 _ rfl; have l5_1 := HV5.out.cell 1 _ rfl; have l5_2 := HV5.out.cell 2 _ rfl; have l5_3 := HV5.out.cell 3 _ rfl; have HB5 : Hid (Below w.heap.size w w5) := qa0 HB4.out hb; clear hb))
     go_ret
     exact ⟨rfl, HB6.out⟩
   ·exact absurd a3 (by decide)
   ·exact absurd a3 (by decide)
  ·have HV3 : Hid (Vq w3 w.heap.size 48 #[.int .i64 (r : Int), .int .i64 (c : Int), .slice a0 len0 cap0, .slice b0 gl0 gc0]) := HV2.out.later hb
   have l3_0 := HV3.out.cell 0 _ rfl
   have l3_1 := HV3.out.cell 1 _ rfl
   have l3_2 := HV3.out.cell 2 _ rfl
   have l3_3 := HV3.out.cell 3 _ rfl
   have HB3 : Hid (Below w.heap.size w w3) := qa0 HB2.out hb
   have HS := qa2 hs
   have hl : LstS (m2 F r c) r b x := by
    rcases hs.lst HO.out hbr with ⟨_, h1, _⟩ | ⟨_, _, hl⟩ | ⟨_, h1, _⟩
    ·exact absurd h1 (by decide)
    ·exact hl
    ·exact absurd h1 (by decide)
   clear hb hs HLe l2_0 l2_1 l2_2
   go_wp2_with (go_at_call 12; refine (HCh.out _ HB3.out).mono ?_)
   rintro e w4 ⟨x', v', er', hs', hb, hcs⟩
   obtain ⟨e1, e2, e3⟩ := SrP.one HO.out hbr HS.out hs'
   subst e1
   subst e2
   subst e3
   have HV4 : Hid (Vq w4 w.heap.size 48 #[.int .i64 (r : Int), .int .i64 (c : Int), .slice a0 len0 cap0, .slice b0 gl0 gc0]) := HV3.out.later hb
   have l4_0 := HV4.out.cell 0 _ rfl
   have l4_1 := HV4.out.cell 1 _ rfl
   have l4_2 := HV4.out.cell 2 _ rfl
   have l4_3 := HV4.out.cell 3 _ rfl
   have HB4 : Hid (Below w.heap.size w w4) := qa0 HB3.out hb
   clear hb hs' HCh l3_0 l3_1 l3_2
   rcases hcs with ⟨a1, _⟩ | ⟨_, a2, _⟩ | ⟨_, _, a3, _⟩ | ⟨_, _, _, a4, rfl⟩ | ⟨_, _, _, a4, sl, L, dl, un, rfl, hJ, hEn⟩
   ·exact absurd rfl a1
   ·exact absurd a2 (by decide)
   ·exact absurd a3 (by decide)
   ·have hr15 := qn5 a4
    have k1 : decide ((14 : Int) < (r : Int)) = true := decide_eq_true (by omega)
    have k2 : decide (14 < r) = true := decide_eq_true (by omega)
    clear a4 hl
    go_wp2_with (first
     | (go_at_call 18; have _x := HB4; refine (qdo _).mono ?_; rintro e w5 ⟨rfl, hb⟩; have HV5 : Hid (Vq w5 w.heap.size 48 #[.int .i64 (r : Int), .int .i64 (c : Int), .slice a0 len0 cap0, .slice b0 gl0 gc0]) := HV4.out.later hb; have l5_0 := HV5.out.cell 0 _ rfl; have l5_1 := HV5.out.cell 1 _ rfl; have l5_2 := HV5.out.cell 2 _ rfl; have l5_3 := HV5.out.cell 3 _ rfl; have HB5 : Hid (Below w.heap.size w w5) := qa0 HB4.out hb; clear hb))
    go_ret
    exact ⟨rfl, HB5.out⟩
   ·obtain ⟨hL0, hfx⟩ := qh1 HO.out HS.out hEn
    have HJ := qa2 hJ
    obtain ⟨k, HKk⟩ : ∃ k, Hid (cn x r = k) := ⟨_, rfl⟩
    rw [HKk.out] at HJ hfx hEn
    have hkr : k < r := by rw [← HKk.out]; exact qdd hbr hl.none
    have HLx := qa2 (qgd hr hl.lt)
    rw [HKk.out] at HLx
    have HSt : Hid (∀ i, i < L → ∃ (s p : Nat), G k (un i) = s ∧ (i = 0 → s = x) ∧ (∀ w' : World, Below w.heap.size w w' → Calls Tryz.prog 19 #[mv r c a0 len0 cap0, .int .u64 (s : Int)] w' fun e w'' => e = .returned (.tuple #[.int .u64 (p : Int), .int .i64 0]) ∧ Below w'.heap.size w' w'') ∧ (∀ w' : World, Calls Tryz.prog 20 #[.int .u64 (p : Int), .int .i64 (b : Int)] w' fun e w'' => e = .returned (.bool true) ∧ Below w'.heap.size w' w'') ∧ (∀ w' : World, Calls Tryz.prog 20 #[.int .u64 (s : Int), .int .i64 (b : Int)] w' fun e w'' => e = .returned (.bool false) ∧ Below w'.heap.size w' w'') ∧ (∀ w' : World, Calls Tryz.prog 21 #[.int .u64 (s : Int)] w' fun e w'' => ∃ y z, e = .returned (.slice y k z) ∧ Below w'.heap.size w' w'')) := fun i hi => by
     obtain ⟨p1, p2⟩ := hEn.is i hi
     have q1 := (HO.out k hkr).lt (un i) p1
     have q2 := (HO.out k hkr).none (un i) p1
     have q3 := (HO.out k hkr).size (un i) p1
     obtain ⟨p, hp⟩ : ∃ P, SpS (m2 F r c) r (G k (un i)) P := qmr _ r
     have q4 := qgd hr q1
     rw [q3] at q4
     exact ⟨_, p, rfl, fun e => by rw [e]; exact hfx, qh0 HF.out HRt.out q1 hp, qgf (o := true) hr hp.1 hbr ⟨fun _ => (hp.2 b hbr).2 p2, fun _ => rfl⟩, qgf (o := false) hr q1 hbr ⟨fun h => (by cases h), fun h => absurd h q2⟩, q4⟩
    have hLm : L ≤ 3 := hEn.le
    have hEnd : Hid (o = true → ∃ Y : Nat, k ≤ Y ∧ (∀ w' : World, Calls Tryz.prog 21 #[.int .u64 (u : Int)] w' fun e w'' => ∃ y z, e = .returned (.slice y Y z) ∧ Below w'.heap.size w' w'') ∧ (∀ w' : World, Calls Tryz.prog 20 #[.int .u64 (PU : Int), .int .i64 (b : Int)] w' fun e w'' => e = .returned (.bool true) ∧ Below w'.heap.size w' w'') ∧ (∀ w' : World, Calls Tryz.prog 20 #[.int .u64 (u : Int), .int .i64 (b : Int)] w' fun e w'' => e = .returned (.bool false) ∧ Below w'.heap.size w' w'')) := fun e => by
     obtain ⟨p1, p2, p3⟩ := HO1.out e
     have h1 := (hl.least u p1 p2 p3).1
     rw [HKk.out] at h1
     exact ⟨_, h1, HLu.out, qgf (o := true) hr HPUl.out hbr ⟨fun _ => HPUi.out.2 p3, fun _ => rfl⟩, qgf (o := false) hr p1 hbr ⟨fun h => (by cases h), fun h => absurd h p2⟩⟩
    have hnn : (false != false) = false := rfl
    have hk0 : ((k : Int) != (k : Int)) = false := by simp
    clear hJ hEn hfx hl a4
    go_wp2
    go_loopw [14] (fun si wi => ∃ i : Nat, i ≤ L ∧ si = .int .i64 (i : Int) ∧ Below w4.heap.size w4 wi) (fun si _ => L - (intOf si).toNat)
    case atStart => exact ⟨0, by omega, rfl, Below.refl _ _⟩
    case round =>
     obtain ⟨i, hi, rfl, hB⟩ := hrel
     have HBi := qa2 hB
     have HB5 : Hid (Below w.heap.size w wr) := qa0 HB4.out hB
     have HV5 : Hid (Vq wr w.heap.size 48 #[.int .i64 (r : Int), .int .i64 (c : Int), .slice a0 len0 cap0, .slice b0 gl0 gc0]) := HV4.out.later hB
     have l5_0 := HV5.out.cell 0 _ rfl
     have l5_1 := HV5.out.cell 1 _ rfl
     have l5_2 := HV5.out.cell 2 _ rfl
     have l5_3 := HV5.out.cell 3 _ rfl
     have HJi : Hid (Jo wr w3.heap.size 26 .u64 (.slice sl L dl) L (fun n => G k (un n))) := HJ.out.later hB
     clear hB l4_0 l4_1 l4_2
     by_cases hlt : i < L
     ·obtain ⟨s, p, hs, hs0, c1, c2, c3, c4⟩ := HSt.out i hlt
      have HC1 := qa2 c1
      have HC2 := qa2 c2
      have HC3 := qa2 c3
      have HC4 := qa2 c4
      obtain ⟨gl, rfl, _, _⟩ := HJi.out.addr (by omega)
      have hcell := HJi.out.cell i hlt
      rw [hs] at hcell
      have p0 : (0 : Int) ≤ (i : Int) := by omega
      have p1 : (i : Int) < (L : Int) := by omega
      have d1 : decide ((i : Int) < (L : Int)) = true := decide_eq_true p1
      have d2 : decide (i < L) = true := decide_eq_true hlt
      obtain ⟨z0', hz0', hq0⟩ : ∃ z : Bool, ((i : Int) == 0) = z ∧ (z = true → ((s : Int) != (x : Int)) = false) := ⟨_, rfl, fun e => by
       have e2 : i = 0 := by have := eq_of_beq e; omega
       rw [hs0 e2]; simp⟩
      clear c1 c2 c3 c4 hs hs0
      have hq1 : wr.drew.cell? ⟨w.heap.size, 0, none⟩ = some (.int .i64 (r : Int)) := l5_0
      have hq2 : wr.drew.cell? ⟨w.heap.size, 1, none⟩ = some (.int .i64 (c : Int)) := l5_1
      have hq3 : wr.drew.cell? ⟨w.heap.size, 2, none⟩ = some (.slice a0 len0 cap0) := l5_2
      have hq4 : wr.drew.cell? ⟨gl, i, none⟩ = some (.int .u64 (s : Int)) := hcell
      go_wp2
      go_region_held3 (fun w' => w'.cell? ⟨w.heap.size, 0, none⟩ = some (.int .i64 (r : Int)) ∧ w'.cell? ⟨w.heap.size, 1, none⟩ = some (.int .i64 (c : Int)) ∧ w'.cell? ⟨w.heap.size, 2, none⟩ = some (.slice a0 len0 cap0) ∧ w'.cell? ⟨gl, i, none⟩ = some (.int .u64 (s : Int)))
       (first | exact ⟨HV6.out.cell 0 _ rfl, HV6.out.cell 1 _ rfl, HV6.out.cell 2 _ rfl, HC6.out⟩ | go_keep)
       (first | (go_at_call 19; refine (HC1.out _ (qa0 HB5.out (Below.refl _ _).drew)).mono ?_; rintro e w6 ⟨rfl, hb⟩; have HV6 : Hid (Vq w6 w.heap.size 48 #[.int .i64 (r : Int), .int .i64 (c : Int), .slice a0 len0 cap0, .slice b0 gl0 gc0]) := (HV5.out.later (Below.refl _ _).drew).later hb; have HC6 : Hid (w6.cell? ⟨gl, i, none⟩ = some (.int .u64 (s : Int))) := qay (w := wr.drew) hq4 hb; have HB6 : Hid (Below w4.heap.size w4 w6) := qa0 (qa0 HBi.out (Below.refl _ _).drew) hb; clear hb))
      have e6 := HC6.out
      clear hq1 hq2 hq3 hq4 l5_0 l5_1 l5_2 hcell
      cases z0'
      ·clear hq0
       go_wp2_with (first
        | (go_at_call 20; have _x := HB7; refine (HC3.out _).mono ?_; rintro e w8 ⟨rfl, hb⟩; have HB8 : Hid (Below w4.heap.size w4 w8) := qa0 HB7.out hb; have e8 := qay e7 hb; clear hb)
        | (go_at_call 20; refine (HC2.out _).mono ?_; rintro e w7 ⟨rfl, hb⟩; have HB7 : Hid (Below w4.heap.size w4 w7) := qa0 HB6.out hb; have e7 := qay e6 hb; clear hb)
        | (go_at_call 21; have _x := HB9; refine (HLx.out _).mono ?_; rintro e w10 ⟨y10, z10, rfl, hb⟩; have HB10 : Hid (Below w4.heap.size w4 w10) := qa0 HB9.out hb; have e10 := qay e9 hb; clear hb)
        | (go_at_call 21; refine (HC4.out _).mono ?_; rintro e w9 ⟨y9, z9, rfl, hb⟩; have HB9 : Hid (Below w4.heap.size w4 w9) := qa0 HB8.out hb; have e9 := qay e8 hb; clear hb))
       exact ⟨⟨i + 1, by omega, by go_num, HB10.out⟩, by simp [intOf]; omega⟩
      ·have q9 := hq0 rfl
       clear hq0
       go_wp2_with (first
        | (go_at_call 20; have _x := HB7; refine (HC3.out _).mono ?_; rintro e w8 ⟨rfl, hb⟩; have HB8 : Hid (Below w4.heap.size w4 w8) := qa0 HB7.out hb; have e8 := qay e7 hb; clear hb)
        | (go_at_call 20; refine (HC2.out _).mono ?_; rintro e w7 ⟨rfl, hb⟩; have HB7 : Hid (Below w4.heap.size w4 w7) := qa0 HB6.out hb; have e7 := qay e6 hb; clear hb)
        | (go_at_call 21; have _x := HB9; refine (HLx.out _).mono ?_; rintro e w10 ⟨y10, z10, rfl, hb⟩; have HB10 : Hid (Below w4.heap.size w4 w10) := qa0 HB9.out hb; have e10 := qay e9 hb; clear hb)
        | (go_at_call 21; refine (HC4.out _).mono ?_; rintro e w9 ⟨y9, z9, rfl, hb⟩; have HB9 : Hid (Below w4.heap.size w4 w9) := qa0 HB8.out hb; have e9 := qay e8 hb; clear hb))
       exact ⟨⟨i + 1, by omega, by go_num, HB10.out⟩, by simp [intOf]; omega⟩
     ·have d1 : decide ((i : Int) < (L : Int)) = false := decide_eq_false (by omega)
      have d2 : decide (i < L) = false := decide_eq_false hlt
      have d3 : decide ((0 : Int) < (L : Int)) = true := decide_eq_true (by omega)
      have d4 : decide (0 < L) = true := decide_eq_true hL0
      have hbb : (true != true) = false := rfl
      clear HSt
      cases o
      ·have hnv : (!false) = true := rfl
       go_wp2_with (first
        | (go_at_call 18; have _x := HB6; refine (qdo _).mono ?_; rintro e w7 ⟨rfl, hb⟩; have HV7 : Hid (Vq w7 w.heap.size 48 #[.int .i64 (r : Int), .int .i64 (c : Int), .slice a0 len0 cap0, .slice b0 gl0 gc0]) := HV6.out.later hb; have l7_0 := HV7.out.cell 0 _ rfl; have l7_1 := HV7.out.cell 1 _ rfl; have l7_2 := HV7.out.cell 2 _ rfl; have l7_3 := HV7.out.cell 3 _ rfl; have HB7 : Hid (Below w.heap.size w w7) := qa0 HB6.out hb; clear hb)
        | (go_at_call 19; have _x := HB5; refine (HSu.out _ HB5.out).mono ?_; rintro e w6 ⟨rfl, hb⟩; have HV6 : Hid (Vq w6 w.heap.size 48 #[.int .i64 (r : Int), .int .i64 (c : Int), .slice a0 len0 cap0, .slice b0 gl0 gc0]) := HV5.out.later hb; have l6_0 := HV6.out.cell 0 _ rfl; have l6_1 := HV6.out.cell 1 _ rfl; have l6_2 := HV6.out.cell 2 _ rfl; have l6_3 := HV6.out.cell 3 _ rfl; have HB6 : Hid (Below w.heap.size w w6) := qa0 HB5.out hb; clear hb))
       go_ret
       exact ⟨rfl, HB7.out⟩
      ·have hnv : (!true) = false := rfl
       obtain ⟨Y, hY, c1, c2, c3⟩ := hEnd.out rfl
       have HC1 := qa2 c1
       have HC2 := qa2 c2
       have HC3 := qa2 c3
       have j1 : decide ((k : Int) ≤ (Y : Int)) = true := decide_eq_true (by omega)
       have j2 : decide (k ≤ Y) = true := decide_eq_true hY
       have hnf : (!false) = true := rfl
       clear c1 c2 c3
       go_wp2_with (first
        | (go_at_call 21; have _x := HB10; refine (HLx.out _).mono ?_; rintro e w11 ⟨y11, z11, rfl, hb⟩; have HV11 : Hid (Vq w11 w.heap.size 48 #[.int .i64 (r : Int), .int .i64 (c : Int), .slice a0 len0 cap0, .slice b0 gl0 gc0]) := HV10.out.later hb; have l11_0 := HV11.out.cell 0 _ rfl; have l11_1 := HV11.out.cell 1 _ rfl; have l11_2 := HV11.out.cell 2 _ rfl; have l11_3 := HV11.out.cell 3 _ rfl; have HB11 : Hid (Below w.heap.size w w11) := qa0 HB10.out hb; clear hb)
        | (go_at_call 21; refine (HC1.out _).mono ?_; rintro e w10 ⟨y10, z10, rfl, hb⟩; have HV10 : Hid (Vq w10 w.heap.size 48 #[.int .i64 (r : Int), .int .i64 (c : Int), .slice a0 len0 cap0, .slice b0 gl0 gc0]) := HV9.out.later hb; have l10_0 := HV10.out.cell 0 _ rfl; have l10_1 := HV10.out.cell 1 _ rfl; have l10_2 := HV10.out.cell 2 _ rfl; have l10_3 := HV10.out.cell 3 _ rfl; have HB10 : Hid (Below w.heap.size w w10) := qa0 HB9.out hb; clear hb)
        | (go_at_call 20; have _x := HB8; refine (HC3.out _).mono ?_; rintro e w9 ⟨rfl, hb⟩; have HV9 : Hid (Vq w9 w.heap.size 48 #[.int .i64 (r : Int), .int .i64 (c : Int), .slice a0 len0 cap0, .slice b0 gl0 gc0]) := HV8.out.later hb; have l9_0 := HV9.out.cell 0 _ rfl; have l9_1 := HV9.out.cell 1 _ rfl; have l9_2 := HV9.out.cell 2 _ rfl; have l9_3 := HV9.out.cell 3 _ rfl; have HB9 : Hid (Below w.heap.size w w9) := qa0 HB8.out hb; clear hb)
        | (go_at_call 20; refine (HC2.out _).mono ?_; rintro e w8 ⟨rfl, hb⟩; have HV8 : Hid (Vq w8 w.heap.size 48 #[.int .i64 (r : Int), .int .i64 (c : Int), .slice a0 len0 cap0, .slice b0 gl0 gc0]) := HV7.out.later hb; have l8_0 := HV8.out.cell 0 _ rfl; have l8_1 := HV8.out.cell 1 _ rfl; have l8_2 := HV8.out.cell 2 _ rfl; have l8_3 := HV8.out.cell 3 _ rfl; have HB8 : Hid (Below w.heap.size w w8) := qa0 HB7.out hb; clear hb)
        | (go_at_call 18; have _x := HB6; refine (qdo _).mono ?_; rintro e w7 ⟨rfl, hb⟩; have HV7 : Hid (Vq w7 w.heap.size 48 #[.int .i64 (r : Int), .int .i64 (c : Int), .slice a0 len0 cap0, .slice b0 gl0 gc0]) := HV6.out.later hb; have l7_0 := HV7.out.cell 0 _ rfl; have l7_1 := HV7.out.cell 1 _ rfl; have l7_2 := HV7.out.cell 2 _ rfl; have l7_3 := HV7.out.cell 3 _ rfl; have HB7 : Hid (Below w.heap.size w w7) := qa0 HB6.out hb; clear hb)
        | (go_at_call 19; have _x := HB5; refine (HSu.out _ HB5.out).mono ?_; rintro e w6 ⟨rfl, hb⟩; have HV6 : Hid (Vq w6 w.heap.size 48 #[.int .i64 (r : Int), .int .i64 (c : Int), .slice a0 len0 cap0, .slice b0 gl0 gc0]) := HV5.out.later hb; have l6_0 := HV6.out.cell 0 _ rfl; have l6_1 := HV6.out.cell 1 _ rfl; have l6_2 := HV6.out.cell 2 _ rfl; have l6_3 := HV6.out.cell 3 _ rfl; have HB6 : Hid (Below w.heap.size w w6) := qa0 HB5.out hb; clear hb))
       go_ret
       exact ⟨rfl, HB11.out⟩
 ·have HM := qa2 hMay
  have HG := qa2 hGr
  have g5 : (E != 0) = true := by simpa using hE
  have g6 : (E == 0) = false := by simpa using hE
  clear hF hq hq2 w0 y0 x0 t0 hMay hGr hE
  cases v
  ·have hnv : (!false) = true := rfl
   clear hv
   go_enter Tryz.func5, Tryz.ntmps5
   go_wp2_with (first
    | (go_at_call 18; have _x := HB2; refine (qdo _).mono ?_; rintro e w3 ⟨rfl, hb⟩; have HV3 : Hid (Vq w3 w.heap.size 48 #[.int .i64 r0, .int .i64 c0, .slice a0 len0 cap0, .slice b0 gl0 gc0]) := HV2.out.later hb; have l3_0 := HV3.out.cell 0 _ rfl; have l3_1 := HV3.out.cell 1 _ rfl; have l3_2 := HV3.out.cell 2 _ rfl; have l3_3 := HV3.out.cell 3 _ rfl; have HB3 : Hid (Below w.heap.size w w3) := qa0 HB2.out hb; clear hb)
    | (go_at_call 17; have _x := HB1; refine (HM.out _ HB1.out).mono ?_; rintro e w2 ⟨rfl, hb⟩; have HV2 : Hid (Vq w2 w.heap.size 48 #[.int .i64 r0, .int .i64 c0, .slice a0 len0 cap0, .slice b0 gl0 gc0]) := HV1.out.later hb; have l2_0 := HV2.out.cell 0 _ rfl; have l2_1 := HV2.out.cell 1 _ rfl; have l2_2 := HV2.out.cell 2 _ rfl; have l2_3 := HV2.out.cell 3 _ rfl; have HB2 : Hid (Below w.heap.size w w2) := qa0 HB1.out hb; clear hb)
    | (go_at_call 16; refine (HG.out _ (qa1 _ _)).mono ?_; rintro e w1 ⟨rfl, hb⟩; have HV1 : Hid (Vq w1 w.heap.size 48 #[.int .i64 r0, .int .i64 c0, .slice a0 len0 cap0, .slice b0 gl0 gc0]) := (Vq.new w _ _).later hb; have l1_0 := HV1.out.cell 0 _ rfl; have l1_1 := HV1.out.cell 1 _ rfl; have l1_2 := HV1.out.cell 2 _ rfl; have l1_3 := HV1.out.cell 3 _ rfl; have HB1 : Hid (Below w.heap.size w w1) := qa0 (qa1 _ _) hb; clear hb))
   go_ret
   exact ⟨rfl, HB3.out⟩
  ·have hnv : (!true) = false := rfl
   have hv2 := hv rfl
   by_cases h0 : n1 < 0
   ·have g1 : decide (n1 < 0) = true := decide_eq_true h0
    clear hv hv2
    go_enter Tryz.func5, Tryz.ntmps5
    go_wp2_with (first
     | (go_at_call 18; have _x := HB2; refine (qdo _).mono ?_; rintro e w3 ⟨rfl, hb⟩; have HV3 : Hid (Vq w3 w.heap.size 48 #[.int .i64 r0, .int .i64 c0, .slice a0 len0 cap0, .slice b0 gl0 gc0]) := HV2.out.later hb; have l3_0 := HV3.out.cell 0 _ rfl; have l3_1 := HV3.out.cell 1 _ rfl; have l3_2 := HV3.out.cell 2 _ rfl; have l3_3 := HV3.out.cell 3 _ rfl; have HB3 : Hid (Below w.heap.size w w3) := qa0 HB2.out hb; clear hb)
     | (go_at_call 17; have _x := HB1; refine (HM.out _ HB1.out).mono ?_; rintro e w2 ⟨rfl, hb⟩; have HV2 : Hid (Vq w2 w.heap.size 48 #[.int .i64 r0, .int .i64 c0, .slice a0 len0 cap0, .slice b0 gl0 gc0]) := HV1.out.later hb; have l2_0 := HV2.out.cell 0 _ rfl; have l2_1 := HV2.out.cell 1 _ rfl; have l2_2 := HV2.out.cell 2 _ rfl; have l2_3 := HV2.out.cell 3 _ rfl; have HB2 : Hid (Below w.heap.size w w2) := qa0 HB1.out hb; clear hb)
     | (go_at_call 16; refine (HG.out _ (qa1 _ _)).mono ?_; rintro e w1 ⟨rfl, hb⟩; have HV1 : Hid (Vq w1 w.heap.size 48 #[.int .i64 r0, .int .i64 c0, .slice a0 len0 cap0, .slice b0 gl0 gc0]) := (Vq.new w _ _).later hb; have l1_0 := HV1.out.cell 0 _ rfl; have l1_1 := HV1.out.cell 1 _ rfl; have l1_2 := HV1.out.cell 2 _ rfl; have l1_3 := HV1.out.cell 3 _ rfl; have HB1 : Hid (Below w.heap.size w w1) := qa0 (qa1 _ _) hb; clear hb))
    go_ret
    exact ⟨rfl, HB3.out⟩
   ·have g1 : decide (n1 < 0) = false := decide_eq_false h0
    have g2 : decide (r0 ≤ n1) = true := decide_eq_true (by omega)
    clear hv hv2
    go_enter Tryz.func5, Tryz.ntmps5
    go_wp2_with (first
     | (go_at_call 18; have _x := HB2; refine (qdo _).mono ?_; rintro e w3 ⟨rfl, hb⟩; have HV3 : Hid (Vq w3 w.heap.size 48 #[.int .i64 r0, .int .i64 c0, .slice a0 len0 cap0, .slice b0 gl0 gc0]) := HV2.out.later hb; have l3_0 := HV3.out.cell 0 _ rfl; have l3_1 := HV3.out.cell 1 _ rfl; have l3_2 := HV3.out.cell 2 _ rfl; have l3_3 := HV3.out.cell 3 _ rfl; have HB3 : Hid (Below w.heap.size w w3) := qa0 HB2.out hb; clear hb)
     | (go_at_call 17; have _x := HB1; refine (HM.out _ HB1.out).mono ?_; rintro e w2 ⟨rfl, hb⟩; have HV2 : Hid (Vq w2 w.heap.size 48 #[.int .i64 r0, .int .i64 c0, .slice a0 len0 cap0, .slice b0 gl0 gc0]) := HV1.out.later hb; have l2_0 := HV2.out.cell 0 _ rfl; have l2_1 := HV2.out.cell 1 _ rfl; have l2_2 := HV2.out.cell 2 _ rfl; have l2_3 := HV2.out.cell 3 _ rfl; have HB2 : Hid (Below w.heap.size w w2) := qa0 HB1.out hb; clear hb)
     | (go_at_call 16; refine (HG.out _ (qa1 _ _)).mono ?_; rintro e w1 ⟨rfl, hb⟩; have HV1 : Hid (Vq w1 w.heap.size 48 #[.int .i64 r0, .int .i64 c0, .slice a0 len0 cap0, .slice b0 gl0 gc0]) := (Vq.new w _ _).later hb; have l1_0 := HV1.out.cell 0 _ rfl; have l1_1 := HV1.out.cell 1 _ rfl; have l1_2 := HV1.out.cell 2 _ rfl; have l1_3 := HV1.out.cell 3 _ rfl; have HB1 : Hid (Below w.heap.size w w1) := qa0 (qa1 _ _) hb; clear hb))
    go_ret
    exact ⟨rfl, HB3.out⟩
theorem lifted (os : Os) (started : os.Started) (H : Type) (enc : TypeId × Value → H) :
  ReturnsInHanded {} Tryz.checked os 5 .any (Rows.localWithinSpec.pre6 enc Tryz.prog Tryz.f5 Rows.localWithinRow.domain false) (Rows.localWithinSpec.post enc Tryz.prog Tryz.f5 false true false false) := by
 refine returnsInHanded_of_change_sized (C := Tryz.checked) own started (by kernel_rfl) Tryz.func5
  (ChangeSpec.witness6 (enc := enc) (C := Tryz.checked) false ⟨#[], #[.agg #[.int .i64 0, .int .i64 0, .slice none 0 0, .slice none 0 0], .int .i64 0], []⟩ 8 (by kernel_rfl) (by kernel_rfl) (by kernel_rfl) (by kernel_rfl)) ?_
 intro W base args ds gs before hval0 hW hcnd hsz0 _
 have hsz : (DataW.weightsEach Tryz.prog (Tryz.f5.params.toList ++ Rows.localWithinSpec.plain.varTypes Tryz.prog) (ds ++ gs)).all (· ≤ reachBytes) = true := hsz0
 clear hsz0
 have hval : ∀ (j : Nat) t v, Tryz.f5.params[j]? = some t → args[j]? = some v → Value.okWide Tryz.prog W .any base t v := hval0
 have hW' := hW
 obtain ⟨p, q, hA0, hV, rfl, hfz, hnd⟩ := hW
 have hA : DataW.TrodAll enc Tryz.prog W 0 (fun _ => true) true Tryz.f5.params.toList args.toList ds p := hA0
 rw [Tryz.params5] at hA hval hsz
 obtain ⟨va0, vs0, d0, ds0, p0, q0, hargs, rfl, rfl, h0, tr0⟩ := trodAll_cons hA
 obtain ⟨va1, vs1, d1, ds1, p1, q1, rfl, rfl, rfl, h1, tr1⟩ := trodAll_cons tr0
 obtain ⟨rfl, rfl, rfl⟩ := trodAll_nil tr1
 obtain rfl : args = #[va0, va1] := by cases args; simp_all
 obtain ⟨rfl, rfl⟩ := trodVars_none hV
 have k0 := h0
 have lt0 : ∀ x ∈ p0, x.block < W.heap.size := by obtain ⟨m, hm⟩ := k0; exact DataW.trod_lt m _ _ _ hm
 obtain ⟨f0, g0, s0, q0v, k0a, k0b, k0c, k0d, mm0, m0, rfl, rfl, rfl, hf0, hg0, hs0, hq0⟩ := qmm Tryz.underlying48 Tryz.underlying24 (by kernel_rfl) rfl rfl (by kernel_rfl) (by kernel_rfl) (by kernel_rfl) (hval 0 48 va0 rfl rfl) h0
 obtain ⟨r0, er0, rfl, u0⟩ := DataW.trod_int Tryz.underlying3 hf0
 simp only [List.cons.injEq, and_true] at er0
 subst er0
 obtain ⟨c0, ec0, rfl, v0⟩ := DataW.trod_int Tryz.underlying3 hg0
 simp only [List.cons.injEq, and_true] at ec0
 subst ec0
 obtain ⟨a0, len0, cap0, rfl⟩ : ∃ a l c, s0 = .slice a l c := by
  rcases open_ints Tryz.underlying22 Tryz.underlying5 (by kernel_rfl) hs0 with ⟨hcs, _⟩ | ⟨x, l, c, zs, hcs, _⟩
  ·simp only [List.cons.injEq, and_true] at hcs; exact ⟨_, _, _, hcs⟩
  ·simp only [List.cons.injEq, and_true] at hcs; exact ⟨_, _, _, hcs⟩
 obtain ⟨z0, w0⟩ : ∃ zs, IsRow .u8 W a0 len0 cap0 zs := by
  obtain ⟨fuel, hf⟩ := (⟨m0, hs0⟩ : ∃ fuel, DataW.trod enc Tryz.prog W 0 (fun _ => true) true fuel 22 [.slice a0 len0 cap0] = some k0c)
  rcases open_ints Tryz.underlying22 Tryz.underlying5 (by kernel_rfl) hf with ⟨hcs, _⟩ | ⟨x, l, c, zs, hcs, _, hl, hm, hz, hxx, hcell, hwz⟩
  ·simp at hcs
   obtain ⟨rfl, rfl, rfl⟩ := hcs
   exact ⟨[], .inl ⟨rfl, rfl, rfl, rfl⟩⟩
  ·simp at hcs
   obtain ⟨rfl, rfl, rfl⟩ := hcs
   have hd := congrArg Prod.fst hxx
   have hs := sized_slice (sized_in (sized_in hsz (j := 0) (t := 48) rfl rfl) (j := 0) (t := 24) rfl rfl) (j := 2) (t := 22) (e := 5) rfl (congrArg some hd) Tryz.underlying22
   rw [show Tryz.prog.bytesOf 5 = 1 from by kernel_rfl] at hs
   have hzl : zs.length = cap0 := by simpa using hz
   simp only [lits, List.length_map, List.length_take, List.length_drop, reachBytes] at hs
   exact ⟨zs, .inr ⟨_, rfl, hl, by omega, by simpa using hz, hcell, hwz⟩⟩
 obtain ⟨b0, gl0, gc0, rfl⟩ : ∃ a l c, q0v = .slice a l c := by
  rcases open_ints Tryz.underlying39 Tryz.underlying26 (by kernel_rfl) hq0 with ⟨hcs, _⟩ | ⟨x, l, c, zs, hcs, _⟩
  ·simp only [List.cons.injEq, and_true] at hcs; exact ⟨_, _, _, hcs⟩
  ·simp only [List.cons.injEq, and_true] at hcs; exact ⟨_, _, _, hcs⟩
 obtain ⟨y0, x0, t0⟩ : ∃ zs, IsRow .u64 W b0 gl0 gc0 zs ∧ gl0 ≤ 17592186044416 := by
  obtain ⟨fuel, hf⟩ := (⟨mm0, hq0⟩ : ∃ fuel, DataW.trod enc Tryz.prog W 0 (fun _ => true) true fuel 39 [.slice b0 gl0 gc0] = some k0d)
  rcases open_ints Tryz.underlying39 Tryz.underlying26 (by kernel_rfl) hf with ⟨hcs, _⟩ | ⟨x, l, c, zs, hcs, _, hl, hm, hz, hxx, hcell, hwz⟩
  ·simp at hcs
   obtain ⟨rfl, rfl, rfl⟩ := hcs
   exact ⟨[], .inl ⟨rfl, rfl, rfl, rfl⟩, by omega⟩
  ·simp at hcs
   obtain ⟨rfl, rfl, rfl⟩ := hcs
   have hd := congrArg Prod.fst hxx
   have hs := sized_slice (sized_in hsz (j := 0) (t := 48) rfl rfl) (j := 1) (t := 39) (e := 26) rfl (congrArg some hd) Tryz.underlying39
   rw [show Tryz.prog.bytesOf 26 = 8 from by kernel_rfl] at hs
   have hzl : zs.length = gc0 := by simpa using hz
   simp only [lits, List.length_map, List.length_take, List.length_drop, reachBytes] at hs
   exact ⟨zs, .inr ⟨_, rfl, hl, by omega, by simpa using hz, hcell, hwz⟩, by omega⟩
 have k1 := h1
 have lt1 : ∀ x ∈ p1, x.block < W.heap.size := by obtain ⟨m, hm⟩ := k1; exact DataW.trod_lt m _ _ _ hm
 obtain ⟨n1, rfl, w1⟩ : ∃ n, va1 = .int .i64 n ∧ (Lit.int .i64 n).wf = true := by
  obtain ⟨n, rfl, _, _, hw⟩ := open_int Tryz.underlying3 (hval 1 3 va1 rfl rfl) h1
  exact ⟨n, rfl, hw⟩
 clear hA0 hval0
 refine (walk r0 c0 a0 len0 cap0 z0 b0 gl0 gc0 y0 n1 W u0 v0 w0 x0 t0 w1).mono fun e W' ⟨he, bel⟩ => ?_
 subst he
 exact ⟨_, rfl, _, _, _, [], _, [], hW', trodAll_mk1 (shut_bool Tryz.underlying4 _), (trodAll_cons_mk (Below.trod laidOut (by kernel_rfl) (of_decide_eq_true (by kernel_rfl)) k0 bel lt0) (trodAll_cons_mk (Below.trod laidOut (by kernel_rfl) (of_decide_eq_true (by kernel_rfl)) k1 bel lt1) trodAll_mk0)), rfl, bel.frame _, fun h => by cases h⟩
theorem over : Rows.localWithinRow.holds Tryz.pinned (OpenSpec.ofChange Rows.localWithinSpec) :=
 OpenClaim.holds_of_wide 5 Tryz.f5 rfl rfl rfl rfl rfl rfl rfl ⟨rfl, rfl, rfl, rfl, rfl⟩ rfl rfl rfl rfl rfl (by kernel_rfl) Tryz.func5 (by kernel_rfl)
  (of_decide_eq_true (by kernel_rfl)) (by unfold Func.isWrapper; first | (rw [if_pos (by decide +kernel)]; kernel_rfl) | (rw [if_neg (by decide +kernel)]; exact ⟨rfl, rfl⟩))
  (fun os started H enc _ => lifted os started H enc)
theorem proved : Rows.LocalWithinSaid := over
#print axioms proved
end Go.Proofs.YtblagbghpfopcaaGreat.localWithin
