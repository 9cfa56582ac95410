/-
  Proved: for every matrix g and all sets s and t of its rows the smaller one of the two bases that the program tells can be added a row of the greater one so that Free says that it is independent still (P7.4); no condition.
-/
import Derived.Test.YtflflmdlhmhkdaaGy
import Derived.Deep.RegionHeld
import Derived.WalkKit
import Derived.SizedLaws
import Derived.ProofKit
import Derived.OpenShut
import Derived.ShutString
import Derived.ChangeOld
import Derived.Below
import Derived.Lib.SmallJoins
import Derived.Deep.Matrix
namespace Go.Proofs.Ytflflmdlhmhkdaa.matroidGrows
open Go.ChangeShapes Go.WideShapes Go.ChangeAt Go.RowKit Go.Joins
set_option linter.unusedVariables false
theorem own : ownKnob Try.prog.godebug = none := by kernel_rfl
theorem laidOut : laidOutB Try.prog = true := by kernel_rfl
/-- A slice of integers that came in. -/
def IsRow (k : IntKind) (w : World) (a : Option Addr) (len cap : Nat) (zs : List Int) : Prop :=
  (a = none ∧ len = 0 ∧ cap = 0 ∧ zs = []) ∨
  ∃ x, a = some x ∧ len ≤ cap ∧ cap ≤ 140737488351232 ∧ zs.length = cap ∧ (∀ i, i < zs.length → w.cell? (x.add i) = some (.int k (zs.getD i 0))) ∧ ∀ n ∈ zs, (Lit.int k n).wf = true
/-- A slice of slices of bytes that came in. -/
def IsRows (w : World) (a : Option Addr) (len cap : Nat) : Prop :=
  (a = none ∧ len = 0 ∧ cap = 0) ∨
  ∃ x, a = some x ∧ len ≤ cap ∧ cap ≤ 140737488351232 ∧ ∀ r, r < cap → ∃ b l c zs, w.cell? (x.add r) = some (.slice b l c) ∧ IsRow .u8 w b l c zs
theorem sized_in {H : Type} {P : Program} {ts : List TypeId} {ds : List (DataW H)} (h : (DataW.weightsEach P ts ds).all (· ≤ reachBytes) = true) {j : Nat} {t : TypeId} {d : DataW H} (ht : ts[j]? = some t) (hd : ds[j]? = some d) : (d.weights P t).all (· ≤ reachBytes) = true :=
  List.all_eq_true.2 fun n hn => List.all_eq_true.1 h n (DataW.weights_mem_each ht hd n hn)
theorem sized_all {H : Type} {P : Program} {e : TypeId} : ∀ {ds : List (DataW H)}, (DataW.weightsAll P e ds).all (· ≤ reachBytes) = true → ∀ d ∈ ds, (d.weights P e).all (· ≤ reachBytes) = true
  | [], _, d, hd => by simp at hd
  | d0 :: r, h, d, hd => by
    simp only [DataW.weightsAll, List.all_append, Bool.and_eq_true] at h
    rcases List.mem_cons.1 hd with rfl | hd
    · exact h.1
    · exact sized_all h.2 d hd
theorem cellsM : Try.prog.cellsOf 24 = 3 := by kernel_rfl

set_option maxRecDepth 20000 in
set_option maxHeartbeats 4000000 in
theorem walk (r0 c0 : Int) (a0 : Option Addr) (len0 cap0 : Nat) (z0 : List Int) (n1 : Int) (n2 : Int) (w : World) (u0 : (Lit.int .i64 r0).wf = true) (v0 : (Lit.int .i64 c0).wf = true) (w0 : IsRow .u8 w a0 len0 cap0 z0) (w1 : (Lit.int .u64 n1).wf = true) (w2 : (Lit.int .u64 n2).wf = true) :
    Calls Try.prog 8 #[.agg #[.int .i64 r0, .int .i64 c0, .slice a0 len0 cap0], .int .u64 n1, .int .u64 n2] w fun e w' => e = .returned (.bool true) ∧ Below w.heap.size w w' := by
  obtain ⟨F, hF, hn0⟩ := mt_of_row w a0 len0 cap0 z0 w0
  obtain ⟨s, rfl, hs6⟩ := u64_of_wf6 w1
  obtain ⟨t, rfl, ht6⟩ := u64_of_wf6 w2
  have HFz := jhid7 free_one
  rcases bad_or r0 c0 len0 s with ⟨E, h⟩ | ⟨r, c, rfl, rfl, R, hs⟩
  · have H1 : Hid (∀ w' : World, Calls Try.prog 23 #[mv r0 c0 a0 len0 cap0, .int .u64 (s : Int)] w' fun e w'' => e = .returned (.bool false) ∧ Below w'.heap.size w' w'') := fun w' => right7_no w' r0 c0 E len0 cap0 s a0 hs6 h
    clear hF hn0 w0 w1 w2 hs6 ht6 h
    go_enter Try.func8, Try.ntmps8
    go_wp2_with (first
      | (go_at_call 24; have _x := HB2; refine (anch7_any _).mono ?_; rintro e w3 ⟨rfl, hb⟩; have HV3 : Hid (Vr w3 w.heap.size (.int .i64 r0) (.int .i64 c0) (.slice a0 len0 cap0)) := HV2.out.later hb; have l3_0 := HV3.out.c0; have l3_1 := HV3.out.c1; have l3_2 := HV3.out.c2; have HB3 : Hid (Below w.heap.size w w3) := two_below HB2.out hb; clear hb)
      | (go_at_call 11; have _x := HB1; refine (HFz.out _).mono ?_; rintro e w2 ⟨b5, rfl, hb⟩; have HV2 : Hid (Vr w2 w.heap.size (.int .i64 r0) (.int .i64 c0) (.slice a0 len0 cap0)) := HV1.out.later hb; have l2_0 := HV2.out.c0; have l2_1 := HV2.out.c1; have l2_2 := HV2.out.c2; have HB2 : Hid (Below w.heap.size w w2) := two_below HB1.out hb; clear hb)
      | (go_at_call 23; refine (H1.out _).mono ?_; rintro e w1 ⟨rfl, hb⟩; have HV1 : Hid (Vr w1 w.heap.size (.int .i64 r0) (.int .i64 c0) (.slice a0 len0 cap0)) := (Vr.new w (.int .i64 r0) (.int .i64 c0) (.slice a0 len0 cap0)).later hb; have l1_0 := HV1.out.c0; have l1_1 := HV1.out.c1; have l1_2 := HV1.out.c2; have HB1 : Hid (Below w.heap.size w w1) := two_below (alloc_low _ _) hb; clear hb))
    go_ret
    exact ⟨rfl, HB3.out⟩
  · have hr := R.r64
    have hM := m2_el hF.sl.1 R
    have H1 : Hid (∀ w' : World, Below w.heap.size w w' → Calls Try.prog 23 #[mv r c a0 len0 cap0, .int .u64 (s : Int)] w' fun e w'' => e = .returned (.bool true) ∧ Below w'.heap.size w' w'') := fun w' hb => right7_yes w' r c len0 cap0 s a0 F (hF.later hb) R hs
    rcases bad_or (r : Int) (c : Int) len0 t with ⟨E, h⟩ | ⟨r', c', er, ec, _, ht⟩
    · have H2 : Hid (∀ w' : World, Calls Try.prog 23 #[mv r c a0 len0 cap0, .int .u64 (t : Int)] w' fun e w'' => e = .returned (.bool false) ∧ Below w'.heap.size w' w'') := fun w' => right7_no w' r c E len0 cap0 t a0 ht6 h
      clear hF hn0 w0 w1 w2 hs6 ht6 h R hM hs
      go_enter Try.func8, Try.ntmps8
      go_wp2_with (first
        | (go_at_call 24; have _x := HB3; refine (anch7_any _).mono ?_; rintro e w4 ⟨rfl, hb⟩; have HV4 : Hid (Vr w4 w.heap.size (.int .i64 (r : Int)) (.int .i64 (c : Int)) (.slice a0 len0 cap0)) := HV3.out.later hb; have l4_0 := HV4.out.c0; have l4_1 := HV4.out.c1; have l4_2 := HV4.out.c2; have HB4 : Hid (Below w.heap.size w w4) := two_below HB3.out hb; clear hb)
        | (go_at_call 11; have _x := HB2; refine (HFz.out _).mono ?_; rintro e w3 ⟨b5, rfl, hb⟩; have HV3 : Hid (Vr w3 w.heap.size (.int .i64 (r : Int)) (.int .i64 (c : Int)) (.slice a0 len0 cap0)) := HV2.out.later hb; have l3_0 := HV3.out.c0; have l3_1 := HV3.out.c1; have l3_2 := HV3.out.c2; have HB3 : Hid (Below w.heap.size w w3) := two_below HB2.out hb; clear hb)
        | (go_at_call 23; have _x := HB1; refine (H2.out _).mono ?_; rintro e w2 ⟨rfl, hb⟩; have HV2 : Hid (Vr w2 w.heap.size (.int .i64 (r : Int)) (.int .i64 (c : Int)) (.slice a0 len0 cap0)) := HV1.out.later hb; have l2_0 := HV2.out.c0; have l2_1 := HV2.out.c1; have l2_2 := HV2.out.c2; have HB2 : Hid (Below w.heap.size w w2) := two_below HB1.out hb; clear hb)
        | (go_at_call 23; refine (H1.out _ (alloc_low _ _)).mono ?_; rintro e w1 ⟨rfl, hb⟩; have HV1 : Hid (Vr w1 w.heap.size (.int .i64 (r : Int)) (.int .i64 (c : Int)) (.slice a0 len0 cap0)) := (Vr.new w (.int .i64 (r : Int)) (.int .i64 (c : Int)) (.slice a0 len0 cap0)).later hb; have l1_0 := HV1.out.c0; have l1_1 := HV1.out.c1; have l1_2 := HV1.out.c2; have HB1 : Hid (Below w.heap.size w w1) := two_below (alloc_low _ _) hb; clear hb))
      go_ret
      exact ⟨rfl, HB4.out⟩
    · obtain rfl : r = r' := by omega
      obtain rfl : c = c' := by omega
      have H2 : Hid (∀ w' : World, Below w.heap.size w w' → Calls Try.prog 23 #[mv r c a0 len0 cap0, .int .u64 (t : Int)] w' fun e w'' => e = .returned (.bool true) ∧ Below w'.heap.size w' w'') := fun w' hb => right7_yes w' r c len0 cap0 t a0 F (hF.later hb) R ht
      obtain ⟨A, hA⟩ : ∃ A, BaS (m2 F r c) r s A := bld_ex _ r
      obtain ⟨B, hB⟩ : ∃ B, BaS (m2 F r c) r t B := bld_ex _ r
      have hAf := (hA.free hM).1
      have hBf := (hB.free hM).1
      have hA2 := hA.1
      have hB2 := hB.1
      have H3 := jhid7 (base_num hF R hs hA)
      have H4 := jhid7 (base_num hF R ht hB)
      have H5 := jhid7 (list_num hr hA.1)
      have H6 := jhid7 (list_num hr hB.1)
      have hA6 := lt_64 hr hA2
      have hB6 := lt_64 hr hB2
      have k1 := cn_le r A
      have k2 := cn_le r B
      by_cases hk : cn B r ≤ cn A r
      · clear hAf hBf hA hB
        generalize cn A r = K1 at *
        generalize cn B r = K2 at *
        have e1 : decide ((K2 : Int) ≤ (K1 : Int)) = true := decide_eq_true (by omega)
        have e2 : decide (K2 ≤ K1) = true := decide_eq_true hk
        clear hF hn0 w0 w1 w2 hs6 ht6 R hM hs ht er ec
        go_enter Try.func8, Try.ntmps8
        go_wp2_with (first
          | (go_at_call 24; have _x := HB6; refine (anch7_any _).mono ?_; rintro e w7 ⟨rfl, hb⟩; have HV7 : Hid (Vr w7 w.heap.size (.int .i64 (r : Int)) (.int .i64 (c : Int)) (.slice a0 len0 cap0)) := HV6.out.later hb; have l7_0 := HV7.out.c0; have l7_1 := HV7.out.c1; have l7_2 := HV7.out.c2; have HB7 : Hid (Below w.heap.size w w7) := two_below HB6.out hb; clear hb)
          | (go_at_call 25; have _x := HB5; refine (H6.out _).mono ?_; rintro e w6 ⟨x6, d6, rfl, hb⟩; have HV6 : Hid (Vr w6 w.heap.size (.int .i64 (r : Int)) (.int .i64 (c : Int)) (.slice a0 len0 cap0)) := HV5.out.later hb; have l6_0 := HV6.out.c0; have l6_1 := HV6.out.c1; have l6_2 := HV6.out.c2; have HB6 : Hid (Below w.heap.size w w6) := two_below HB5.out hb; clear hb)
          | (go_at_call 25; have _x := HB4; refine (H5.out _).mono ?_; rintro e w5 ⟨x5, d5, rfl, hb⟩; have HV5 : Hid (Vr w5 w.heap.size (.int .i64 (r : Int)) (.int .i64 (c : Int)) (.slice a0 len0 cap0)) := HV4.out.later hb; have l5_0 := HV5.out.c0; have l5_1 := HV5.out.c1; have l5_2 := HV5.out.c2; have HB5 : Hid (Below w.heap.size w w5) := two_below HB4.out hb; clear hb)
          | (go_at_call 17; have _x := HB3; refine (H4.out _ HB3.out).mono ?_; rintro e w4 ⟨rfl, hb⟩; have HV4 : Hid (Vr w4 w.heap.size (.int .i64 (r : Int)) (.int .i64 (c : Int)) (.slice a0 len0 cap0)) := HV3.out.later hb; have l4_0 := HV4.out.c0; have l4_1 := HV4.out.c1; have l4_2 := HV4.out.c2; have HB4 : Hid (Below w.heap.size w w4) := two_below HB3.out hb; clear hb)
          | (go_at_call 17; have _x := HB2; refine (H3.out _ HB2.out).mono ?_; rintro e w3 ⟨rfl, hb⟩; have HV3 : Hid (Vr w3 w.heap.size (.int .i64 (r : Int)) (.int .i64 (c : Int)) (.slice a0 len0 cap0)) := HV2.out.later hb; have l3_0 := HV3.out.c0; have l3_1 := HV3.out.c1; have l3_2 := HV3.out.c2; have HB3 : Hid (Below w.heap.size w w3) := two_below HB2.out hb; clear hb)
          | (go_at_call 23; have _x := HB1; refine (H2.out _ HB1.out).mono ?_; rintro e w2 ⟨rfl, hb⟩; have HV2 : Hid (Vr w2 w.heap.size (.int .i64 (r : Int)) (.int .i64 (c : Int)) (.slice a0 len0 cap0)) := HV1.out.later hb; have l2_0 := HV2.out.c0; have l2_1 := HV2.out.c1; have l2_2 := HV2.out.c2; have HB2 : Hid (Below w.heap.size w w2) := two_below HB1.out hb; clear hb)
          | (go_at_call 23; refine (H1.out _ (alloc_low _ _)).mono ?_; rintro e w1 ⟨rfl, hb⟩; have HV1 : Hid (Vr w1 w.heap.size (.int .i64 (r : Int)) (.int .i64 (c : Int)) (.slice a0 len0 cap0)) := (Vr.new w (.int .i64 (r : Int)) (.int .i64 (c : Int)) (.slice a0 len0 cap0)).later hb; have l1_0 := HV1.out.c0; have l1_1 := HV1.out.c1; have l1_2 := HV1.out.c2; have HB1 : Hid (Below w.heap.size w w1) := two_below (alloc_low _ _) hb; clear hb))
        go_ret
        exact ⟨rfl, HB7.out⟩
      · have b3 := u64_andNot_nat B A hB6 hA6
        have hD2 := diff_lt (t := A) hB2
        obtain ⟨i0, hi0, hb0, hb1, hfr⟩ := free_grows hM hAf hBf (by omega)
        obtain ⟨D, hD⟩ : ∃ D, B &&& (18446744073709551615 - A) = D := ⟨_, rfl⟩
        rw [hD] at b3 hD2
        have hbD : bt D i0 = 1 := by rw [← hD, bt_diff hB6 hA6]; exact ⟨hb0, hb1⟩
        have hlast := lf_cn hi0 hbD
        have k3 := cn_le r D
        have H7 : Hid (∀ w' : World, Calls Try.prog 25 #[.int .u64 (D : Int)] w' fun e w'' => ∃ x d, Il w'' x (cn D r) (fun i => (lf D r i : Int)) ∧ e = .returned (.slice x (cn D r) d) ∧ Below w'.heap.size w' w'') := list_num2 hr hD2
        obtain ⟨f, L, HL, hL, HEnd, Hf⟩ : ∃ (f : Nat → Nat) (L : Nat), Hid (∀ w' : World, Calls Try.prog 25 #[.int .u64 (D : Int)] w' fun e w'' => ∃ x d, Il w'' x L (fun i => (f i : Int)) ∧ e = .returned (.slice x L d) ∧ Below w'.heap.size w' w'') ∧ L ≤ 64 ∧ Hid ((∀ j, j < L → ¬ FreeS (m2 F r c) r (A ||| 2 ^ f j)) → False) ∧ Hid (∀ j, j < L → f j < r) :=
          ⟨lf D r, cn D r, H7, by omega, fun h => h _ hlast.1 (by rw [hlast.2]; exact hfr), fun j hj => (lf_spec hj).1⟩
        have HFr : Hid (∀ u, u < 2 ^ r → ∃ b : Bool, (b = true ↔ FreeS (m2 F r c) r u) ∧ ∀ w' : World, Below w.heap.size w w' → Calls Try.prog 11 #[mv r c a0 len0 cap0, .int .u64 (u : Int)] w' fun e w'' => e = .returned (.tuple #[.bool b, .int .i64 0]) ∧ Below w'.heap.size w' w'') := fun u hu => free_some hF R hu
        have HA2 : Hid (A < 2 ^ r) := hA2
        clear hAf hBf hA hB H7 hlast hbD hb0 hb1 hfr hi0 hD k3 hD2
        generalize cn A r = K1 at *
        generalize cn B r = K2 at *
        have e1 : decide ((K2 : Int) ≤ (K1 : Int)) = false := decide_eq_false (by omega)
        have e2 : decide (K2 ≤ K1) = false := decide_eq_false hk
        clear hF hn0 w0 w1 w2 hs6 ht6 R hM hs ht er ec hA2 hB2
        go_enter Try.func8, Try.ntmps8
        go_wp2_with (first
          | (go_at_call 25; have _x := HB6; refine (HL.out _).mono ?_; rintro e w7 ⟨x7, d7, hi7, rfl, hb⟩; have HV7 : Hid (Vr w7 w.heap.size (.int .i64 (r : Int)) (.int .i64 (c : Int)) (.slice a0 len0 cap0)) := HV6.out.later hb; have l7_0 := HV7.out.c0; have l7_1 := HV7.out.c1; have l7_2 := HV7.out.c2; have HB7 : Hid (Below w.heap.size w w7) := two_below HB6.out hb; clear hb)
          | (go_at_call 25; have _x := HB5; refine (H6.out _).mono ?_; rintro e w6 ⟨x6, d6, rfl, hb⟩; have HV6 : Hid (Vr w6 w.heap.size (.int .i64 (r : Int)) (.int .i64 (c : Int)) (.slice a0 len0 cap0)) := HV5.out.later hb; have l6_0 := HV6.out.c0; have l6_1 := HV6.out.c1; have l6_2 := HV6.out.c2; have HB6 : Hid (Below w.heap.size w w6) := two_below HB5.out hb; clear hb)
          | (go_at_call 25; have _x := HB4; refine (H5.out _).mono ?_; rintro e w5 ⟨x5, d5, rfl, hb⟩; have HV5 : Hid (Vr w5 w.heap.size (.int .i64 (r : Int)) (.int .i64 (c : Int)) (.slice a0 len0 cap0)) := HV4.out.later hb; have l5_0 := HV5.out.c0; have l5_1 := HV5.out.c1; have l5_2 := HV5.out.c2; have HB5 : Hid (Below w.heap.size w w5) := two_below HB4.out hb; clear hb)
          | (go_at_call 17; have _x := HB3; refine (H4.out _ HB3.out).mono ?_; rintro e w4 ⟨rfl, hb⟩; have HV4 : Hid (Vr w4 w.heap.size (.int .i64 (r : Int)) (.int .i64 (c : Int)) (.slice a0 len0 cap0)) := HV3.out.later hb; have l4_0 := HV4.out.c0; have l4_1 := HV4.out.c1; have l4_2 := HV4.out.c2; have HB4 : Hid (Below w.heap.size w w4) := two_below HB3.out hb; clear hb)
          | (go_at_call 17; have _x := HB2; refine (H3.out _ HB2.out).mono ?_; rintro e w3 ⟨rfl, hb⟩; have HV3 : Hid (Vr w3 w.heap.size (.int .i64 (r : Int)) (.int .i64 (c : Int)) (.slice a0 len0 cap0)) := HV2.out.later hb; have l3_0 := HV3.out.c0; have l3_1 := HV3.out.c1; have l3_2 := HV3.out.c2; have HB3 : Hid (Below w.heap.size w w3) := two_below HB2.out hb; clear hb)
          | (go_at_call 23; have _x := HB1; refine (H2.out _ HB1.out).mono ?_; rintro e w2 ⟨rfl, hb⟩; have HV2 : Hid (Vr w2 w.heap.size (.int .i64 (r : Int)) (.int .i64 (c : Int)) (.slice a0 len0 cap0)) := HV1.out.later hb; have l2_0 := HV2.out.c0; have l2_1 := HV2.out.c1; have l2_2 := HV2.out.c2; have HB2 : Hid (Below w.heap.size w w2) := two_below HB1.out hb; clear hb)
          | (go_at_call 23; refine (H1.out _ (alloc_low _ _)).mono ?_; rintro e w1 ⟨rfl, hb⟩; have HV1 : Hid (Vr w1 w.heap.size (.int .i64 (r : Int)) (.int .i64 (c : Int)) (.slice a0 len0 cap0)) := (Vr.new w (.int .i64 (r : Int)) (.int .i64 (c : Int)) (.slice a0 len0 cap0)).later hb; have l1_0 := HV1.out.c0; have l1_1 := HV1.out.c1; have l1_2 := HV1.out.c2; have HB1 : Hid (Below w.heap.size w w1) := two_below (alloc_low _ _) hb; clear hb))
        have HI7 := jhid7 hi7
        clear hi7 HL
        go_loopw [14, 15, 16] (fun vi _ _ wr => ∃ i : Nat, i ≤ L ∧ vi = .int .i64 (i : Int) ∧ Hid (∀ j, j < i → ¬ FreeS (m2 F r c) r (A ||| 2 ^ f j)) ∧ Il wr x7 L (fun i => (f i : Int)) ∧ Vr wr w.heap.size (.int .i64 (r : Int)) (.int .i64 (c : Int)) (.slice a0 len0 cap0) ∧ Below w.heap.size w wr) (fun vi _ _ _ => L - (intOf vi).toNat)
        case atStart => exact ⟨0, by omega, rfl, fun j hj => by omega, HI7.out, HV7.out, HB7.out⟩
        case round =>
          clear HI7 HV7 HB7 l7_0 l7_1 l7_2
          obtain ⟨i, hi, rfl, HJ, hil, hvr, hbr⟩ := hrel
          have HI := jhid7 hil
          have HV := jhid7 hvr
          have HB := jhid7 hbr
          by_cases hlt : i < L
          · obtain ⟨bx, ox, ex, hcl⟩ := hil i hlt
            have hfr := Hf.out i hlt
            obtain ⟨m, HM⟩ : ∃ m, Hid (f i = m) := ⟨_, rfl⟩
            dsimp only at hcl
            rw [HM.out] at hcl hfr
            subst ex
            have hm6 : m < 64 := by omega
            obtain ⟨T, HT⟩ : ∃ T : Nat, Hid (2 ^ m = T) := ⟨_, rfl⟩
            have hp2 : IntKind.u64.wrap (2 ^ m) = (T : Int) := by rw [← HT.out]; exact j_pow m hm6
            have hsh : IntKind.u64.wrap (2 ^ min (IntKind.u64.wrap (m : Int)).toNat 64) = (T : Int) := by rw [shift_m hm6]; exact hp2
            have hT6 : T < 18446744073709551616 := by rw [← HT.out]; exact j_pow_lt hm6
            obtain ⟨u, HU⟩ : ∃ u, Hid (A ||| T = u) := ⟨_, rfl⟩
            have hor : bits .or .u64 (A : Int) (T : Int) = (u : Int) := by rw [← HU.out]; exact u64_or_nat A T hA6 hT6
            have hu2 : u < 2 ^ r := by rw [← HU.out, ← HT.out]; exact or_lt7 HA2.out hfr
            obtain ⟨bb, hbb, hfn⟩ := HFr.out u hu2
            have HBB : Hid (bb = true ↔ FreeS (m2 F r c) r (A ||| 2 ^ f i)) := by
              show _ ↔ _
              rw [HM.out, HT.out, HU.out]
              exact hbb
            have HFn := jhid7 hfn
            have p0 : (0 : Int) ≤ (i : Int) := by omega
            have p1 : (i : Int) < (L : Int) := by omega
            clear hil hvr hbr hu2 hbb hfn hT6
            go_wp2
            refine wp_region_held (S := fun w' => w'.cell? ⟨w.heap.size, 0, none⟩ = some (.int .i64 (r : Int)) ∧ w'.cell? ⟨w.heap.size, 1, none⟩ = some (.int .i64 (c : Int)) ∧ w'.cell? ⟨w.heap.size, 2, none⟩ = some (.slice a0 len0 cap0) ∧ w'.cell? ⟨bx, ox + i, none⟩ = some (.int .i64 (m : Int))) (by kernel_rfl) ?_
            change wpAnyH _ _ _ _ _ _ _ _ (World.drew _)
            obtain ⟨W0, HW0⟩ : ∃ W0, Hid (wr.drew = W0) := ⟨_, rfl⟩
            rw [HW0.out]
            have HBW : Hid (Below wr.heap.size wr W0) := by rw [← HW0.out]; exact (Below.refl _ _).drew
            have HX0 : Hid (Vr W0 w.heap.size (.int .i64 (r : Int)) (.int .i64 (c : Int)) (.slice a0 len0 cap0)) := HV.out.later HBW.out
            have HI0 := jhid7 (HI.out.later HBW.out)
            have hl0 := cell_aft7 hcl HBW.out
            have HB0 : Hid (Below w.heap.size w W0) := two_below HB.out HBW.out
            refine wpAnyH_take (i := 0) (v := ?v0) rfl (by kernel_rfl) (by kernel_rfl) (by kernel_rfl) (fun _ _ _ h => h) (Or.inl ⟨by rfl, ?y0⟩) ⟨HX0.out.c0, HX0.out.c1, HX0.out.c2, hl0⟩ ?z0
            case y0 => (intro w hSw; (try dsimp only at hSw); go_simp; try with_reducible rfl)
            try simp only [List.getElem_toArray, List.getElem_cons_zero, Act.put, List.setIfInBounds_toArray, List.set_cons_zero, List.set_cons_succ]
            refine wpAnyH_take (i := 1) (v := ?v1) rfl (by kernel_rfl) (by kernel_rfl) (by kernel_rfl) (fun _ _ _ h => h) (Or.inl ⟨by rfl, ?y1⟩) ⟨HX0.out.c0, HX0.out.c1, HX0.out.c2, hl0⟩ ?z1
            case y1 => (intro w hSw; (try dsimp only at hSw); go_simp; try with_reducible rfl)
            try simp only [List.getElem_toArray, List.getElem_cons_succ, List.getElem_cons_zero, Act.put, List.setIfInBounds_toArray, List.set_cons_zero, List.set_cons_succ]
            refine wpAnyH_take (i := 2) (v := ?v2) rfl (by kernel_rfl) (by kernel_rfl) (by kernel_rfl) (fun _ _ _ h => h) (Or.inl ⟨by rfl, ?y2⟩) ⟨HX0.out.c0, HX0.out.c1, HX0.out.c2, hl0⟩ ?z2
            case y2 => (intro w hSw; (try dsimp only at hSw); go_simp; try with_reducible rfl)
            try simp only [List.getElem_toArray, List.getElem_cons_succ, List.getElem_cons_zero, Act.put, List.setIfInBounds_toArray, List.set_cons_zero, List.set_cons_succ]
            refine wpAnyH_take (i := 3) (v := ?v3) rfl (by kernel_rfl) (by kernel_rfl) (by kernel_rfl) (fun _ _ _ h => h) (Or.inl ⟨by rfl, ?y3⟩) ⟨HX0.out.c0, HX0.out.c1, HX0.out.c2, hl0⟩ ?z3
            case y3 => (intro w hSw; (try dsimp only at hSw); go_simp; try with_reducible rfl)
            try simp only [List.getElem_toArray, List.getElem_cons_succ, List.getElem_cons_zero, Act.put, List.setIfInBounds_toArray, List.set_cons_zero, List.set_cons_succ]
            refine wpAnyH_take (i := 4) (v := ?v4) rfl (by kernel_rfl) (by kernel_rfl) (by kernel_rfl) (fun _ _ _ h => h) (Or.inl ⟨by rfl, ?y4⟩) ⟨HX0.out.c0, HX0.out.c1, HX0.out.c2, hl0⟩ ?z4
            case y4 => (intro w hSw; (try dsimp only at hSw); go_simp; try with_reducible rfl)
            try simp only [List.getElem_toArray, List.getElem_cons_succ, List.getElem_cons_zero, Act.put, List.setIfInBounds_toArray, List.set_cons_zero, List.set_cons_succ]
            refine wpAnyH_take (i := 5) (v := ?v5) rfl (by kernel_rfl) (by kernel_rfl) (by kernel_rfl) (fun _ _ _ h => h) (Or.inl ⟨by rfl, ?y5⟩) ⟨HX0.out.c0, HX0.out.c1, HX0.out.c2, hl0⟩ ?z5
            case y5 => (intro w hSw; (try dsimp only at hSw); go_simp; try with_reducible rfl)
            try simp only [List.getElem_toArray, List.getElem_cons_succ, List.getElem_cons_zero, Act.put, List.setIfInBounds_toArray, List.set_cons_zero, List.set_cons_succ]
            refine wpAnyH_take (i := 6) (v := ?v6) rfl (by kernel_rfl) (by kernel_rfl) (by kernel_rfl) (fun _ _ _ h => h) (Or.inl ⟨by rfl, ?y6⟩) ⟨HX0.out.c0, HX0.out.c1, HX0.out.c2, hl0⟩ ?z6
            case y6 => (intro w hSw; (try dsimp only at hSw); go_simp; try with_reducible rfl)
            try simp only [List.getElem_toArray, List.getElem_cons_succ, List.getElem_cons_zero, Act.put, List.setIfInBounds_toArray, List.set_cons_zero, List.set_cons_succ]
            refine wpAnyH_take (i := 7) (v := ?v7) rfl (by kernel_rfl) (by kernel_rfl) (by kernel_rfl) (fun _ _ _ h => h) (Or.inl ⟨by rfl, ?y7⟩) ⟨HX0.out.c0, HX0.out.c1, HX0.out.c2, hl0⟩ ?z7
            case y7 => (intro w hSw; (try dsimp only at hSw); go_simp; try with_reducible rfl)
            try simp only [List.getElem_toArray, List.getElem_cons_succ, List.getElem_cons_zero, Act.put, List.setIfInBounds_toArray, List.set_cons_zero, List.set_cons_succ]
            refine wpAnyH_take (i := 8) (v := ?v8) rfl (by kernel_rfl) (by kernel_rfl) (by kernel_rfl) (fun _ _ _ h => h) (Or.inl ⟨by rfl, ?y8⟩) ⟨HX0.out.c0, HX0.out.c1, HX0.out.c2, hl0⟩ ?z8
            case y8 => (intro w hSw; (try dsimp only at hSw); go_simp; try with_reducible rfl)
            try simp only [List.getElem_toArray, List.getElem_cons_succ, List.getElem_cons_zero, Act.put, List.setIfInBounds_toArray, List.set_cons_zero, List.set_cons_succ]
            refine wpAnyH_ready (rs := [9]) (by kernel_rfl) (by simp) ?_
            refine AllReadyH.cons rfl (fun KK hKK => ?_) AllReadyH.nil
            go_simp
            refine (HFn.out _ HB0.out).mono ?_
            rintro e w9 ⟨rfl, hb9⟩
            have HV9 : Hid (Vr w9 w.heap.size (.int .i64 (r : Int)) (.int .i64 (c : Int)) (.slice a0 len0 cap0)) := HX0.out.later hb9
            have HI9 := jhid7 (HI0.out.later hb9)
            have hl9 := cell_aft7 hl0 hb9
            have HB9 : Hid (Below w.heap.size w w9) := two_below HB0.out hb9
            clear hb9
            refine hKK.out _ _ ⟨HV9.out.c0, HV9.out.c1, HV9.out.c2, hl9⟩ (fun _ => ?_)
            clear hKK KK
            try simp only [List.getElem_toArray, List.getElem_cons_succ, List.getElem_cons_zero, Act.put, List.setIfInBounds_toArray, List.set_cons_zero, List.set_cons_succ]
            refine wpAnyH_take (i := 10) (v := ?v10) rfl (by kernel_rfl) (by kernel_rfl) (by kernel_rfl) (fun _ _ _ h => h) (Or.inl ⟨by rfl, ?y10⟩) ⟨HV9.out.c0, HV9.out.c1, HV9.out.c2, hl9⟩ ?z10
            case y10 => (intro w hSw; (try dsimp only at hSw); go_simp; try with_reducible rfl)
            try simp only [List.getElem_toArray, List.getElem_cons_succ, List.getElem_cons_zero, Act.put, List.setIfInBounds_toArray, List.set_cons_zero, List.set_cons_succ]
            refine wpAnyH_take (i := 11) (v := ?v11) rfl (by kernel_rfl) (by kernel_rfl) (by kernel_rfl) (fun _ _ _ h => h) (Or.inl ⟨by rfl, ?y11⟩) ⟨HV9.out.c0, HV9.out.c1, HV9.out.c2, hl9⟩ ?z11
            case y11 => (intro w hSw; (try dsimp only at hSw); go_simp; try with_reducible rfl)
            try simp only [List.getElem_toArray, List.getElem_cons_succ, List.getElem_cons_zero, Act.put, List.setIfInBounds_toArray, List.set_cons_zero, List.set_cons_succ]
            refine wpAnyH_take (i := 12) (v := ?v12) rfl (by kernel_rfl) (by kernel_rfl) (by kernel_rfl) (fun _ _ _ h => h) (Or.inl ⟨by rfl, ?y12⟩) ⟨HV9.out.c0, HV9.out.c1, HV9.out.c2, hl9⟩ ?z12
            case y12 => (intro w hSw; (try dsimp only at hSw); go_simp; try with_reducible rfl)
            try simp only [List.getElem_toArray, List.getElem_cons_succ, List.getElem_cons_zero, Act.put, List.setIfInBounds_toArray, List.set_cons_zero, List.set_cons_succ]
            refine wpAnyH_take (i := 13) (v := ?v13) rfl (by kernel_rfl) (by kernel_rfl) (by kernel_rfl) (fun _ _ _ h => h) (Or.inl ⟨by rfl, ?y13⟩) ⟨HV9.out.c0, HV9.out.c1, HV9.out.c2, hl9⟩ ?z13
            case y13 => (intro w hSw; (try dsimp only at hSw); go_simp; try with_reducible rfl)
            try simp only [List.getElem_toArray, List.getElem_cons_succ, List.getElem_cons_zero, Act.put, List.setIfInBounds_toArray, List.set_cons_zero, List.set_cons_succ]
            refine wpAnyH_take (i := 14) (v := ?v14) rfl (by kernel_rfl) (by kernel_rfl) (by kernel_rfl) (fun _ _ _ h => h) (Or.inl ⟨by rfl, ?y14⟩) ⟨HV9.out.c0, HV9.out.c1, HV9.out.c2, hl9⟩ ?z14
            case y14 => (intro w hSw; (try dsimp only at hSw); go_simp; try with_reducible rfl)
            try simp only [List.getElem_toArray, List.getElem_cons_succ, List.getElem_cons_zero, Act.put, List.setIfInBounds_toArray, List.set_cons_zero, List.set_cons_succ]
            refine wpAnyH_done (by kernel_rfl) ?_ _
            have HV := HV9
            have d0 := HV9.out.c0
            have d1 := HV9.out.c1
            have d2 := HV9.out.c2
            cases bb with
            | true =>
              go_wp2_with (go_at_call 24; refine (anch7_any _).mono ?_; rintro e w10 ⟨rfl, hb⟩; have HB10 : Hid (Below w.heap.size w w10) := two_below HB9.out hb; clear hb)
              go_ret
              exact ⟨rfl, HB10.out⟩
            | false =>
              go_wp2
              exact ⟨⟨i + 1, by omega, by go_num, fun j hj => by
                by_cases e : j = i
                · rw [e]; exact fun h => absurd (HBB.out.2 h) (by decide)
                · exact HJ.out j (by omega), HI9.out, HV9.out, HB9.out⟩, by simp [intOf]; omega⟩
          · exact (HEnd.out (fun j hj => HJ.out j (by omega))).elim
set_option maxRecDepth 100000 in
set_option maxHeartbeats 2000000 in
theorem lifted (os : Os) (started : os.Started) (H : Type) (enc : TypeId × Value → H) :
    ReturnsInHanded {} Try.checked os 8 .any (Rows.matroidGrowsSpec.pre6 enc Try.prog Try.f8 Rows.matroidGrowsRow.domain false) (Rows.matroidGrowsSpec.post enc Try.prog Try.f8 false true false false) := by
  refine returnsInHanded_of_change_sized (C := Try.checked) own started (by kernel_rfl) Try.func8
    (ChangeSpec.witness6 (enc := enc) (C := Try.checked) false ⟨#[], #[.agg #[.int .i64 0, .int .i64 0, .slice none 0 0], .int .u64 0, .int .u64 0], []⟩ 8 (by kernel_rfl) (by kernel_rfl) (by kernel_rfl) (by kernel_rfl)) ?_
  intro W base args ds gs before hval0 hW hcnd hsz0 _
  have hsz : (DataW.weightsEach Try.prog (Try.f8.params.toList ++ Rows.matroidGrowsSpec.plain.varTypes Try.prog) (ds ++ gs)).all (· ≤ reachBytes) = true := hsz0
  clear hsz0
  have hval : ∀ (j : Nat) t v, Try.f8.params[j]? = some t → args[j]? = some v → Value.okWide Try.prog W .any base t v := hval0
  have hW' := hW
  obtain ⟨p, q, hA0, hV, rfl, hfz, hnd⟩ := hW
  have hA : DataW.TrodAll enc Try.prog W 0 (fun _ => true) true Try.f8.params.toList args.toList ds p := hA0
  rw [Try.params8] at hA hval hsz
  obtain ⟨va0, vs0, d0, ds0, p0, q0, hargs, rfl, rfl, h0, tr0⟩ := trodAll_cons hA
  obtain ⟨va1, vs1, d1, ds1, p1, q1, rfl, rfl, rfl, h1, tr1⟩ := trodAll_cons tr0
  obtain ⟨va2, vs2, d2, ds2, p2, q2, rfl, rfl, rfl, h2, tr2⟩ := trodAll_cons tr1
  obtain ⟨rfl, rfl, rfl⟩ := trodAll_nil tr2
  obtain rfl : args = #[va0, va1, va2] := by cases args; simp_all
  obtain ⟨rfl, rfl⟩ := trodVars_none hV
  have k0 := h0
  have lt0 : ∀ x ∈ p0, x.block < W.heap.size := by obtain ⟨m, hm⟩ := k0; exact DataW.trod_lt m _ _ _ hm
  obtain ⟨f0, g0, s0, y0, x0, e0, m0, rfl, rfl, rfl, hf0, hg0, hs0⟩ := open_agg3 Try.underlying24 (by kernel_rfl) cellsM (hval 0 24 va0 rfl rfl) h0
  obtain ⟨r0, er0, rfl, u0⟩ := DataW.trod_int Try.underlying3 hf0
  obtain ⟨c0, ec0, rfl, v0⟩ := DataW.trod_int Try.underlying3 hg0
  simp only [List.cons.injEq, and_true] at er0 ec0
  subst er0 ec0
  obtain ⟨a0, len0, cap0, rfl⟩ : ∃ a l c, s0 = .slice a l c := by
    rcases open_ints Try.underlying22 Try.underlying5 (by kernel_rfl) hs0 with ⟨hcs, _⟩ | ⟨x, l, c, zs, hcs, _⟩
    · simp only [List.cons.injEq, and_true] at hcs; exact ⟨_, _, _, hcs⟩
    · simp only [List.cons.injEq, and_true] at hcs; exact ⟨_, _, _, hcs⟩
  obtain ⟨z0, w0⟩ : ∃ zs, IsRow .u8 W a0 len0 cap0 zs := by
    obtain ⟨fuel, hf⟩ := (⟨m0, hs0⟩ : ∃ fuel, DataW.trod enc Try.prog W 0 (fun _ => true) true fuel 22 [.slice a0 len0 cap0] = some e0)
    rcases open_ints Try.underlying22 Try.underlying5 (by kernel_rfl) hf with ⟨hcs, _⟩ | ⟨x, l, c, zs, hcs, _, hl, hm, hz, hxx, hcell, hwz⟩
    · simp at hcs
      obtain ⟨rfl, rfl, rfl⟩ := hcs
      exact ⟨[], .inl ⟨rfl, rfl, rfl, rfl⟩⟩
    · simp at hcs
      obtain ⟨rfl, rfl, rfl⟩ := hcs
      have hd := congrArg Prod.fst hxx
      have hs := sized_slice (sized_in hsz (j := 0) (t := 24) rfl rfl) (j := 2) (t := 22) (e := 5) rfl (congrArg some hd) Try.underlying22
      rw [show Try.prog.bytesOf 5 = 1 from by kernel_rfl] at hs
      have hzl : zs.length = cap0 := by simpa using hz
      simp only [lits, List.length_map, List.length_take, List.length_drop, reachBytes] at hs
      exact ⟨zs, .inr ⟨_, rfl, hl, by omega, by simpa using hz, hcell, hwz⟩⟩
  have k1 := h1
  have lt1 : ∀ x ∈ p1, x.block < W.heap.size := by obtain ⟨m, hm⟩ := k1; exact DataW.trod_lt m _ _ _ hm
  obtain ⟨n1, rfl, w1⟩ : ∃ n, va1 = .int .u64 n ∧ (Lit.int .u64 n).wf = true := by
    obtain ⟨n, rfl, _, _, hw⟩ := open_int Try.underlying26 (hval 1 26 va1 rfl rfl) h1
    exact ⟨n, rfl, hw⟩
  have k2 := h2
  have lt2 : ∀ x ∈ p2, x.block < W.heap.size := by obtain ⟨m, hm⟩ := k2; exact DataW.trod_lt m _ _ _ hm
  obtain ⟨n2, rfl, w2⟩ : ∃ n, va2 = .int .u64 n ∧ (Lit.int .u64 n).wf = true := by
    obtain ⟨n, rfl, _, _, hw⟩ := open_int Try.underlying26 (hval 2 26 va2 rfl rfl) h2
    exact ⟨n, rfl, hw⟩
  clear hA0 hval0
  refine (walk r0 c0 a0 len0 cap0 z0 n1 n2 W u0 v0 w0 w1 w2).mono fun e W' ⟨he, bel⟩ => ?_
  subst he
  exact ⟨_, rfl, _, _, _, [], _, [], hW', trodAll_mk1 (shut_bool Try.underlying4 _), (trodAll_cons_mk (Below.trod laidOut (by kernel_rfl) (of_decide_eq_true (by kernel_rfl)) k0 bel lt0) (trodAll_cons_mk (Below.trod laidOut (by kernel_rfl) (of_decide_eq_true (by kernel_rfl)) k1 bel lt1) (trodAll_cons_mk (Below.trod laidOut (by kernel_rfl) (of_decide_eq_true (by kernel_rfl)) k2 bel lt2) trodAll_mk0))), rfl, bel.frame _, fun h => by cases h⟩
theorem over : Rows.matroidGrowsRow.holds Try.pinned (OpenSpec.ofChange Rows.matroidGrowsSpec) :=
  OpenClaim.holds_of_wide 8 Try.f8 rfl rfl rfl rfl rfl rfl rfl ⟨rfl, rfl, rfl, rfl, rfl⟩ rfl rfl rfl rfl rfl (by kernel_rfl) Try.func8 (by kernel_rfl)
    (of_decide_eq_true (by kernel_rfl)) (by unfold Func.isWrapper; first | (rw [if_pos (by decide +kernel)]; kernel_rfl) | (rw [if_neg (by decide +kernel)]; exact ⟨rfl, rfl⟩))
    (fun os started H enc _ => lifted os started H enc)
theorem proved : Rows.MatroidGrowsSaid := over
#print axioms proved
end Go.Proofs.Ytflflmdlhmhkdaa.matroidGrows
