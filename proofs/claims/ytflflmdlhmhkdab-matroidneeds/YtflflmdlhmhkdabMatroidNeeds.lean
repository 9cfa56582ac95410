/-
  Proved: for every matrix g and set s of its rows a row is in what Needed tells of s just if it is not in the span that the program tells of the others; else there is an error (P7.5); no condition.
-/
import Derived.Test.YtflflmdlhmhkdabGy
import Derived.Deep.RegionHeld
import Derived.WalkKit
import Derived.SizedLaws
import Derived.ProofKit
import Derived.OpenShut
import Derived.ShutString
import Derived.ChangeOld
import Derived.Below
import Derived.Lib.SmallJoins
import Derived.Deep.Matrix
namespace Go.Proofs.Ytflflmdlhmhkdab.matroidNeeds
open Go.ChangeShapes Go.WideShapes Go.ChangeAt Go.RowKit Go.Joins
set_option linter.unusedVariables false
theorem own : ownKnob Try.prog.godebug = none := by kernel_rfl
theorem laidOut : laidOutB Try.prog = true := by kernel_rfl
/-- A slice of integers that came in. -/
def IsRow (k : IntKind) (w : World) (a : Option Addr) (len cap : Nat) (zs : List Int) : Prop :=
  (a = none ∧ len = 0 ∧ cap = 0 ∧ zs = []) ∨
  ∃ x, a = some x ∧ len ≤ cap ∧ cap ≤ 140737488351232 ∧ zs.length = cap ∧ (∀ i, i < zs.length → w.cell? (x.add i) = some (.int k (zs.getD i 0))) ∧ ∀ n ∈ zs, (Lit.int k n).wf = true
/-- A slice of slices of bytes that came in. -/
def IsRows (w : World) (a : Option Addr) (len cap : Nat) : Prop :=
  (a = none ∧ len = 0 ∧ cap = 0) ∨
  ∃ x, a = some x ∧ len ≤ cap ∧ cap ≤ 140737488351232 ∧ ∀ r, r < cap → ∃ b l c zs, w.cell? (x.add r) = some (.slice b l c) ∧ IsRow .u8 w b l c zs
theorem sized_in {H : Type} {P : Program} {ts : List TypeId} {ds : List (DataW H)} (h : (DataW.weightsEach P ts ds).all (· ≤ reachBytes) = true) {j : Nat} {t : TypeId} {d : DataW H} (ht : ts[j]? = some t) (hd : ds[j]? = some d) : (d.weights P t).all (· ≤ reachBytes) = true :=
  List.all_eq_true.2 fun n hn => List.all_eq_true.1 h n (DataW.weights_mem_each ht hd n hn)
theorem sized_all {H : Type} {P : Program} {e : TypeId} : ∀ {ds : List (DataW H)}, (DataW.weightsAll P e ds).all (· ≤ reachBytes) = true → ∀ d ∈ ds, (d.weights P e).all (· ≤ reachBytes) = true
  | [], _, d, hd => by simp at hd
  | d0 :: r, h, d, hd => by
    simp only [DataW.weightsAll, List.all_append, Bool.and_eq_true] at h
    rcases List.mem_cons.1 hd with rfl | hd
    · exact h.1
    · exact sized_all h.2 d hd
theorem cellsM : Try.prog.cellsOf 24 = 3 := by kernel_rfl

set_option maxRecDepth 20000 in
set_option maxHeartbeats 4000000 in
theorem walk (r0 c0 : Int) (a0 : Option Addr) (len0 cap0 : Nat) (z0 : List Int) (n1 : Int) (w : World) (u0 : (Lit.int .i64 r0).wf = true) (v0 : (Lit.int .i64 c0).wf = true) (w0 : IsRow .u8 w a0 len0 cap0 z0) (w1 : (Lit.int .u64 n1).wf = true) :
    Calls Try.prog 4 #[.agg #[.int .i64 r0, .int .i64 c0, .slice a0 len0 cap0], .int .u64 n1] w fun e w' => e = .returned (.bool true) ∧ Below w.heap.size w w' := by
  obtain ⟨F, hF, hn0⟩ := mt_of_row w a0 len0 cap0 z0 w0
  obtain ⟨s, rfl, hs6⟩ := u64_of_wf6 w1
  rcases bad_or r0 c0 len0 s with ⟨E, h⟩ | ⟨r, c, rfl, rfl, R, hs⟩
  · have H1 : Hid (∀ w' : World, Calls Try.prog 14 #[mv r0 c0 a0 len0 cap0, .int .u64 (s : Int)] w' fun e w'' => e = .returned (.tuple #[.int .u64 0, .int .i64 E]) ∧ Below w'.heap.size w' w'') := fun w' => tNeed_bad w' r0 c0 E len0 cap0 s a0 hs6 h
    have H2 : Hid (∀ w' : World, Calls Try.prog 6 #[mv r0 c0 a0 len0 cap0, .int .u64 (s : Int)] w' fun e w'' => e = .returned (.bool false) ∧ Below w'.heap.size w' w'') := fun w' => right7_no w' r0 c0 E len0 cap0 s a0 hs6 h
    have hE := h.two
    clear hF hn0 w0 w1 hs6 h
    rcases hE with rfl | rfl
    all_goals
      go_enter Try.func4, Try.ntmps4
      go_wp2_with (first
        | (go_at_call 7; have _x := HB2; refine (anch7_any _).mono ?_; rintro e w3 ⟨rfl, hb⟩; have HV3 : Hid (Vr w3 w.heap.size (.int .i64 r0) (.int .i64 c0) (.slice a0 len0 cap0)) := HV2.out.later hb; have l3_0 := HV3.out.c0; have l3_1 := HV3.out.c1; have l3_2 := HV3.out.c2; have HB3 : Hid (Below w.heap.size w w3) := two_below HB2.out hb; clear hb)
        | (go_at_call 6; have _x := HB1; refine (H2.out _).mono ?_; rintro e w2 ⟨rfl, hb⟩; have HV2 : Hid (Vr w2 w.heap.size (.int .i64 r0) (.int .i64 c0) (.slice a0 len0 cap0)) := HV1.out.later hb; have l2_0 := HV2.out.c0; have l2_1 := HV2.out.c1; have l2_2 := HV2.out.c2; have HB2 : Hid (Below w.heap.size w w2) := two_below HB1.out hb; clear hb)
        | (go_at_call 14; refine (H1.out _).mono ?_; rintro e w1 ⟨rfl, hb⟩; have HV1 : Hid (Vr w1 w.heap.size (.int .i64 r0) (.int .i64 c0) (.slice a0 len0 cap0)) := (Vr.new w (.int .i64 r0) (.int .i64 c0) (.slice a0 len0 cap0)).later hb; have l1_0 := HV1.out.c0; have l1_1 := HV1.out.c1; have l1_2 := HV1.out.c2; have HB1 : Hid (Below w.heap.size w w1) := two_below (alloc_low _ _) hb; clear hb))
      go_ret
      exact ⟨rfl, HB3.out⟩
  · have hr := R.r64
    have hM := m2_el hF.sl.1 R
    obtain ⟨N, hN⟩ : ∃ N, NeS (m2 F r c) r s N := bld_ex _ r
    have b1 := in_other hr hN.1 hs (fun i hi h => ((hN.2 i hi).1 h).1)
    have H1 := jhid7 (need_num hF R hs hN)
    have H2 : Hid (∀ w' : World, Below w.heap.size w w' → Calls Try.prog 6 #[mv r c a0 len0 cap0, .int .u64 (s : Int)] w' fun e w'' => e = .returned (.bool true) ∧ Below w'.heap.size w' w'') := fun w' hb => right7_yes w' r c len0 cap0 s a0 F (hF.later hb) R hs
    have k1 := cn_le r s
    obtain ⟨f, L, HL, hL, HSt⟩ : ∃ (f : Nat → Nat) (L : Nat), Hid (∀ w' : World, Calls Try.prog 13 #[.int .u64 (s : Int)] w' fun e w'' => ∃ x d, Il w'' x L (fun i => (f i : Int)) ∧ e = .returned (.slice x L d) ∧ Below w'.heap.size w' w'') ∧ L ≤ 64 ∧ Hid (∀ i, i < L → f i < 64 ∧ ∃ (T q p : Nat) (ba bn : Bool), IntKind.u64.wrap (2 ^ f i) = (T : Int) ∧ IntKind.u64.wrap (2 ^ min (IntKind.u64.wrap (f i : Int)).toNat 64) = (T : Int) ∧ bits .andNot .u64 (s : Int) (T : Int) = (q : Int) ∧
      (∀ w' : World, Below w.heap.size w w' → Calls Try.prog 15 #[mv r c a0 len0 cap0, .int .u64 (q : Int)] w' fun e w'' => e = .returned (.tuple #[.int .u64 (p : Int), .int .i64 0]) ∧ Below w'.heap.size w' w'') ∧
      (∀ w' : World, Calls Try.prog 11 #[.int .u64 (p : Int), .int .i64 (f i : Int)] w' fun e w'' => e = .returned (.bool ba) ∧ w' = w'') ∧
      (∀ w' : World, Calls Try.prog 11 #[.int .u64 (N : Int), .int .i64 (f i : Int)] w' fun e w'' => e = .returned (.bool bn) ∧ w' = w'') ∧ (ba == bn) = false) :=
      ⟨lf s r, cn s r, list_num2 hr hs, by omega, fun i hi => by
        obtain ⟨x1, x2, _⟩ := lf_spec hi
        exact ⟨by omega, need_step hF R hs hN x1 x2⟩⟩
    clear hF hn0 w0 w1 hs6 R hM hs hN k1
    go_enter Try.func4, Try.ntmps4
    go_wp2_with (first
      | (go_at_call 13; have _x := HB2; refine (HL.out _).mono ?_; rintro e w3 ⟨x3, d3, hi3, rfl, hb⟩; have HV3 : Hid (Vr w3 w.heap.size (.int .i64 (r : Int)) (.int .i64 (c : Int)) (.slice a0 len0 cap0)) := HV2.out.later hb; have l3_0 := HV3.out.c0; have l3_1 := HV3.out.c1; have l3_2 := HV3.out.c2; have HB3 : Hid (Below w.heap.size w w3) := two_below HB2.out hb; clear hb)
      | (go_at_call 6; have _x := HB1; refine (H2.out _ HB1.out).mono ?_; rintro e w2 ⟨rfl, hb⟩; have HV2 : Hid (Vr w2 w.heap.size (.int .i64 (r : Int)) (.int .i64 (c : Int)) (.slice a0 len0 cap0)) := HV1.out.later hb; have l2_0 := HV2.out.c0; have l2_1 := HV2.out.c1; have l2_2 := HV2.out.c2; have HB2 : Hid (Below w.heap.size w w2) := two_below HB1.out hb; clear hb)
      | (go_at_call 14; refine (H1.out _ (alloc_low _ _)).mono ?_; rintro e w1 ⟨rfl, hb⟩; have HV1 : Hid (Vr w1 w.heap.size (.int .i64 (r : Int)) (.int .i64 (c : Int)) (.slice a0 len0 cap0)) := (Vr.new w (.int .i64 (r : Int)) (.int .i64 (c : Int)) (.slice a0 len0 cap0)).later hb; have l1_0 := HV1.out.c0; have l1_1 := HV1.out.c1; have l1_2 := HV1.out.c2; have HB1 : Hid (Below w.heap.size w w1) := two_below (alloc_low _ _) hb; clear hb))
    have HI3 := jhid7 hi3
    clear hi3 HL
    go_loopw [8, 9, 10] (fun vi _ _ wr => ∃ i : Nat, i ≤ L ∧ vi = .int .i64 (i : Int) ∧ Il wr x3 L (fun i => (f i : Int)) ∧ Vr wr w.heap.size (.int .i64 (r : Int)) (.int .i64 (c : Int)) (.slice a0 len0 cap0) ∧ Below w.heap.size w wr) (fun vi _ _ _ => L - (intOf vi).toNat)
    case atStart => exact ⟨0, by omega, rfl, HI3.out, HV3.out, HB3.out⟩
    case round =>
      clear HI3 HV3 HB3 l3_0 l3_1 l3_2
      obtain ⟨i, hi, rfl, hil, hvr, hbr⟩ := hrel
      have HI := jhid7 hil
      have HV := jhid7 hvr
      have HB := jhid7 hbr
      by_cases hlt : i < L
      · obtain ⟨bx, ox, ex, hcl⟩ := hil i hlt
        obtain ⟨hm6, T, q, p, ba, bn, hp2, hsh, hand, hsp, hha, hhn, hne⟩ := HSt.out i hlt
        dsimp only at hcl
        generalize f i = m at *
        subst ex
        have HSp := jhid7 hsp
        have HHa := jhid7 hha
        have HHn := jhid7 hhn
        have p0 : (0 : Int) ≤ (i : Int) := by omega
        have p1 : (i : Int) < (L : Int) := by omega
        clear hil hvr hbr hsp hha hhn
        go_wp2
        refine wp_region_held (S := fun w' => w'.cell? ⟨w.heap.size, 0, none⟩ = some (.int .i64 (r : Int)) ∧ w'.cell? ⟨w.heap.size, 1, none⟩ = some (.int .i64 (c : Int)) ∧ w'.cell? ⟨w.heap.size, 2, none⟩ = some (.slice a0 len0 cap0) ∧ w'.cell? ⟨bx, ox + i, none⟩ = some (.int .i64 (m : Int))) (by kernel_rfl) ?_
        change wpAnyH _ _ _ _ _ _ _ _ (World.drew _)
        obtain ⟨W0, HW0⟩ : ∃ W0, Hid (wr.drew = W0) := ⟨_, rfl⟩
        rw [HW0.out]
        have HBW : Hid (Below wr.heap.size wr W0) := by rw [← HW0.out]; exact (Below.refl _ _).drew
        have HX0 : Hid (Vr W0 w.heap.size (.int .i64 (r : Int)) (.int .i64 (c : Int)) (.slice a0 len0 cap0)) := HV.out.later HBW.out
        have HI0 := jhid7 (HI.out.later HBW.out)
        have hl0 := cell_aft7 hcl HBW.out
        have HB0 : Hid (Below w.heap.size w W0) := two_below HB.out HBW.out
        refine wpAnyH_take (i := 0) (v := ?v0) rfl (by kernel_rfl) (by kernel_rfl) (by kernel_rfl) (fun _ _ _ h => h) (Or.inl ⟨by rfl, ?y0⟩) ⟨HX0.out.c0, HX0.out.c1, HX0.out.c2, hl0⟩ ?z0
        case y0 => (intro w hSw; (try dsimp only at hSw); go_simp; try with_reducible rfl)
        try simp only [List.getElem_toArray, List.getElem_cons_zero, Act.put, List.setIfInBounds_toArray, List.set_cons_zero, List.set_cons_succ]
        refine wpAnyH_take (i := 1) (v := ?v1) rfl (by kernel_rfl) (by kernel_rfl) (by kernel_rfl) (fun _ _ _ h => h) (Or.inl ⟨by rfl, ?y1⟩) ⟨HX0.out.c0, HX0.out.c1, HX0.out.c2, hl0⟩ ?z1
        case y1 => (intro w hSw; (try dsimp only at hSw); go_simp; try with_reducible rfl)
        try simp only [List.getElem_toArray, List.getElem_cons_succ, List.getElem_cons_zero, Act.put, List.setIfInBounds_toArray, List.set_cons_zero, List.set_cons_succ]
        refine wpAnyH_take (i := 2) (v := ?v2) rfl (by kernel_rfl) (by kernel_rfl) (by kernel_rfl) (fun _ _ _ h => h) (Or.inl ⟨by rfl, ?y2⟩) ⟨HX0.out.c0, HX0.out.c1, HX0.out.c2, hl0⟩ ?z2
        case y2 => (intro w hSw; (try dsimp only at hSw); go_simp; try with_reducible rfl)
        try simp only [List.getElem_toArray, List.getElem_cons_succ, List.getElem_cons_zero, Act.put, List.setIfInBounds_toArray, List.set_cons_zero, List.set_cons_succ]
        refine wpAnyH_take (i := 3) (v := ?v3) rfl (by kernel_rfl) (by kernel_rfl) (by kernel_rfl) (fun _ _ _ h => h) (Or.inl ⟨by rfl, ?y3⟩) ⟨HX0.out.c0, HX0.out.c1, HX0.out.c2, hl0⟩ ?z3
        case y3 => (intro w hSw; (try dsimp only at hSw); go_simp; try with_reducible rfl)
        try simp only [List.getElem_toArray, List.getElem_cons_succ, List.getElem_cons_zero, Act.put, List.setIfInBounds_toArray, List.set_cons_zero, List.set_cons_succ]
        refine wpAnyH_take (i := 4) (v := ?v4) rfl (by kernel_rfl) (by kernel_rfl) (by kernel_rfl) (fun _ _ _ h => h) (Or.inl ⟨by rfl, ?y4⟩) ⟨HX0.out.c0, HX0.out.c1, HX0.out.c2, hl0⟩ ?z4
        case y4 => (intro w hSw; (try dsimp only at hSw); go_simp; try with_reducible rfl)
        try simp only [List.getElem_toArray, List.getElem_cons_succ, List.getElem_cons_zero, Act.put, List.setIfInBounds_toArray, List.set_cons_zero, List.set_cons_succ]
        refine wpAnyH_take (i := 5) (v := ?v5) rfl (by kernel_rfl) (by kernel_rfl) (by kernel_rfl) (fun _ _ _ h => h) (Or.inl ⟨by rfl, ?y5⟩) ⟨HX0.out.c0, HX0.out.c1, HX0.out.c2, hl0⟩ ?z5
        case y5 => (intro w hSw; (try dsimp only at hSw); go_simp; try with_reducible rfl)
        try simp only [List.getElem_toArray, List.getElem_cons_succ, List.getElem_cons_zero, Act.put, List.setIfInBounds_toArray, List.set_cons_zero, List.set_cons_succ]
        refine wpAnyH_take (i := 6) (v := ?v6) rfl (by kernel_rfl) (by kernel_rfl) (by kernel_rfl) (fun _ _ _ h => h) (Or.inl ⟨by rfl, ?y6⟩) ⟨HX0.out.c0, HX0.out.c1, HX0.out.c2, hl0⟩ ?z6
        case y6 => (intro w hSw; (try dsimp only at hSw); go_simp; try with_reducible rfl)
        try simp only [List.getElem_toArray, List.getElem_cons_succ, List.getElem_cons_zero, Act.put, List.setIfInBounds_toArray, List.set_cons_zero, List.set_cons_succ]
        refine wpAnyH_take (i := 7) (v := ?v7) rfl (by kernel_rfl) (by kernel_rfl) (by kernel_rfl) (fun _ _ _ h => h) (Or.inl ⟨by rfl, ?y7⟩) ⟨HX0.out.c0, HX0.out.c1, HX0.out.c2, hl0⟩ ?z7
        case y7 => (intro w hSw; (try dsimp only at hSw); go_simp; try with_reducible rfl)
        try simp only [List.getElem_toArray, List.getElem_cons_succ, List.getElem_cons_zero, Act.put, List.setIfInBounds_toArray, List.set_cons_zero, List.set_cons_succ]
        refine wpAnyH_take (i := 8) (v := ?v8) rfl (by kernel_rfl) (by kernel_rfl) (by kernel_rfl) (fun _ _ _ h => h) (Or.inl ⟨by rfl, ?y8⟩) ⟨HX0.out.c0, HX0.out.c1, HX0.out.c2, hl0⟩ ?z8
        case y8 => (intro w hSw; (try dsimp only at hSw); go_simp; try with_reducible rfl)
        try simp only [List.getElem_toArray, List.getElem_cons_succ, List.getElem_cons_zero, Act.put, List.setIfInBounds_toArray, List.set_cons_zero, List.set_cons_succ]
        refine wpAnyH_ready (rs := [9]) (by kernel_rfl) (by simp) ?_
        refine AllReadyH.cons rfl (fun KK hKK => ?_) AllReadyH.nil
        go_simp
        refine (HSp.out _ HB0.out).mono ?_
        rintro e w9 ⟨rfl, hb9⟩
        have HV9 : Hid (Vr w9 w.heap.size (.int .i64 (r : Int)) (.int .i64 (c : Int)) (.slice a0 len0 cap0)) := HX0.out.later hb9
        have HI9 := jhid7 (HI0.out.later hb9)
        have hl9 := cell_aft7 hl0 hb9
        have HB9 : Hid (Below w.heap.size w w9) := two_below HB0.out hb9
        clear hb9
        refine hKK.out _ _ ⟨HV9.out.c0, HV9.out.c1, HV9.out.c2, hl9⟩ (fun _ => ?_)
        clear hKK KK
        try simp only [List.getElem_toArray, List.getElem_cons_succ, List.getElem_cons_zero, Act.put, List.setIfInBounds_toArray, List.set_cons_zero, List.set_cons_succ]
        refine wpAnyH_take (i := 10) (v := ?v10) rfl (by kernel_rfl) (by kernel_rfl) (by kernel_rfl) (fun _ _ _ h => h) (Or.inl ⟨by rfl, ?y10⟩) ⟨HV9.out.c0, HV9.out.c1, HV9.out.c2, hl9⟩ ?z10
        case y10 => (intro w hSw; (try dsimp only at hSw); go_simp; try with_reducible rfl)
        try simp only [List.getElem_toArray, List.getElem_cons_succ, List.getElem_cons_zero, Act.put, List.setIfInBounds_toArray, List.set_cons_zero, List.set_cons_succ]
        refine wpAnyH_take (i := 11) (v := ?v11) rfl (by kernel_rfl) (by kernel_rfl) (by kernel_rfl) (fun _ _ _ h => h) (Or.inl ⟨by rfl, ?y11⟩) ⟨HV9.out.c0, HV9.out.c1, HV9.out.c2, hl9⟩ ?z11
        case y11 => (intro w hSw; (try dsimp only at hSw); go_simp; try with_reducible rfl)
        try simp only [List.getElem_toArray, List.getElem_cons_succ, List.getElem_cons_zero, Act.put, List.setIfInBounds_toArray, List.set_cons_zero, List.set_cons_succ]
        refine wpAnyH_take (i := 12) (v := ?v12) rfl (by kernel_rfl) (by kernel_rfl) (by kernel_rfl) (fun _ _ _ h => h) (Or.inl ⟨by rfl, ?y12⟩) ⟨HV9.out.c0, HV9.out.c1, HV9.out.c2, hl9⟩ ?z12
        case y12 => (intro w hSw; (try dsimp only at hSw); go_simp; try with_reducible rfl)
        try simp only [List.getElem_toArray, List.getElem_cons_succ, List.getElem_cons_zero, Act.put, List.setIfInBounds_toArray, List.set_cons_zero, List.set_cons_succ]
        refine wpAnyH_take (i := 13) (v := ?v13) rfl (by kernel_rfl) (by kernel_rfl) (by kernel_rfl) (fun _ _ _ h => h) (Or.inl ⟨by rfl, ?y13⟩) ⟨HV9.out.c0, HV9.out.c1, HV9.out.c2, hl9⟩ ?z13
        case y13 => (intro w hSw; (try dsimp only at hSw); go_simp; try with_reducible rfl)
        try simp only [List.getElem_toArray, List.getElem_cons_succ, List.getElem_cons_zero, Act.put, List.setIfInBounds_toArray, List.set_cons_zero, List.set_cons_succ]
        refine wpAnyH_take (i := 14) (v := ?v14) rfl (by kernel_rfl) (by kernel_rfl) (by kernel_rfl) (fun _ _ _ h => h) (Or.inl ⟨by rfl, ?y14⟩) ⟨HV9.out.c0, HV9.out.c1, HV9.out.c2, hl9⟩ ?z14
        case y14 => (intro w hSw; (try dsimp only at hSw); go_simp; try with_reducible rfl)
        try simp only [List.getElem_toArray, List.getElem_cons_succ, List.getElem_cons_zero, Act.put, List.setIfInBounds_toArray, List.set_cons_zero, List.set_cons_succ]
        refine wpAnyH_done (by kernel_rfl) ?_ _
        go_wp2
        refine wp_region_held (S := fun w' => w'.cell? ⟨bx, ox + i, none⟩ = some (.int .i64 (m : Int))) (by kernel_rfl) ?_
        change wpAnyH _ _ _ _ _ _ _ _ (World.drew _)
        obtain ⟨W1, HW1⟩ : ∃ W1, Hid (w9.drew = W1) := ⟨_, rfl⟩
        rw [HW1.out]
        have HBV : Hid (Below w9.heap.size w9 W1) := by rw [← HW1.out]; exact (Below.refl _ _).drew
        have HVA : Hid (Vr W1 w.heap.size (.int .i64 (r : Int)) (.int .i64 (c : Int)) (.slice a0 len0 cap0)) := HV9.out.later HBV.out
        have HIA := jhid7 (HI9.out.later HBV.out)
        have hl1 := cell_aft7 hl9 HBV.out
        have HBA : Hid (Below w.heap.size w W1) := two_below HB9.out HBV.out
        refine wpAnyH_take (i := 0) (v := ?vb0) rfl (by kernel_rfl) (by kernel_rfl) (by kernel_rfl) (fun _ _ _ h => h) (Or.inl ⟨by rfl, ?yb0⟩) hl1 ?zb0
        case yb0 => (intro w hSw; (try dsimp only at hSw); go_simp; try with_reducible rfl)
        try simp only [List.getElem_toArray, List.getElem_cons_zero, Act.put, List.setIfInBounds_toArray, List.set_cons_zero, List.set_cons_succ]
        refine wpAnyH_take (i := 1) (v := ?vb1) rfl (by kernel_rfl) (by kernel_rfl) (by kernel_rfl) (fun _ _ _ h => h) (Or.inl ⟨by rfl, ?yb1⟩) hl1 ?zb1
        case yb1 => (intro w hSw; (try dsimp only at hSw); go_simp; try with_reducible rfl)
        try simp only [List.getElem_toArray, List.getElem_cons_succ, List.getElem_cons_zero, Act.put, List.setIfInBounds_toArray, List.set_cons_zero, List.set_cons_succ]
        refine wpAnyH_take (i := 2) (v := ?vb2) rfl (by kernel_rfl) (by kernel_rfl) (by kernel_rfl) (fun _ _ _ h => h) (Or.inl ⟨by rfl, ?yb2⟩) hl1 ?zb2
        case yb2 => (intro w hSw; (try dsimp only at hSw); go_simp; try with_reducible rfl)
        try simp only [List.getElem_toArray, List.getElem_cons_succ, List.getElem_cons_zero, Act.put, List.setIfInBounds_toArray, List.set_cons_zero, List.set_cons_succ]
        refine wpAnyH_take (i := 3) (v := ?vb3) rfl (by kernel_rfl) (by kernel_rfl) (by kernel_rfl) (fun _ _ _ h => h) (Or.inl ⟨by rfl, ?yb3⟩) hl1 ?zb3
        case yb3 => (intro w hSw; (try dsimp only at hSw); go_simp; try with_reducible rfl)
        try simp only [List.getElem_toArray, List.getElem_cons_succ, List.getElem_cons_zero, Act.put, List.setIfInBounds_toArray, List.set_cons_zero, List.set_cons_succ]
        refine wpAnyH_take (i := 4) (v := ?vb4) rfl (by kernel_rfl) (by kernel_rfl) (by kernel_rfl) (fun _ _ _ h => h) (Or.inl ⟨by rfl, ?yb4⟩) hl1 ?zb4
        case yb4 => (intro w hSw; (try dsimp only at hSw); go_simp; try with_reducible rfl)
        try simp only [List.getElem_toArray, List.getElem_cons_succ, List.getElem_cons_zero, Act.put, List.setIfInBounds_toArray, List.set_cons_zero, List.set_cons_succ]
        refine wpAnyH_take (i := 5) (v := ?vb5) rfl (by kernel_rfl) (by kernel_rfl) (by kernel_rfl) (fun _ _ _ h => h) (Or.inl ⟨by rfl, ?yb5⟩) hl1 ?zb5
        case yb5 => (intro w hSw; (try dsimp only at hSw); go_simp; try with_reducible rfl)
        try simp only [List.getElem_toArray, List.getElem_cons_succ, List.getElem_cons_zero, Act.put, List.setIfInBounds_toArray, List.set_cons_zero, List.set_cons_succ]
        refine wpAnyH_take (i := 6) (v := ?vb6) rfl (by kernel_rfl) (by kernel_rfl) (by kernel_rfl) (fun _ _ _ h => h) (Or.inl ⟨by rfl, ?yb6⟩) hl1 ?zb6
        case yb6 => (intro w hSw; (try dsimp only at hSw); go_simp; try with_reducible rfl)
        try simp only [List.getElem_toArray, List.getElem_cons_succ, List.getElem_cons_zero, Act.put, List.setIfInBounds_toArray, List.set_cons_zero, List.set_cons_succ]
        refine wpAnyH_take (i := 7) (v := ?vb7) rfl (by kernel_rfl) (by kernel_rfl) (by kernel_rfl) (fun _ _ _ h => h) (Or.inl ⟨by rfl, ?yb7⟩) hl1 ?zb7
        case yb7 => (intro w hSw; (try dsimp only at hSw); go_simp; try with_reducible rfl)
        try simp only [List.getElem_toArray, List.getElem_cons_succ, List.getElem_cons_zero, Act.put, List.setIfInBounds_toArray, List.set_cons_zero, List.set_cons_succ]
        refine wpAnyH_take (i := 9) (v := ?vb9) rfl (by kernel_rfl) (by kernel_rfl) (by kernel_rfl) (fun _ _ _ h => h) (Or.inl ⟨by rfl, ?yb9⟩) hl1 ?zb9
        case yb9 => (intro w hSw; (try dsimp only at hSw); go_simp; try with_reducible rfl)
        try simp only [List.getElem_toArray, List.getElem_cons_succ, List.getElem_cons_zero, Act.put, List.setIfInBounds_toArray, List.set_cons_zero, List.set_cons_succ]
        refine wpAnyH_take (i := 10) (v := ?vb10) rfl (by kernel_rfl) (by kernel_rfl) (by kernel_rfl) (fun _ _ _ h => h) (Or.inl ⟨by rfl, ?yb10⟩) hl1 ?zb10
        case yb10 => (intro w hSw; (try dsimp only at hSw); go_simp; try with_reducible rfl)
        try simp only [List.getElem_toArray, List.getElem_cons_succ, List.getElem_cons_zero, Act.put, List.setIfInBounds_toArray, List.set_cons_zero, List.set_cons_succ]
        refine wpAnyH_take (i := 11) (v := ?vb11) rfl (by kernel_rfl) (by kernel_rfl) (by kernel_rfl) (fun _ _ _ h => h) (Or.inl ⟨by rfl, ?yb11⟩) hl1 ?zb11
        case yb11 => (intro w hSw; (try dsimp only at hSw); go_simp; try with_reducible rfl)
        try simp only [List.getElem_toArray, List.getElem_cons_succ, List.getElem_cons_zero, Act.put, List.setIfInBounds_toArray, List.set_cons_zero, List.set_cons_succ]
        refine wpAnyH_take (i := 12) (v := ?vb12) rfl (by kernel_rfl) (by kernel_rfl) (by kernel_rfl) (fun _ _ _ h => h) (Or.inl ⟨by rfl, ?yb12⟩) hl1 ?zb12
        case yb12 => (intro w hSw; (try dsimp only at hSw); go_simp; try with_reducible rfl)
        try simp only [List.getElem_toArray, List.getElem_cons_succ, List.getElem_cons_zero, Act.put, List.setIfInBounds_toArray, List.set_cons_zero, List.set_cons_succ]
        refine wpAnyH_take (i := 13) (v := ?vb13) rfl (by kernel_rfl) (by kernel_rfl) (by kernel_rfl) (fun _ _ _ h => h) (Or.inl ⟨by rfl, ?yb13⟩) hl1 ?zb13
        case yb13 => (intro w hSw; (try dsimp only at hSw); go_simp; try with_reducible rfl)
        try simp only [List.getElem_toArray, List.getElem_cons_succ, List.getElem_cons_zero, Act.put, List.setIfInBounds_toArray, List.set_cons_zero, List.set_cons_succ]
        refine wpAnyH_ready (rs := [8]) (by kernel_rfl) (by simp) ?_
        refine AllReadyH.cons rfl (fun KK hKK => ?_) AllReadyH.nil
        go_simp
        refine (HHa.out _).mono ?_
        rintro e w' ⟨rfl, rfl⟩
        refine hKK.out _ _ hl1 (fun _ => ?_)
        clear hKK KK
        try simp only [List.getElem_toArray, List.getElem_cons_succ, List.getElem_cons_zero, Act.put, List.setIfInBounds_toArray, List.set_cons_zero, List.set_cons_succ]
        refine wpAnyH_ready (rs := [14]) (by kernel_rfl) (by simp) ?_
        refine AllReadyH.cons rfl (fun KK hKK => ?_) AllReadyH.nil
        go_simp
        refine (HHn.out _).mono ?_
        rintro e w' ⟨rfl, rfl⟩
        refine hKK.out _ _ hl1 (fun _ => ?_)
        clear hKK KK
        try simp only [List.getElem_toArray, List.getElem_cons_succ, List.getElem_cons_zero, Act.put, List.setIfInBounds_toArray, List.set_cons_zero, List.set_cons_succ]
        refine wpAnyH_take (i := 15) (v := ?vb15) rfl (by kernel_rfl) (by kernel_rfl) (by kernel_rfl) (fun _ _ _ h => h) (Or.inl ⟨by rfl, ?yb15⟩) hl1 ?zb15
        case yb15 => (intro w hSw; (try dsimp only at hSw); go_simp; try with_reducible rfl)
        try simp only [List.getElem_toArray, List.getElem_cons_succ, List.getElem_cons_zero, Act.put, List.setIfInBounds_toArray, List.set_cons_zero, List.set_cons_succ]
        refine wpAnyH_take (i := 16) (v := ?vb16) rfl (by kernel_rfl) (by kernel_rfl) (by kernel_rfl) (fun _ _ _ h => h) (Or.inl ⟨by rfl, ?yb16⟩) hl1 ?zb16
        case yb16 => (intro w hSw; (try dsimp only at hSw); go_simp; try with_reducible rfl)
        try simp only [List.getElem_toArray, List.getElem_cons_succ, List.getElem_cons_zero, Act.put, List.setIfInBounds_toArray, List.set_cons_zero, List.set_cons_succ]
        refine wpAnyH_done (by kernel_rfl) ?_ _
        go_wp2
        exact ⟨⟨i + 1, by omega, by go_num, HIA.out, HVA.out, HBA.out⟩, by simp [intOf]; omega⟩
      · obtain rfl : i = L := by omega
        clear hil
        go_wp2_with (go_at_call 7; refine (anch7_any _).mono ?_; rintro e w10 ⟨rfl, hb⟩; have HB10 : Hid (Below w.heap.size w w10) := two_below HB.out hb; clear hb)
        go_ret
        exact ⟨rfl, HB10.out⟩
set_option maxRecDepth 100000 in
set_option maxHeartbeats 2000000 in
theorem lifted (os : Os) (started : os.Started) (H : Type) (enc : TypeId × Value → H) :
    ReturnsInHanded {} Try.checked os 4 .any (Rows.matroidNeedsSpec.pre6 enc Try.prog Try.f4 Rows.matroidNeedsRow.domain false) (Rows.matroidNeedsSpec.post enc Try.prog Try.f4 false true false false) := by
  refine returnsInHanded_of_change_sized (C := Try.checked) own started (by kernel_rfl) Try.func4
    (ChangeSpec.witness6 (enc := enc) (C := Try.checked) false ⟨#[], #[.agg #[.int .i64 0, .int .i64 0, .slice none 0 0], .int .u64 0], []⟩ 8 (by kernel_rfl) (by kernel_rfl) (by kernel_rfl) (by kernel_rfl)) ?_
  intro W base args ds gs before hval0 hW hcnd hsz0 _
  have hsz : (DataW.weightsEach Try.prog (Try.f4.params.toList ++ Rows.matroidNeedsSpec.plain.varTypes Try.prog) (ds ++ gs)).all (· ≤ reachBytes) = true := hsz0
  clear hsz0
  have hval : ∀ (j : Nat) t v, Try.f4.params[j]? = some t → args[j]? = some v → Value.okWide Try.prog W .any base t v := hval0
  have hW' := hW
  obtain ⟨p, q, hA0, hV, rfl, hfz, hnd⟩ := hW
  have hA : DataW.TrodAll enc Try.prog W 0 (fun _ => true) true Try.f4.params.toList args.toList ds p := hA0
  rw [Try.params4] at hA hval hsz
  obtain ⟨va0, vs0, d0, ds0, p0, q0, hargs, rfl, rfl, h0, tr0⟩ := trodAll_cons hA
  obtain ⟨va1, vs1, d1, ds1, p1, q1, rfl, rfl, rfl, h1, tr1⟩ := trodAll_cons tr0
  obtain ⟨rfl, rfl, rfl⟩ := trodAll_nil tr1
  obtain rfl : args = #[va0, va1] := by cases args; simp_all
  obtain ⟨rfl, rfl⟩ := trodVars_none hV
  have k0 := h0
  have lt0 : ∀ x ∈ p0, x.block < W.heap.size := by obtain ⟨m, hm⟩ := k0; exact DataW.trod_lt m _ _ _ hm
  obtain ⟨f0, g0, s0, y0, x0, e0, m0, rfl, rfl, rfl, hf0, hg0, hs0⟩ := open_agg3 Try.underlying24 (by kernel_rfl) cellsM (hval 0 24 va0 rfl rfl) h0
  obtain ⟨r0, er0, rfl, u0⟩ := DataW.trod_int Try.underlying3 hf0
  obtain ⟨c0, ec0, rfl, v0⟩ := DataW.trod_int Try.underlying3 hg0
  simp only [List.cons.injEq, and_true] at er0 ec0
  subst er0 ec0
  obtain ⟨a0, len0, cap0, rfl⟩ : ∃ a l c, s0 = .slice a l c := by
    rcases open_ints Try.underlying22 Try.underlying5 (by kernel_rfl) hs0 with ⟨hcs, _⟩ | ⟨x, l, c, zs, hcs, _⟩
    · simp only [List.cons.injEq, and_true] at hcs; exact ⟨_, _, _, hcs⟩
    · simp only [List.cons.injEq, and_true] at hcs; exact ⟨_, _, _, hcs⟩
  obtain ⟨z0, w0⟩ : ∃ zs, IsRow .u8 W a0 len0 cap0 zs := by
    obtain ⟨fuel, hf⟩ := (⟨m0, hs0⟩ : ∃ fuel, DataW.trod enc Try.prog W 0 (fun _ => true) true fuel 22 [.slice a0 len0 cap0] = some e0)
    rcases open_ints Try.underlying22 Try.underlying5 (by kernel_rfl) hf with ⟨hcs, _⟩ | ⟨x, l, c, zs, hcs, _, hl, hm, hz, hxx, hcell, hwz⟩
    · simp at hcs
      obtain ⟨rfl, rfl, rfl⟩ := hcs
      exact ⟨[], .inl ⟨rfl, rfl, rfl, rfl⟩⟩
    · simp at hcs
      obtain ⟨rfl, rfl, rfl⟩ := hcs
      have hd := congrArg Prod.fst hxx
      have hs := sized_slice (sized_in hsz (j := 0) (t := 24) rfl rfl) (j := 2) (t := 22) (e := 5) rfl (congrArg some hd) Try.underlying22
      rw [show Try.prog.bytesOf 5 = 1 from by kernel_rfl] at hs
      have hzl : zs.length = cap0 := by simpa using hz
      simp only [lits, List.length_map, List.length_take, List.length_drop, reachBytes] at hs
      exact ⟨zs, .inr ⟨_, rfl, hl, by omega, by simpa using hz, hcell, hwz⟩⟩
  have k1 := h1
  have lt1 : ∀ x ∈ p1, x.block < W.heap.size := by obtain ⟨m, hm⟩ := k1; exact DataW.trod_lt m _ _ _ hm
  obtain ⟨n1, rfl, w1⟩ : ∃ n, va1 = .int .u64 n ∧ (Lit.int .u64 n).wf = true := by
    obtain ⟨n, rfl, _, _, hw⟩ := open_int Try.underlying26 (hval 1 26 va1 rfl rfl) h1
    exact ⟨n, rfl, hw⟩
  clear hA0 hval0
  refine (walk r0 c0 a0 len0 cap0 z0 n1 W u0 v0 w0 w1).mono fun e W' ⟨he, bel⟩ => ?_
  subst he
  exact ⟨_, rfl, _, _, _, [], _, [], hW', trodAll_mk1 (shut_bool Try.underlying4 _), (trodAll_cons_mk (Below.trod laidOut (by kernel_rfl) (of_decide_eq_true (by kernel_rfl)) k0 bel lt0) (trodAll_cons_mk (Below.trod laidOut (by kernel_rfl) (of_decide_eq_true (by kernel_rfl)) k1 bel lt1) trodAll_mk0)), rfl, bel.frame _, fun h => by cases h⟩
theorem over : Rows.matroidNeedsRow.holds Try.pinned (OpenSpec.ofChange Rows.matroidNeedsSpec) :=
  OpenClaim.holds_of_wide 4 Try.f4 rfl rfl rfl rfl rfl rfl rfl ⟨rfl, rfl, rfl, rfl, rfl⟩ rfl rfl rfl rfl rfl (by kernel_rfl) Try.func4 (by kernel_rfl)
    (of_decide_eq_true (by kernel_rfl)) (by unfold Func.isWrapper; first | (rw [if_pos (by decide +kernel)]; kernel_rfl) | (rw [if_neg (by decide +kernel)]; exact ⟨rfl, rfl⟩))
    (fun os started H enc _ => lifted os started H enc)
theorem proved : Rows.MatroidNeedsSaid := over
#print axioms proved
end Go.Proofs.Ytflflmdlhmhkdab.matroidNeeds
