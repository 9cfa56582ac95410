/-
  Proved: for every generator the program's Check answers a matrix that sends just those lists to nothing that the generator makes, or its error; for any data and any spoilt list (P5.5); no condition.
-/
import Derived.Test.YtblfldjlehjnbaaGv
import Derived.WalkKit
import Derived.SizedLaws
import Derived.ProofKit
import Derived.OpenShut
import Derived.ShutString
import Derived.ChangeOld
import Derived.Below
import Derived.Lib.SmallJoins
import Derived.Deep.Matrix
namespace Go.Proofs.Ytblfldjlehjnbaa.buildChecks
open Go.ChangeShapes Go.WideShapes Go.ChangeAt Go.RowKit Go.Joins
set_option linter.unusedVariables false
theorem own : ownKnob Try.prog.godebug = none := by kernel_rfl
theorem laidOut : laidOutB Try.prog = true := by kernel_rfl
/-- A slice of integers that came in. -/
def IsRow (k : IntKind) (w : World) (a : Option Addr) (len cap : Nat) (zs : List Int) : Prop :=
  (a = none ∧ len = 0 ∧ cap = 0 ∧ zs = []) ∨
  ∃ x, a = some x ∧ len ≤ cap ∧ cap ≤ 140737488351232 ∧ zs.length = cap ∧ (∀ i, i < zs.length → w.cell? (x.add i) = some (.int k (zs.getD i 0))) ∧ ∀ n ∈ zs, (Lit.int k n).wf = true
/-- A slice of slices of bytes that came in. -/
def IsRows (w : World) (a : Option Addr) (len cap : Nat) : Prop :=
  (a = none ∧ len = 0 ∧ cap = 0) ∨
  ∃ x, a = some x ∧ len ≤ cap ∧ cap ≤ 140737488351232 ∧ ∀ r, r < cap → ∃ b l c zs, w.cell? (x.add r) = some (.slice b l c) ∧ IsRow .u8 w b l c zs
theorem sized_in {H : Type} {P : Program} {ts : List TypeId} {ds : List (DataW H)} (h : (DataW.weightsEach P ts ds).all (· ≤ reachBytes) = true) {j : Nat} {t : TypeId} {d : DataW H} (ht : ts[j]? = some t) (hd : ds[j]? = some d) : (d.weights P t).all (· ≤ reachBytes) = true :=
  List.all_eq_true.2 fun n hn => List.all_eq_true.1 h n (DataW.weights_mem_each ht hd n hn)
theorem sized_all {H : Type} {P : Program} {e : TypeId} : ∀ {ds : List (DataW H)}, (DataW.weightsAll P e ds).all (· ≤ reachBytes) = true → ∀ d ∈ ds, (d.weights P e).all (· ≤ reachBytes) = true
  | [], _, d, hd => by simp at hd
  | d0 :: r, h, d, hd => by
    simp only [DataW.weightsAll, List.all_append, Bool.and_eq_true] at h
    rcases List.mem_cons.1 hd with rfl | hd
    · exact h.1
    · exact sized_all h.2 d hd
theorem cellsM : Try.prog.cellsOf 24 = 3 := by kernel_rfl

set_option maxRecDepth 20000 in
set_option maxHeartbeats 8000000 in
theorem walk (r0 c0 : Int) (a0 : Option Addr) (len0 cap0 : Nat) (z0 : List Int) (a1 : Option Addr) (len1 cap1 : Nat) (z1 : List Int) (a2 : Option Addr) (len2 cap2 : Nat) (z2 : List Int) (w : World) (u0 : (Lit.int .i64 r0).wf = true) (v0 : (Lit.int .i64 c0).wf = true) (w0 : IsRow .u8 w a0 len0 cap0 z0) (w1 : IsRow .u8 w a1 len1 cap1 z1) (w2 : IsRow .u8 w a2 len2 cap2 z2) :
    Calls Try.prog 8 #[.agg #[.int .i64 r0, .int .i64 c0, .slice a0 len0 cap0], .slice a1 len1 cap1, .slice a2 len2 cap2] w fun e w' => e = .returned (.bool true) ∧ Below w.heap.size w w' := by
  obtain ⟨F, hM, hn0⟩ := mt_of_row w a0 len0 cap0 z0 w0
  obtain ⟨D, hD, hn1⟩ := mt_of_row w a1 len1 cap1 z1 w1
  obtain ⟨S, hS0, hn2⟩ := mt_of_row w a2 len2 cap2 z2 w2
  have HM : Hid (Mt w a0 len0 cap0 F) := hM
  have HDt : Hid (Mt w a1 len1 cap1 D) := hD
  have HSp : Hid (Mt w a2 len2 cap2 S) := hS0
  clear w0 w1 w2 u0 v0 hn0 hn1
  obtain ⟨wb, HW⟩ : ∃ wb, Hid (wb = w.alloc (.cells #[.int .i64 r0, .int .i64 c0, .slice a0 len0 cap0] 24)) := ⟨_, rfl⟩
  have HVa : Hid (Vr wb w.heap.size (.int .i64 r0) (.int .i64 c0) (.slice a0 len0 cap0)) := by show Vr _ _ _ _ _; rw [HW.out]; exact Vr.new _ _ _ _
  have HB_0 : Hid (Below w.heap.size w wb) := by rw [HW.out]; exact alloc_low _ _
  have HF_m_0 : Hid (Mt wb a0 len0 cap0 F) := HM.out.later HB_0.out
  have HF_d_0 : Hid (Mt wb a1 len1 cap1 D) := HDt.out.later HB_0.out
  have HF_s_0 : Hid (Mt wb a2 len2 cap2 S) := HSp.out.later HB_0.out
  clear HM HDt HSp
  by_cases h : RightP r0 c0 len0 ∧ c0 ≤ r0
  · obtain ⟨h1, h2⟩ := h
    obtain ⟨r, c, rfl, rfl, R⟩ := right_rt h1
    have hcr : c ≤ r := by omega
    have HR : Hid (Rt r c len0) := R
    have HEl : Hid (El2 (m2 F r c)) := m2_el hM.sl.1 R
    have HFl : Hid (∀ i, i < len0 → F i < 256) := hM.sl.1
    have HDl : Hid (∀ i, i < len1 → D i < 256) := hD.sl.1
    have HSl : Hid (∀ i, i < len2 → S i < 256) := hS0.sl.1
    have hr := R.r64
    have hc := R.c64
    obtain ⟨t, hk⟩ := rk_ex HEl.out r
    have htc : t ≤ c := rk_cols hM.sl.1 R hk
    by_cases ht : t = c
    · have HK : Hid (Rk (m2 F r c) r c) := by rw [ht] at hk; exact hk
      obtain ⟨i0, hi0, hz0, hz1, hz2⟩ := info_parts info8
      clear h1 h2 R hM hD hS0 hk ht htc
      by_cases hl : len1 = c
      · have hl2 : c = len1 := hl.symm
        subst hl2
        clear hl
        have HF_d_0 : Hid (Mt wb a1 c cap1 D) := HF_d_0.out
        have gg1 : ((r : Int) == (r : Int)) = true := by simp
        have HV_m_0 : Hid (Vr wb w.heap.size (.int .i64 (r : Int)) (.int .i64 (c : Int)) (.slice a0 len0 cap0)) := HVa.out
        have l_m_0_0 := HV_m_0.out.c0
        have l_m_1_0 := HV_m_0.out.c1
        have l_m_2_0 := HV_m_0.out.c2
        go_enter Try.func8, Try.ntmps8
        go_wp2_with (first
          | (go_at_call 34; have _x := HB_w6; refine (same_ans _ _ _ kr kr kr (apf H Y r) (fun _ => 0) ((HF_z_5.out.later HB_w6.out).mt (fun u hu => by rw [HZl.out u hu]; decide)) (HR_w6.out.mt (fun _ _ => by decide)) HZl.out).mono ?_; rintro e w' ⟨rfl, rfl⟩; have HY6 : Hid (RowAt w6 g4 5 r Y) := HF_y_5.out.later HB_w6.out; have HB6 : Hid (Below w3.heap.size w3 w6) := two_below HB5.out HB_w6.out)
          | (at_make; have _x := HB5; refine wpList_make_full _ rfl _ _ 22 rfl w5.heap.size 5 i0 (.int .u8 0) 1 Try.underlying22 hi0 hz0 hz1 .i64 .i64 _ _ kr rfl rfl rfl rfl (by rw [hz2]; omega) hml (Nat.le_refl _) ?_; intro w6 hown hgrow; have HR_w6 : Hid (RowAt w6 w5.heap.size 5 kr (fun _ => 0)) := made_at hown; have HB_w6 : Hid (Below w5.heap.size w5 w6) := grown_none.mp hgrow; clear hown hgrow)
          | (go_at_call 33; have _x := HB_4; refine (rapply_ok _ kr r N d1 r s1 (some ⟨g4, 0, none⟩) H Y HF_h_4.out.sl (HF_y_4.out.sl HYl.out) HRh.out).mono ?_; rintro e w5 ⟨g5, rfl, hr5, hg5, hb⟩; have HB5 : Hid (Below w3.heap.size w3 w5) := two_below HB3.out hb; have HB_5 : Hid (Below w.heap.size w w5) := two_below HB_4.out hb; have HV_m_5 : Hid (Vr w5 w.heap.size (.int .i64 (r : Int)) (.int .i64 (c : Int)) (.slice a0 len0 cap0)) := HV_m_4.out.later hb; have HV_h_5 : Hid (Vr w5 w1.heap.size (.int .i64 (kr : Int)) (.int .i64 (r : Int)) (.slice s1 N d1)) := HV_h_4.out.later hb; have HV_b_5 : Hid (Vr w5 w2.heap.size (.int .i64 (kr2 : Int)) (.int .i64 (r : Int)) (.slice s2 N2 d2)) := HV_b_4.out.later hb; have HF_m_5 : Hid (Mt w5 a0 len0 cap0 F) := HF_m_4.out.later hb; have HF_d_5 : Hid (Mt w5 a1 c cap1 D) := HF_d_4.out.later hb; have HF_s_5 : Hid (Mt w5 a2 len2 cap2 S) := HF_s_4.out.later hb; have HF_h_5 : Hid (Mt w5 s1 N d1 H) := HF_h_4.out.later hb; have HF_y_5 : Hid (RowAt w5 g4 5 r Y) := HF_y_4.out.later hb; have HF_z_5 : Hid (RowAt w5 g5 5 kr (apf H Y r)) := hr5; have HZl : Hid (∀ u, u < kr → apf H Y r u = 0) := (HCk.out Y HYl.out).mpr HYs.out; clear hr5 hg5; have l_h_0_5 := HV_h_5.out.c0; have l_h_1_5 := HV_h_5.out.c1; have l_h_2_5 := HV_h_5.out.c2; clear hb HV_m_4 HV_h_4 HV_b_4 HF_m_4 HF_d_4 HF_s_4 HF_h_4 HF_y_4)
          | (go_at_call 33; have _x := HB_3; refine (rapply_ok _ r c len0 cap0 cap1 a0 a1 F D HF_m_3.out.sl HF_d_3.out.sl HR.out).mono ?_; rintro e w4 ⟨g4, rfl, hr4, hg4, hb⟩; obtain ⟨Y, HYY⟩ : ∃ y, Hid (apf F D c = y) := ⟨_, rfl⟩; rw [HYY.out] at hr4; have HYl : Hid (∀ i, i < r → Y i < 256) := (by show ∀ i, i < r → Y i < 256; rw [← HYY.out]; exact apf_lt D HFl.out HR.out); have HYs : Hid (Spn (m2 (trf F r c) c r) c (ext0 Y r)) := (by show Spn _ _ _; rw [← HYY.out]; exact apf_spn HFl.out HR.out HDl.out); have hml : kr ≤ maxLen := (by unfold maxLen; omega); have HB3 : Hid (Below w3.heap.size w3 w4) := hb; have hg4b : w3.heap.size ≤ g4 := hg4; have HB_4 : Hid (Below w.heap.size w w4) := two_below HB_3.out hb; have HV_m_4 : Hid (Vr w4 w.heap.size (.int .i64 (r : Int)) (.int .i64 (c : Int)) (.slice a0 len0 cap0)) := HV_m_3.out.later hb; have HV_h_4 : Hid (Vr w4 w1.heap.size (.int .i64 (kr : Int)) (.int .i64 (r : Int)) (.slice s1 N d1)) := HV_h_3.out.later hb; have HV_b_4 : Hid (Vr w4 w2.heap.size (.int .i64 (kr2 : Int)) (.int .i64 (r : Int)) (.slice s2 N2 d2)) := HV_b_3.out.later hb; have HF_m_4 : Hid (Mt w4 a0 len0 cap0 F) := HF_m_3.out.later hb; have HF_d_4 : Hid (Mt w4 a1 c cap1 D) := HF_d_3.out.later hb; have HF_s_4 : Hid (Mt w4 a2 len2 cap2 S) := HF_s_3.out.later hb; have HF_h_4 : Hid (Mt w4 s1 N d1 H) := HF_h_3.out.later hb; have HF_y_4 : Hid (RowAt w4 g4 5 r Y) := hr4; have HVm3 := HV_m_3; have HVh3 := HV_h_3; have HFm3 := HF_m_3; have HFh3 := HF_h_3; have HFs3 := HF_s_3; clear hr4 hg4; have l_h_0_4 := HV_h_4.out.c0; have l_h_1_4 := HV_h_4.out.c1; have l_h_2_4 := HV_h_4.out.c2; clear hb HV_m_3 HV_h_3 HV_b_3 HF_m_3 HF_d_3 HF_s_3 HF_h_3)
          | (go_at_call 30; have _x := HB_2; refine (right_yes _ _ _ _ _ _ HRh.out.p).mono ?_; rintro e w3 ⟨rfl, hb⟩; have HB_3 : Hid (Below w.heap.size w w3) := two_below HB_2.out hb; have HV_m_3 : Hid (Vr w3 w.heap.size (.int .i64 (r : Int)) (.int .i64 (c : Int)) (.slice a0 len0 cap0)) := HV_m_2.out.later hb; have HV_h_3 : Hid (Vr w3 w1.heap.size (.int .i64 (kr : Int)) (.int .i64 (r : Int)) (.slice s1 N d1)) := HV_h_2.out.later hb; have HV_b_3 : Hid (Vr w3 w2.heap.size (.int .i64 (kr2 : Int)) (.int .i64 (r : Int)) (.slice s2 N2 d2)) := HV_b_2.out.later hb; have HF_m_3 : Hid (Mt w3 a0 len0 cap0 F) := HF_m_2.out.later hb; have HF_d_3 : Hid (Mt w3 a1 c cap1 D) := HF_d_2.out.later hb; have HF_s_3 : Hid (Mt w3 a2 len2 cap2 S) := HF_s_2.out.later hb; have HF_h_3 : Hid (Mt w3 s1 N d1 H) := HF_h_2.out.later hb; have l_h_0_3 := HV_h_3.out.c0; have l_h_1_3 := HV_h_3.out.c1; have l_h_2_3 := HV_h_3.out.c2; have l_m_0_3 := HV_m_3.out.c0; have l_m_1_3 := HV_m_3.out.c1; have l_m_2_3 := HV_m_3.out.c2; clear hb HV_m_2 HV_h_2 HV_b_2 HF_m_2 HF_d_2 HF_s_2 HF_h_2)
          | (go_at_call 21; have _x := HB_1; refine (rchk_ok _ r c len0 cap0 a0 F HF_m_1.out HR.out hcr HK.out).mono ?_; rintro e w2 ⟨s2, d2, kr2, top2, p2, G2, H2, rfl, hm2, y1, y2, y3, y4, y5, y6, hb⟩; clear y1 y2 y3 y4 y5 y6; obtain ⟨N2, HN2⟩ : ∃ x, Hid (kr2 * r = x) := ⟨_, rfl⟩; rw [HN2.out] at hm2 ⊢; have HB_2 : Hid (Below w.heap.size w (w2.alloc (.cells #[.int .i64 (kr2 : Int), .int .i64 (r : Int), .slice s2 N2 d2] 24))) := two_below (two_below HB_1.out hb) (alloc_low _ _); have HV_m_2 : Hid (Vr (w2.alloc (.cells #[.int .i64 (kr2 : Int), .int .i64 (r : Int), .slice s2 N2 d2] 24)) w.heap.size (.int .i64 (r : Int)) (.int .i64 (c : Int)) (.slice a0 len0 cap0)) := (HV_m_1.out.later hb).later (alloc_low _ _); have HV_h_2 : Hid (Vr (w2.alloc (.cells #[.int .i64 (kr2 : Int), .int .i64 (r : Int), .slice s2 N2 d2] 24)) w1.heap.size (.int .i64 (kr : Int)) (.int .i64 (r : Int)) (.slice s1 N d1)) := (HV_h_1.out.later hb).later (alloc_low _ _); have HF_m_2 : Hid (Mt (w2.alloc (.cells #[.int .i64 (kr2 : Int), .int .i64 (r : Int), .slice s2 N2 d2] 24)) a0 len0 cap0 F) := (HF_m_1.out.later hb).later (alloc_low _ _); have HF_d_2 : Hid (Mt (w2.alloc (.cells #[.int .i64 (kr2 : Int), .int .i64 (r : Int), .slice s2 N2 d2] 24)) a1 c cap1 D) := (HF_d_1.out.later hb).later (alloc_low _ _); have HF_s_2 : Hid (Mt (w2.alloc (.cells #[.int .i64 (kr2 : Int), .int .i64 (r : Int), .slice s2 N2 d2] 24)) a2 len2 cap2 S) := (HF_s_1.out.later hb).later (alloc_low _ _); have HF_h_2 : Hid (Mt (w2.alloc (.cells #[.int .i64 (kr2 : Int), .int .i64 (r : Int), .slice s2 N2 d2] 24)) s1 N d1 H) := (HF_h_1.out.later hb).later (alloc_low _ _); have HV_b_2 : Hid (Vr (w2.alloc (.cells #[.int .i64 (kr2 : Int), .int .i64 (r : Int), .slice s2 N2 d2] 24)) w2.heap.size (.int .i64 (kr2 : Int)) (.int .i64 (r : Int)) (.slice s2 N2 d2)) := Vr.new w2 _ _ _; clear hm2; have l_h_0_2 := HV_h_2.out.c0; have l_h_1_2 := HV_h_2.out.c1; have l_h_2_2 := HV_h_2.out.c2; have l_m_0_2 := HV_m_2.out.c0; have l_m_1_2 := HV_m_2.out.c1; have l_m_2_2 := HV_m_2.out.c2; clear hb HV_m_1 HV_h_1 HF_m_1 HF_d_1 HF_s_1 HF_h_1)
          | (go_at_call 20; rw [← HW.out]; refine (bchk_ok _ r c len0 cap0 a0 F HF_m_0.out HR.out hcr HK.out).mono ?_; rintro e w1 ⟨s1, d1, kr, top, p, G, H, rfl, hm, hR, hS, hp, ek, hH, _, hb⟩; obtain ⟨N, HN⟩ : ∃ x, Hid (kr * r = x) := ⟨_, rfl⟩; rw [HN.out] at hm ⊢; have hkr := (kr_of HR.out HK.out hR hS hp ek).1; have HCk : Hid (∀ Y : Nat → Nat, (∀ i, i < r → Y i < 256) → ((∀ u, u < kr → apf H Y r u = 0) ↔ Spn (m2 (trf F r c) c r) c (ext0 Y r))) := fun Y hY => chk_iff hR hS hp ek hH hY; have HRh : Hid (Rt kr r N) := ⟨by omega, hr, HN.out⟩; have HHl : Hid (∀ i, i < N → H i < 256) := hm.sl.1; have HB_1 : Hid (Below w.heap.size w (w1.alloc (.cells #[.int .i64 (kr : Int), .int .i64 (r : Int), .slice s1 N d1] 24))) := two_below (two_below HB_0.out hb) (alloc_low _ _); have HV_m_1 : Hid (Vr (w1.alloc (.cells #[.int .i64 (kr : Int), .int .i64 (r : Int), .slice s1 N d1] 24)) w.heap.size (.int .i64 (r : Int)) (.int .i64 (c : Int)) (.slice a0 len0 cap0)) := (HV_m_0.out.later hb).later (alloc_low _ _); have HF_m_1 : Hid (Mt (w1.alloc (.cells #[.int .i64 (kr : Int), .int .i64 (r : Int), .slice s1 N d1] 24)) a0 len0 cap0 F) := (HF_m_0.out.later hb).later (alloc_low _ _); have HF_d_1 : Hid (Mt (w1.alloc (.cells #[.int .i64 (kr : Int), .int .i64 (r : Int), .slice s1 N d1] 24)) a1 c cap1 D) := (HF_d_0.out.later hb).later (alloc_low _ _); have HF_s_1 : Hid (Mt (w1.alloc (.cells #[.int .i64 (kr : Int), .int .i64 (r : Int), .slice s1 N d1] 24)) a2 len2 cap2 S) := (HF_s_0.out.later hb).later (alloc_low _ _); have HV_h_1 : Hid (Vr (w1.alloc (.cells #[.int .i64 (kr : Int), .int .i64 (r : Int), .slice s1 N d1] 24)) w1.heap.size (.int .i64 (kr : Int)) (.int .i64 (r : Int)) (.slice s1 N d1)) := Vr.new w1 _ _ _; have HF_h_1 : Hid (Mt (w1.alloc (.cells #[.int .i64 (kr : Int), .int .i64 (r : Int), .slice s1 N d1] 24)) s1 N d1 H) := (hm).later (alloc_low _ _); have e1 : IntKind.i64.wrap ((r : Int) - (c : Int)) = (kr : Int) := (by rw [IntKind.wrap_i64]; omega); clear hm hR hS hp ek hH; have l_m_0_1 := HV_m_1.out.c0; have l_m_1_1 := HV_m_1.out.c1; have l_m_2_1 := HV_m_1.out.c2; clear hb HV_m_0 HF_m_0 HF_d_0 HF_s_0))
        clear HF_m_5 HF_d_5 HF_s_5 HF_h_5 HF_y_5 HF_z_5 HV_m_5 HV_h_5 HV_b_5
        go_loopw [15] (fun si wr => ∃ t : Nat, t ≤ len2 ∧ t ≤ r ∧ si = .int .i64 (t : Int) ∧ RowAt wr g4 5 r (spo Y S t) ∧ Below w3.heap.size w3 wr) (fun si _ => len2 - (intOf si).toNat)
        case atStart => exact ⟨0, by omega, by omega, rfl, HY6.out.congr (fun p _ => by unfold spo; rw [if_neg (by omega)]), HB6.out⟩
        case round =>
          clear HY6
          obtain ⟨t, ht1, ht2, rfl, hr7, hb7⟩ := hrel
          have HY7 : Hid (RowAt wr g4 5 r (spo Y S t)) := hr7
          have HB7 : Hid (Below w3.heap.size w3 wr) := hb7
          clear hr7 hb7
          by_cases hlt : t < len2 ∧ t < r
          · obtain ⟨hx1, hx2⟩ := hlt
            obtain ⟨bs, os, es, hcs⟩ := (HFs3.out.later HB7.out).sl.2 t hx1
            subst es
            have hcy := HY7.out.cell t hx2
            have hfy := HY7.out.free t
            obtain ⟨x, HX⟩ : ∃ x, Hid (spo Y S t t = x) := ⟨_, rfl⟩
            obtain ⟨y, HYv⟩ : ∃ x, Hid (S t = x) := ⟨_, rfl⟩
            have hx8 : x < 256 := by rw [← HX.out]; exact spo_lt HYl.out HSl.out ht1 t hx2
            have hy8 : y < 256 := by rw [← HYv.out]; exact HSl.out t hx1
            rw [HX.out] at hcy
            rw [HYv.out] at hcs
            obtain ⟨u, HU⟩ : ∃ u, Hid (x ^^^ y = u) := ⟨_, rfl⟩
            have hxo : bits .xor .u8 (x : Int) (y : Int) = (u : Int) := by rw [u8_xor_nat _ _ hx8 hy8, HU.out]
            have gh1 : decide (t < len2) = true := by simpa using hx1
            have gh2 : decide (t < r) = true := by simpa using hx2
            have q0 : (0 : Int) ≤ (t : Int) := by omega
            have q1 : (t : Int) < (r : Int) := by omega
            have q2 : (t : Int) < (len2 : Int) := by omega
            go_wp2
            go_region
            go_wp2
            refine ⟨⟨t + 1, by omega, by omega, by go_num, (HY7.out.set t u).congr (fun p _ => ?_), (HB7.out.setCell hg4b _).drew⟩, by simp [intOf]; omega⟩
            rw [← HU.out, ← HX.out, ← HYv.out]
            exact spo_step Y S t p
          · have gh : (decide ((t : Int) < (len2 : Int)) && decide ((t : Int) < (r : Int))) = false := by simp; omega
            have gh0 : ¬ ((t : Int) < (len2 : Int) ∧ (t : Int) < (r : Int)) := by omega
            obtain ⟨Z, HZZ⟩ : ∃ z, Hid (spo Y S t = z) := ⟨_, rfl⟩
            rw [HZZ.out] at HY7
            have HZl2 : Hid (∀ i, i < r → Z i < 256) := by show ∀ i, i < r → Z i < 256; rw [← HZZ.out]; exact spo_lt HYl.out HSl.out ht1
            have HB8 : Hid (Below w.heap.size w wr) := two_below HB_3.out HB7.out
            have hVm := HVm3.out.later HB7.out
            have hVh := HVh3.out.later HB7.out
            have HVm7 : Hid (Vr wr w.heap.size (.int .i64 (r : Int)) (.int .i64 (c : Int)) (.slice a0 len0 cap0)) := hVm
            have HVh7 : Hid (Vr wr w1.heap.size (.int .i64 (kr : Int)) (.int .i64 (r : Int)) (.slice s1 N d1)) := hVh
            have m7_0 := hVm.c0
            have m7_1 := hVm.c1
            have m7_2 := hVm.c2
            have h7_0 := hVh.c0
            have h7_1 := hVh.c1
            have h7_2 := hVh.c2
            clear hVm hVh
            by_cases hx : Spn (m2 (trf F r c) c r) c (ext0 Z r)
            · have HX1 : Hid (Spn (m2 (trf F r c) c r) c (ext0 Z r)) := hx
              clear hx
              go_wp2_with (first
                | (go_at_call 24; have _x := HB11; refine (anch5_any _).mono ?_; rintro e w12 ⟨rfl, hb12⟩; have HB12 : Hid (Below wr.heap.size wr w12) := two_below HB11.out hb12; have HZ12 : Hid (RowAt w12 g9 5 kr (apf H Z r)) := HZ11.out.later hb12; have h12_0 := (HVh7.out.later HB12.out).c0; have h12_1 := (HVh7.out.later HB12.out).c1; have h12_2 := (HVh7.out.later HB12.out).c2; clear hb12)
                | (go_at_call 36; have _x := HB10; refine (rcomb_yes _ c r len0 d10 r s10 _ _ Z HM10.out (rt_turn6 HR.out) (HY10.out.sl HZl2.out) HX1.out).mono ?_; rintro e w11 ⟨s11, d11, x11, rfl, _, _, hb11⟩; have HB11 : Hid (Below wr.heap.size wr w11) := two_below HB10.out hb11; have HZ11 : Hid (RowAt w11 g9 5 kr (apf H Z r)) := HZ10.out.later hb11; clear hb11)
                | (go_at_call 35; have _x := HB9; refine (rtrans_ok _ r c len0 cap0 a0 F ((HFm3.out.later HB7.out).later HB9.out).sl HR.out).mono ?_; rintro e w10 ⟨s10, d10, rfl, ho10, hb10⟩; have HM10 : Hid (Mt (w10.alloc (.cells #[.int .i64 (c : Int), .int .i64 (r : Int), .slice s10 len0 d10] 24)) s10 len0 d10 (trf F r c)) := (own_mt4 ho10 (trf_el4 HFl.out HR.out)).later (alloc_low _ _); have HB10 : Hid (Below wr.heap.size wr (w10.alloc (.cells #[.int .i64 (c : Int), .int .i64 (r : Int), .slice s10 len0 d10] 24))) := two_below (two_below HB9.out hb10) (alloc_low _ _); have HY10 : Hid (RowAt (w10.alloc (.cells #[.int .i64 (c : Int), .int .i64 (r : Int), .slice s10 len0 d10] 24)) g4 5 r Z) := HY7.out.later HB10.out; have HZ10 : Hid (RowAt (w10.alloc (.cells #[.int .i64 (c : Int), .int .i64 (r : Int), .slice s10 len0 d10] 24)) g9 5 kr (apf H Z r)) := (HZ9.out.later hb10).later (alloc_low _ _); have HVt := Vr.new w10 (.int .i64 (c : Int)) (.int .i64 (r : Int)) (.slice s10 len0 d10); have t10_0 := HVt.c0; have t10_1 := HVt.c1; have t10_2 := HVt.c2; clear ho10 hb10 HVt)
                | (go_at_call 33; refine (rapply_ok _ kr r N d1 r s1 (some ⟨g4, 0, none⟩) H Z (HFh3.out.later HB7.out).sl (HY7.out.sl HZl2.out) HRh.out).mono ?_; rintro e w9 ⟨g9, rfl, hr9, hg9, hb9⟩; have HZ9 : Hid (RowAt w9 g9 5 kr (apf H Z r)) := hr9; have HB9 : Hid (Below wr.heap.size wr w9) := hb9; have m9_0 := (HVm7.out.later hb9).c0; have m9_1 := (HVm7.out.later hb9).c1; have m9_2 := (HVm7.out.later hb9).c2; clear hr9 hg9 hb9))
              all_goals
                obtain ⟨w13, hrun, hown, hgrow⟩ := run_make_full (P := Try.prog) w12 w12.heap.size 22 5 i0 (.int .u8 0) 1 Try.underlying22 hi0 hz0 hz1 .i64 .i64 kr (by rw [hz2]; omega) hml (Nat.le_refl _)
                rw [hrun]
                have HR13 : Hid (RowAt w13 w12.heap.size 5 kr (fun _ => 0)) := made_at hown
                have HB13 : Hid (Below w12.heap.size w12 w13) := grown_none.mp hgrow
                have HZ13 : Hid (RowAt w13 g9 5 kr (apf H Z r)) := HZ12.out.later HB13.out
                have HZb : Hid (∀ u, u < kr → apf H Z r u < 256) := fun u hu => apf_lt Z HHl.out HRh.out u hu
                clear hrun hown hgrow
                have HS13 : Hid (Calls Try.prog 34 #[.slice (some ⟨g9, 0, none⟩) kr kr, .slice (some ⟨w12.heap.size, 0, none⟩) kr kr] w13 fun e w' => e = .returned (.bool true) ∧ w13 = w') := by
                  have := same_exact w13 _ _ kr kr kr kr _ _ (HZ13.out.sl HZb.out) (HR13.out.sl (fun _ _ => by decide))
                  rwa [same_zero_yes ((HCk.out Z HZl2.out).mpr HX1.out)] at this
                go_wp2_with (go_at_call 34; refine HS13.out.mono ?_; rintro e w' ⟨rfl, rfl⟩)
                go_ret
                exact ⟨rfl, two_below (two_below HB8.out HB12.out) HB13.out⟩
            · have HX1 : Hid (¬ Spn (m2 (trf F r c) c r) c (ext0 Z r)) := hx
              clear hx
              go_wp2_with (first
                | (go_at_call 24; have _x := HB11; refine (anch5_any _).mono ?_; rintro e w12 ⟨rfl, hb12⟩; have HB12 : Hid (Below wr.heap.size wr w12) := two_below HB11.out hb12; have HZ12 : Hid (RowAt w12 g9 5 kr (apf H Z r)) := HZ11.out.later hb12; have h12_0 := (HVh7.out.later HB12.out).c0; have h12_1 := (HVh7.out.later HB12.out).c1; have h12_2 := (HVh7.out.later HB12.out).c2; clear hb12)
                | (go_at_call 36; have _x := HB10; refine (rcomb_no _ c r len0 d10 r s10 _ _ Z HM10.out (rt_turn6 HR.out) (HY10.out.sl HZl2.out) HX1.out).mono ?_; rintro e w11 ⟨rfl, hb11⟩; have HB11 : Hid (Below wr.heap.size wr w11) := two_below HB10.out hb11; have HZ11 : Hid (RowAt w11 g9 5 kr (apf H Z r)) := HZ10.out.later hb11; clear hb11)
                | (go_at_call 35; have _x := HB9; refine (rtrans_ok _ r c len0 cap0 a0 F ((HFm3.out.later HB7.out).later HB9.out).sl HR.out).mono ?_; rintro e w10 ⟨s10, d10, rfl, ho10, hb10⟩; have HM10 : Hid (Mt (w10.alloc (.cells #[.int .i64 (c : Int), .int .i64 (r : Int), .slice s10 len0 d10] 24)) s10 len0 d10 (trf F r c)) := (own_mt4 ho10 (trf_el4 HFl.out HR.out)).later (alloc_low _ _); have HB10 : Hid (Below wr.heap.size wr (w10.alloc (.cells #[.int .i64 (c : Int), .int .i64 (r : Int), .slice s10 len0 d10] 24))) := two_below (two_below HB9.out hb10) (alloc_low _ _); have HY10 : Hid (RowAt (w10.alloc (.cells #[.int .i64 (c : Int), .int .i64 (r : Int), .slice s10 len0 d10] 24)) g4 5 r Z) := HY7.out.later HB10.out; have HZ10 : Hid (RowAt (w10.alloc (.cells #[.int .i64 (c : Int), .int .i64 (r : Int), .slice s10 len0 d10] 24)) g9 5 kr (apf H Z r)) := (HZ9.out.later hb10).later (alloc_low _ _); have HVt := Vr.new w10 (.int .i64 (c : Int)) (.int .i64 (r : Int)) (.slice s10 len0 d10); have t10_0 := HVt.c0; have t10_1 := HVt.c1; have t10_2 := HVt.c2; clear ho10 hb10 HVt)
                | (go_at_call 33; refine (rapply_ok _ kr r N d1 r s1 (some ⟨g4, 0, none⟩) H Z (HFh3.out.later HB7.out).sl (HY7.out.sl HZl2.out) HRh.out).mono ?_; rintro e w9 ⟨g9, rfl, hr9, hg9, hb9⟩; have HZ9 : Hid (RowAt w9 g9 5 kr (apf H Z r)) := hr9; have HB9 : Hid (Below wr.heap.size wr w9) := hb9; have m9_0 := (HVm7.out.later hb9).c0; have m9_1 := (HVm7.out.later hb9).c1; have m9_2 := (HVm7.out.later hb9).c2; clear hr9 hg9 hb9))
              all_goals
                obtain ⟨w13, hrun, hown, hgrow⟩ := run_make_full (P := Try.prog) w12 w12.heap.size 22 5 i0 (.int .u8 0) 1 Try.underlying22 hi0 hz0 hz1 .i64 .i64 kr (by rw [hz2]; omega) hml (Nat.le_refl _)
                rw [hrun]
                have HR13 : Hid (RowAt w13 w12.heap.size 5 kr (fun _ => 0)) := made_at hown
                have HB13 : Hid (Below w12.heap.size w12 w13) := grown_none.mp hgrow
                have HZ13 : Hid (RowAt w13 g9 5 kr (apf H Z r)) := HZ12.out.later HB13.out
                have HZb : Hid (∀ u, u < kr → apf H Z r u < 256) := fun u hu => apf_lt Z HHl.out HRh.out u hu
                clear hrun hown hgrow
                have HS13 : Hid (Calls Try.prog 34 #[.slice (some ⟨g9, 0, none⟩) kr kr, .slice (some ⟨w12.heap.size, 0, none⟩) kr kr] w13 fun e w' => e = .returned (.bool false) ∧ w13 = w') := by
                  have := same_exact w13 _ _ kr kr kr kr _ _ (HZ13.out.sl HZb.out) (HR13.out.sl (fun _ _ => by decide))
                  rwa [same_zero_no (fun x => HX1.out ((HCk.out Z HZl2.out).mp x))] at this
                go_wp2_with (go_at_call 34; refine HS13.out.mono ?_; rintro e w' ⟨rfl, rfl⟩)
                go_ret
                exact ⟨rfl, two_below (two_below HB8.out HB12.out) HB13.out⟩
      · have gl : ((len1 : Int) == (c : Int)) = false := by simp; omega
        clear hl
        have gg1 : ((r : Int) == (r : Int)) = true := by simp
        have HV_m_0 : Hid (Vr wb w.heap.size (.int .i64 (r : Int)) (.int .i64 (c : Int)) (.slice a0 len0 cap0)) := HVa.out
        have l_m_0_0 := HV_m_0.out.c0
        have l_m_1_0 := HV_m_0.out.c1
        have l_m_2_0 := HV_m_0.out.c2
        go_enter Try.func8, Try.ntmps8
        go_wp2_with (first
          | (go_at_call 24; have _x := HB_3; refine (anch5_any _).mono ?_; rintro e w4 ⟨rfl, hb⟩; have HB_4 : Hid (Below w.heap.size w w4) := two_below HB_3.out hb; have HV_m_4 : Hid (Vr w4 w.heap.size (.int .i64 (r : Int)) (.int .i64 (c : Int)) (.slice a0 len0 cap0)) := HV_m_3.out.later hb; have HV_h_4 : Hid (Vr w4 w1.heap.size (.int .i64 (kr : Int)) (.int .i64 (r : Int)) (.slice s1 N d1)) := HV_h_3.out.later hb; have HV_b_4 : Hid (Vr w4 w2.heap.size (.int .i64 (kr2 : Int)) (.int .i64 (r : Int)) (.slice s2 N2 d2)) := HV_b_3.out.later hb; have HF_m_4 : Hid (Mt w4 a0 len0 cap0 F) := HF_m_3.out.later hb; have HF_d_4 : Hid (Mt w4 a1 len1 cap1 D) := HF_d_3.out.later hb; have HF_s_4 : Hid (Mt w4 a2 len2 cap2 S) := HF_s_3.out.later hb; have HF_h_4 : Hid (Mt w4 s1 N d1 H) := HF_h_3.out.later hb; clear hb HV_m_3 HV_h_3 HV_b_3 HF_m_3 HF_d_3 HF_s_3 HF_h_3)
          | (go_at_call 30; have _x := HB_2; refine (right_yes _ _ _ _ _ _ HRh.out.p).mono ?_; rintro e w3 ⟨rfl, hb⟩; have HB_3 : Hid (Below w.heap.size w w3) := two_below HB_2.out hb; have HV_m_3 : Hid (Vr w3 w.heap.size (.int .i64 (r : Int)) (.int .i64 (c : Int)) (.slice a0 len0 cap0)) := HV_m_2.out.later hb; have HV_h_3 : Hid (Vr w3 w1.heap.size (.int .i64 (kr : Int)) (.int .i64 (r : Int)) (.slice s1 N d1)) := HV_h_2.out.later hb; have HV_b_3 : Hid (Vr w3 w2.heap.size (.int .i64 (kr2 : Int)) (.int .i64 (r : Int)) (.slice s2 N2 d2)) := HV_b_2.out.later hb; have HF_m_3 : Hid (Mt w3 a0 len0 cap0 F) := HF_m_2.out.later hb; have HF_d_3 : Hid (Mt w3 a1 len1 cap1 D) := HF_d_2.out.later hb; have HF_s_3 : Hid (Mt w3 a2 len2 cap2 S) := HF_s_2.out.later hb; have HF_h_3 : Hid (Mt w3 s1 N d1 H) := HF_h_2.out.later hb; have l_h_0_3 := HV_h_3.out.c0; have l_h_1_3 := HV_h_3.out.c1; have l_h_2_3 := HV_h_3.out.c2; have l_m_0_3 := HV_m_3.out.c0; have l_m_1_3 := HV_m_3.out.c1; have l_m_2_3 := HV_m_3.out.c2; clear hb HV_m_2 HV_h_2 HV_b_2 HF_m_2 HF_d_2 HF_s_2 HF_h_2)
          | (go_at_call 21; have _x := HB_1; refine (rchk_ok _ r c len0 cap0 a0 F HF_m_1.out HR.out hcr HK.out).mono ?_; rintro e w2 ⟨s2, d2, kr2, top2, p2, G2, H2, rfl, hm2, y1, y2, y3, y4, y5, y6, hb⟩; clear y1 y2 y3 y4 y5 y6; obtain ⟨N2, HN2⟩ : ∃ x, Hid (kr2 * r = x) := ⟨_, rfl⟩; rw [HN2.out] at hm2 ⊢; have HB_2 : Hid (Below w.heap.size w (w2.alloc (.cells #[.int .i64 (kr2 : Int), .int .i64 (r : Int), .slice s2 N2 d2] 24))) := two_below (two_below HB_1.out hb) (alloc_low _ _); have HV_m_2 : Hid (Vr (w2.alloc (.cells #[.int .i64 (kr2 : Int), .int .i64 (r : Int), .slice s2 N2 d2] 24)) w.heap.size (.int .i64 (r : Int)) (.int .i64 (c : Int)) (.slice a0 len0 cap0)) := (HV_m_1.out.later hb).later (alloc_low _ _); have HV_h_2 : Hid (Vr (w2.alloc (.cells #[.int .i64 (kr2 : Int), .int .i64 (r : Int), .slice s2 N2 d2] 24)) w1.heap.size (.int .i64 (kr : Int)) (.int .i64 (r : Int)) (.slice s1 N d1)) := (HV_h_1.out.later hb).later (alloc_low _ _); have HF_m_2 : Hid (Mt (w2.alloc (.cells #[.int .i64 (kr2 : Int), .int .i64 (r : Int), .slice s2 N2 d2] 24)) a0 len0 cap0 F) := (HF_m_1.out.later hb).later (alloc_low _ _); have HF_d_2 : Hid (Mt (w2.alloc (.cells #[.int .i64 (kr2 : Int), .int .i64 (r : Int), .slice s2 N2 d2] 24)) a1 len1 cap1 D) := (HF_d_1.out.later hb).later (alloc_low _ _); have HF_s_2 : Hid (Mt (w2.alloc (.cells #[.int .i64 (kr2 : Int), .int .i64 (r : Int), .slice s2 N2 d2] 24)) a2 len2 cap2 S) := (HF_s_1.out.later hb).later (alloc_low _ _); have HF_h_2 : Hid (Mt (w2.alloc (.cells #[.int .i64 (kr2 : Int), .int .i64 (r : Int), .slice s2 N2 d2] 24)) s1 N d1 H) := (HF_h_1.out.later hb).later (alloc_low _ _); have HV_b_2 : Hid (Vr (w2.alloc (.cells #[.int .i64 (kr2 : Int), .int .i64 (r : Int), .slice s2 N2 d2] 24)) w2.heap.size (.int .i64 (kr2 : Int)) (.int .i64 (r : Int)) (.slice s2 N2 d2)) := Vr.new w2 _ _ _; clear hm2; have l_h_0_2 := HV_h_2.out.c0; have l_h_1_2 := HV_h_2.out.c1; have l_h_2_2 := HV_h_2.out.c2; have l_m_0_2 := HV_m_2.out.c0; have l_m_1_2 := HV_m_2.out.c1; have l_m_2_2 := HV_m_2.out.c2; clear hb HV_m_1 HV_h_1 HF_m_1 HF_d_1 HF_s_1 HF_h_1)
          | (go_at_call 20; rw [← HW.out]; refine (bchk_ok _ r c len0 cap0 a0 F HF_m_0.out HR.out hcr HK.out).mono ?_; rintro e w1 ⟨s1, d1, kr, top, p, G, H, rfl, hm, hR, hS, hp, ek, hH, _, hb⟩; obtain ⟨N, HN⟩ : ∃ x, Hid (kr * r = x) := ⟨_, rfl⟩; rw [HN.out] at hm ⊢; have hkr := (kr_of HR.out HK.out hR hS hp ek).1; have HCk : Hid (∀ Y : Nat → Nat, (∀ i, i < r → Y i < 256) → ((∀ u, u < kr → apf H Y r u = 0) ↔ Spn (m2 (trf F r c) c r) c (ext0 Y r))) := fun Y hY => chk_iff hR hS hp ek hH hY; have HRh : Hid (Rt kr r N) := ⟨by omega, hr, HN.out⟩; have HHl : Hid (∀ i, i < N → H i < 256) := hm.sl.1; have HB_1 : Hid (Below w.heap.size w (w1.alloc (.cells #[.int .i64 (kr : Int), .int .i64 (r : Int), .slice s1 N d1] 24))) := two_below (two_below HB_0.out hb) (alloc_low _ _); have HV_m_1 : Hid (Vr (w1.alloc (.cells #[.int .i64 (kr : Int), .int .i64 (r : Int), .slice s1 N d1] 24)) w.heap.size (.int .i64 (r : Int)) (.int .i64 (c : Int)) (.slice a0 len0 cap0)) := (HV_m_0.out.later hb).later (alloc_low _ _); have HF_m_1 : Hid (Mt (w1.alloc (.cells #[.int .i64 (kr : Int), .int .i64 (r : Int), .slice s1 N d1] 24)) a0 len0 cap0 F) := (HF_m_0.out.later hb).later (alloc_low _ _); have HF_d_1 : Hid (Mt (w1.alloc (.cells #[.int .i64 (kr : Int), .int .i64 (r : Int), .slice s1 N d1] 24)) a1 len1 cap1 D) := (HF_d_0.out.later hb).later (alloc_low _ _); have HF_s_1 : Hid (Mt (w1.alloc (.cells #[.int .i64 (kr : Int), .int .i64 (r : Int), .slice s1 N d1] 24)) a2 len2 cap2 S) := (HF_s_0.out.later hb).later (alloc_low _ _); have HV_h_1 : Hid (Vr (w1.alloc (.cells #[.int .i64 (kr : Int), .int .i64 (r : Int), .slice s1 N d1] 24)) w1.heap.size (.int .i64 (kr : Int)) (.int .i64 (r : Int)) (.slice s1 N d1)) := Vr.new w1 _ _ _; have HF_h_1 : Hid (Mt (w1.alloc (.cells #[.int .i64 (kr : Int), .int .i64 (r : Int), .slice s1 N d1] 24)) s1 N d1 H) := (hm).later (alloc_low _ _); have e1 : IntKind.i64.wrap ((r : Int) - (c : Int)) = (kr : Int) := (by rw [IntKind.wrap_i64]; omega); clear hm hR hS hp ek hH; have l_m_0_1 := HV_m_1.out.c0; have l_m_1_1 := HV_m_1.out.c1; have l_m_2_1 := HV_m_1.out.c2; clear hb HV_m_0 HF_m_0 HF_d_0 HF_s_0))
        go_ret
        exact ⟨rfl, HB_4.out⟩
    · have HK : Hid (Rk (m2 F r c) r t) := hk
      have ht2 : t < c := by omega
      clear h1 h2 R hM hD hS0 hk ht htc
      have HV_m_0 : Hid (Vr wb w.heap.size (.int .i64 (r : Int)) (.int .i64 (c : Int)) (.slice a0 len0 cap0)) := HVa.out
      have l_m_0_0 := HV_m_0.out.c0
      have l_m_1_0 := HV_m_0.out.c1
      have l_m_2_0 := HV_m_0.out.c2
      go_enter Try.func8, Try.ntmps8
      go_wp2_with (first
        | (go_at_call 24; have _x := HB_2; refine (anch5_any _).mono ?_; rintro e w3 ⟨rfl, hb⟩; have HB_3 : Hid (Below w.heap.size w w3) := two_below HB_2.out hb; have HV_m_3 : Hid (Vr w3 w.heap.size (.int .i64 (r : Int)) (.int .i64 (c : Int)) (.slice a0 len0 cap0)) := HV_m_2.out.later hb; have HV_h_3 : Hid (Vr w3 w1.heap.size (.int .i64 0) (.int .i64 0) (.slice none 0 0)) := HV_h_2.out.later hb; have HV_b_3 : Hid (Vr w3 w2.heap.size (.int .i64 0) (.int .i64 0) (.slice none 0 0)) := HV_b_2.out.later hb; have HF_m_3 : Hid (Mt w3 a0 len0 cap0 F) := HF_m_2.out.later hb; have HF_d_3 : Hid (Mt w3 a1 len1 cap1 D) := HF_d_2.out.later hb; have HF_s_3 : Hid (Mt w3 a2 len2 cap2 S) := HF_s_2.out.later hb; clear hb HV_m_2 HV_h_2 HV_b_2 HF_m_2 HF_d_2 HF_s_2)
        | (go_at_call 21; have _x := HB_1; refine (rchk_sing _ r c len0 cap0 t a0 F HF_m_1.out HR.out hcr HK.out ht2).mono ?_; rintro e w2 ⟨rfl, hb⟩; have HB_2 : Hid (Below w.heap.size w (w2.alloc (.cells #[.int .i64 0, .int .i64 0, .slice none 0 0] 24))) := two_below (two_below HB_1.out hb) (alloc_low _ _); have HV_m_2 : Hid (Vr (w2.alloc (.cells #[.int .i64 0, .int .i64 0, .slice none 0 0] 24)) w.heap.size (.int .i64 (r : Int)) (.int .i64 (c : Int)) (.slice a0 len0 cap0)) := (HV_m_1.out.later hb).later (alloc_low _ _); have HV_h_2 : Hid (Vr (w2.alloc (.cells #[.int .i64 0, .int .i64 0, .slice none 0 0] 24)) w1.heap.size (.int .i64 0) (.int .i64 0) (.slice none 0 0)) := (HV_h_1.out.later hb).later (alloc_low _ _); have HF_m_2 : Hid (Mt (w2.alloc (.cells #[.int .i64 0, .int .i64 0, .slice none 0 0] 24)) a0 len0 cap0 F) := (HF_m_1.out.later hb).later (alloc_low _ _); have HF_d_2 : Hid (Mt (w2.alloc (.cells #[.int .i64 0, .int .i64 0, .slice none 0 0] 24)) a1 len1 cap1 D) := (HF_d_1.out.later hb).later (alloc_low _ _); have HF_s_2 : Hid (Mt (w2.alloc (.cells #[.int .i64 0, .int .i64 0, .slice none 0 0] 24)) a2 len2 cap2 S) := (HF_s_1.out.later hb).later (alloc_low _ _); have HV_b_2 : Hid (Vr (w2.alloc (.cells #[.int .i64 0, .int .i64 0, .slice none 0 0] 24)) w2.heap.size (.int .i64 0) (.int .i64 0) (.slice none 0 0)) := Vr.new w2 _ _ _; clear hb HV_m_1 HV_h_1 HF_m_1 HF_d_1 HF_s_1)
        | (go_at_call 20; rw [← HW.out]; refine (bchk_sing _ r c len0 cap0 t a0 F HF_m_0.out HR.out hcr HK.out ht2).mono ?_; rintro e w1 ⟨rfl, hb⟩; have HB_1 : Hid (Below w.heap.size w (w1.alloc (.cells #[.int .i64 0, .int .i64 0, .slice none 0 0] 24))) := two_below (two_below HB_0.out hb) (alloc_low _ _); have HV_m_1 : Hid (Vr (w1.alloc (.cells #[.int .i64 0, .int .i64 0, .slice none 0 0] 24)) w.heap.size (.int .i64 (r : Int)) (.int .i64 (c : Int)) (.slice a0 len0 cap0)) := (HV_m_0.out.later hb).later (alloc_low _ _); have HF_m_1 : Hid (Mt (w1.alloc (.cells #[.int .i64 0, .int .i64 0, .slice none 0 0] 24)) a0 len0 cap0 F) := (HF_m_0.out.later hb).later (alloc_low _ _); have HF_d_1 : Hid (Mt (w1.alloc (.cells #[.int .i64 0, .int .i64 0, .slice none 0 0] 24)) a1 len1 cap1 D) := (HF_d_0.out.later hb).later (alloc_low _ _); have HF_s_1 : Hid (Mt (w1.alloc (.cells #[.int .i64 0, .int .i64 0, .slice none 0 0] 24)) a2 len2 cap2 S) := (HF_s_0.out.later hb).later (alloc_low _ _); have HV_h_1 : Hid (Vr (w1.alloc (.cells #[.int .i64 0, .int .i64 0, .slice none 0 0] 24)) w1.heap.size (.int .i64 0) (.int .i64 0) (.slice none 0 0)) := Vr.new w1 _ _ _; have l_m_0_1 := HV_m_1.out.c0; have l_m_1_1 := HV_m_1.out.c1; have l_m_2_1 := HV_m_1.out.c2; clear hb HV_m_0 HF_m_0 HF_d_0 HF_s_0))
      go_ret
      exact ⟨rfl, HB_3.out⟩
  · have H1 : Hid (¬ (RightP r0 c0 len0 ∧ c0 ≤ r0)) := h
    clear h hM hD hS0
    have HV_m_0 : Hid (Vr wb w.heap.size (.int .i64 r0) (.int .i64 c0) (.slice a0 len0 cap0)) := HVa.out
    have l_m_0_0 := HV_m_0.out.c0
    have l_m_1_0 := HV_m_0.out.c1
    have l_m_2_0 := HV_m_0.out.c2
    go_enter Try.func8, Try.ntmps8
    go_wp2_with (first
      | (go_at_call 24; have _x := HB_2; refine (anch5_any _).mono ?_; rintro e w3 ⟨rfl, hb⟩; have HB_3 : Hid (Below w.heap.size w w3) := two_below HB_2.out hb; have HV_m_3 : Hid (Vr w3 w.heap.size (.int .i64 r0) (.int .i64 c0) (.slice a0 len0 cap0)) := HV_m_2.out.later hb; have HV_h_3 : Hid (Vr w3 w1.heap.size (.int .i64 0) (.int .i64 0) (.slice none 0 0)) := HV_h_2.out.later hb; have HV_b_3 : Hid (Vr w3 w2.heap.size (.int .i64 0) (.int .i64 0) (.slice none 0 0)) := HV_b_2.out.later hb; have HF_m_3 : Hid (Mt w3 a0 len0 cap0 F) := HF_m_2.out.later hb; have HF_d_3 : Hid (Mt w3 a1 len1 cap1 D) := HF_d_2.out.later hb; have HF_s_3 : Hid (Mt w3 a2 len2 cap2 S) := HF_s_2.out.later hb; clear hb HV_m_2 HV_h_2 HV_b_2 HF_m_2 HF_d_2 HF_s_2)
      | (go_at_call 21; have _x := HB_1; refine (rchk_bad _ _ _ _ _ _ H1.out).mono ?_; rintro e w2 ⟨rfl, hb⟩; have HB_2 : Hid (Below w.heap.size w (w2.alloc (.cells #[.int .i64 0, .int .i64 0, .slice none 0 0] 24))) := two_below (two_below HB_1.out hb) (alloc_low _ _); have HV_m_2 : Hid (Vr (w2.alloc (.cells #[.int .i64 0, .int .i64 0, .slice none 0 0] 24)) w.heap.size (.int .i64 r0) (.int .i64 c0) (.slice a0 len0 cap0)) := (HV_m_1.out.later hb).later (alloc_low _ _); have HV_h_2 : Hid (Vr (w2.alloc (.cells #[.int .i64 0, .int .i64 0, .slice none 0 0] 24)) w1.heap.size (.int .i64 0) (.int .i64 0) (.slice none 0 0)) := (HV_h_1.out.later hb).later (alloc_low _ _); have HF_m_2 : Hid (Mt (w2.alloc (.cells #[.int .i64 0, .int .i64 0, .slice none 0 0] 24)) a0 len0 cap0 F) := (HF_m_1.out.later hb).later (alloc_low _ _); have HF_d_2 : Hid (Mt (w2.alloc (.cells #[.int .i64 0, .int .i64 0, .slice none 0 0] 24)) a1 len1 cap1 D) := (HF_d_1.out.later hb).later (alloc_low _ _); have HF_s_2 : Hid (Mt (w2.alloc (.cells #[.int .i64 0, .int .i64 0, .slice none 0 0] 24)) a2 len2 cap2 S) := (HF_s_1.out.later hb).later (alloc_low _ _); have HV_b_2 : Hid (Vr (w2.alloc (.cells #[.int .i64 0, .int .i64 0, .slice none 0 0] 24)) w2.heap.size (.int .i64 0) (.int .i64 0) (.slice none 0 0)) := Vr.new w2 _ _ _; clear hb HV_m_1 HV_h_1 HF_m_1 HF_d_1 HF_s_1)
      | (go_at_call 20; rw [← HW.out]; refine (bchk_bad _ _ _ _ _ _ H1.out).mono ?_; rintro e w1 ⟨rfl, hb⟩; have HB_1 : Hid (Below w.heap.size w (w1.alloc (.cells #[.int .i64 0, .int .i64 0, .slice none 0 0] 24))) := two_below (two_below HB_0.out hb) (alloc_low _ _); have HV_m_1 : Hid (Vr (w1.alloc (.cells #[.int .i64 0, .int .i64 0, .slice none 0 0] 24)) w.heap.size (.int .i64 r0) (.int .i64 c0) (.slice a0 len0 cap0)) := (HV_m_0.out.later hb).later (alloc_low _ _); have HF_m_1 : Hid (Mt (w1.alloc (.cells #[.int .i64 0, .int .i64 0, .slice none 0 0] 24)) a0 len0 cap0 F) := (HF_m_0.out.later hb).later (alloc_low _ _); have HF_d_1 : Hid (Mt (w1.alloc (.cells #[.int .i64 0, .int .i64 0, .slice none 0 0] 24)) a1 len1 cap1 D) := (HF_d_0.out.later hb).later (alloc_low _ _); have HF_s_1 : Hid (Mt (w1.alloc (.cells #[.int .i64 0, .int .i64 0, .slice none 0 0] 24)) a2 len2 cap2 S) := (HF_s_0.out.later hb).later (alloc_low _ _); have HV_h_1 : Hid (Vr (w1.alloc (.cells #[.int .i64 0, .int .i64 0, .slice none 0 0] 24)) w1.heap.size (.int .i64 0) (.int .i64 0) (.slice none 0 0)) := Vr.new w1 _ _ _; have l_m_0_1 := HV_m_1.out.c0; have l_m_1_1 := HV_m_1.out.c1; have l_m_2_1 := HV_m_1.out.c2; clear hb HV_m_0 HF_m_0 HF_d_0 HF_s_0))
    go_ret
    exact ⟨rfl, HB_3.out⟩
set_option maxRecDepth 100000 in
set_option maxHeartbeats 2000000 in
theorem lifted (os : Os) (started : os.Started) (H : Type) (enc : TypeId × Value → H) :
    ReturnsInHanded {} Try.checked os 8 .any (Rows.buildChecksSpec.pre6 enc Try.prog Try.f8 Rows.buildChecksRow.domain false) (Rows.buildChecksSpec.post enc Try.prog Try.f8 false true false false) := by
  refine returnsInHanded_of_change_sized (C := Try.checked) own started (by kernel_rfl) Try.func8
    (ChangeSpec.witness6 (enc := enc) (C := Try.checked) false ⟨#[], #[.agg #[.int .i64 0, .int .i64 0, .slice none 0 0], .slice none 0 0, .slice none 0 0], []⟩ 8 (by kernel_rfl) (by kernel_rfl) (by kernel_rfl) (by kernel_rfl)) ?_
  intro W base args ds gs before hval0 hW hcnd hsz0 _
  have hsz : (DataW.weightsEach Try.prog (Try.f8.params.toList ++ Rows.buildChecksSpec.plain.varTypes Try.prog) (ds ++ gs)).all (· ≤ reachBytes) = true := hsz0
  clear hsz0
  have hval : ∀ (j : Nat) t v, Try.f8.params[j]? = some t → args[j]? = some v → Value.okWide Try.prog W .any base t v := hval0
  have hW' := hW
  obtain ⟨p, q, hA0, hV, rfl, hfz, hnd⟩ := hW
  have hA : DataW.TrodAll enc Try.prog W 0 (fun _ => true) true Try.f8.params.toList args.toList ds p := hA0
  rw [Try.params8] at hA hval hsz
  obtain ⟨va0, vs0, d0, ds0, p0, q0, hargs, rfl, rfl, h0, tr0⟩ := trodAll_cons hA
  obtain ⟨va1, vs1, d1, ds1, p1, q1, rfl, rfl, rfl, h1, tr1⟩ := trodAll_cons tr0
  obtain ⟨va2, vs2, d2, ds2, p2, q2, rfl, rfl, rfl, h2, tr2⟩ := trodAll_cons tr1
  obtain ⟨rfl, rfl, rfl⟩ := trodAll_nil tr2
  obtain rfl : args = #[va0, va1, va2] := by cases args; simp_all
  obtain ⟨rfl, rfl⟩ := trodVars_none hV
  have k0 := h0
  have lt0 : ∀ x ∈ p0, x.block < W.heap.size := by obtain ⟨m, hm⟩ := k0; exact DataW.trod_lt m _ _ _ hm
  obtain ⟨f0, g0, s0, y0, x0, e0, m0, rfl, rfl, rfl, hf0, hg0, hs0⟩ := open_agg3 Try.underlying24 (by kernel_rfl) cellsM (hval 0 24 va0 rfl rfl) h0
  obtain ⟨r0, er0, rfl, u0⟩ := DataW.trod_int Try.underlying3 hf0
  obtain ⟨c0, ec0, rfl, v0⟩ := DataW.trod_int Try.underlying3 hg0
  simp only [List.cons.injEq, and_true] at er0 ec0
  subst er0 ec0
  obtain ⟨a0, len0, cap0, rfl⟩ : ∃ a l c, s0 = .slice a l c := by
    rcases open_ints Try.underlying22 Try.underlying5 (by kernel_rfl) hs0 with ⟨hcs, _⟩ | ⟨x, l, c, zs, hcs, _⟩
    · simp only [List.cons.injEq, and_true] at hcs; exact ⟨_, _, _, hcs⟩
    · simp only [List.cons.injEq, and_true] at hcs; exact ⟨_, _, _, hcs⟩
  obtain ⟨z0, w0⟩ : ∃ zs, IsRow .u8 W a0 len0 cap0 zs := by
    obtain ⟨fuel, hf⟩ := (⟨m0, hs0⟩ : ∃ fuel, DataW.trod enc Try.prog W 0 (fun _ => true) true fuel 22 [.slice a0 len0 cap0] = some e0)
    rcases open_ints Try.underlying22 Try.underlying5 (by kernel_rfl) hf with ⟨hcs, _⟩ | ⟨x, l, c, zs, hcs, _, hl, hm, hz, hxx, hcell, hwz⟩
    · simp at hcs
      obtain ⟨rfl, rfl, rfl⟩ := hcs
      exact ⟨[], .inl ⟨rfl, rfl, rfl, rfl⟩⟩
    · simp at hcs
      obtain ⟨rfl, rfl, rfl⟩ := hcs
      have hd := congrArg Prod.fst hxx
      have hs := sized_slice (sized_in hsz (j := 0) (t := 24) rfl rfl) (j := 2) (t := 22) (e := 5) rfl (congrArg some hd) Try.underlying22
      rw [show Try.prog.bytesOf 5 = 1 from by kernel_rfl] at hs
      have hzl : zs.length = cap0 := by simpa using hz
      simp only [lits, List.length_map, List.length_take, List.length_drop, reachBytes] at hs
      exact ⟨zs, .inr ⟨_, rfl, hl, by omega, by simpa using hz, hcell, hwz⟩⟩
  have k1 := h1
  have lt1 : ∀ x ∈ p1, x.block < W.heap.size := by obtain ⟨m, hm⟩ := k1; exact DataW.trod_lt m _ _ _ hm
  obtain ⟨a1, len1, cap1, rfl⟩ := okWide_slice Try.underlying22 (hval 1 22 va1 rfl rfl)
  obtain ⟨z1, w1⟩ : ∃ zs, IsRow .u8 W a1 len1 cap1 zs := by
    obtain ⟨fuel, hf⟩ := h1
    rcases open_ints Try.underlying22 Try.underlying5 (by kernel_rfl) hf with ⟨hcs, _⟩ | ⟨x, l, c, zs, hcs, _, hl, hm, hz, hxx, hcell, hwz⟩
    · simp [Value.cells] at hcs
      obtain ⟨rfl, rfl, rfl⟩ := hcs
      exact ⟨[], .inl ⟨rfl, rfl, rfl, rfl⟩⟩
    · simp [Value.cells] at hcs
      obtain ⟨rfl, rfl, rfl⟩ := hcs
      have hd := congrArg Prod.fst hxx
      have hs := sized_slice hsz (j := 1) (t := 22) (e := 5) rfl (congrArg some hd) Try.underlying22
      rw [show Try.prog.bytesOf 5 = 1 from by kernel_rfl] at hs
      have hzl : zs.length = cap1 := by simpa using hz
      simp only [lits, List.length_map, List.length_take, List.length_drop, reachBytes] at hs
      exact ⟨zs, .inr ⟨_, rfl, hl, by omega, by simpa using hz, hcell, hwz⟩⟩
  have k2 := h2
  have lt2 : ∀ x ∈ p2, x.block < W.heap.size := by obtain ⟨m, hm⟩ := k2; exact DataW.trod_lt m _ _ _ hm
  obtain ⟨a2, len2, cap2, rfl⟩ := okWide_slice Try.underlying22 (hval 2 22 va2 rfl rfl)
  obtain ⟨z2, w2⟩ : ∃ zs, IsRow .u8 W a2 len2 cap2 zs := by
    obtain ⟨fuel, hf⟩ := h2
    rcases open_ints Try.underlying22 Try.underlying5 (by kernel_rfl) hf with ⟨hcs, _⟩ | ⟨x, l, c, zs, hcs, _, hl, hm, hz, hxx, hcell, hwz⟩
    · simp [Value.cells] at hcs
      obtain ⟨rfl, rfl, rfl⟩ := hcs
      exact ⟨[], .inl ⟨rfl, rfl, rfl, rfl⟩⟩
    · simp [Value.cells] at hcs
      obtain ⟨rfl, rfl, rfl⟩ := hcs
      have hd := congrArg Prod.fst hxx
      have hs := sized_slice hsz (j := 2) (t := 22) (e := 5) rfl (congrArg some hd) Try.underlying22
      rw [show Try.prog.bytesOf 5 = 1 from by kernel_rfl] at hs
      have hzl : zs.length = cap2 := by simpa using hz
      simp only [lits, List.length_map, List.length_take, List.length_drop, reachBytes] at hs
      exact ⟨zs, .inr ⟨_, rfl, hl, by omega, by simpa using hz, hcell, hwz⟩⟩
  clear hA0 hval0
  refine (walk r0 c0 a0 len0 cap0 z0 a1 len1 cap1 z1 a2 len2 cap2 z2 W u0 v0 w0 w1 w2).mono fun e W' ⟨he, bel⟩ => ?_
  subst he
  exact ⟨_, rfl, _, _, _, [], _, [], hW', trodAll_mk1 (shut_bool Try.underlying4 _), (trodAll_cons_mk (Below.trod laidOut (by kernel_rfl) (of_decide_eq_true (by kernel_rfl)) k0 bel lt0) (trodAll_cons_mk (Below.trod laidOut (by kernel_rfl) (of_decide_eq_true (by kernel_rfl)) k1 bel lt1) (trodAll_cons_mk (Below.trod laidOut (by kernel_rfl) (of_decide_eq_true (by kernel_rfl)) k2 bel lt2) trodAll_mk0))), rfl, bel.frame _, fun h => by cases h⟩
theorem over : Rows.buildChecksRow.holds Try.pinned (OpenSpec.ofChange Rows.buildChecksSpec) :=
  OpenClaim.holds_of_wide 8 Try.f8 rfl rfl rfl rfl rfl rfl rfl ⟨rfl, rfl, rfl, rfl, rfl⟩ rfl rfl rfl rfl rfl (by kernel_rfl) Try.func8 (by kernel_rfl)
    (of_decide_eq_true (by kernel_rfl)) (by unfold Func.isWrapper; first | (rw [if_pos (by decide +kernel)]; kernel_rfl) | (rw [if_neg (by decide +kernel)]; exact ⟨rfl, rfl⟩))
    (fun os started H enc _ => lifted os started H enc)
theorem proved : Rows.BuildChecksSaid := over
#print axioms proved
end Go.Proofs.Ytblfldjlehjnbaa.buildChecks
