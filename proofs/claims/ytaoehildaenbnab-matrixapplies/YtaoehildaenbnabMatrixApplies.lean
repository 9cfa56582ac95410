/-
  Proved: for all matrices a and b and every list x: Apply of the product of a and b is Apply of a after that of b, and the identity changes nothing; where they do not fit there is an error (P3.5); no condition.
-/
import Derived.Test.YtaoehildaenbnabMp
import Derived.WalkKit
import Derived.SizedLaws
import Derived.ProofKit
import Derived.OpenShut
import Derived.ShutString
import Derived.ChangeOld
import Derived.Below
import Derived.Lib.SmallJoins
import Derived.Deep.Matrix
namespace Go.Proofs.Ytaoehildaenbnab.matrixApplies
open Go.ChangeShapes Go.WideShapes Go.ChangeAt Go.RowKit Go.Joins
set_option linter.unusedVariables false
theorem own : ownKnob Try.prog.godebug = none := by kernel_rfl
theorem laidOut : laidOutB Try.prog = true := by kernel_rfl
/-- A slice of integers that came in. -/
def IsRow (k : IntKind) (w : World) (a : Option Addr) (len cap : Nat) (zs : List Int) : Prop :=
  (a = none ∧ len = 0 ∧ cap = 0 ∧ zs = []) ∨
  ∃ x, a = some x ∧ len ≤ cap ∧ cap ≤ 140737488351232 ∧ zs.length = cap ∧ (∀ i, i < zs.length → w.cell? (x.add i) = some (.int k (zs.getD i 0))) ∧ ∀ n ∈ zs, (Lit.int k n).wf = true
/-- A slice of slices of bytes that came in. -/
def IsRows (w : World) (a : Option Addr) (len cap : Nat) : Prop :=
  (a = none ∧ len = 0 ∧ cap = 0) ∨
  ∃ x, a = some x ∧ len ≤ cap ∧ cap ≤ 140737488351232 ∧ ∀ r, r < cap → ∃ b l c zs, w.cell? (x.add r) = some (.slice b l c) ∧ IsRow .u8 w b l c zs
theorem sized_in {H : Type} {P : Program} {ts : List TypeId} {ds : List (DataW H)} (h : (DataW.weightsEach P ts ds).all (· ≤ reachBytes) = true) {j : Nat} {t : TypeId} {d : DataW H} (ht : ts[j]? = some t) (hd : ds[j]? = some d) : (d.weights P t).all (· ≤ reachBytes) = true :=
  List.all_eq_true.2 fun n hn => List.all_eq_true.1 h n (DataW.weights_mem_each ht hd n hn)
theorem sized_all {H : Type} {P : Program} {e : TypeId} : ∀ {ds : List (DataW H)}, (DataW.weightsAll P e ds).all (· ≤ reachBytes) = true → ∀ d ∈ ds, (d.weights P e).all (· ≤ reachBytes) = true
  | [], _, d, hd => by simp at hd
  | d0 :: r, h, d, hd => by
    simp only [DataW.weightsAll, List.all_append, Bool.and_eq_true] at h
    rcases List.mem_cons.1 hd with rfl | hd
    · exact h.1
    · exact sized_all h.2 d hd
theorem cellsM : Try.prog.cellsOf 24 = 3 := by kernel_rfl

set_option maxRecDepth 20000 in
set_option maxHeartbeats 8000000 in
theorem walk (r0 c0 : Int) (a0 : Option Addr) (len0 cap0 : Nat) (z0 : List Int) (r1 c1 : Int) (a1 : Option Addr) (len1 cap1 : Nat) (z1 : List Int) (a2 : Option Addr) (len2 cap2 : Nat) (z2 : List Int) (w : World) (u0 : (Lit.int .i64 r0).wf = true) (v0 : (Lit.int .i64 c0).wf = true) (w0 : IsRow .u8 w a0 len0 cap0 z0) (u1 : (Lit.int .i64 r1).wf = true) (v1 : (Lit.int .i64 c1).wf = true) (w1 : IsRow .u8 w a1 len1 cap1 z1) (w2 : IsRow .u8 w a2 len2 cap2 z2) :
    Calls Try.prog 5 #[.agg #[.int .i64 r0, .int .i64 c0, .slice a0 len0 cap0], .agg #[.int .i64 r1, .int .i64 c1, .slice a1 len1 cap1], .slice a2 len2 cap2] w fun e w' => e = .returned (.bool true) ∧ Below w.heap.size w w' := by
  obtain ⟨F0, hM0, hn0⟩ := mt_of_row w a0 len0 cap0 z0 w0
  have HM_m0 : Hid (Mt w a0 len0 cap0 F0) := hM0
  obtain ⟨F1, hM1, hn1⟩ := mt_of_row w a1 len1 cap1 z1 w1
  have HM_m1 : Hid (Mt w a1 len1 cap1 F1) := hM1
  obtain ⟨F2, hM2, hn2⟩ := mt_of_row w a2 len2 cap2 z2 w2
  have HM_m2 : Hid (Mt w a2 len2 cap2 F2) := hM2
  clear w0 w1 w2 u0 u1 v0 v1 hn0 hn1 hn2
  by_cases h0 : RightP r0 c0 len0
  · have H0 : Hid (RightP r0 c0 len0) := h0
    by_cases h1 : RightP r1 c1 len1
    · have H1 : Hid (RightP r1 c1 len1) := h1
      by_cases e1 : c0 = r1
      · by_cases e2 : (len2 : Int) = c1
        · obtain ⟨ra, ca, rfl, rfl, RA⟩ := right_rt h0
          obtain ⟨rb, cb, rfl, rfl, RB⟩ := right_rt h1
          obtain rfl : ca = rb := by omega
          obtain rfl : len2 = cb := by omega
          clear h0 h1 e1 e2
          obtain ⟨n, hn⟩ : ∃ n, ra * len2 = n := ⟨_, rfl⟩
          obtain ⟨m, HM⟩ : ∃ m, Hid (len2 * len2 = m) := ⟨_, rfl⟩
          have Rn : Rt ra len2 n := ⟨RA.r64, RB.c64, hn⟩
          have Ri : Rt len2 len2 m := ⟨RB.c64, RB.c64, HM.out⟩
          obtain ⟨fp, hfp⟩ : ∃ f, prk F0 F1 ca len2 ca = f := ⟨_, rfl⟩
          obtain ⟨fy, hfy⟩ : ∃ f, apf F1 F2 len2 = f := ⟨_, rfl⟩
          obtain ⟨fz, hfz⟩ : ∃ f, apf F0 fy ca = f := ⟨_, rfl⟩
          obtain ⟨fw, hfw⟩ : ∃ f, apf fp F2 len2 = f := ⟨_, rfl⟩
          obtain ⟨fi, hfi⟩ : ∃ f, idf len2 = f := ⟨_, rfl⟩
          obtain ⟨fv, hfv⟩ : ∃ f, apf fi F2 len2 = f := ⟨_, rfl⟩
          have HE1 : Hid (∀ i, i < ra → fz i = fw i) := fun i hi => by rw [← hfz, ← hfw, ← hfp, ← hfy]; exact apf_apf hM0.sl.1 hM1.sl.1 RA RB i hi
          have HE2 : Hid (∀ i, i < len2 → fv i = F2 i) := fun i hi => by rw [← hfv, ← hfi]; exact apf_idf hM2.sl.1 i hi
          have K1 : Hid (∀ (w : World) (k d : Nat) (a b : Option Addr), Mt w a len0 k F0 → Mt w b len1 d F1 → Calls Try.prog 8 #[mv ra ca a len0 k, mv ca len2 b len1 d] w (fun e w' => MAns w w' e ra len2 n fp 0)) := fun w k d a b ha hb => by rw [← hfp]; exact mu_ans w ra ca len2 len0 len1 n k d a b F0 F1 ha hb RA RB Rn
          have K2 : Hid (∀ (w : World) (k d : Nat) (a b : Option Addr), Mt w a len1 k F1 → Mt w b len2 d F2 → Calls Try.prog 13 #[mv ca len2 a len1 k, .slice b len2 d] w (fun e w' => LAns w w' e ca fy 0)) := fun w k d a b ha hb => by rw [← hfy]; exact ap_ans w ca len2 len1 k d a b F1 F2 ha hb RB
          have K3 : Hid (∀ (w : World) (k d : Nat) (a b : Option Addr), Mt w a len0 k F0 → Mt w b ca d fy → Calls Try.prog 13 #[mv ra ca a len0 k, .slice b ca d] w (fun e w' => LAns w w' e ra fz 0)) := fun w k d a b ha hb => by rw [← hfz]; exact ap_ans w ra ca len0 k d a b F0 fy ha hb RA
          have K4 : Hid (∀ (w : World) (k d : Nat) (a b : Option Addr), Mt w a n k fp → Mt w b len2 d F2 → Calls Try.prog 13 #[mv ra len2 a n k, .slice b len2 d] w (fun e w' => LAns w w' e ra fw 0)) := fun w k d a b ha hb => by rw [← hfw]; exact ap_ans w ra len2 n k d a b fp F2 ha hb Rn
          have K5 : Hid (∀ (w : World), Calls Try.prog 14 #[.int .i64 (len2 : Int)] w (fun e w' => MAns w w' e len2 len2 m fi 0)) := fun w => by rw [← hfi]; exact id_ans w len2 m RB.c64 HM
          have K6 : Hid (∀ (w : World) (k d : Nat) (a b : Option Addr), Mt w a m k fi → Mt w b len2 d F2 → Calls Try.prog 13 #[mv len2 len2 a m k, .slice b len2 d] w (fun e w' => LAns w w' e len2 fv 0)) := fun w k d a b ha hb => by rw [← hfv]; exact ap_ans w len2 len2 m k d a b fi F2 ha hb Ri
          clear hM0 hM1 hM2 RA RB Rn Ri hn hfp hfy hfz hfw hfi hfv HM
          obtain ⟨wb, HW⟩ : ∃ wb, Hid (wb = ((w.alloc (.cells #[.int .i64 (ra : Int), .int .i64 (ca : Int), .slice a0 len0 cap0] 24)).alloc (.cells #[.int .i64 (ca : Int), .int .i64 (len2 : Int), .slice a1 len1 cap1] 24))) := ⟨_, rfl⟩
          have HV_m0_0 : Hid (Vr wb w.heap.size (.int .i64 (ra : Int)) (.int .i64 (ca : Int)) (.slice a0 len0 cap0)) := by show Vr _ _ _ _ _; rw [HW.out]; have := (Vr.new w (.int .i64 (ra : Int)) (.int .i64 (ca : Int)) (.slice a0 len0 cap0)).later (alloc_low _ (.cells #[.int .i64 (ca : Int), .int .i64 (len2 : Int), .slice a1 len1 cap1] 24)); simpa using this
          have HV_m1_0 : Hid (Vr wb (w.heap.size + 1) (.int .i64 (ca : Int)) (.int .i64 (len2 : Int)) (.slice a1 len1 cap1)) := by show Vr _ _ _ _ _; rw [HW.out]; have := Vr.new (w.alloc (.cells #[.int .i64 (ra : Int), .int .i64 (ca : Int), .slice a0 len0 cap0] 24)) (.int .i64 (ca : Int)) (.int .i64 (len2 : Int)) (.slice a1 len1 cap1); simpa using this
          have HB_0 : Hid (Below w.heap.size w wb) := by rw [HW.out]; exact two_below (alloc_low _ _) (alloc_low _ _)
          have HM_m0_0 : Hid (Mt wb a0 len0 cap0 F0) := HM_m0.out.later HB_0.out
          have HM_m1_0 : Hid (Mt wb a1 len1 cap1 F1) := HM_m1.out.later HB_0.out
          have HM_m2_0 : Hid (Mt wb a2 len2 cap2 F2) := HM_m2.out.later HB_0.out
          clear HM_m0 HM_m1 HM_m2
          go_enter Try.func5, Try.ntmps5
          go_wp2_with (first
            | (go_at_call 15; have _x := HB_10; refine (same_ans _ _ _ len2 _ _ fv F2 HM_v_10.out HM_m2_10.out HE2.out).mono ?_; rintro e w' ⟨rfl, rfl⟩; have HB_11 := HB_10; have HV_m0_11 := HV_m0_10; have HV_m1_11 := HV_m1_10; have HV_p_11 := HV_p_10; have HV_id_11 := HV_id_10; have HM_m0_11 := HM_m0_10; have HM_m1_11 := HM_m1_10; have HM_m2_11 := HM_m2_10; have HM_p_11 := HM_p_10; have HM_y_11 := HM_y_10; have HM_z_11 := HM_z_10; have HM_w_11 := HM_w_10; have HM_id_11 := HM_id_10; have HM_v_11 := HM_v_10; clear HV_m0_10 HV_m1_10 HV_p_10 HV_id_10 HM_m0_10 HM_m1_10 HM_m2_10 HM_p_10 HM_y_10 HM_z_10 HM_w_10 HM_id_10 HM_v_10)
            | (go_at_call 15; have _x := HB_9; refine (same_ans _ _ _ ra _ _ fz fw HM_z_9.out HM_w_9.out HE1.out).mono ?_; rintro e w' ⟨rfl, rfl⟩; have HB_10 := HB_9; have HV_m0_10 := HV_m0_9; have HV_m1_10 := HV_m1_9; have HV_p_10 := HV_p_9; have HV_id_10 := HV_id_9; have HM_m0_10 := HM_m0_9; have HM_m1_10 := HM_m1_9; have HM_m2_10 := HM_m2_9; have HM_p_10 := HM_p_9; have HM_y_10 := HM_y_9; have HM_z_10 := HM_z_9; have HM_w_10 := HM_w_9; have HM_id_10 := HM_id_9; have HM_v_10 := HM_v_9; clear HV_m0_9 HV_m1_9 HV_p_9 HV_id_9 HM_m0_9 HM_m1_9 HM_m2_9 HM_p_9 HM_y_9 HM_z_9 HM_w_9 HM_id_9 HM_v_9)
            | (go_at_call 10; have _x := HB_8; refine (anch_any _).mono ?_; rintro e w9 ⟨rfl, hb9⟩; have HB_9 : Hid (Below w.heap.size w w9) := two_below HB_8.out hb9; have HV_m0_9 : Hid (Vr w9 w.heap.size (.int .i64 (ra : Int)) (.int .i64 (ca : Int)) (.slice a0 len0 cap0)) := HV_m0_8.out.later hb9; have HV_m1_9 : Hid (Vr w9 (w.heap.size + 1) (.int .i64 (ca : Int)) (.int .i64 (len2 : Int)) (.slice a1 len1 cap1)) := HV_m1_8.out.later hb9; have HV_p_9 : Hid (Vr w9 w1.heap.size (.int .i64 (ra : Int)) (.int .i64 (len2 : Int)) (.slice s1 n d1)) := HV_p_8.out.later hb9; have HV_id_9 : Hid (Vr w9 w7.heap.size (.int .i64 (len2 : Int)) (.int .i64 (len2 : Int)) (.slice s7 m d7)) := HV_id_8.out.later hb9; have HM_m0_9 : Hid (Mt w9 a0 len0 cap0 F0) := HM_m0_8.out.later hb9; have HM_m1_9 : Hid (Mt w9 a1 len1 cap1 F1) := HM_m1_8.out.later hb9; have HM_m2_9 : Hid (Mt w9 a2 len2 cap2 F2) := HM_m2_8.out.later hb9; have HM_p_9 : Hid (Mt w9 s1 n d1 fp) := HM_p_8.out.later hb9; have HM_y_9 : Hid (Mt w9 s2 ca d2 fy) := HM_y_8.out.later hb9; have HM_z_9 : Hid (Mt w9 s5 ra d5 fz) := HM_z_8.out.later hb9; have HM_w_9 : Hid (Mt w9 s6 ra d6 fw) := HM_w_8.out.later hb9; have HM_id_9 : Hid (Mt w9 s7 m d7 fi) := HM_id_8.out.later hb9; have HM_v_9 : Hid (Mt w9 s8 len2 d8 fv) := HM_v_8.out.later hb9; clear HV_m0_8 HV_m1_8 HV_p_8 HV_id_8 HM_m0_8 HM_m1_8 HM_m2_8 HM_p_8 HM_y_8 HM_z_8 HM_w_8 HM_id_8 HM_v_8 hb9)
            | (go_at_call 13; have _x := HB_7; refine (K6.out _ _ _ _ _ HM_id_7.out HM_m2_7.out).mono ?_; rintro e w8 ⟨s8, d8, rfl, hs8, hb8⟩; have HB_8 : Hid (Below w.heap.size w w8) := two_below HB_7.out hb8; have HV_m0_8 : Hid (Vr w8 w.heap.size (.int .i64 (ra : Int)) (.int .i64 (ca : Int)) (.slice a0 len0 cap0)) := HV_m0_7.out.later hb8; have HV_m1_8 : Hid (Vr w8 (w.heap.size + 1) (.int .i64 (ca : Int)) (.int .i64 (len2 : Int)) (.slice a1 len1 cap1)) := HV_m1_7.out.later hb8; have HV_p_8 : Hid (Vr w8 w1.heap.size (.int .i64 (ra : Int)) (.int .i64 (len2 : Int)) (.slice s1 n d1)) := HV_p_7.out.later hb8; have HV_id_8 : Hid (Vr w8 w7.heap.size (.int .i64 (len2 : Int)) (.int .i64 (len2 : Int)) (.slice s7 m d7)) := HV_id_7.out.later hb8; have HM_m0_8 : Hid (Mt w8 a0 len0 cap0 F0) := HM_m0_7.out.later hb8; have HM_m1_8 : Hid (Mt w8 a1 len1 cap1 F1) := HM_m1_7.out.later hb8; have HM_m2_8 : Hid (Mt w8 a2 len2 cap2 F2) := HM_m2_7.out.later hb8; have HM_p_8 : Hid (Mt w8 s1 n d1 fp) := HM_p_7.out.later hb8; have HM_y_8 : Hid (Mt w8 s2 ca d2 fy) := HM_y_7.out.later hb8; have HM_z_8 : Hid (Mt w8 s5 ra d5 fz) := HM_z_7.out.later hb8; have HM_w_8 : Hid (Mt w8 s6 ra d6 fw) := HM_w_7.out.later hb8; have HM_id_8 : Hid (Mt w8 s7 m d7 fi) := HM_id_7.out.later hb8; have HM_v_8 : Hid (Mt w8 s8 len2 d8 fv) := hs8; clear HV_m0_7 HV_m1_7 HV_p_7 HV_id_7 HM_m0_7 HM_m1_7 HM_m2_7 HM_p_7 HM_y_7 HM_z_7 HM_w_7 HM_id_7 hb8 hs8)
            | (go_at_call 14; have _x := HB_6; refine (K5.out _).mono ?_; rintro e w7 ⟨s7, d7, rfl, hs7, hb7⟩; have HB_7 : Hid (Below w.heap.size w (w7.alloc (.cells #[.int .i64 (len2 : Int), .int .i64 (len2 : Int), .slice s7 m d7] 24))) := two_below (two_below HB_6.out hb7) (alloc_low _ _); have HV_m0_7 : Hid (Vr (w7.alloc (.cells #[.int .i64 (len2 : Int), .int .i64 (len2 : Int), .slice s7 m d7] 24)) w.heap.size (.int .i64 (ra : Int)) (.int .i64 (ca : Int)) (.slice a0 len0 cap0)) := (HV_m0_6.out.later hb7).later (alloc_low _ _); have HV_m1_7 : Hid (Vr (w7.alloc (.cells #[.int .i64 (len2 : Int), .int .i64 (len2 : Int), .slice s7 m d7] 24)) (w.heap.size + 1) (.int .i64 (ca : Int)) (.int .i64 (len2 : Int)) (.slice a1 len1 cap1)) := (HV_m1_6.out.later hb7).later (alloc_low _ _); have HV_p_7 : Hid (Vr (w7.alloc (.cells #[.int .i64 (len2 : Int), .int .i64 (len2 : Int), .slice s7 m d7] 24)) w1.heap.size (.int .i64 (ra : Int)) (.int .i64 (len2 : Int)) (.slice s1 n d1)) := (HV_p_6.out.later hb7).later (alloc_low _ _); have HM_m0_7 : Hid (Mt (w7.alloc (.cells #[.int .i64 (len2 : Int), .int .i64 (len2 : Int), .slice s7 m d7] 24)) a0 len0 cap0 F0) := (HM_m0_6.out.later hb7).later (alloc_low _ _); have HM_m1_7 : Hid (Mt (w7.alloc (.cells #[.int .i64 (len2 : Int), .int .i64 (len2 : Int), .slice s7 m d7] 24)) a1 len1 cap1 F1) := (HM_m1_6.out.later hb7).later (alloc_low _ _); have HM_m2_7 : Hid (Mt (w7.alloc (.cells #[.int .i64 (len2 : Int), .int .i64 (len2 : Int), .slice s7 m d7] 24)) a2 len2 cap2 F2) := (HM_m2_6.out.later hb7).later (alloc_low _ _); have HM_p_7 : Hid (Mt (w7.alloc (.cells #[.int .i64 (len2 : Int), .int .i64 (len2 : Int), .slice s7 m d7] 24)) s1 n d1 fp) := (HM_p_6.out.later hb7).later (alloc_low _ _); have HM_y_7 : Hid (Mt (w7.alloc (.cells #[.int .i64 (len2 : Int), .int .i64 (len2 : Int), .slice s7 m d7] 24)) s2 ca d2 fy) := (HM_y_6.out.later hb7).later (alloc_low _ _); have HM_z_7 : Hid (Mt (w7.alloc (.cells #[.int .i64 (len2 : Int), .int .i64 (len2 : Int), .slice s7 m d7] 24)) s5 ra d5 fz) := (HM_z_6.out.later hb7).later (alloc_low _ _); have HM_w_7 : Hid (Mt (w7.alloc (.cells #[.int .i64 (len2 : Int), .int .i64 (len2 : Int), .slice s7 m d7] 24)) s6 ra d6 fw) := (HM_w_6.out.later hb7).later (alloc_low _ _); have HV_id_7 : Hid (Vr (w7.alloc (.cells #[.int .i64 (len2 : Int), .int .i64 (len2 : Int), .slice s7 m d7] 24)) w7.heap.size (.int .i64 (len2 : Int)) (.int .i64 (len2 : Int)) (.slice s7 m d7)) := Vr.new w7 _ _ _; have HM_id_7 : Hid (Mt (w7.alloc (.cells #[.int .i64 (len2 : Int), .int .i64 (len2 : Int), .slice s7 m d7] 24)) s7 m d7 fi) := hs7.later (alloc_low _ _); have x_id_0_7 := HV_id_7.out.c0; have x_id_1_7 := HV_id_7.out.c1; have x_id_2_7 := HV_id_7.out.c2; clear HV_m0_6 HV_m1_6 HV_p_6 HM_m0_6 HM_m1_6 HM_m2_6 HM_p_6 HM_y_6 HM_z_6 HM_w_6 hb7 hs7)
            | (go_at_call 13; have _x := HB_5; refine (K4.out _ _ _ _ _ HM_p_5.out HM_m2_5.out).mono ?_; rintro e w6 ⟨s6, d6, rfl, hs6, hb6⟩; have HB_6 : Hid (Below w.heap.size w w6) := two_below HB_5.out hb6; have HV_m0_6 : Hid (Vr w6 w.heap.size (.int .i64 (ra : Int)) (.int .i64 (ca : Int)) (.slice a0 len0 cap0)) := HV_m0_5.out.later hb6; have HV_m1_6 : Hid (Vr w6 (w.heap.size + 1) (.int .i64 (ca : Int)) (.int .i64 (len2 : Int)) (.slice a1 len1 cap1)) := HV_m1_5.out.later hb6; have HV_p_6 : Hid (Vr w6 w1.heap.size (.int .i64 (ra : Int)) (.int .i64 (len2 : Int)) (.slice s1 n d1)) := HV_p_5.out.later hb6; have HM_m0_6 : Hid (Mt w6 a0 len0 cap0 F0) := HM_m0_5.out.later hb6; have HM_m1_6 : Hid (Mt w6 a1 len1 cap1 F1) := HM_m1_5.out.later hb6; have HM_m2_6 : Hid (Mt w6 a2 len2 cap2 F2) := HM_m2_5.out.later hb6; have HM_p_6 : Hid (Mt w6 s1 n d1 fp) := HM_p_5.out.later hb6; have HM_y_6 : Hid (Mt w6 s2 ca d2 fy) := HM_y_5.out.later hb6; have HM_z_6 : Hid (Mt w6 s5 ra d5 fz) := HM_z_5.out.later hb6; have HM_w_6 : Hid (Mt w6 s6 ra d6 fw) := hs6; clear HV_m0_5 HV_m1_5 HV_p_5 HM_m0_5 HM_m1_5 HM_m2_5 HM_p_5 HM_y_5 HM_z_5 hb6 hs6)
            | (go_at_call 13; have _x := HB_4; refine (K3.out _ _ _ _ _ HM_m0_4.out HM_y_4.out).mono ?_; rintro e w5 ⟨s5, d5, rfl, hs5, hb5⟩; have HB_5 : Hid (Below w.heap.size w w5) := two_below HB_4.out hb5; have HV_m0_5 : Hid (Vr w5 w.heap.size (.int .i64 (ra : Int)) (.int .i64 (ca : Int)) (.slice a0 len0 cap0)) := HV_m0_4.out.later hb5; have HV_m1_5 : Hid (Vr w5 (w.heap.size + 1) (.int .i64 (ca : Int)) (.int .i64 (len2 : Int)) (.slice a1 len1 cap1)) := HV_m1_4.out.later hb5; have HV_p_5 : Hid (Vr w5 w1.heap.size (.int .i64 (ra : Int)) (.int .i64 (len2 : Int)) (.slice s1 n d1)) := HV_p_4.out.later hb5; have HM_m0_5 : Hid (Mt w5 a0 len0 cap0 F0) := HM_m0_4.out.later hb5; have HM_m1_5 : Hid (Mt w5 a1 len1 cap1 F1) := HM_m1_4.out.later hb5; have HM_m2_5 : Hid (Mt w5 a2 len2 cap2 F2) := HM_m2_4.out.later hb5; have HM_p_5 : Hid (Mt w5 s1 n d1 fp) := HM_p_4.out.later hb5; have HM_y_5 : Hid (Mt w5 s2 ca d2 fy) := HM_y_4.out.later hb5; have HM_z_5 : Hid (Mt w5 s5 ra d5 fz) := hs5; have x_p_0_5 := HV_p_5.out.c0; have x_p_1_5 := HV_p_5.out.c1; have x_p_2_5 := HV_p_5.out.c2; clear HV_m0_4 HV_m1_4 HV_p_4 HM_m0_4 HM_m1_4 HM_m2_4 HM_p_4 HM_y_4 hb5 hs5)
            | (go_at_call 9; have _x := HB_3; refine (right_yes _ _ _ _ _ _ H1.out).mono ?_; rintro e w4 ⟨rfl, hb4⟩; have HB_4 : Hid (Below w.heap.size w w4) := two_below HB_3.out hb4; have HV_m0_4 : Hid (Vr w4 w.heap.size (.int .i64 (ra : Int)) (.int .i64 (ca : Int)) (.slice a0 len0 cap0)) := HV_m0_3.out.later hb4; have HV_m1_4 : Hid (Vr w4 (w.heap.size + 1) (.int .i64 (ca : Int)) (.int .i64 (len2 : Int)) (.slice a1 len1 cap1)) := HV_m1_3.out.later hb4; have HV_p_4 : Hid (Vr w4 w1.heap.size (.int .i64 (ra : Int)) (.int .i64 (len2 : Int)) (.slice s1 n d1)) := HV_p_3.out.later hb4; have HM_m0_4 : Hid (Mt w4 a0 len0 cap0 F0) := HM_m0_3.out.later hb4; have HM_m1_4 : Hid (Mt w4 a1 len1 cap1 F1) := HM_m1_3.out.later hb4; have HM_m2_4 : Hid (Mt w4 a2 len2 cap2 F2) := HM_m2_3.out.later hb4; have HM_p_4 : Hid (Mt w4 s1 n d1 fp) := HM_p_3.out.later hb4; have HM_y_4 : Hid (Mt w4 s2 ca d2 fy) := HM_y_3.out.later hb4; have x_m0_0_4 := HV_m0_4.out.c0; have x_m0_1_4 := HV_m0_4.out.c1; have x_m0_2_4 := HV_m0_4.out.c2; have x_m1_0_4 := HV_m1_4.out.c0; have x_m1_1_4 := HV_m1_4.out.c1; have x_m1_2_4 := HV_m1_4.out.c2; clear HV_m0_3 HV_m1_3 HV_p_3 HM_m0_3 HM_m1_3 HM_m2_3 HM_p_3 HM_y_3 hb4)
            | (go_at_call 9; have _x := HB_2; refine (right_yes _ _ _ _ _ _ H0.out).mono ?_; rintro e w3 ⟨rfl, hb3⟩; have HB_3 : Hid (Below w.heap.size w w3) := two_below HB_2.out hb3; have HV_m0_3 : Hid (Vr w3 w.heap.size (.int .i64 (ra : Int)) (.int .i64 (ca : Int)) (.slice a0 len0 cap0)) := HV_m0_2.out.later hb3; have HV_m1_3 : Hid (Vr w3 (w.heap.size + 1) (.int .i64 (ca : Int)) (.int .i64 (len2 : Int)) (.slice a1 len1 cap1)) := HV_m1_2.out.later hb3; have HV_p_3 : Hid (Vr w3 w1.heap.size (.int .i64 (ra : Int)) (.int .i64 (len2 : Int)) (.slice s1 n d1)) := HV_p_2.out.later hb3; have HM_m0_3 : Hid (Mt w3 a0 len0 cap0 F0) := HM_m0_2.out.later hb3; have HM_m1_3 : Hid (Mt w3 a1 len1 cap1 F1) := HM_m1_2.out.later hb3; have HM_m2_3 : Hid (Mt w3 a2 len2 cap2 F2) := HM_m2_2.out.later hb3; have HM_p_3 : Hid (Mt w3 s1 n d1 fp) := HM_p_2.out.later hb3; have HM_y_3 : Hid (Mt w3 s2 ca d2 fy) := HM_y_2.out.later hb3; have x_m1_0_3 := HV_m1_3.out.c0; have x_m1_1_3 := HV_m1_3.out.c1; have x_m1_2_3 := HV_m1_3.out.c2; clear HV_m0_2 HV_m1_2 HV_p_2 HM_m0_2 HM_m1_2 HM_m2_2 HM_p_2 HM_y_2 hb3)
            | (go_at_call 13; have _x := HB_1; refine (K2.out _ _ _ _ _ HM_m1_1.out HM_m2_1.out).mono ?_; rintro e w2 ⟨s2, d2, rfl, hs2, hb2⟩; have HB_2 : Hid (Below w.heap.size w w2) := two_below HB_1.out hb2; have HV_m0_2 : Hid (Vr w2 w.heap.size (.int .i64 (ra : Int)) (.int .i64 (ca : Int)) (.slice a0 len0 cap0)) := HV_m0_1.out.later hb2; have HV_m1_2 : Hid (Vr w2 (w.heap.size + 1) (.int .i64 (ca : Int)) (.int .i64 (len2 : Int)) (.slice a1 len1 cap1)) := HV_m1_1.out.later hb2; have HV_p_2 : Hid (Vr w2 w1.heap.size (.int .i64 (ra : Int)) (.int .i64 (len2 : Int)) (.slice s1 n d1)) := HV_p_1.out.later hb2; have HM_m0_2 : Hid (Mt w2 a0 len0 cap0 F0) := HM_m0_1.out.later hb2; have HM_m1_2 : Hid (Mt w2 a1 len1 cap1 F1) := HM_m1_1.out.later hb2; have HM_m2_2 : Hid (Mt w2 a2 len2 cap2 F2) := HM_m2_1.out.later hb2; have HM_p_2 : Hid (Mt w2 s1 n d1 fp) := HM_p_1.out.later hb2; have HM_y_2 : Hid (Mt w2 s2 ca d2 fy) := hs2; have x_m0_0_2 := HV_m0_2.out.c0; have x_m0_1_2 := HV_m0_2.out.c1; have x_m0_2_2 := HV_m0_2.out.c2; clear HV_m0_1 HV_m1_1 HV_p_1 HM_m0_1 HM_m1_1 HM_m2_1 HM_p_1 hb2 hs2)
            | (go_at_call 8; rw [← HW.out]; refine (K1.out _ _ _ _ _ HM_m0_0.out HM_m1_0.out).mono ?_; rintro e w1 ⟨s1, d1, rfl, hs1, hb1⟩; have HB_1 : Hid (Below w.heap.size w (w1.alloc (.cells #[.int .i64 (ra : Int), .int .i64 (len2 : Int), .slice s1 n d1] 24))) := two_below (two_below HB_0.out hb1) (alloc_low _ _); have HV_m0_1 : Hid (Vr (w1.alloc (.cells #[.int .i64 (ra : Int), .int .i64 (len2 : Int), .slice s1 n d1] 24)) w.heap.size (.int .i64 (ra : Int)) (.int .i64 (ca : Int)) (.slice a0 len0 cap0)) := (HV_m0_0.out.later hb1).later (alloc_low _ _); have HV_m1_1 : Hid (Vr (w1.alloc (.cells #[.int .i64 (ra : Int), .int .i64 (len2 : Int), .slice s1 n d1] 24)) (w.heap.size + 1) (.int .i64 (ca : Int)) (.int .i64 (len2 : Int)) (.slice a1 len1 cap1)) := (HV_m1_0.out.later hb1).later (alloc_low _ _); have HM_m0_1 : Hid (Mt (w1.alloc (.cells #[.int .i64 (ra : Int), .int .i64 (len2 : Int), .slice s1 n d1] 24)) a0 len0 cap0 F0) := (HM_m0_0.out.later hb1).later (alloc_low _ _); have HM_m1_1 : Hid (Mt (w1.alloc (.cells #[.int .i64 (ra : Int), .int .i64 (len2 : Int), .slice s1 n d1] 24)) a1 len1 cap1 F1) := (HM_m1_0.out.later hb1).later (alloc_low _ _); have HM_m2_1 : Hid (Mt (w1.alloc (.cells #[.int .i64 (ra : Int), .int .i64 (len2 : Int), .slice s1 n d1] 24)) a2 len2 cap2 F2) := (HM_m2_0.out.later hb1).later (alloc_low _ _); have HV_p_1 : Hid (Vr (w1.alloc (.cells #[.int .i64 (ra : Int), .int .i64 (len2 : Int), .slice s1 n d1] 24)) w1.heap.size (.int .i64 (ra : Int)) (.int .i64 (len2 : Int)) (.slice s1 n d1)) := Vr.new w1 _ _ _; have HM_p_1 : Hid (Mt (w1.alloc (.cells #[.int .i64 (ra : Int), .int .i64 (len2 : Int), .slice s1 n d1] 24)) s1 n d1 fp) := hs1.later (alloc_low _ _); have x_m1_0_1 := HV_m1_1.out.c0; have x_m1_1_1 := HV_m1_1.out.c1; have x_m1_2_1 := HV_m1_1.out.c2; clear HV_m0_0 HV_m1_0 HM_m0_0 HM_m1_0 HM_m2_0 hb1 hs1))
          go_ret
          exact ⟨rfl, HB_11.out⟩
        · have g1 : (c0 == r1) = true := by simpa using e1
          have g3 : (c0 != r1) = false := by simpa using e1
          have g2 : ((len2 : Int) == c1) = false := by simpa using e2
          have HX : Hid (¬ (RightP r1 c1 len1 ∧ (len2 : Int) = c1)) := fun x => e2 x.2
          obtain ⟨R1, C1, N1, f1, hF1⟩ := pmul_fit r0 c0 r1 c1 len0 len1 F0 F1 ⟨h0, h1, e1⟩
          clear h0 h1 e1 e2
          have HF1 := hid_of hF1
          clear hF1
          clear hM0 hM1 hM2
          obtain ⟨wb, HW⟩ : ∃ wb, Hid (wb = ((w.alloc (.cells #[.int .i64 r0, .int .i64 c0, .slice a0 len0 cap0] 24)).alloc (.cells #[.int .i64 r1, .int .i64 c1, .slice a1 len1 cap1] 24))) := ⟨_, rfl⟩
          have HV_m0_0 : Hid (Vr wb w.heap.size (.int .i64 r0) (.int .i64 c0) (.slice a0 len0 cap0)) := by show Vr _ _ _ _ _; rw [HW.out]; have := (Vr.new w (.int .i64 r0) (.int .i64 c0) (.slice a0 len0 cap0)).later (alloc_low _ (.cells #[.int .i64 r1, .int .i64 c1, .slice a1 len1 cap1] 24)); simpa using this
          have HV_m1_0 : Hid (Vr wb (w.heap.size + 1) (.int .i64 r1) (.int .i64 c1) (.slice a1 len1 cap1)) := by show Vr _ _ _ _ _; rw [HW.out]; have := Vr.new (w.alloc (.cells #[.int .i64 r0, .int .i64 c0, .slice a0 len0 cap0] 24)) (.int .i64 r1) (.int .i64 c1) (.slice a1 len1 cap1); simpa using this
          have HB_0 : Hid (Below w.heap.size w wb) := by rw [HW.out]; exact two_below (alloc_low _ _) (alloc_low _ _)
          have HM_m0_0 : Hid (Mt wb a0 len0 cap0 F0) := HM_m0.out.later HB_0.out
          have HM_m1_0 : Hid (Mt wb a1 len1 cap1 F1) := HM_m1.out.later HB_0.out
          have HM_m2_0 : Hid (Mt wb a2 len2 cap2 F2) := HM_m2.out.later HB_0.out
          clear HM_m0 HM_m1 HM_m2
          go_enter Try.func5, Try.ntmps5
          go_wp2_with (first
            | (go_at_call 10; have _x := HB_4; refine (anch_any _).mono ?_; rintro e w5 ⟨rfl, hb5⟩; have HB_5 : Hid (Below w.heap.size w w5) := two_below HB_4.out hb5; have HV_m0_5 : Hid (Vr w5 w.heap.size (.int .i64 r0) (.int .i64 c0) (.slice a0 len0 cap0)) := HV_m0_4.out.later hb5; have HV_m1_5 : Hid (Vr w5 (w.heap.size + 1) (.int .i64 r1) (.int .i64 c1) (.slice a1 len1 cap1)) := HV_m1_4.out.later hb5; have HV_p_5 : Hid (Vr w5 w1.heap.size (.int .i64 R1) (.int .i64 C1) (.slice s1 N1 d1)) := HV_p_4.out.later hb5; have HM_m0_5 : Hid (Mt w5 a0 len0 cap0 F0) := HM_m0_4.out.later hb5; have HM_m1_5 : Hid (Mt w5 a1 len1 cap1 F1) := HM_m1_4.out.later hb5; have HM_m2_5 : Hid (Mt w5 a2 len2 cap2 F2) := HM_m2_4.out.later hb5; have HM_p_5 : Hid (Mt w5 s1 N1 d1 f1) := HM_p_4.out.later hb5; have HM_y_5 : Hid (Mt w5 s2 0 d2 ((fun _ => 0))) := HM_y_4.out.later hb5; clear HV_m0_4 HV_m1_4 HV_p_4 HM_m0_4 HM_m1_4 HM_m2_4 HM_p_4 HM_y_4 hb5)
            | (go_at_call 9; have _x := HB_3; refine (right_yes _ _ _ _ _ _ H1.out).mono ?_; rintro e w4 ⟨rfl, hb4⟩; have HB_4 : Hid (Below w.heap.size w w4) := two_below HB_3.out hb4; have HV_m0_4 : Hid (Vr w4 w.heap.size (.int .i64 r0) (.int .i64 c0) (.slice a0 len0 cap0)) := HV_m0_3.out.later hb4; have HV_m1_4 : Hid (Vr w4 (w.heap.size + 1) (.int .i64 r1) (.int .i64 c1) (.slice a1 len1 cap1)) := HV_m1_3.out.later hb4; have HV_p_4 : Hid (Vr w4 w1.heap.size (.int .i64 R1) (.int .i64 C1) (.slice s1 N1 d1)) := HV_p_3.out.later hb4; have HM_m0_4 : Hid (Mt w4 a0 len0 cap0 F0) := HM_m0_3.out.later hb4; have HM_m1_4 : Hid (Mt w4 a1 len1 cap1 F1) := HM_m1_3.out.later hb4; have HM_m2_4 : Hid (Mt w4 a2 len2 cap2 F2) := HM_m2_3.out.later hb4; have HM_p_4 : Hid (Mt w4 s1 N1 d1 f1) := HM_p_3.out.later hb4; have HM_y_4 : Hid (Mt w4 s2 0 d2 ((fun _ => 0))) := HM_y_3.out.later hb4; have x_m0_0_4 := HV_m0_4.out.c0; have x_m0_1_4 := HV_m0_4.out.c1; have x_m0_2_4 := HV_m0_4.out.c2; have x_m1_0_4 := HV_m1_4.out.c0; have x_m1_1_4 := HV_m1_4.out.c1; have x_m1_2_4 := HV_m1_4.out.c2; clear HV_m0_3 HV_m1_3 HV_p_3 HM_m0_3 HM_m1_3 HM_m2_3 HM_p_3 HM_y_3 hb4)
            | (go_at_call 9; have _x := HB_2; refine (right_yes _ _ _ _ _ _ H0.out).mono ?_; rintro e w3 ⟨rfl, hb3⟩; have HB_3 : Hid (Below w.heap.size w w3) := two_below HB_2.out hb3; have HV_m0_3 : Hid (Vr w3 w.heap.size (.int .i64 r0) (.int .i64 c0) (.slice a0 len0 cap0)) := HV_m0_2.out.later hb3; have HV_m1_3 : Hid (Vr w3 (w.heap.size + 1) (.int .i64 r1) (.int .i64 c1) (.slice a1 len1 cap1)) := HV_m1_2.out.later hb3; have HV_p_3 : Hid (Vr w3 w1.heap.size (.int .i64 R1) (.int .i64 C1) (.slice s1 N1 d1)) := HV_p_2.out.later hb3; have HM_m0_3 : Hid (Mt w3 a0 len0 cap0 F0) := HM_m0_2.out.later hb3; have HM_m1_3 : Hid (Mt w3 a1 len1 cap1 F1) := HM_m1_2.out.later hb3; have HM_m2_3 : Hid (Mt w3 a2 len2 cap2 F2) := HM_m2_2.out.later hb3; have HM_p_3 : Hid (Mt w3 s1 N1 d1 f1) := HM_p_2.out.later hb3; have HM_y_3 : Hid (Mt w3 s2 0 d2 ((fun _ => 0))) := HM_y_2.out.later hb3; have x_m1_0_3 := HV_m1_3.out.c0; have x_m1_1_3 := HV_m1_3.out.c1; have x_m1_2_3 := HV_m1_3.out.c2; clear HV_m0_2 HV_m1_2 HV_p_2 HM_m0_2 HM_m1_2 HM_m2_2 HM_p_2 HM_y_2 hb3)
            | (go_at_call 13; have _x := HB_1; refine (papply_bad _ _ _ _ HX.out _ _ _ _ _).mono ?_; rintro e w2 ⟨s2, d2, rfl, hs2, hb2⟩; have HB_2 : Hid (Below w.heap.size w w2) := two_below HB_1.out hb2; have HV_m0_2 : Hid (Vr w2 w.heap.size (.int .i64 r0) (.int .i64 c0) (.slice a0 len0 cap0)) := HV_m0_1.out.later hb2; have HV_m1_2 : Hid (Vr w2 (w.heap.size + 1) (.int .i64 r1) (.int .i64 c1) (.slice a1 len1 cap1)) := HV_m1_1.out.later hb2; have HV_p_2 : Hid (Vr w2 w1.heap.size (.int .i64 R1) (.int .i64 C1) (.slice s1 N1 d1)) := HV_p_1.out.later hb2; have HM_m0_2 : Hid (Mt w2 a0 len0 cap0 F0) := HM_m0_1.out.later hb2; have HM_m1_2 : Hid (Mt w2 a1 len1 cap1 F1) := HM_m1_1.out.later hb2; have HM_m2_2 : Hid (Mt w2 a2 len2 cap2 F2) := HM_m2_1.out.later hb2; have HM_p_2 : Hid (Mt w2 s1 N1 d1 f1) := HM_p_1.out.later hb2; have HM_y_2 : Hid (Mt w2 s2 0 d2 ((fun _ => 0))) := hs2; have x_m0_0_2 := HV_m0_2.out.c0; have x_m0_1_2 := HV_m0_2.out.c1; have x_m0_2_2 := HV_m0_2.out.c2; clear HV_m0_1 HV_m1_1 HV_p_1 HM_m0_1 HM_m1_1 HM_m2_1 HM_p_1 hb2 hs2)
            | (go_at_call 8; rw [← HW.out]; refine (HF1.out _ _ _ _ _ HM_m0_0.out HM_m1_0.out).mono ?_; rintro e w1 ⟨s1, d1, rfl, hs1, hb1⟩; have HB_1 : Hid (Below w.heap.size w (w1.alloc (.cells #[.int .i64 R1, .int .i64 C1, .slice s1 N1 d1] 24))) := two_below (two_below HB_0.out hb1) (alloc_low _ _); have HV_m0_1 : Hid (Vr (w1.alloc (.cells #[.int .i64 R1, .int .i64 C1, .slice s1 N1 d1] 24)) w.heap.size (.int .i64 r0) (.int .i64 c0) (.slice a0 len0 cap0)) := (HV_m0_0.out.later hb1).later (alloc_low _ _); have HV_m1_1 : Hid (Vr (w1.alloc (.cells #[.int .i64 R1, .int .i64 C1, .slice s1 N1 d1] 24)) (w.heap.size + 1) (.int .i64 r1) (.int .i64 c1) (.slice a1 len1 cap1)) := (HV_m1_0.out.later hb1).later (alloc_low _ _); have HM_m0_1 : Hid (Mt (w1.alloc (.cells #[.int .i64 R1, .int .i64 C1, .slice s1 N1 d1] 24)) a0 len0 cap0 F0) := (HM_m0_0.out.later hb1).later (alloc_low _ _); have HM_m1_1 : Hid (Mt (w1.alloc (.cells #[.int .i64 R1, .int .i64 C1, .slice s1 N1 d1] 24)) a1 len1 cap1 F1) := (HM_m1_0.out.later hb1).later (alloc_low _ _); have HM_m2_1 : Hid (Mt (w1.alloc (.cells #[.int .i64 R1, .int .i64 C1, .slice s1 N1 d1] 24)) a2 len2 cap2 F2) := (HM_m2_0.out.later hb1).later (alloc_low _ _); have HV_p_1 : Hid (Vr (w1.alloc (.cells #[.int .i64 R1, .int .i64 C1, .slice s1 N1 d1] 24)) w1.heap.size (.int .i64 R1) (.int .i64 C1) (.slice s1 N1 d1)) := Vr.new w1 _ _ _; have HM_p_1 : Hid (Mt (w1.alloc (.cells #[.int .i64 R1, .int .i64 C1, .slice s1 N1 d1] 24)) s1 N1 d1 f1) := hs1.later (alloc_low _ _); have x_m1_0_1 := HV_m1_1.out.c0; have x_m1_1_1 := HV_m1_1.out.c1; have x_m1_2_1 := HV_m1_1.out.c2; clear HV_m0_0 HV_m1_0 HM_m0_0 HM_m1_0 HM_m2_0 hb1 hs1))
          go_ret
          exact ⟨rfl, HB_5.out⟩
      · have g1 : (c0 == r1) = false := by simpa using e1
        have HX : Hid (¬ FitP r0 c0 len0 r1 c1 len1) := fun x => e1 x.2.2
        clear h0 h1 e1
        obtain ⟨N2, f2, E2, hA2⟩ := papply_any r1 c1 len1 len2 F1 F2
        have HA2 := hid_of hA2
        clear hA2
        clear hM0 hM1 hM2
        obtain ⟨wb, HW⟩ : ∃ wb, Hid (wb = ((w.alloc (.cells #[.int .i64 r0, .int .i64 c0, .slice a0 len0 cap0] 24)).alloc (.cells #[.int .i64 r1, .int .i64 c1, .slice a1 len1 cap1] 24))) := ⟨_, rfl⟩
        have HV_m0_0 : Hid (Vr wb w.heap.size (.int .i64 r0) (.int .i64 c0) (.slice a0 len0 cap0)) := by show Vr _ _ _ _ _; rw [HW.out]; have := (Vr.new w (.int .i64 r0) (.int .i64 c0) (.slice a0 len0 cap0)).later (alloc_low _ (.cells #[.int .i64 r1, .int .i64 c1, .slice a1 len1 cap1] 24)); simpa using this
        have HV_m1_0 : Hid (Vr wb (w.heap.size + 1) (.int .i64 r1) (.int .i64 c1) (.slice a1 len1 cap1)) := by show Vr _ _ _ _ _; rw [HW.out]; have := Vr.new (w.alloc (.cells #[.int .i64 r0, .int .i64 c0, .slice a0 len0 cap0] 24)) (.int .i64 r1) (.int .i64 c1) (.slice a1 len1 cap1); simpa using this
        have HB_0 : Hid (Below w.heap.size w wb) := by rw [HW.out]; exact two_below (alloc_low _ _) (alloc_low _ _)
        have HM_m0_0 : Hid (Mt wb a0 len0 cap0 F0) := HM_m0.out.later HB_0.out
        have HM_m1_0 : Hid (Mt wb a1 len1 cap1 F1) := HM_m1.out.later HB_0.out
        have HM_m2_0 : Hid (Mt wb a2 len2 cap2 F2) := HM_m2.out.later HB_0.out
        clear HM_m0 HM_m1 HM_m2
        go_enter Try.func5, Try.ntmps5
        go_wp2_with (first
          | (go_at_call 10; have _x := HB_4; refine (anch_any _).mono ?_; rintro e w5 ⟨rfl, hb5⟩; have HB_5 : Hid (Below w.heap.size w w5) := two_below HB_4.out hb5; have HV_m0_5 : Hid (Vr w5 w.heap.size (.int .i64 r0) (.int .i64 c0) (.slice a0 len0 cap0)) := HV_m0_4.out.later hb5; have HV_m1_5 : Hid (Vr w5 (w.heap.size + 1) (.int .i64 r1) (.int .i64 c1) (.slice a1 len1 cap1)) := HV_m1_4.out.later hb5; have HV_p_5 : Hid (Vr w5 w1.heap.size (.int .i64 0) (.int .i64 0) (.slice s1 0 d1)) := HV_p_4.out.later hb5; have HM_m0_5 : Hid (Mt w5 a0 len0 cap0 F0) := HM_m0_4.out.later hb5; have HM_m1_5 : Hid (Mt w5 a1 len1 cap1 F1) := HM_m1_4.out.later hb5; have HM_m2_5 : Hid (Mt w5 a2 len2 cap2 F2) := HM_m2_4.out.later hb5; have HM_p_5 : Hid (Mt w5 s1 0 d1 ((fun _ => 0))) := HM_p_4.out.later hb5; have HM_y_5 : Hid (Mt w5 s2 N2 d2 f2) := HM_y_4.out.later hb5; clear HV_m0_4 HV_m1_4 HV_p_4 HM_m0_4 HM_m1_4 HM_m2_4 HM_p_4 HM_y_4 hb5)
          | (go_at_call 9; have _x := HB_3; refine (right_yes _ _ _ _ _ _ H1.out).mono ?_; rintro e w4 ⟨rfl, hb4⟩; have HB_4 : Hid (Below w.heap.size w w4) := two_below HB_3.out hb4; have HV_m0_4 : Hid (Vr w4 w.heap.size (.int .i64 r0) (.int .i64 c0) (.slice a0 len0 cap0)) := HV_m0_3.out.later hb4; have HV_m1_4 : Hid (Vr w4 (w.heap.size + 1) (.int .i64 r1) (.int .i64 c1) (.slice a1 len1 cap1)) := HV_m1_3.out.later hb4; have HV_p_4 : Hid (Vr w4 w1.heap.size (.int .i64 0) (.int .i64 0) (.slice s1 0 d1)) := HV_p_3.out.later hb4; have HM_m0_4 : Hid (Mt w4 a0 len0 cap0 F0) := HM_m0_3.out.later hb4; have HM_m1_4 : Hid (Mt w4 a1 len1 cap1 F1) := HM_m1_3.out.later hb4; have HM_m2_4 : Hid (Mt w4 a2 len2 cap2 F2) := HM_m2_3.out.later hb4; have HM_p_4 : Hid (Mt w4 s1 0 d1 ((fun _ => 0))) := HM_p_3.out.later hb4; have HM_y_4 : Hid (Mt w4 s2 N2 d2 f2) := HM_y_3.out.later hb4; have x_m0_0_4 := HV_m0_4.out.c0; have x_m0_1_4 := HV_m0_4.out.c1; have x_m0_2_4 := HV_m0_4.out.c2; have x_m1_0_4 := HV_m1_4.out.c0; have x_m1_1_4 := HV_m1_4.out.c1; have x_m1_2_4 := HV_m1_4.out.c2; clear HV_m0_3 HV_m1_3 HV_p_3 HM_m0_3 HM_m1_3 HM_m2_3 HM_p_3 HM_y_3 hb4)
          | (go_at_call 9; have _x := HB_2; refine (right_yes _ _ _ _ _ _ H0.out).mono ?_; rintro e w3 ⟨rfl, hb3⟩; have HB_3 : Hid (Below w.heap.size w w3) := two_below HB_2.out hb3; have HV_m0_3 : Hid (Vr w3 w.heap.size (.int .i64 r0) (.int .i64 c0) (.slice a0 len0 cap0)) := HV_m0_2.out.later hb3; have HV_m1_3 : Hid (Vr w3 (w.heap.size + 1) (.int .i64 r1) (.int .i64 c1) (.slice a1 len1 cap1)) := HV_m1_2.out.later hb3; have HV_p_3 : Hid (Vr w3 w1.heap.size (.int .i64 0) (.int .i64 0) (.slice s1 0 d1)) := HV_p_2.out.later hb3; have HM_m0_3 : Hid (Mt w3 a0 len0 cap0 F0) := HM_m0_2.out.later hb3; have HM_m1_3 : Hid (Mt w3 a1 len1 cap1 F1) := HM_m1_2.out.later hb3; have HM_m2_3 : Hid (Mt w3 a2 len2 cap2 F2) := HM_m2_2.out.later hb3; have HM_p_3 : Hid (Mt w3 s1 0 d1 ((fun _ => 0))) := HM_p_2.out.later hb3; have HM_y_3 : Hid (Mt w3 s2 N2 d2 f2) := HM_y_2.out.later hb3; have x_m1_0_3 := HV_m1_3.out.c0; have x_m1_1_3 := HV_m1_3.out.c1; have x_m1_2_3 := HV_m1_3.out.c2; clear HV_m0_2 HV_m1_2 HV_p_2 HM_m0_2 HM_m1_2 HM_m2_2 HM_p_2 HM_y_2 hb3)
          | (go_at_call 13; have _x := HB_1; refine (HA2.out _ _ _ _ _ HM_m1_1.out HM_m2_1.out).mono ?_; rintro e w2 ⟨s2, d2, rfl, hs2, hb2⟩; have HB_2 : Hid (Below w.heap.size w w2) := two_below HB_1.out hb2; have HV_m0_2 : Hid (Vr w2 w.heap.size (.int .i64 r0) (.int .i64 c0) (.slice a0 len0 cap0)) := HV_m0_1.out.later hb2; have HV_m1_2 : Hid (Vr w2 (w.heap.size + 1) (.int .i64 r1) (.int .i64 c1) (.slice a1 len1 cap1)) := HV_m1_1.out.later hb2; have HV_p_2 : Hid (Vr w2 w1.heap.size (.int .i64 0) (.int .i64 0) (.slice s1 0 d1)) := HV_p_1.out.later hb2; have HM_m0_2 : Hid (Mt w2 a0 len0 cap0 F0) := HM_m0_1.out.later hb2; have HM_m1_2 : Hid (Mt w2 a1 len1 cap1 F1) := HM_m1_1.out.later hb2; have HM_m2_2 : Hid (Mt w2 a2 len2 cap2 F2) := HM_m2_1.out.later hb2; have HM_p_2 : Hid (Mt w2 s1 0 d1 ((fun _ => 0))) := HM_p_1.out.later hb2; have HM_y_2 : Hid (Mt w2 s2 N2 d2 f2) := hs2; have x_m0_0_2 := HV_m0_2.out.c0; have x_m0_1_2 := HV_m0_2.out.c1; have x_m0_2_2 := HV_m0_2.out.c2; clear HV_m0_1 HV_m1_1 HV_p_1 HM_m0_1 HM_m1_1 HM_m2_1 HM_p_1 hb2 hs2)
          | (go_at_call 8; rw [← HW.out]; refine (pmul_bad _ _ _ _ _ _ HX.out _ _ _ _ _).mono ?_; rintro e w1 ⟨s1, d1, rfl, hs1, hb1⟩; have HB_1 : Hid (Below w.heap.size w (w1.alloc (.cells #[.int .i64 0, .int .i64 0, .slice s1 0 d1] 24))) := two_below (two_below HB_0.out hb1) (alloc_low _ _); have HV_m0_1 : Hid (Vr (w1.alloc (.cells #[.int .i64 0, .int .i64 0, .slice s1 0 d1] 24)) w.heap.size (.int .i64 r0) (.int .i64 c0) (.slice a0 len0 cap0)) := (HV_m0_0.out.later hb1).later (alloc_low _ _); have HV_m1_1 : Hid (Vr (w1.alloc (.cells #[.int .i64 0, .int .i64 0, .slice s1 0 d1] 24)) (w.heap.size + 1) (.int .i64 r1) (.int .i64 c1) (.slice a1 len1 cap1)) := (HV_m1_0.out.later hb1).later (alloc_low _ _); have HM_m0_1 : Hid (Mt (w1.alloc (.cells #[.int .i64 0, .int .i64 0, .slice s1 0 d1] 24)) a0 len0 cap0 F0) := (HM_m0_0.out.later hb1).later (alloc_low _ _); have HM_m1_1 : Hid (Mt (w1.alloc (.cells #[.int .i64 0, .int .i64 0, .slice s1 0 d1] 24)) a1 len1 cap1 F1) := (HM_m1_0.out.later hb1).later (alloc_low _ _); have HM_m2_1 : Hid (Mt (w1.alloc (.cells #[.int .i64 0, .int .i64 0, .slice s1 0 d1] 24)) a2 len2 cap2 F2) := (HM_m2_0.out.later hb1).later (alloc_low _ _); have HV_p_1 : Hid (Vr (w1.alloc (.cells #[.int .i64 0, .int .i64 0, .slice s1 0 d1] 24)) w1.heap.size (.int .i64 0) (.int .i64 0) (.slice s1 0 d1)) := Vr.new w1 _ _ _; have HM_p_1 : Hid (Mt (w1.alloc (.cells #[.int .i64 0, .int .i64 0, .slice s1 0 d1] 24)) s1 0 d1 ((fun _ => 0))) := hs1.later (alloc_low _ _); have x_m1_0_1 := HV_m1_1.out.c0; have x_m1_1_1 := HV_m1_1.out.c1; have x_m1_2_1 := HV_m1_1.out.c2; clear HV_m0_0 HV_m1_0 HM_m0_0 HM_m1_0 HM_m2_0 hb1 hs1))
        go_ret
        exact ⟨rfl, HB_5.out⟩
    · have H1 : Hid (¬ RightP r1 c1 len1) := h1
      have HX : Hid (¬ FitP r0 c0 len0 r1 c1 len1) := fun x => h1 x.2.1
      clear h0 h1
      obtain ⟨N2, f2, E2, hA2⟩ := papply_any r1 c1 len1 len2 F1 F2
      have HA2 := hid_of hA2
      clear hA2
      clear hM0 hM1 hM2
      obtain ⟨wb, HW⟩ : ∃ wb, Hid (wb = ((w.alloc (.cells #[.int .i64 r0, .int .i64 c0, .slice a0 len0 cap0] 24)).alloc (.cells #[.int .i64 r1, .int .i64 c1, .slice a1 len1 cap1] 24))) := ⟨_, rfl⟩
      have HV_m0_0 : Hid (Vr wb w.heap.size (.int .i64 r0) (.int .i64 c0) (.slice a0 len0 cap0)) := by show Vr _ _ _ _ _; rw [HW.out]; have := (Vr.new w (.int .i64 r0) (.int .i64 c0) (.slice a0 len0 cap0)).later (alloc_low _ (.cells #[.int .i64 r1, .int .i64 c1, .slice a1 len1 cap1] 24)); simpa using this
      have HV_m1_0 : Hid (Vr wb (w.heap.size + 1) (.int .i64 r1) (.int .i64 c1) (.slice a1 len1 cap1)) := by show Vr _ _ _ _ _; rw [HW.out]; have := Vr.new (w.alloc (.cells #[.int .i64 r0, .int .i64 c0, .slice a0 len0 cap0] 24)) (.int .i64 r1) (.int .i64 c1) (.slice a1 len1 cap1); simpa using this
      have HB_0 : Hid (Below w.heap.size w wb) := by rw [HW.out]; exact two_below (alloc_low _ _) (alloc_low _ _)
      have HM_m0_0 : Hid (Mt wb a0 len0 cap0 F0) := HM_m0.out.later HB_0.out
      have HM_m1_0 : Hid (Mt wb a1 len1 cap1 F1) := HM_m1.out.later HB_0.out
      have HM_m2_0 : Hid (Mt wb a2 len2 cap2 F2) := HM_m2.out.later HB_0.out
      clear HM_m0 HM_m1 HM_m2
      go_enter Try.func5, Try.ntmps5
      go_wp2_with (first
        | (go_at_call 10; have _x := HB_4; refine (anch_any _).mono ?_; rintro e w5 ⟨rfl, hb5⟩; have HB_5 : Hid (Below w.heap.size w w5) := two_below HB_4.out hb5; have HV_m0_5 : Hid (Vr w5 w.heap.size (.int .i64 r0) (.int .i64 c0) (.slice a0 len0 cap0)) := HV_m0_4.out.later hb5; have HV_m1_5 : Hid (Vr w5 (w.heap.size + 1) (.int .i64 r1) (.int .i64 c1) (.slice a1 len1 cap1)) := HV_m1_4.out.later hb5; have HV_p_5 : Hid (Vr w5 w1.heap.size (.int .i64 0) (.int .i64 0) (.slice s1 0 d1)) := HV_p_4.out.later hb5; have HM_m0_5 : Hid (Mt w5 a0 len0 cap0 F0) := HM_m0_4.out.later hb5; have HM_m1_5 : Hid (Mt w5 a1 len1 cap1 F1) := HM_m1_4.out.later hb5; have HM_m2_5 : Hid (Mt w5 a2 len2 cap2 F2) := HM_m2_4.out.later hb5; have HM_p_5 : Hid (Mt w5 s1 0 d1 ((fun _ => 0))) := HM_p_4.out.later hb5; have HM_y_5 : Hid (Mt w5 s2 N2 d2 f2) := HM_y_4.out.later hb5; clear HV_m0_4 HV_m1_4 HV_p_4 HM_m0_4 HM_m1_4 HM_m2_4 HM_p_4 HM_y_4 hb5)
        | (go_at_call 9; have _x := HB_3; refine (right_no _ _ _ _ _ _ H1.out).mono ?_; rintro e w4 ⟨rfl, hb4⟩; have HB_4 : Hid (Below w.heap.size w w4) := two_below HB_3.out hb4; have HV_m0_4 : Hid (Vr w4 w.heap.size (.int .i64 r0) (.int .i64 c0) (.slice a0 len0 cap0)) := HV_m0_3.out.later hb4; have HV_m1_4 : Hid (Vr w4 (w.heap.size + 1) (.int .i64 r1) (.int .i64 c1) (.slice a1 len1 cap1)) := HV_m1_3.out.later hb4; have HV_p_4 : Hid (Vr w4 w1.heap.size (.int .i64 0) (.int .i64 0) (.slice s1 0 d1)) := HV_p_3.out.later hb4; have HM_m0_4 : Hid (Mt w4 a0 len0 cap0 F0) := HM_m0_3.out.later hb4; have HM_m1_4 : Hid (Mt w4 a1 len1 cap1 F1) := HM_m1_3.out.later hb4; have HM_m2_4 : Hid (Mt w4 a2 len2 cap2 F2) := HM_m2_3.out.later hb4; have HM_p_4 : Hid (Mt w4 s1 0 d1 ((fun _ => 0))) := HM_p_3.out.later hb4; have HM_y_4 : Hid (Mt w4 s2 N2 d2 f2) := HM_y_3.out.later hb4; clear HV_m0_3 HV_m1_3 HV_p_3 HM_m0_3 HM_m1_3 HM_m2_3 HM_p_3 HM_y_3 hb4)
        | (go_at_call 9; have _x := HB_2; refine (right_yes _ _ _ _ _ _ H0.out).mono ?_; rintro e w3 ⟨rfl, hb3⟩; have HB_3 : Hid (Below w.heap.size w w3) := two_below HB_2.out hb3; have HV_m0_3 : Hid (Vr w3 w.heap.size (.int .i64 r0) (.int .i64 c0) (.slice a0 len0 cap0)) := HV_m0_2.out.later hb3; have HV_m1_3 : Hid (Vr w3 (w.heap.size + 1) (.int .i64 r1) (.int .i64 c1) (.slice a1 len1 cap1)) := HV_m1_2.out.later hb3; have HV_p_3 : Hid (Vr w3 w1.heap.size (.int .i64 0) (.int .i64 0) (.slice s1 0 d1)) := HV_p_2.out.later hb3; have HM_m0_3 : Hid (Mt w3 a0 len0 cap0 F0) := HM_m0_2.out.later hb3; have HM_m1_3 : Hid (Mt w3 a1 len1 cap1 F1) := HM_m1_2.out.later hb3; have HM_m2_3 : Hid (Mt w3 a2 len2 cap2 F2) := HM_m2_2.out.later hb3; have HM_p_3 : Hid (Mt w3 s1 0 d1 ((fun _ => 0))) := HM_p_2.out.later hb3; have HM_y_3 : Hid (Mt w3 s2 N2 d2 f2) := HM_y_2.out.later hb3; have x_m1_0_3 := HV_m1_3.out.c0; have x_m1_1_3 := HV_m1_3.out.c1; have x_m1_2_3 := HV_m1_3.out.c2; clear HV_m0_2 HV_m1_2 HV_p_2 HM_m0_2 HM_m1_2 HM_m2_2 HM_p_2 HM_y_2 hb3)
        | (go_at_call 13; have _x := HB_1; refine (HA2.out _ _ _ _ _ HM_m1_1.out HM_m2_1.out).mono ?_; rintro e w2 ⟨s2, d2, rfl, hs2, hb2⟩; have HB_2 : Hid (Below w.heap.size w w2) := two_below HB_1.out hb2; have HV_m0_2 : Hid (Vr w2 w.heap.size (.int .i64 r0) (.int .i64 c0) (.slice a0 len0 cap0)) := HV_m0_1.out.later hb2; have HV_m1_2 : Hid (Vr w2 (w.heap.size + 1) (.int .i64 r1) (.int .i64 c1) (.slice a1 len1 cap1)) := HV_m1_1.out.later hb2; have HV_p_2 : Hid (Vr w2 w1.heap.size (.int .i64 0) (.int .i64 0) (.slice s1 0 d1)) := HV_p_1.out.later hb2; have HM_m0_2 : Hid (Mt w2 a0 len0 cap0 F0) := HM_m0_1.out.later hb2; have HM_m1_2 : Hid (Mt w2 a1 len1 cap1 F1) := HM_m1_1.out.later hb2; have HM_m2_2 : Hid (Mt w2 a2 len2 cap2 F2) := HM_m2_1.out.later hb2; have HM_p_2 : Hid (Mt w2 s1 0 d1 ((fun _ => 0))) := HM_p_1.out.later hb2; have HM_y_2 : Hid (Mt w2 s2 N2 d2 f2) := hs2; have x_m0_0_2 := HV_m0_2.out.c0; have x_m0_1_2 := HV_m0_2.out.c1; have x_m0_2_2 := HV_m0_2.out.c2; clear HV_m0_1 HV_m1_1 HV_p_1 HM_m0_1 HM_m1_1 HM_m2_1 HM_p_1 hb2 hs2)
        | (go_at_call 8; rw [← HW.out]; refine (pmul_bad _ _ _ _ _ _ HX.out _ _ _ _ _).mono ?_; rintro e w1 ⟨s1, d1, rfl, hs1, hb1⟩; have HB_1 : Hid (Below w.heap.size w (w1.alloc (.cells #[.int .i64 0, .int .i64 0, .slice s1 0 d1] 24))) := two_below (two_below HB_0.out hb1) (alloc_low _ _); have HV_m0_1 : Hid (Vr (w1.alloc (.cells #[.int .i64 0, .int .i64 0, .slice s1 0 d1] 24)) w.heap.size (.int .i64 r0) (.int .i64 c0) (.slice a0 len0 cap0)) := (HV_m0_0.out.later hb1).later (alloc_low _ _); have HV_m1_1 : Hid (Vr (w1.alloc (.cells #[.int .i64 0, .int .i64 0, .slice s1 0 d1] 24)) (w.heap.size + 1) (.int .i64 r1) (.int .i64 c1) (.slice a1 len1 cap1)) := (HV_m1_0.out.later hb1).later (alloc_low _ _); have HM_m0_1 : Hid (Mt (w1.alloc (.cells #[.int .i64 0, .int .i64 0, .slice s1 0 d1] 24)) a0 len0 cap0 F0) := (HM_m0_0.out.later hb1).later (alloc_low _ _); have HM_m1_1 : Hid (Mt (w1.alloc (.cells #[.int .i64 0, .int .i64 0, .slice s1 0 d1] 24)) a1 len1 cap1 F1) := (HM_m1_0.out.later hb1).later (alloc_low _ _); have HM_m2_1 : Hid (Mt (w1.alloc (.cells #[.int .i64 0, .int .i64 0, .slice s1 0 d1] 24)) a2 len2 cap2 F2) := (HM_m2_0.out.later hb1).later (alloc_low _ _); have HV_p_1 : Hid (Vr (w1.alloc (.cells #[.int .i64 0, .int .i64 0, .slice s1 0 d1] 24)) w1.heap.size (.int .i64 0) (.int .i64 0) (.slice s1 0 d1)) := Vr.new w1 _ _ _; have HM_p_1 : Hid (Mt (w1.alloc (.cells #[.int .i64 0, .int .i64 0, .slice s1 0 d1] 24)) s1 0 d1 ((fun _ => 0))) := hs1.later (alloc_low _ _); have x_m1_0_1 := HV_m1_1.out.c0; have x_m1_1_1 := HV_m1_1.out.c1; have x_m1_2_1 := HV_m1_1.out.c2; clear HV_m0_0 HV_m1_0 HM_m0_0 HM_m1_0 HM_m2_0 hb1 hs1))
      go_ret
      exact ⟨rfl, HB_5.out⟩
  · have H0 : Hid (¬ RightP r0 c0 len0) := h0
    have HX : Hid (¬ FitP r0 c0 len0 r1 c1 len1) := fun x => h0 x.1
    clear h0
    obtain ⟨N2, f2, E2, hA2⟩ := papply_any r1 c1 len1 len2 F1 F2
    have HA2 := hid_of hA2
    clear hA2
    clear hM0 hM1 hM2
    obtain ⟨wb, HW⟩ : ∃ wb, Hid (wb = ((w.alloc (.cells #[.int .i64 r0, .int .i64 c0, .slice a0 len0 cap0] 24)).alloc (.cells #[.int .i64 r1, .int .i64 c1, .slice a1 len1 cap1] 24))) := ⟨_, rfl⟩
    have HV_m0_0 : Hid (Vr wb w.heap.size (.int .i64 r0) (.int .i64 c0) (.slice a0 len0 cap0)) := by show Vr _ _ _ _ _; rw [HW.out]; have := (Vr.new w (.int .i64 r0) (.int .i64 c0) (.slice a0 len0 cap0)).later (alloc_low _ (.cells #[.int .i64 r1, .int .i64 c1, .slice a1 len1 cap1] 24)); simpa using this
    have HV_m1_0 : Hid (Vr wb (w.heap.size + 1) (.int .i64 r1) (.int .i64 c1) (.slice a1 len1 cap1)) := by show Vr _ _ _ _ _; rw [HW.out]; have := Vr.new (w.alloc (.cells #[.int .i64 r0, .int .i64 c0, .slice a0 len0 cap0] 24)) (.int .i64 r1) (.int .i64 c1) (.slice a1 len1 cap1); simpa using this
    have HB_0 : Hid (Below w.heap.size w wb) := by rw [HW.out]; exact two_below (alloc_low _ _) (alloc_low _ _)
    have HM_m0_0 : Hid (Mt wb a0 len0 cap0 F0) := HM_m0.out.later HB_0.out
    have HM_m1_0 : Hid (Mt wb a1 len1 cap1 F1) := HM_m1.out.later HB_0.out
    have HM_m2_0 : Hid (Mt wb a2 len2 cap2 F2) := HM_m2.out.later HB_0.out
    clear HM_m0 HM_m1 HM_m2
    go_enter Try.func5, Try.ntmps5
    go_wp2_with (first
      | (go_at_call 10; have _x := HB_3; refine (anch_any _).mono ?_; rintro e w4 ⟨rfl, hb4⟩; have HB_4 : Hid (Below w.heap.size w w4) := two_below HB_3.out hb4; have HV_m0_4 : Hid (Vr w4 w.heap.size (.int .i64 r0) (.int .i64 c0) (.slice a0 len0 cap0)) := HV_m0_3.out.later hb4; have HV_m1_4 : Hid (Vr w4 (w.heap.size + 1) (.int .i64 r1) (.int .i64 c1) (.slice a1 len1 cap1)) := HV_m1_3.out.later hb4; have HV_p_4 : Hid (Vr w4 w1.heap.size (.int .i64 0) (.int .i64 0) (.slice s1 0 d1)) := HV_p_3.out.later hb4; have HM_m0_4 : Hid (Mt w4 a0 len0 cap0 F0) := HM_m0_3.out.later hb4; have HM_m1_4 : Hid (Mt w4 a1 len1 cap1 F1) := HM_m1_3.out.later hb4; have HM_m2_4 : Hid (Mt w4 a2 len2 cap2 F2) := HM_m2_3.out.later hb4; have HM_p_4 : Hid (Mt w4 s1 0 d1 ((fun _ => 0))) := HM_p_3.out.later hb4; have HM_y_4 : Hid (Mt w4 s2 N2 d2 f2) := HM_y_3.out.later hb4; clear HV_m0_3 HV_m1_3 HV_p_3 HM_m0_3 HM_m1_3 HM_m2_3 HM_p_3 HM_y_3 hb4)
      | (go_at_call 9; have _x := HB_2; refine (right_no _ _ _ _ _ _ H0.out).mono ?_; rintro e w3 ⟨rfl, hb3⟩; have HB_3 : Hid (Below w.heap.size w w3) := two_below HB_2.out hb3; have HV_m0_3 : Hid (Vr w3 w.heap.size (.int .i64 r0) (.int .i64 c0) (.slice a0 len0 cap0)) := HV_m0_2.out.later hb3; have HV_m1_3 : Hid (Vr w3 (w.heap.size + 1) (.int .i64 r1) (.int .i64 c1) (.slice a1 len1 cap1)) := HV_m1_2.out.later hb3; have HV_p_3 : Hid (Vr w3 w1.heap.size (.int .i64 0) (.int .i64 0) (.slice s1 0 d1)) := HV_p_2.out.later hb3; have HM_m0_3 : Hid (Mt w3 a0 len0 cap0 F0) := HM_m0_2.out.later hb3; have HM_m1_3 : Hid (Mt w3 a1 len1 cap1 F1) := HM_m1_2.out.later hb3; have HM_m2_3 : Hid (Mt w3 a2 len2 cap2 F2) := HM_m2_2.out.later hb3; have HM_p_3 : Hid (Mt w3 s1 0 d1 ((fun _ => 0))) := HM_p_2.out.later hb3; have HM_y_3 : Hid (Mt w3 s2 N2 d2 f2) := HM_y_2.out.later hb3; clear HV_m0_2 HV_m1_2 HV_p_2 HM_m0_2 HM_m1_2 HM_m2_2 HM_p_2 HM_y_2 hb3)
      | (go_at_call 13; have _x := HB_1; refine (HA2.out _ _ _ _ _ HM_m1_1.out HM_m2_1.out).mono ?_; rintro e w2 ⟨s2, d2, rfl, hs2, hb2⟩; have HB_2 : Hid (Below w.heap.size w w2) := two_below HB_1.out hb2; have HV_m0_2 : Hid (Vr w2 w.heap.size (.int .i64 r0) (.int .i64 c0) (.slice a0 len0 cap0)) := HV_m0_1.out.later hb2; have HV_m1_2 : Hid (Vr w2 (w.heap.size + 1) (.int .i64 r1) (.int .i64 c1) (.slice a1 len1 cap1)) := HV_m1_1.out.later hb2; have HV_p_2 : Hid (Vr w2 w1.heap.size (.int .i64 0) (.int .i64 0) (.slice s1 0 d1)) := HV_p_1.out.later hb2; have HM_m0_2 : Hid (Mt w2 a0 len0 cap0 F0) := HM_m0_1.out.later hb2; have HM_m1_2 : Hid (Mt w2 a1 len1 cap1 F1) := HM_m1_1.out.later hb2; have HM_m2_2 : Hid (Mt w2 a2 len2 cap2 F2) := HM_m2_1.out.later hb2; have HM_p_2 : Hid (Mt w2 s1 0 d1 ((fun _ => 0))) := HM_p_1.out.later hb2; have HM_y_2 : Hid (Mt w2 s2 N2 d2 f2) := hs2; have x_m0_0_2 := HV_m0_2.out.c0; have x_m0_1_2 := HV_m0_2.out.c1; have x_m0_2_2 := HV_m0_2.out.c2; clear HV_m0_1 HV_m1_1 HV_p_1 HM_m0_1 HM_m1_1 HM_m2_1 HM_p_1 hb2 hs2)
      | (go_at_call 8; rw [← HW.out]; refine (pmul_bad _ _ _ _ _ _ HX.out _ _ _ _ _).mono ?_; rintro e w1 ⟨s1, d1, rfl, hs1, hb1⟩; have HB_1 : Hid (Below w.heap.size w (w1.alloc (.cells #[.int .i64 0, .int .i64 0, .slice s1 0 d1] 24))) := two_below (two_below HB_0.out hb1) (alloc_low _ _); have HV_m0_1 : Hid (Vr (w1.alloc (.cells #[.int .i64 0, .int .i64 0, .slice s1 0 d1] 24)) w.heap.size (.int .i64 r0) (.int .i64 c0) (.slice a0 len0 cap0)) := (HV_m0_0.out.later hb1).later (alloc_low _ _); have HV_m1_1 : Hid (Vr (w1.alloc (.cells #[.int .i64 0, .int .i64 0, .slice s1 0 d1] 24)) (w.heap.size + 1) (.int .i64 r1) (.int .i64 c1) (.slice a1 len1 cap1)) := (HV_m1_0.out.later hb1).later (alloc_low _ _); have HM_m0_1 : Hid (Mt (w1.alloc (.cells #[.int .i64 0, .int .i64 0, .slice s1 0 d1] 24)) a0 len0 cap0 F0) := (HM_m0_0.out.later hb1).later (alloc_low _ _); have HM_m1_1 : Hid (Mt (w1.alloc (.cells #[.int .i64 0, .int .i64 0, .slice s1 0 d1] 24)) a1 len1 cap1 F1) := (HM_m1_0.out.later hb1).later (alloc_low _ _); have HM_m2_1 : Hid (Mt (w1.alloc (.cells #[.int .i64 0, .int .i64 0, .slice s1 0 d1] 24)) a2 len2 cap2 F2) := (HM_m2_0.out.later hb1).later (alloc_low _ _); have HV_p_1 : Hid (Vr (w1.alloc (.cells #[.int .i64 0, .int .i64 0, .slice s1 0 d1] 24)) w1.heap.size (.int .i64 0) (.int .i64 0) (.slice s1 0 d1)) := Vr.new w1 _ _ _; have HM_p_1 : Hid (Mt (w1.alloc (.cells #[.int .i64 0, .int .i64 0, .slice s1 0 d1] 24)) s1 0 d1 ((fun _ => 0))) := hs1.later (alloc_low _ _); have x_m1_0_1 := HV_m1_1.out.c0; have x_m1_1_1 := HV_m1_1.out.c1; have x_m1_2_1 := HV_m1_1.out.c2; clear HV_m0_0 HV_m1_0 HM_m0_0 HM_m1_0 HM_m2_0 hb1 hs1))
    go_ret
    exact ⟨rfl, HB_4.out⟩
set_option maxRecDepth 100000 in
set_option maxHeartbeats 2000000 in
theorem lifted (os : Os) (started : os.Started) (H : Type) (enc : TypeId × Value → H) :
    ReturnsInHanded {} Try.checked os 5 .any (Rows.matrixAppliesSpec.pre6 enc Try.prog Try.f5 Rows.matrixAppliesRow.domain false) (Rows.matrixAppliesSpec.post enc Try.prog Try.f5 false true false false) := by
  refine returnsInHanded_of_change_sized (C := Try.checked) own started (by kernel_rfl) Try.func5
    (ChangeSpec.witness6 (enc := enc) (C := Try.checked) false ⟨#[], #[.agg #[.int .i64 0, .int .i64 0, .slice none 0 0], .agg #[.int .i64 0, .int .i64 0, .slice none 0 0], .slice none 0 0], []⟩ 8 (by kernel_rfl) (by kernel_rfl) (by kernel_rfl) (by kernel_rfl)) ?_
  intro W base args ds gs before hval0 hW hcnd hsz0 _
  have hsz : (DataW.weightsEach Try.prog (Try.f5.params.toList ++ Rows.matrixAppliesSpec.plain.varTypes Try.prog) (ds ++ gs)).all (· ≤ reachBytes) = true := hsz0
  clear hsz0
  have hval : ∀ (j : Nat) t v, Try.f5.params[j]? = some t → args[j]? = some v → Value.okWide Try.prog W .any base t v := hval0
  have hW' := hW
  obtain ⟨p, q, hA0, hV, rfl, hfz, hnd⟩ := hW
  have hA : DataW.TrodAll enc Try.prog W 0 (fun _ => true) true Try.f5.params.toList args.toList ds p := hA0
  rw [Try.params5] at hA hval hsz
  obtain ⟨va0, vs0, d0, ds0, p0, q0, hargs, rfl, rfl, h0, tr0⟩ := trodAll_cons hA
  obtain ⟨va1, vs1, d1, ds1, p1, q1, rfl, rfl, rfl, h1, tr1⟩ := trodAll_cons tr0
  obtain ⟨va2, vs2, d2, ds2, p2, q2, rfl, rfl, rfl, h2, tr2⟩ := trodAll_cons tr1
  obtain ⟨rfl, rfl, rfl⟩ := trodAll_nil tr2
  obtain rfl : args = #[va0, va1, va2] := by cases args; simp_all
  obtain ⟨rfl, rfl⟩ := trodVars_none hV
  have k0 := h0
  have lt0 : ∀ x ∈ p0, x.block < W.heap.size := by obtain ⟨m, hm⟩ := k0; exact DataW.trod_lt m _ _ _ hm
  obtain ⟨f0, g0, s0, y0, x0, e0, m0, rfl, rfl, rfl, hf0, hg0, hs0⟩ := open_agg3 Try.underlying24 (by kernel_rfl) cellsM (hval 0 24 va0 rfl rfl) h0
  obtain ⟨r0, er0, rfl, u0⟩ := DataW.trod_int Try.underlying3 hf0
  obtain ⟨c0, ec0, rfl, v0⟩ := DataW.trod_int Try.underlying3 hg0
  simp only [List.cons.injEq, and_true] at er0 ec0
  subst er0 ec0
  obtain ⟨a0, len0, cap0, rfl⟩ : ∃ a l c, s0 = .slice a l c := by
    rcases open_ints Try.underlying22 Try.underlying5 (by kernel_rfl) hs0 with ⟨hcs, _⟩ | ⟨x, l, c, zs, hcs, _⟩
    · simp only [List.cons.injEq, and_true] at hcs; exact ⟨_, _, _, hcs⟩
    · simp only [List.cons.injEq, and_true] at hcs; exact ⟨_, _, _, hcs⟩
  obtain ⟨z0, w0⟩ : ∃ zs, IsRow .u8 W a0 len0 cap0 zs := by
    obtain ⟨fuel, hf⟩ := (⟨m0, hs0⟩ : ∃ fuel, DataW.trod enc Try.prog W 0 (fun _ => true) true fuel 22 [.slice a0 len0 cap0] = some e0)
    rcases open_ints Try.underlying22 Try.underlying5 (by kernel_rfl) hf with ⟨hcs, _⟩ | ⟨x, l, c, zs, hcs, _, hl, hm, hz, hxx, hcell, hwz⟩
    · simp at hcs
      obtain ⟨rfl, rfl, rfl⟩ := hcs
      exact ⟨[], .inl ⟨rfl, rfl, rfl, rfl⟩⟩
    · simp at hcs
      obtain ⟨rfl, rfl, rfl⟩ := hcs
      have hd := congrArg Prod.fst hxx
      have hs := sized_slice (sized_in hsz (j := 0) (t := 24) rfl rfl) (j := 2) (t := 22) (e := 5) rfl (congrArg some hd) Try.underlying22
      rw [show Try.prog.bytesOf 5 = 1 from by kernel_rfl] at hs
      have hzl : zs.length = cap0 := by simpa using hz
      simp only [lits, List.length_map, List.length_take, List.length_drop, reachBytes] at hs
      exact ⟨zs, .inr ⟨_, rfl, hl, by omega, by simpa using hz, hcell, hwz⟩⟩
  have k1 := h1
  have lt1 : ∀ x ∈ p1, x.block < W.heap.size := by obtain ⟨m, hm⟩ := k1; exact DataW.trod_lt m _ _ _ hm
  obtain ⟨f1, g1, s1, y1, x1, e1, m1, rfl, rfl, rfl, hf1, hg1, hs1⟩ := open_agg3 Try.underlying24 (by kernel_rfl) cellsM (hval 1 24 va1 rfl rfl) h1
  obtain ⟨r1, er1, rfl, u1⟩ := DataW.trod_int Try.underlying3 hf1
  obtain ⟨c1, ec1, rfl, v1⟩ := DataW.trod_int Try.underlying3 hg1
  simp only [List.cons.injEq, and_true] at er1 ec1
  subst er1 ec1
  obtain ⟨a1, len1, cap1, rfl⟩ : ∃ a l c, s1 = .slice a l c := by
    rcases open_ints Try.underlying22 Try.underlying5 (by kernel_rfl) hs1 with ⟨hcs, _⟩ | ⟨x, l, c, zs, hcs, _⟩
    · simp only [List.cons.injEq, and_true] at hcs; exact ⟨_, _, _, hcs⟩
    · simp only [List.cons.injEq, and_true] at hcs; exact ⟨_, _, _, hcs⟩
  obtain ⟨z1, w1⟩ : ∃ zs, IsRow .u8 W a1 len1 cap1 zs := by
    obtain ⟨fuel, hf⟩ := (⟨m1, hs1⟩ : ∃ fuel, DataW.trod enc Try.prog W 0 (fun _ => true) true fuel 22 [.slice a1 len1 cap1] = some e1)
    rcases open_ints Try.underlying22 Try.underlying5 (by kernel_rfl) hf with ⟨hcs, _⟩ | ⟨x, l, c, zs, hcs, _, hl, hm, hz, hxx, hcell, hwz⟩
    · simp at hcs
      obtain ⟨rfl, rfl, rfl⟩ := hcs
      exact ⟨[], .inl ⟨rfl, rfl, rfl, rfl⟩⟩
    · simp at hcs
      obtain ⟨rfl, rfl, rfl⟩ := hcs
      have hd := congrArg Prod.fst hxx
      have hs := sized_slice (sized_in hsz (j := 1) (t := 24) rfl rfl) (j := 2) (t := 22) (e := 5) rfl (congrArg some hd) Try.underlying22
      rw [show Try.prog.bytesOf 5 = 1 from by kernel_rfl] at hs
      have hzl : zs.length = cap1 := by simpa using hz
      simp only [lits, List.length_map, List.length_take, List.length_drop, reachBytes] at hs
      exact ⟨zs, .inr ⟨_, rfl, hl, by omega, by simpa using hz, hcell, hwz⟩⟩
  have k2 := h2
  have lt2 : ∀ x ∈ p2, x.block < W.heap.size := by obtain ⟨m, hm⟩ := k2; exact DataW.trod_lt m _ _ _ hm
  obtain ⟨a2, len2, cap2, rfl⟩ := okWide_slice Try.underlying22 (hval 2 22 va2 rfl rfl)
  obtain ⟨z2, w2⟩ : ∃ zs, IsRow .u8 W a2 len2 cap2 zs := by
    obtain ⟨fuel, hf⟩ := h2
    rcases open_ints Try.underlying22 Try.underlying5 (by kernel_rfl) hf with ⟨hcs, _⟩ | ⟨x, l, c, zs, hcs, _, hl, hm, hz, hxx, hcell, hwz⟩
    · simp [Value.cells] at hcs
      obtain ⟨rfl, rfl, rfl⟩ := hcs
      exact ⟨[], .inl ⟨rfl, rfl, rfl, rfl⟩⟩
    · simp [Value.cells] at hcs
      obtain ⟨rfl, rfl, rfl⟩ := hcs
      have hd := congrArg Prod.fst hxx
      have hs := sized_slice hsz (j := 2) (t := 22) (e := 5) rfl (congrArg some hd) Try.underlying22
      rw [show Try.prog.bytesOf 5 = 1 from by kernel_rfl] at hs
      have hzl : zs.length = cap2 := by simpa using hz
      simp only [lits, List.length_map, List.length_take, List.length_drop, reachBytes] at hs
      exact ⟨zs, .inr ⟨_, rfl, hl, by omega, by simpa using hz, hcell, hwz⟩⟩
  clear hA0 hval0
  refine (walk r0 c0 a0 len0 cap0 z0 r1 c1 a1 len1 cap1 z1 a2 len2 cap2 z2 W u0 v0 w0 u1 v1 w1 w2).mono fun e W' ⟨he, bel⟩ => ?_
  subst he
  exact ⟨_, rfl, _, _, _, [], _, [], hW', trodAll_mk1 (shut_bool Try.underlying4 _), (trodAll_cons_mk (Below.trod laidOut (by kernel_rfl) (of_decide_eq_true (by kernel_rfl)) k0 bel lt0) (trodAll_cons_mk (Below.trod laidOut (by kernel_rfl) (of_decide_eq_true (by kernel_rfl)) k1 bel lt1) (trodAll_cons_mk (Below.trod laidOut (by kernel_rfl) (of_decide_eq_true (by kernel_rfl)) k2 bel lt2) trodAll_mk0))), rfl, bel.frame _, fun h => by cases h⟩
theorem over : Rows.matrixAppliesRow.holds Try.pinned (OpenSpec.ofChange Rows.matrixAppliesSpec) :=
  OpenClaim.holds_of_wide 5 Try.f5 rfl rfl rfl rfl rfl rfl rfl ⟨rfl, rfl, rfl, rfl, rfl⟩ rfl rfl rfl rfl rfl (by kernel_rfl) Try.func5 (by kernel_rfl)
    (of_decide_eq_true (by kernel_rfl)) (by unfold Func.isWrapper; first | (rw [if_pos (by decide +kernel)]; kernel_rfl) | (rw [if_neg (by decide +kernel)]; exact ⟨rfl, rfl⟩))
    (fun os started H enc _ => lifted os started H enc)
theorem proved : Rows.MatrixAppliesSaid := over
#print axioms proved
end Go.Proofs.Ytaoehildaenbnab.matrixApplies
