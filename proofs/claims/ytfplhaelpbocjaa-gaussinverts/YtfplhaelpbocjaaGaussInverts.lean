/-
  Proved: for every matrix m the program's Inverse answers the document's, or its error (P4.2); no condition.
-/
import Derived.Test.YtfplhaelpbocjaaGo
import Derived.WalkKit
import Derived.SizedLaws
import Derived.ProofKit
import Derived.OpenShut
import Derived.ShutString
import Derived.ChangeOld
import Derived.Below
import Derived.Lib.SmallJoins
import Derived.Deep.Matrix
namespace Go.Proofs.Ytfplhaelpbocjaa.gaussInverts
open Go.ChangeShapes Go.WideShapes Go.ChangeAt Go.RowKit Go.Joins
set_option linter.unusedVariables false
theorem own : ownKnob Try.prog.godebug = none := by kernel_rfl
theorem laidOut : laidOutB Try.prog = true := by kernel_rfl
/-- A slice of integers that came in. -/
def IsRow (k : IntKind) (w : World) (a : Option Addr) (len cap : Nat) (zs : List Int) : Prop :=
  (a = none ∧ len = 0 ∧ cap = 0 ∧ zs = []) ∨
  ∃ x, a = some x ∧ len ≤ cap ∧ cap ≤ 140737488351232 ∧ zs.length = cap ∧ (∀ i, i < zs.length → w.cell? (x.add i) = some (.int k (zs.getD i 0))) ∧ ∀ n ∈ zs, (Lit.int k n).wf = true
/-- A slice of slices of bytes that came in. -/
def IsRows (w : World) (a : Option Addr) (len cap : Nat) : Prop :=
  (a = none ∧ len = 0 ∧ cap = 0) ∨
  ∃ x, a = some x ∧ len ≤ cap ∧ cap ≤ 140737488351232 ∧ ∀ r, r < cap → ∃ b l c zs, w.cell? (x.add r) = some (.slice b l c) ∧ IsRow .u8 w b l c zs
theorem sized_in {H : Type} {P : Program} {ts : List TypeId} {ds : List (DataW H)} (h : (DataW.weightsEach P ts ds).all (· ≤ reachBytes) = true) {j : Nat} {t : TypeId} {d : DataW H} (ht : ts[j]? = some t) (hd : ds[j]? = some d) : (d.weights P t).all (· ≤ reachBytes) = true :=
  List.all_eq_true.2 fun n hn => List.all_eq_true.1 h n (DataW.weights_mem_each ht hd n hn)
theorem sized_all {H : Type} {P : Program} {e : TypeId} : ∀ {ds : List (DataW H)}, (DataW.weightsAll P e ds).all (· ≤ reachBytes) = true → ∀ d ∈ ds, (d.weights P e).all (· ≤ reachBytes) = true
  | [], _, d, hd => by simp at hd
  | d0 :: r, h, d, hd => by
    simp only [DataW.weightsAll, List.all_append, Bool.and_eq_true] at h
    rcases List.mem_cons.1 hd with rfl | hd
    · exact h.1
    · exact sized_all h.2 d hd
theorem cellsM : Try.prog.cellsOf 24 = 3 := by kernel_rfl

set_option maxRecDepth 20000 in
set_option maxHeartbeats 8000000 in
theorem walk (r0 c0 : Int) (a0 : Option Addr) (len0 cap0 : Nat) (z0 : List Int) (w : World) (u0 : (Lit.int .i64 r0).wf = true) (v0 : (Lit.int .i64 c0).wf = true) (w0 : IsRow .u8 w a0 len0 cap0 z0) :
    Calls Try.prog 4 #[.agg #[.int .i64 r0, .int .i64 c0, .slice a0 len0 cap0]] w fun e w' => e = .returned (.bool true) ∧ Below w.heap.size w w' := by
  obtain ⟨F, hM, hn⟩ := mt_of_row w a0 len0 cap0 z0 w0
  have HM : Hid (Mt w a0 len0 cap0 F) := hM
  clear w0 u0 v0 hn
  obtain ⟨wb, HW⟩ : ∃ wb, Hid (wb = w.alloc (.cells #[.int .i64 r0, .int .i64 c0, .slice a0 len0 cap0] 24)) := ⟨_, rfl⟩
  have HVa : Hid (Vr wb w.heap.size (.int .i64 r0) (.int .i64 c0) (.slice a0 len0 cap0)) := by show Vr _ _ _ _ _; rw [HW.out]; exact Vr.new _ _ _ _
  have HB_0 : Hid (Below w.heap.size w wb) := by rw [HW.out]; exact alloc_low _ _
  have HF_m_0 : Hid (Mt wb a0 len0 cap0 F) := HM.out.later HB_0.out
  by_cases h : RightP r0 c0 len0 ∧ r0 = c0
  · obtain ⟨h, h2⟩ := h
    obtain ⟨r, c, rfl, rfl, R⟩ := right_rt h
    have h3 : r = c := by omega
    subst h3
    clear h2
    have HR : Hid (Rt r r len0) := R
    have HEl : Hid (El2 (m2 F r r)) := m2_el hM.sl.1 R
    have HFl : Hid (∀ i, i < len0 → F i < 256) := hM.sl.1
    have hr := R.r64
    have hc := R.c64
    obtain ⟨t, hk⟩ := rk_ex HEl.out r
    by_cases ht : t = r
    · have HK : Hid (Rk (m2 F r r) r r) := by rw [ht] at hk; exact hk
      clear h R hM hk ht
      have HV_m_0 : Hid (Vr wb w.heap.size (.int .i64 (r : Int)) (.int .i64 (r : Int)) (.slice a0 len0 cap0)) := HVa.out
      have l_m_0_0 := HV_m_0.out.c0
      have l_m_1_0 := HV_m_0.out.c1
      have l_m_2_0 := HV_m_0.out.c2
      go_enter Try.func4, Try.ntmps4
      go_wp2_with (first
        | (go_at_call 12; have _x := HB_2; refine (like_ans _ _ _ _ _ len0 _ _ O P HF_r_2.out HF_s_2.out HE.out).mono ?_; rintro e w3 ⟨rfl, hb⟩; have HB_3 : Hid (Below w.heap.size w w3) := two_below HB_2.out hb; have HV_m_3 : Hid (Vr w3 w.heap.size (.int .i64 (r : Int)) (.int .i64 (r : Int)) (.slice a0 len0 cap0)) := HV_m_2.out.later hb; have HV_r_3 : Hid (Vr w3 w1.heap.size (.int .i64 (r : Int)) (.int .i64 (r : Int)) (.slice s1 len0 d1)) := HV_r_2.out.later hb; have HV_s_3 : Hid (Vr w3 w2.heap.size (.int .i64 (r : Int)) (.int .i64 (r : Int)) (.slice s2 len0 d2)) := HV_s_2.out.later hb; have HF_m_3 : Hid (Mt w3 a0 len0 cap0 F) := HF_m_2.out.later hb; have HF_r_3 : Hid (Mt w3 s1 len0 d1 O) := HF_r_2.out.later hb; have HF_s_3 : Hid (Mt w3 s2 len0 d2 P) := HF_s_2.out.later hb; clear hb HV_m_2 HV_r_2 HV_s_2 HF_m_2 HF_r_2 HF_s_2)
        | (go_at_call 15; have _x := HB_1; refine (rinvm_p _ r len0 cap0 a0 F HF_m_1.out HR.out HK.out).mono ?_; rintro e w2 ⟨s2, d2, P, rfl, hm, hp, hb⟩; have HE : Hid (∀ i, i < len0 → O i = P i) := inv_one HFl.out HO1.out hm.sl.1 HR.out HK.out HP1.out hp; have HB_2 : Hid (Below w.heap.size w (w2.alloc (.cells #[.int .i64 (r : Int), .int .i64 (r : Int), .slice s2 len0 d2] 24))) := two_below (two_below HB_1.out hb) (alloc_low _ _); have HV_m_2 : Hid (Vr (w2.alloc (.cells #[.int .i64 (r : Int), .int .i64 (r : Int), .slice s2 len0 d2] 24)) w.heap.size (.int .i64 (r : Int)) (.int .i64 (r : Int)) (.slice a0 len0 cap0)) := (HV_m_1.out.later hb).later (alloc_low _ _); have HV_r_2 : Hid (Vr (w2.alloc (.cells #[.int .i64 (r : Int), .int .i64 (r : Int), .slice s2 len0 d2] 24)) w1.heap.size (.int .i64 (r : Int)) (.int .i64 (r : Int)) (.slice s1 len0 d1)) := (HV_r_1.out.later hb).later (alloc_low _ _); have HF_m_2 : Hid (Mt (w2.alloc (.cells #[.int .i64 (r : Int), .int .i64 (r : Int), .slice s2 len0 d2] 24)) a0 len0 cap0 F) := (HF_m_1.out.later hb).later (alloc_low _ _); have HF_r_2 : Hid (Mt (w2.alloc (.cells #[.int .i64 (r : Int), .int .i64 (r : Int), .slice s2 len0 d2] 24)) s1 len0 d1 O) := (HF_r_1.out.later hb).later (alloc_low _ _); have HV_s_2 : Hid (Vr (w2.alloc (.cells #[.int .i64 (r : Int), .int .i64 (r : Int), .slice s2 len0 d2] 24)) w2.heap.size (.int .i64 (r : Int)) (.int .i64 (r : Int)) (.slice s2 len0 d2)) := Vr.new w2 _ _ _; have HF_s_2 : Hid (Mt (w2.alloc (.cells #[.int .i64 (r : Int), .int .i64 (r : Int), .slice s2 len0 d2] 24)) s2 len0 d2 P) := (hm).later (alloc_low _ _); clear hm hp; have l_r_0_2 := HV_r_2.out.c0; have l_r_1_2 := HV_r_2.out.c1; have l_r_2_2 := HV_r_2.out.c2; have l_s_0_2 := HV_s_2.out.c0; have l_s_1_2 := HV_s_2.out.c1; have l_s_2_2 := HV_s_2.out.c2; clear hb HV_m_1 HV_r_1 HF_m_1 HF_r_1)
        | (go_at_call 14; rw [← HW.out]; refine (ginv_ok _ r len0 cap0 a0 F HF_m_0.out HR.out HK.out).mono ?_; rintro e w1 ⟨s1, d1, O, rfl, hm, hp, hb⟩; have HP1 : Hid (∀ i j, i < r → j < r → pr (m2 F r r) (m2 O r r) r i j = dl i j) := hp; have HO1 : Hid (∀ i, i < len0 → O i < 256) := hm.sl.1; have HB_1 : Hid (Below w.heap.size w (w1.alloc (.cells #[.int .i64 (r : Int), .int .i64 (r : Int), .slice s1 len0 d1] 24))) := two_below (two_below HB_0.out hb) (alloc_low _ _); have HV_m_1 : Hid (Vr (w1.alloc (.cells #[.int .i64 (r : Int), .int .i64 (r : Int), .slice s1 len0 d1] 24)) w.heap.size (.int .i64 (r : Int)) (.int .i64 (r : Int)) (.slice a0 len0 cap0)) := (HV_m_0.out.later hb).later (alloc_low _ _); have HF_m_1 : Hid (Mt (w1.alloc (.cells #[.int .i64 (r : Int), .int .i64 (r : Int), .slice s1 len0 d1] 24)) a0 len0 cap0 F) := (HF_m_0.out.later hb).later (alloc_low _ _); have HV_r_1 : Hid (Vr (w1.alloc (.cells #[.int .i64 (r : Int), .int .i64 (r : Int), .slice s1 len0 d1] 24)) w1.heap.size (.int .i64 (r : Int)) (.int .i64 (r : Int)) (.slice s1 len0 d1)) := Vr.new w1 _ _ _; have HF_r_1 : Hid (Mt (w1.alloc (.cells #[.int .i64 (r : Int), .int .i64 (r : Int), .slice s1 len0 d1] 24)) s1 len0 d1 O) := (hm).later (alloc_low _ _); clear hm hp; have l_m_0_1 := HV_m_1.out.c0; have l_m_1_1 := HV_m_1.out.c1; have l_m_2_1 := HV_m_1.out.c2; clear hb HV_m_0 HF_m_0))
      go_ret
      exact ⟨rfl, HB_3.out⟩
    · have HK : Hid (Rk (m2 F r r) r t) := hk
      have ht2 : t < r := by have := hk.rows HEl.out; omega
      clear h R hM hk ht
      have HV_m_0 : Hid (Vr wb w.heap.size (.int .i64 (r : Int)) (.int .i64 (r : Int)) (.slice a0 len0 cap0)) := HVa.out
      have l_m_0_0 := HV_m_0.out.c0
      have l_m_1_0 := HV_m_0.out.c1
      have l_m_2_0 := HV_m_0.out.c2
      go_enter Try.func4, Try.ntmps4
      go_wp2_with (first
        | (go_at_call 12; have _x := HB_2; refine (like_ans _ _ _ _ _ 0 _ _ (fun _ => 0) (fun _ => 0) (Mt.none _ _) (Mt.none _ _) (fun _ _ => rfl)).mono ?_; rintro e w3 ⟨rfl, hb⟩; have HB_3 : Hid (Below w.heap.size w w3) := two_below HB_2.out hb; have HV_m_3 : Hid (Vr w3 w.heap.size (.int .i64 (r : Int)) (.int .i64 (r : Int)) (.slice a0 len0 cap0)) := HV_m_2.out.later hb; have HV_r_3 : Hid (Vr w3 w1.heap.size (.int .i64 0) (.int .i64 0) (.slice none 0 0)) := HV_r_2.out.later hb; have HV_s_3 : Hid (Vr w3 w2.heap.size (.int .i64 0) (.int .i64 0) (.slice none 0 0)) := HV_s_2.out.later hb; have HF_m_3 : Hid (Mt w3 a0 len0 cap0 F) := HF_m_2.out.later hb; clear hb HV_m_2 HV_r_2 HV_s_2 HF_m_2)
        | (go_at_call 15; have _x := HB_1; refine (rinvm_sing _ r len0 cap0 t a0 F HF_m_1.out HR.out HK.out ht2).mono ?_; rintro e w2 ⟨rfl, hb⟩; have HB_2 : Hid (Below w.heap.size w (w2.alloc (.cells #[.int .i64 0, .int .i64 0, .slice none 0 0] 24))) := two_below (two_below HB_1.out hb) (alloc_low _ _); have HV_m_2 : Hid (Vr (w2.alloc (.cells #[.int .i64 0, .int .i64 0, .slice none 0 0] 24)) w.heap.size (.int .i64 (r : Int)) (.int .i64 (r : Int)) (.slice a0 len0 cap0)) := (HV_m_1.out.later hb).later (alloc_low _ _); have HV_r_2 : Hid (Vr (w2.alloc (.cells #[.int .i64 0, .int .i64 0, .slice none 0 0] 24)) w1.heap.size (.int .i64 0) (.int .i64 0) (.slice none 0 0)) := (HV_r_1.out.later hb).later (alloc_low _ _); have HF_m_2 : Hid (Mt (w2.alloc (.cells #[.int .i64 0, .int .i64 0, .slice none 0 0] 24)) a0 len0 cap0 F) := (HF_m_1.out.later hb).later (alloc_low _ _); have HV_s_2 : Hid (Vr (w2.alloc (.cells #[.int .i64 0, .int .i64 0, .slice none 0 0] 24)) w2.heap.size (.int .i64 0) (.int .i64 0) (.slice none 0 0)) := Vr.new w2 _ _ _; have l_r_0_2 := HV_r_2.out.c0; have l_r_1_2 := HV_r_2.out.c1; have l_r_2_2 := HV_r_2.out.c2; have l_s_0_2 := HV_s_2.out.c0; have l_s_1_2 := HV_s_2.out.c1; have l_s_2_2 := HV_s_2.out.c2; clear hb HV_m_1 HV_r_1 HF_m_1)
        | (go_at_call 14; rw [← HW.out]; refine (ginv_sing _ r len0 cap0 t a0 F HF_m_0.out HR.out HK.out ht2).mono ?_; rintro e w1 ⟨rfl, hb⟩; have HB_1 : Hid (Below w.heap.size w (w1.alloc (.cells #[.int .i64 0, .int .i64 0, .slice none 0 0] 24))) := two_below (two_below HB_0.out hb) (alloc_low _ _); have HV_m_1 : Hid (Vr (w1.alloc (.cells #[.int .i64 0, .int .i64 0, .slice none 0 0] 24)) w.heap.size (.int .i64 (r : Int)) (.int .i64 (r : Int)) (.slice a0 len0 cap0)) := (HV_m_0.out.later hb).later (alloc_low _ _); have HF_m_1 : Hid (Mt (w1.alloc (.cells #[.int .i64 0, .int .i64 0, .slice none 0 0] 24)) a0 len0 cap0 F) := (HF_m_0.out.later hb).later (alloc_low _ _); have HV_r_1 : Hid (Vr (w1.alloc (.cells #[.int .i64 0, .int .i64 0, .slice none 0 0] 24)) w1.heap.size (.int .i64 0) (.int .i64 0) (.slice none 0 0)) := Vr.new w1 _ _ _; have l_m_0_1 := HV_m_1.out.c0; have l_m_1_1 := HV_m_1.out.c1; have l_m_2_1 := HV_m_1.out.c2; clear hb HV_m_0 HF_m_0))
      go_ret
      exact ⟨rfl, HB_3.out⟩
  · have H1 : Hid (¬ (RightP r0 c0 len0 ∧ r0 = c0)) := h
    clear h hM
    have HV_m_0 : Hid (Vr wb w.heap.size (.int .i64 r0) (.int .i64 c0) (.slice a0 len0 cap0)) := HVa.out
    have l_m_0_0 := HV_m_0.out.c0
    have l_m_1_0 := HV_m_0.out.c1
    have l_m_2_0 := HV_m_0.out.c2
    go_enter Try.func4, Try.ntmps4
    go_wp2_with (first
      | (go_at_call 12; have _x := HB_2; refine (like_ans _ _ _ _ _ 0 _ _ (fun _ => 0) (fun _ => 0) (Mt.none _ _) (Mt.none _ _) (fun _ _ => rfl)).mono ?_; rintro e w3 ⟨rfl, hb⟩; have HB_3 : Hid (Below w.heap.size w w3) := two_below HB_2.out hb; have HV_m_3 : Hid (Vr w3 w.heap.size (.int .i64 r0) (.int .i64 c0) (.slice a0 len0 cap0)) := HV_m_2.out.later hb; have HV_r_3 : Hid (Vr w3 w1.heap.size (.int .i64 0) (.int .i64 0) (.slice none 0 0)) := HV_r_2.out.later hb; have HV_s_3 : Hid (Vr w3 w2.heap.size (.int .i64 0) (.int .i64 0) (.slice none 0 0)) := HV_s_2.out.later hb; have HF_m_3 : Hid (Mt w3 a0 len0 cap0 F) := HF_m_2.out.later hb; clear hb HV_m_2 HV_r_2 HV_s_2 HF_m_2)
      | (go_at_call 15; have _x := HB_1; refine (rinvm_bad _ _ _ _ _ _ H1.out).mono ?_; rintro e w2 ⟨rfl, hb⟩; have HB_2 : Hid (Below w.heap.size w (w2.alloc (.cells #[.int .i64 0, .int .i64 0, .slice none 0 0] 24))) := two_below (two_below HB_1.out hb) (alloc_low _ _); have HV_m_2 : Hid (Vr (w2.alloc (.cells #[.int .i64 0, .int .i64 0, .slice none 0 0] 24)) w.heap.size (.int .i64 r0) (.int .i64 c0) (.slice a0 len0 cap0)) := (HV_m_1.out.later hb).later (alloc_low _ _); have HV_r_2 : Hid (Vr (w2.alloc (.cells #[.int .i64 0, .int .i64 0, .slice none 0 0] 24)) w1.heap.size (.int .i64 0) (.int .i64 0) (.slice none 0 0)) := (HV_r_1.out.later hb).later (alloc_low _ _); have HF_m_2 : Hid (Mt (w2.alloc (.cells #[.int .i64 0, .int .i64 0, .slice none 0 0] 24)) a0 len0 cap0 F) := (HF_m_1.out.later hb).later (alloc_low _ _); have HV_s_2 : Hid (Vr (w2.alloc (.cells #[.int .i64 0, .int .i64 0, .slice none 0 0] 24)) w2.heap.size (.int .i64 0) (.int .i64 0) (.slice none 0 0)) := Vr.new w2 _ _ _; have l_r_0_2 := HV_r_2.out.c0; have l_r_1_2 := HV_r_2.out.c1; have l_r_2_2 := HV_r_2.out.c2; have l_s_0_2 := HV_s_2.out.c0; have l_s_1_2 := HV_s_2.out.c1; have l_s_2_2 := HV_s_2.out.c2; clear hb HV_m_1 HV_r_1 HF_m_1)
      | (go_at_call 14; rw [← HW.out]; refine (ginv_bad _ _ _ _ _ _ H1.out).mono ?_; rintro e w1 ⟨rfl, hb⟩; have HB_1 : Hid (Below w.heap.size w (w1.alloc (.cells #[.int .i64 0, .int .i64 0, .slice none 0 0] 24))) := two_below (two_below HB_0.out hb) (alloc_low _ _); have HV_m_1 : Hid (Vr (w1.alloc (.cells #[.int .i64 0, .int .i64 0, .slice none 0 0] 24)) w.heap.size (.int .i64 r0) (.int .i64 c0) (.slice a0 len0 cap0)) := (HV_m_0.out.later hb).later (alloc_low _ _); have HF_m_1 : Hid (Mt (w1.alloc (.cells #[.int .i64 0, .int .i64 0, .slice none 0 0] 24)) a0 len0 cap0 F) := (HF_m_0.out.later hb).later (alloc_low _ _); have HV_r_1 : Hid (Vr (w1.alloc (.cells #[.int .i64 0, .int .i64 0, .slice none 0 0] 24)) w1.heap.size (.int .i64 0) (.int .i64 0) (.slice none 0 0)) := Vr.new w1 _ _ _; have l_m_0_1 := HV_m_1.out.c0; have l_m_1_1 := HV_m_1.out.c1; have l_m_2_1 := HV_m_1.out.c2; clear hb HV_m_0 HF_m_0))
    go_ret
    exact ⟨rfl, HB_3.out⟩
set_option maxRecDepth 100000 in
set_option maxHeartbeats 2000000 in
theorem lifted (os : Os) (started : os.Started) (H : Type) (enc : TypeId × Value → H) :
    ReturnsInHanded {} Try.checked os 4 .any (Rows.gaussInvertsSpec.pre6 enc Try.prog Try.f4 Rows.gaussInvertsRow.domain false) (Rows.gaussInvertsSpec.post enc Try.prog Try.f4 false true false false) := by
  refine returnsInHanded_of_change_sized (C := Try.checked) own started (by kernel_rfl) Try.func4
    (ChangeSpec.witness6 (enc := enc) (C := Try.checked) false ⟨#[], #[.agg #[.int .i64 0, .int .i64 0, .slice none 0 0]], []⟩ 8 (by kernel_rfl) (by kernel_rfl) (by kernel_rfl) (by kernel_rfl)) ?_
  intro W base args ds gs before hval0 hW hcnd hsz0 _
  have hsz : (DataW.weightsEach Try.prog (Try.f4.params.toList ++ Rows.gaussInvertsSpec.plain.varTypes Try.prog) (ds ++ gs)).all (· ≤ reachBytes) = true := hsz0
  clear hsz0
  have hval : ∀ (j : Nat) t v, Try.f4.params[j]? = some t → args[j]? = some v → Value.okWide Try.prog W .any base t v := hval0
  have hW' := hW
  obtain ⟨p, q, hA0, hV, rfl, hfz, hnd⟩ := hW
  have hA : DataW.TrodAll enc Try.prog W 0 (fun _ => true) true Try.f4.params.toList args.toList ds p := hA0
  rw [Try.params4] at hA hval hsz
  obtain ⟨va0, vs0, d0, ds0, p0, q0, hargs, rfl, rfl, h0, tr0⟩ := trodAll_cons hA
  obtain ⟨rfl, rfl, rfl⟩ := trodAll_nil tr0
  obtain rfl : args = #[va0] := by cases args; simp_all
  obtain ⟨rfl, rfl⟩ := trodVars_none hV
  have k0 := h0
  have lt0 : ∀ x ∈ p0, x.block < W.heap.size := by obtain ⟨m, hm⟩ := k0; exact DataW.trod_lt m _ _ _ hm
  obtain ⟨f0, g0, s0, y0, x0, e0, m0, rfl, rfl, rfl, hf0, hg0, hs0⟩ := open_agg3 Try.underlying24 (by kernel_rfl) cellsM (hval 0 24 va0 rfl rfl) h0
  obtain ⟨r0, er0, rfl, u0⟩ := DataW.trod_int Try.underlying3 hf0
  obtain ⟨c0, ec0, rfl, v0⟩ := DataW.trod_int Try.underlying3 hg0
  simp only [List.cons.injEq, and_true] at er0 ec0
  subst er0 ec0
  obtain ⟨a0, len0, cap0, rfl⟩ : ∃ a l c, s0 = .slice a l c := by
    rcases open_ints Try.underlying22 Try.underlying5 (by kernel_rfl) hs0 with ⟨hcs, _⟩ | ⟨x, l, c, zs, hcs, _⟩
    · simp only [List.cons.injEq, and_true] at hcs; exact ⟨_, _, _, hcs⟩
    · simp only [List.cons.injEq, and_true] at hcs; exact ⟨_, _, _, hcs⟩
  obtain ⟨z0, w0⟩ : ∃ zs, IsRow .u8 W a0 len0 cap0 zs := by
    obtain ⟨fuel, hf⟩ := (⟨m0, hs0⟩ : ∃ fuel, DataW.trod enc Try.prog W 0 (fun _ => true) true fuel 22 [.slice a0 len0 cap0] = some e0)
    rcases open_ints Try.underlying22 Try.underlying5 (by kernel_rfl) hf with ⟨hcs, _⟩ | ⟨x, l, c, zs, hcs, _, hl, hm, hz, hxx, hcell, hwz⟩
    · simp at hcs
      obtain ⟨rfl, rfl, rfl⟩ := hcs
      exact ⟨[], .inl ⟨rfl, rfl, rfl, rfl⟩⟩
    · simp at hcs
      obtain ⟨rfl, rfl, rfl⟩ := hcs
      have hd := congrArg Prod.fst hxx
      have hs := sized_slice (sized_in hsz (j := 0) (t := 24) rfl rfl) (j := 2) (t := 22) (e := 5) rfl (congrArg some hd) Try.underlying22
      rw [show Try.prog.bytesOf 5 = 1 from by kernel_rfl] at hs
      have hzl : zs.length = cap0 := by simpa using hz
      simp only [lits, List.length_map, List.length_take, List.length_drop, reachBytes] at hs
      exact ⟨zs, .inr ⟨_, rfl, hl, by omega, by simpa using hz, hcell, hwz⟩⟩
  clear hA0 hval0
  refine (walk r0 c0 a0 len0 cap0 z0 W u0 v0 w0).mono fun e W' ⟨he, bel⟩ => ?_
  subst he
  exact ⟨_, rfl, _, _, _, [], _, [], hW', trodAll_mk1 (shut_bool Try.underlying4 _), (trodAll_cons_mk (Below.trod laidOut (by kernel_rfl) (of_decide_eq_true (by kernel_rfl)) k0 bel lt0) trodAll_mk0), rfl, bel.frame _, fun h => by cases h⟩
theorem over : Rows.gaussInvertsRow.holds Try.pinned (OpenSpec.ofChange Rows.gaussInvertsSpec) :=
  OpenClaim.holds_of_wide 4 Try.f4 rfl rfl rfl rfl rfl rfl rfl ⟨rfl, rfl, rfl, rfl, rfl⟩ rfl rfl rfl rfl rfl (by kernel_rfl) Try.func4 (by kernel_rfl)
    (of_decide_eq_true (by kernel_rfl)) (by unfold Func.isWrapper; first | (rw [if_pos (by decide +kernel)]; kernel_rfl) | (rw [if_neg (by decide +kernel)]; exact ⟨rfl, rfl⟩))
    (fun os started H enc _ => lifted os started H enc)
theorem proved : Rows.GaussInvertsSaid := over
#print axioms proved
end Go.Proofs.Ytfplhaelpbocjaa.gaussInverts
