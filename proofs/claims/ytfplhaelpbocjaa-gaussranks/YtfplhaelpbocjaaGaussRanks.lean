/-
  Proved: for every matrix m the rank is that of the matrix transposed, the number of pivots, of First's rows, and of columns less Kernel's rows (P4.5); no condition.
-/
import Derived.Test.YtfplhaelpbocjaaGo
import Derived.WalkKit
import Derived.SizedLaws
import Derived.ProofKit
import Derived.OpenShut
import Derived.ShutString
import Derived.ChangeOld
import Derived.Below
import Derived.Lib.SmallJoins
import Derived.Deep.Matrix
namespace Go.Proofs.Ytfplhaelpbocjaa.gaussRanks
open Go.ChangeShapes Go.WideShapes Go.ChangeAt Go.RowKit Go.Joins
set_option linter.unusedVariables false
theorem own : ownKnob Try.prog.godebug = none := by kernel_rfl
theorem laidOut : laidOutB Try.prog = true := by kernel_rfl
/-- A slice of integers that came in. -/
def IsRow (k : IntKind) (w : World) (a : Option Addr) (len cap : Nat) (zs : List Int) : Prop :=
  (a = none ∧ len = 0 ∧ cap = 0 ∧ zs = []) ∨
  ∃ x, a = some x ∧ len ≤ cap ∧ cap ≤ 140737488351232 ∧ zs.length = cap ∧ (∀ i, i < zs.length → w.cell? (x.add i) = some (.int k (zs.getD i 0))) ∧ ∀ n ∈ zs, (Lit.int k n).wf = true
/-- A slice of slices of bytes that came in. -/
def IsRows (w : World) (a : Option Addr) (len cap : Nat) : Prop :=
  (a = none ∧ len = 0 ∧ cap = 0) ∨
  ∃ x, a = some x ∧ len ≤ cap ∧ cap ≤ 140737488351232 ∧ ∀ r, r < cap → ∃ b l c zs, w.cell? (x.add r) = some (.slice b l c) ∧ IsRow .u8 w b l c zs
theorem sized_in {H : Type} {P : Program} {ts : List TypeId} {ds : List (DataW H)} (h : (DataW.weightsEach P ts ds).all (· ≤ reachBytes) = true) {j : Nat} {t : TypeId} {d : DataW H} (ht : ts[j]? = some t) (hd : ds[j]? = some d) : (d.weights P t).all (· ≤ reachBytes) = true :=
  List.all_eq_true.2 fun n hn => List.all_eq_true.1 h n (DataW.weights_mem_each ht hd n hn)
theorem sized_all {H : Type} {P : Program} {e : TypeId} : ∀ {ds : List (DataW H)}, (DataW.weightsAll P e ds).all (· ≤ reachBytes) = true → ∀ d ∈ ds, (d.weights P e).all (· ≤ reachBytes) = true
  | [], _, d, hd => by simp at hd
  | d0 :: r, h, d, hd => by
    simp only [DataW.weightsAll, List.all_append, Bool.and_eq_true] at h
    rcases List.mem_cons.1 hd with rfl | hd
    · exact h.1
    · exact sized_all h.2 d hd
theorem cellsM : Try.prog.cellsOf 24 = 3 := by kernel_rfl

set_option maxRecDepth 20000 in
set_option maxHeartbeats 8000000 in
theorem walk (r0 c0 : Int) (a0 : Option Addr) (len0 cap0 : Nat) (z0 : List Int) (w : World) (u0 : (Lit.int .i64 r0).wf = true) (v0 : (Lit.int .i64 c0).wf = true) (w0 : IsRow .u8 w a0 len0 cap0 z0) :
    Calls Try.prog 7 #[.agg #[.int .i64 r0, .int .i64 c0, .slice a0 len0 cap0]] w fun e w' => e = .returned (.bool true) ∧ Below w.heap.size w w' := by
  obtain ⟨F, hM, hn⟩ := mt_of_row w a0 len0 cap0 z0 w0
  have HM : Hid (Mt w a0 len0 cap0 F) := hM
  clear w0 u0 v0 hn
  obtain ⟨wb, HW⟩ : ∃ wb, Hid (wb = w.alloc (.cells #[.int .i64 r0, .int .i64 c0, .slice a0 len0 cap0] 24)) := ⟨_, rfl⟩
  have HVa : Hid (Vr wb w.heap.size (.int .i64 r0) (.int .i64 c0) (.slice a0 len0 cap0)) := by show Vr _ _ _ _ _; rw [HW.out]; exact Vr.new _ _ _ _
  have HB_0 : Hid (Below w.heap.size w wb) := by rw [HW.out]; exact alloc_low _ _
  have HF_m_0 : Hid (Mt wb a0 len0 cap0 F) := HM.out.later HB_0.out
  by_cases h : RightP r0 c0 len0
  · obtain ⟨r, c, rfl, rfl, R⟩ := right_rt h
    have HR : Hid (Rt r c len0) := R
    have HEl : Hid (El2 (m2 F r c)) := m2_el hM.sl.1 R
    have HFl : Hid (∀ i, i < len0 → F i < 256) := hM.sl.1
    have hr := R.r64
    have hc := R.c64
    have HRu : Hid (Rt c r len0) := ⟨R.c64, R.r64, by rw [Nat.mul_comm]; exact R.len⟩
    clear h R hM
    have HV_m_0 : Hid (Vr wb w.heap.size (.int .i64 (r : Int)) (.int .i64 (c : Int)) (.slice a0 len0 cap0)) := HVa.out
    have l_m_0_0 := HV_m_0.out.c0
    have l_m_1_0 := HV_m_0.out.c1
    have l_m_2_0 := HV_m_0.out.c2
    go_enter Try.func7, Try.ntmps7
    go_wp2_with (first
      | (go_at_call 26; have _x := HB_7; refine (anch4_any _).mono ?_; rintro e w8 ⟨rfl, hb⟩; have HB_8 : Hid (Below w.heap.size w w8) := two_below HB_7.out hb; have HV_m_8 : Hid (Vr w8 w.heap.size (.int .i64 (r : Int)) (.int .i64 (c : Int)) (.slice a0 len0 cap0)) := HV_m_7.out.later hb; have HV_t_8 : Hid (Vr w8 w3.heap.size (.int .i64 (c : Int)) (.int .i64 (r : Int)) (.slice s1 len0 d1)) := HV_t_7.out.later hb; have HV_y_8 : Hid (Vr w8 w5.heap.size (.int .i64 (r : Int)) (.int .i64 (c : Int)) (.slice s2 len0 d2)) := HV_y_7.out.later hb; have HV_z_8 : Hid (Vr w8 w7.heap.size (.int .i64 (kr : Int)) (.int .i64 (c : Int)) (.slice s4 N d4)) := HV_z_7.out.later hb; have HF_m_8 : Hid (Mt w8 a0 len0 cap0 F) := HF_m_7.out.later hb; have HF_t_8 : Hid (Mt w8 s1 len0 d1 T) := HF_t_7.out.later hb; have l_m_0_8 := HV_m_8.out.c0; have l_m_1_8 := HV_m_8.out.c1; have l_m_2_8 := HV_m_8.out.c2; have l_z_0_8 := HV_z_8.out.c0; have l_z_1_8 := HV_z_8.out.c1; have l_z_2_8 := HV_z_8.out.c2; clear hb HV_m_7 HV_t_7 HV_y_7 HV_z_7 HF_m_7 HF_t_7)
      | (go_at_call 21; have _x := HB_6; refine (gker_ok _ r c len0 cap0 a0 F HF_m_6.out HR.out).mono ?_; rintro e w7 ⟨s4, d4, kr, t4, p4, G4, K4, rfl, _, hR, hS, hp, hk, _, hb⟩; obtain ⟨N, HN⟩ : ∃ x, Hid (kr * c = x) := ⟨_, rfl⟩; rw [HN.out]; have hc4 := ker_cnt HR.out HRd.out HSp.out hR hS hp hk; have hw4 : IntKind.i64.wrap ((t : Int) + (kr : Int)) = (c : Int) := (by rw [IntKind.wrap_i64]; omega); have HB_7 : Hid (Below w.heap.size w (w7.alloc (.cells #[.int .i64 (kr : Int), .int .i64 (c : Int), .slice s4 N d4] 24))) := two_below (two_below HB_6.out hb) (alloc_low _ _); have HV_m_7 : Hid (Vr (w7.alloc (.cells #[.int .i64 (kr : Int), .int .i64 (c : Int), .slice s4 N d4] 24)) w.heap.size (.int .i64 (r : Int)) (.int .i64 (c : Int)) (.slice a0 len0 cap0)) := (HV_m_6.out.later hb).later (alloc_low _ _); have HV_t_7 : Hid (Vr (w7.alloc (.cells #[.int .i64 (kr : Int), .int .i64 (c : Int), .slice s4 N d4] 24)) w3.heap.size (.int .i64 (c : Int)) (.int .i64 (r : Int)) (.slice s1 len0 d1)) := (HV_t_6.out.later hb).later (alloc_low _ _); have HV_y_7 : Hid (Vr (w7.alloc (.cells #[.int .i64 (kr : Int), .int .i64 (c : Int), .slice s4 N d4] 24)) w5.heap.size (.int .i64 (r : Int)) (.int .i64 (c : Int)) (.slice s2 len0 d2)) := (HV_y_6.out.later hb).later (alloc_low _ _); have HF_m_7 : Hid (Mt (w7.alloc (.cells #[.int .i64 (kr : Int), .int .i64 (c : Int), .slice s4 N d4] 24)) a0 len0 cap0 F) := (HF_m_6.out.later hb).later (alloc_low _ _); have HF_t_7 : Hid (Mt (w7.alloc (.cells #[.int .i64 (kr : Int), .int .i64 (c : Int), .slice s4 N d4] 24)) s1 len0 d1 T) := (HF_t_6.out.later hb).later (alloc_low _ _); have HV_z_7 : Hid (Vr (w7.alloc (.cells #[.int .i64 (kr : Int), .int .i64 (c : Int), .slice s4 N d4] 24)) w7.heap.size (.int .i64 (kr : Int)) (.int .i64 (c : Int)) (.slice s4 N d4)) := Vr.new w7 _ _ _; clear hR hS hp hk; clear hb HV_m_6 HV_t_6 HV_y_6 HF_m_6 HF_t_6)
      | (go_at_call 16; have _x := HB_5; refine (gfirst_ok _ r c len0 cap0 a0 F HF_m_5.out HR.out).mono ?_; rintro e w6 ⟨ps3, pd3, t3, q3, rfl, _, _, hk, _, hb⟩; have et := rk_one HFl.out HR.out HK.out hk; subst et; have HB_6 : Hid (Below w.heap.size w w6) := two_below HB_5.out hb; have HV_m_6 : Hid (Vr w6 w.heap.size (.int .i64 (r : Int)) (.int .i64 (c : Int)) (.slice a0 len0 cap0)) := HV_m_5.out.later hb; have HV_t_6 : Hid (Vr w6 w3.heap.size (.int .i64 (c : Int)) (.int .i64 (r : Int)) (.slice s1 len0 d1)) := HV_t_5.out.later hb; have HV_y_6 : Hid (Vr w6 w5.heap.size (.int .i64 (r : Int)) (.int .i64 (c : Int)) (.slice s2 len0 d2)) := HV_y_5.out.later hb; have HF_m_6 : Hid (Mt w6 a0 len0 cap0 F) := HF_m_5.out.later hb; have HF_t_6 : Hid (Mt w6 s1 len0 d1 T) := HF_t_5.out.later hb; clear hk; have l_m_0_6 := HV_m_6.out.c0; have l_m_1_6 := HV_m_6.out.c1; have l_m_2_6 := HV_m_6.out.c2; clear hb HV_m_5 HV_t_5 HV_y_5 HF_m_5 HF_t_5)
      | (go_at_call 9; have _x := HB_4; refine (gred_ok _ r c len0 cap0 a0 F HF_m_4.out HR.out).mono ?_; rintro e w5 ⟨s2, d2, ps2, pd2, t2, p2, G, rfl, hm, _, hR, hS, _, hb⟩; have et := rk_one HFl.out HR.out HK.out (red_rk hm.sl.1 HR.out hR hS); subst et; have HRd : Hid (Rdf (m2 G r c) r t p2) := hR; have HSp : Hid (SpEq (m2 G r c) r (m2 F r c) r) := hS; have HB_5 : Hid (Below w.heap.size w (w5.alloc (.cells #[.int .i64 (r : Int), .int .i64 (c : Int), .slice s2 len0 d2] 24))) := two_below (two_below HB_4.out hb) (alloc_low _ _); have HV_m_5 : Hid (Vr (w5.alloc (.cells #[.int .i64 (r : Int), .int .i64 (c : Int), .slice s2 len0 d2] 24)) w.heap.size (.int .i64 (r : Int)) (.int .i64 (c : Int)) (.slice a0 len0 cap0)) := (HV_m_4.out.later hb).later (alloc_low _ _); have HV_t_5 : Hid (Vr (w5.alloc (.cells #[.int .i64 (r : Int), .int .i64 (c : Int), .slice s2 len0 d2] 24)) w3.heap.size (.int .i64 (c : Int)) (.int .i64 (r : Int)) (.slice s1 len0 d1)) := (HV_t_4.out.later hb).later (alloc_low _ _); have HF_m_5 : Hid (Mt (w5.alloc (.cells #[.int .i64 (r : Int), .int .i64 (c : Int), .slice s2 len0 d2] 24)) a0 len0 cap0 F) := (HF_m_4.out.later hb).later (alloc_low _ _); have HF_t_5 : Hid (Mt (w5.alloc (.cells #[.int .i64 (r : Int), .int .i64 (c : Int), .slice s2 len0 d2] 24)) s1 len0 d1 T) := (HF_t_4.out.later hb).later (alloc_low _ _); have HV_y_5 : Hid (Vr (w5.alloc (.cells #[.int .i64 (r : Int), .int .i64 (c : Int), .slice s2 len0 d2] 24)) w5.heap.size (.int .i64 (r : Int)) (.int .i64 (c : Int)) (.slice s2 len0 d2)) := Vr.new w5 _ _ _; clear hm hR hS; have l_m_0_5 := HV_m_5.out.c0; have l_m_1_5 := HV_m_5.out.c1; have l_m_2_5 := HV_m_5.out.c2; clear hb HV_m_4 HV_t_4 HF_m_4 HF_t_4)
      | (go_at_call 11; have _x := HB_3; refine (grank_ok _ c r len0 d1 s1 T HF_t_3.out HRu.out).mono ?_; rintro e w4 ⟨t1, rfl, hk, hb⟩; have et := HT.out _ _ HK.out hk; subst et; have HB_4 : Hid (Below w.heap.size w w4) := two_below HB_3.out hb; have HV_m_4 : Hid (Vr w4 w.heap.size (.int .i64 (r : Int)) (.int .i64 (c : Int)) (.slice a0 len0 cap0)) := HV_m_3.out.later hb; have HV_t_4 : Hid (Vr w4 w3.heap.size (.int .i64 (c : Int)) (.int .i64 (r : Int)) (.slice s1 len0 d1)) := HV_t_3.out.later hb; have HF_m_4 : Hid (Mt w4 a0 len0 cap0 F) := HF_m_3.out.later hb; have HF_t_4 : Hid (Mt w4 s1 len0 d1 T) := HF_t_3.out.later hb; clear hk; have l_m_0_4 := HV_m_4.out.c0; have l_m_1_4 := HV_m_4.out.c1; have l_m_2_4 := HV_m_4.out.c2; clear hb HV_m_3 HV_t_3 HF_m_3 HF_t_3)
      | (go_at_call 27; have _x := HB_2; refine (rtrans_p _ r c len0 cap0 a0 F HF_m_2.out HR.out).mono ?_; rintro e w3 ⟨s1, d1, T, rfl, hm, hT, hb⟩; have HB_3 : Hid (Below w.heap.size w (w3.alloc (.cells #[.int .i64 (c : Int), .int .i64 (r : Int), .slice s1 len0 d1] 24))) := two_below (two_below HB_2.out hb) (alloc_low _ _); have HV_m_3 : Hid (Vr (w3.alloc (.cells #[.int .i64 (c : Int), .int .i64 (r : Int), .slice s1 len0 d1] 24)) w.heap.size (.int .i64 (r : Int)) (.int .i64 (c : Int)) (.slice a0 len0 cap0)) := (HV_m_2.out.later hb).later (alloc_low _ _); have HF_m_3 : Hid (Mt (w3.alloc (.cells #[.int .i64 (c : Int), .int .i64 (r : Int), .slice s1 len0 d1] 24)) a0 len0 cap0 F) := (HF_m_2.out.later hb).later (alloc_low _ _); have HV_t_3 : Hid (Vr (w3.alloc (.cells #[.int .i64 (c : Int), .int .i64 (r : Int), .slice s1 len0 d1] 24)) w3.heap.size (.int .i64 (c : Int)) (.int .i64 (r : Int)) (.slice s1 len0 d1)) := Vr.new w3 _ _ _; have HF_t_3 : Hid (Mt (w3.alloc (.cells #[.int .i64 (c : Int), .int .i64 (r : Int), .slice s1 len0 d1] 24)) s1 len0 d1 T) := (hm).later (alloc_low _ _); have HT : Hid (∀ k l, Rk (m2 F r c) r k → Rk (m2 T c r) c l → k = l) := hT; clear hm hT; have l_t_0_3 := HV_t_3.out.c0; have l_t_1_3 := HV_t_3.out.c1; have l_t_2_3 := HV_t_3.out.c2; clear hb HV_m_2 HF_m_2)
      | (go_at_call 25; have _x := HB_1; refine (right_yes _ _ _ _ _ _ HR.out.p).mono ?_; rintro e w2 ⟨rfl, hb⟩; have HB_2 : Hid (Below w.heap.size w w2) := two_below HB_1.out hb; have HV_m_2 : Hid (Vr w2 w.heap.size (.int .i64 (r : Int)) (.int .i64 (c : Int)) (.slice a0 len0 cap0)) := HV_m_1.out.later hb; have HF_m_2 : Hid (Mt w2 a0 len0 cap0 F) := HF_m_1.out.later hb; have l_m_0_2 := HV_m_2.out.c0; have l_m_1_2 := HV_m_2.out.c1; have l_m_2_2 := HV_m_2.out.c2; clear hb HV_m_1 HF_m_1)
      | (go_at_call 11; rw [← HW.out]; refine (grank_ok _ r c len0 cap0 a0 F HF_m_0.out HR.out).mono ?_; rintro e w1 ⟨t, rfl, hk, hb⟩; have HB_1 : Hid (Below w.heap.size w w1) := two_below HB_0.out hb; have HV_m_1 : Hid (Vr w1 w.heap.size (.int .i64 (r : Int)) (.int .i64 (c : Int)) (.slice a0 len0 cap0)) := HV_m_0.out.later hb; have HF_m_1 : Hid (Mt w1 a0 len0 cap0 F) := HF_m_0.out.later hb; have HK : Hid (Rk (m2 F r c) r t) := hk; have ht := hk.rows HEl.out; clear hk; have l_m_0_1 := HV_m_1.out.c0; have l_m_1_1 := HV_m_1.out.c1; have l_m_2_1 := HV_m_1.out.c2; clear hb HV_m_0 HF_m_0))
    go_ret
    exact ⟨rfl, HB_8.out⟩
  · have H1 : Hid (¬ RightP r0 c0 len0) := h
    clear h hM
    have HV_m_0 : Hid (Vr wb w.heap.size (.int .i64 r0) (.int .i64 c0) (.slice a0 len0 cap0)) := HVa.out
    have l_m_0_0 := HV_m_0.out.c0
    have l_m_1_0 := HV_m_0.out.c1
    have l_m_2_0 := HV_m_0.out.c2
    go_enter Try.func7, Try.ntmps7
    go_wp2_with (first
      | (go_at_call 26; have _x := HB_2; refine (anch4_any _).mono ?_; rintro e w3 ⟨rfl, hb⟩; have HB_3 : Hid (Below w.heap.size w w3) := two_below HB_2.out hb; have HV_m_3 : Hid (Vr w3 w.heap.size (.int .i64 r0) (.int .i64 c0) (.slice a0 len0 cap0)) := HV_m_2.out.later hb; have HF_m_3 : Hid (Mt w3 a0 len0 cap0 F) := HF_m_2.out.later hb; clear hb HV_m_2 HF_m_2)
      | (go_at_call 25; have _x := HB_1; refine (right_no _ _ _ _ _ _ H1.out).mono ?_; rintro e w2 ⟨rfl, hb⟩; have HB_2 : Hid (Below w.heap.size w w2) := two_below HB_1.out hb; have HV_m_2 : Hid (Vr w2 w.heap.size (.int .i64 r0) (.int .i64 c0) (.slice a0 len0 cap0)) := HV_m_1.out.later hb; have HF_m_2 : Hid (Mt w2 a0 len0 cap0 F) := HF_m_1.out.later hb; clear hb HV_m_1 HF_m_1)
      | (go_at_call 11; rw [← HW.out]; refine (grank_bad _ _ _ _ _ _ H1.out).mono ?_; rintro e w1 ⟨rfl, hb⟩; have HB_1 : Hid (Below w.heap.size w w1) := two_below HB_0.out hb; have HV_m_1 : Hid (Vr w1 w.heap.size (.int .i64 r0) (.int .i64 c0) (.slice a0 len0 cap0)) := HV_m_0.out.later hb; have HF_m_1 : Hid (Mt w1 a0 len0 cap0 F) := HF_m_0.out.later hb; have l_m_0_1 := HV_m_1.out.c0; have l_m_1_1 := HV_m_1.out.c1; have l_m_2_1 := HV_m_1.out.c2; clear hb HV_m_0 HF_m_0))
    go_ret
    exact ⟨rfl, HB_3.out⟩
set_option maxRecDepth 100000 in
set_option maxHeartbeats 2000000 in
theorem lifted (os : Os) (started : os.Started) (H : Type) (enc : TypeId × Value → H) :
    ReturnsInHanded {} Try.checked os 7 .any (Rows.gaussRanksSpec.pre6 enc Try.prog Try.f7 Rows.gaussRanksRow.domain false) (Rows.gaussRanksSpec.post enc Try.prog Try.f7 false true false false) := by
  refine returnsInHanded_of_change_sized (C := Try.checked) own started (by kernel_rfl) Try.func7
    (ChangeSpec.witness6 (enc := enc) (C := Try.checked) false ⟨#[], #[.agg #[.int .i64 0, .int .i64 0, .slice none 0 0]], []⟩ 8 (by kernel_rfl) (by kernel_rfl) (by kernel_rfl) (by kernel_rfl)) ?_
  intro W base args ds gs before hval0 hW hcnd hsz0 _
  have hsz : (DataW.weightsEach Try.prog (Try.f7.params.toList ++ Rows.gaussRanksSpec.plain.varTypes Try.prog) (ds ++ gs)).all (· ≤ reachBytes) = true := hsz0
  clear hsz0
  have hval : ∀ (j : Nat) t v, Try.f7.params[j]? = some t → args[j]? = some v → Value.okWide Try.prog W .any base t v := hval0
  have hW' := hW
  obtain ⟨p, q, hA0, hV, rfl, hfz, hnd⟩ := hW
  have hA : DataW.TrodAll enc Try.prog W 0 (fun _ => true) true Try.f7.params.toList args.toList ds p := hA0
  rw [Try.params7] at hA hval hsz
  obtain ⟨va0, vs0, d0, ds0, p0, q0, hargs, rfl, rfl, h0, tr0⟩ := trodAll_cons hA
  obtain ⟨rfl, rfl, rfl⟩ := trodAll_nil tr0
  obtain rfl : args = #[va0] := by cases args; simp_all
  obtain ⟨rfl, rfl⟩ := trodVars_none hV
  have k0 := h0
  have lt0 : ∀ x ∈ p0, x.block < W.heap.size := by obtain ⟨m, hm⟩ := k0; exact DataW.trod_lt m _ _ _ hm
  obtain ⟨f0, g0, s0, y0, x0, e0, m0, rfl, rfl, rfl, hf0, hg0, hs0⟩ := open_agg3 Try.underlying24 (by kernel_rfl) cellsM (hval 0 24 va0 rfl rfl) h0
  obtain ⟨r0, er0, rfl, u0⟩ := DataW.trod_int Try.underlying3 hf0
  obtain ⟨c0, ec0, rfl, v0⟩ := DataW.trod_int Try.underlying3 hg0
  simp only [List.cons.injEq, and_true] at er0 ec0
  subst er0 ec0
  obtain ⟨a0, len0, cap0, rfl⟩ : ∃ a l c, s0 = .slice a l c := by
    rcases open_ints Try.underlying22 Try.underlying5 (by kernel_rfl) hs0 with ⟨hcs, _⟩ | ⟨x, l, c, zs, hcs, _⟩
    · simp only [List.cons.injEq, and_true] at hcs; exact ⟨_, _, _, hcs⟩
    · simp only [List.cons.injEq, and_true] at hcs; exact ⟨_, _, _, hcs⟩
  obtain ⟨z0, w0⟩ : ∃ zs, IsRow .u8 W a0 len0 cap0 zs := by
    obtain ⟨fuel, hf⟩ := (⟨m0, hs0⟩ : ∃ fuel, DataW.trod enc Try.prog W 0 (fun _ => true) true fuel 22 [.slice a0 len0 cap0] = some e0)
    rcases open_ints Try.underlying22 Try.underlying5 (by kernel_rfl) hf with ⟨hcs, _⟩ | ⟨x, l, c, zs, hcs, _, hl, hm, hz, hxx, hcell, hwz⟩
    · simp at hcs
      obtain ⟨rfl, rfl, rfl⟩ := hcs
      exact ⟨[], .inl ⟨rfl, rfl, rfl, rfl⟩⟩
    · simp at hcs
      obtain ⟨rfl, rfl, rfl⟩ := hcs
      have hd := congrArg Prod.fst hxx
      have hs := sized_slice (sized_in hsz (j := 0) (t := 24) rfl rfl) (j := 2) (t := 22) (e := 5) rfl (congrArg some hd) Try.underlying22
      rw [show Try.prog.bytesOf 5 = 1 from by kernel_rfl] at hs
      have hzl : zs.length = cap0 := by simpa using hz
      simp only [lits, List.length_map, List.length_take, List.length_drop, reachBytes] at hs
      exact ⟨zs, .inr ⟨_, rfl, hl, by omega, by simpa using hz, hcell, hwz⟩⟩
  clear hA0 hval0
  refine (walk r0 c0 a0 len0 cap0 z0 W u0 v0 w0).mono fun e W' ⟨he, bel⟩ => ?_
  subst he
  exact ⟨_, rfl, _, _, _, [], _, [], hW', trodAll_mk1 (shut_bool Try.underlying4 _), (trodAll_cons_mk (Below.trod laidOut (by kernel_rfl) (of_decide_eq_true (by kernel_rfl)) k0 bel lt0) trodAll_mk0), rfl, bel.frame _, fun h => by cases h⟩
theorem over : Rows.gaussRanksRow.holds Try.pinned (OpenSpec.ofChange Rows.gaussRanksSpec) :=
  OpenClaim.holds_of_wide 7 Try.f7 rfl rfl rfl rfl rfl rfl rfl ⟨rfl, rfl, rfl, rfl, rfl⟩ rfl rfl rfl rfl rfl (by kernel_rfl) Try.func7 (by kernel_rfl)
    (of_decide_eq_true (by kernel_rfl)) (by unfold Func.isWrapper; first | (rw [if_pos (by decide +kernel)]; kernel_rfl) | (rw [if_neg (by decide +kernel)]; exact ⟨rfl, rfl⟩))
    (fun os started H enc _ => lifted os started H enc)
theorem proved : Rows.GaussRanksSaid := over
#print axioms proved
end Go.Proofs.Ytfplhaelpbocjaa.gaussRanks
