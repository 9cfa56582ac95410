/-
  Proved: for every matrix m, every two rows and every factor a reduced matrix is reduced to itself, and what is done to rows leaves the reduced form (P4.5); no condition.
-/
import Derived.Test.YtfplhaelpbocjaaGq
import Derived.WalkKit
import Derived.SizedLaws
import Derived.ProofKit
import Derived.OpenShut
import Derived.ShutString
import Derived.ChangeOld
import Derived.Below
import Derived.Lib.SmallJoins
import Derived.Deep.Matrix
namespace Go.Proofs.Ytfplhaelpbocjaa.gaussStays
open Go.ChangeShapes Go.WideShapes Go.ChangeAt Go.RowKit Go.Joins
set_option linter.unusedVariables false
theorem own : ownKnob Try.prog.godebug = none := by kernel_rfl
theorem laidOut : laidOutB Try.prog = true := by kernel_rfl
/-- A slice of integers that came in. -/
def IsRow (k : IntKind) (w : World) (a : Option Addr) (len cap : Nat) (zs : List Int) : Prop :=
  (a = none ∧ len = 0 ∧ cap = 0 ∧ zs = []) ∨
  ∃ x, a = some x ∧ len ≤ cap ∧ cap ≤ 140737488351232 ∧ zs.length = cap ∧ (∀ i, i < zs.length → w.cell? (x.add i) = some (.int k (zs.getD i 0))) ∧ ∀ n ∈ zs, (Lit.int k n).wf = true
/-- A slice of slices of bytes that came in. -/
def IsRows (w : World) (a : Option Addr) (len cap : Nat) : Prop :=
  (a = none ∧ len = 0 ∧ cap = 0) ∨
  ∃ x, a = some x ∧ len ≤ cap ∧ cap ≤ 140737488351232 ∧ ∀ r, r < cap → ∃ b l c zs, w.cell? (x.add r) = some (.slice b l c) ∧ IsRow .u8 w b l c zs
theorem sized_in {H : Type} {P : Program} {ts : List TypeId} {ds : List (DataW H)} (h : (DataW.weightsEach P ts ds).all (· ≤ reachBytes) = true) {j : Nat} {t : TypeId} {d : DataW H} (ht : ts[j]? = some t) (hd : ds[j]? = some d) : (d.weights P t).all (· ≤ reachBytes) = true :=
  List.all_eq_true.2 fun n hn => List.all_eq_true.1 h n (DataW.weights_mem_each ht hd n hn)
theorem sized_all {H : Type} {P : Program} {e : TypeId} : ∀ {ds : List (DataW H)}, (DataW.weightsAll P e ds).all (· ≤ reachBytes) = true → ∀ d ∈ ds, (d.weights P e).all (· ≤ reachBytes) = true
  | [], _, d, hd => by simp at hd
  | d0 :: r, h, d, hd => by
    simp only [DataW.weightsAll, List.all_append, Bool.and_eq_true] at h
    rcases List.mem_cons.1 hd with rfl | hd
    · exact h.1
    · exact sized_all h.2 d hd
theorem cellsM : Try.prog.cellsOf 24 = 3 := by kernel_rfl

set_option maxRecDepth 20000 in
set_option maxHeartbeats 8000000 in
theorem walk (r0 c0 : Int) (a0 : Option Addr) (len0 cap0 : Nat) (z0 : List Int) (n1 m1 : Int) (n2 : Int) (w : World) (u0 : (Lit.int .i64 r0).wf = true) (v0 : (Lit.int .i64 c0).wf = true) (w0 : IsRow .u8 w a0 len0 cap0 z0) (w1 : (Lit.int .i64 n1).wf = true) (x1 : (Lit.int .i64 m1).wf = true) (w2 : (Lit.int .u8 n2).wf = true) :
    Calls Try.prog 8 #[.agg #[.int .i64 r0, .int .i64 c0, .slice a0 len0 cap0], .agg #[.int .i64 n1, .int .i64 m1], .int .u8 n2] w fun e w' => e = .returned (.bool true) ∧ Below w.heap.size w w' := by
  obtain ⟨F, hM, hn⟩ := mt_of_row w a0 len0 cap0 z0 w0
  have HM : Hid (Mt w a0 len0 cap0 F) := hM
  clear w0 u0 v0 hn w1 x1
  obtain ⟨wb, HW⟩ : ∃ wb, Hid (wb = ((w.alloc (.cells #[.int .i64 r0, .int .i64 c0, .slice a0 len0 cap0] 24)).alloc (.cells #[.int .i64 n1, .int .i64 m1] 51)).drew) := ⟨_, rfl⟩
  have HVa : Hid (Vr wb w.heap.size (.int .i64 r0) (.int .i64 c0) (.slice a0 len0 cap0)) := by show Vr _ _ _ _ _; rw [HW.out]; exact ((Vr.new w _ _ _).later (alloc_low _ _)).later (Below.refl _ _).drew
  have HB_0 : Hid (Below w.heap.size w wb) := by rw [HW.out]; exact (two_below (alloc_low _ _) (alloc_low _ _)).drew
  have HF_m_0 : Hid (Mt wb a0 len0 cap0 F) := HM.out.later HB_0.out
  by_cases h : RightP r0 c0 len0
  · obtain ⟨r, c, rfl, rfl, R⟩ := right_rt h
    have HR : Hid (Rt r c len0) := R
    have HEl : Hid (El2 (m2 F r c)) := m2_el hM.sl.1 R
    have HFl : Hid (∀ i, i < len0 → F i < 256) := hM.sl.1
    have hr := R.r64
    have hc := R.c64
    have hcb : 0 ≤ n2 ∧ n2 < 256 := by have := byte_of_wf w2; unfold Byte at this; omega
    obtain ⟨k, rfl⟩ : ∃ k : Nat, n2 = (k : Int) := ⟨n2.toNat, by omega⟩
    have hk : k < 256 := by omega
    clear h R hM hcb w2
    have HV_m_0 : Hid (Vr wb w.heap.size (.int .i64 (r : Int)) (.int .i64 (c : Int)) (.slice a0 len0 cap0)) := HVa.out
    have l_m_0_0 := HV_m_0.out.c0
    have l_m_1_0 := HV_m_0.out.c1
    have l_m_2_0 := HV_m_0.out.c2
    go_enter Try.func8, Try.ntmps8
    go_wp2
    go_region
    go_upto_region 8 with (first
      | (go_at_call 12; have _x := HB_3; refine (like_ans _ _ _ _ _ len0 _ _ G G2 HF_r_3.out HF_s_3.out HE.out).mono ?_; rintro e w4 ⟨rfl, hb⟩; have HB_4 : Hid (Below w.heap.size w w4) := two_below HB_3.out hb; have HV_m_4 : Hid (Vr w4 w.heap.size (.int .i64 (r : Int)) (.int .i64 (c : Int)) (.slice a0 len0 cap0)) := HV_m_3.out.later hb; have HV_r_4 : Hid (Vr w4 w1.heap.size (.int .i64 (r : Int)) (.int .i64 (c : Int)) (.slice s1 len0 d1)) := HV_r_3.out.later hb; have HV_s_4 : Hid (Vr w4 w3.heap.size (.int .i64 (r : Int)) (.int .i64 (c : Int)) (.slice s2 len0 d2)) := HV_s_3.out.later hb; have HF_m_4 : Hid (Mt w4 a0 len0 cap0 F) := HF_m_3.out.later hb; have HF_r_4 : Hid (Mt w4 s1 len0 d1 G) := HF_r_3.out.later hb; have HF_s_4 : Hid (Mt w4 s2 len0 d2 G2) := HF_s_3.out.later hb; have l_m_0_4 := HV_m_4.out.c0; have l_m_1_4 := HV_m_4.out.c1; have l_m_2_4 := HV_m_4.out.c2; have l_r_0_4 := HV_r_4.out.c0; have l_r_1_4 := HV_r_4.out.c1; have l_r_2_4 := HV_r_4.out.c2; have l_s_0_4 := HV_s_4.out.c0; have l_s_1_4 := HV_s_4.out.c1; have l_s_2_4 := HV_s_4.out.c2; clear hb HV_m_3 HV_r_3 HV_s_3 HF_m_3 HF_r_3 HF_s_3)
      | (go_at_call 9; have _x := HB_2; refine (gred_ok _ r c len0 d1 s1 G HF_r_2.out HR.out).mono ?_; rintro e w3 ⟨s2, d2, ps2, pd2, t2, p2, G2, rfl, hm2, _, hR2, hS2, _, hb⟩; have HB_3 : Hid (Below w.heap.size w (w3.alloc (.cells #[.int .i64 (r : Int), .int .i64 (c : Int), .slice s2 len0 d2] 24))) := two_below (two_below HB_2.out hb) (alloc_low _ _); have HV_m_3 : Hid (Vr (w3.alloc (.cells #[.int .i64 (r : Int), .int .i64 (c : Int), .slice s2 len0 d2] 24)) w.heap.size (.int .i64 (r : Int)) (.int .i64 (c : Int)) (.slice a0 len0 cap0)) := (HV_m_2.out.later hb).later (alloc_low _ _); have HV_r_3 : Hid (Vr (w3.alloc (.cells #[.int .i64 (r : Int), .int .i64 (c : Int), .slice s2 len0 d2] 24)) w1.heap.size (.int .i64 (r : Int)) (.int .i64 (c : Int)) (.slice s1 len0 d1)) := (HV_r_2.out.later hb).later (alloc_low _ _); have HF_m_3 : Hid (Mt (w3.alloc (.cells #[.int .i64 (r : Int), .int .i64 (c : Int), .slice s2 len0 d2] 24)) a0 len0 cap0 F) := (HF_m_2.out.later hb).later (alloc_low _ _); have HF_r_3 : Hid (Mt (w3.alloc (.cells #[.int .i64 (r : Int), .int .i64 (c : Int), .slice s2 len0 d2] 24)) s1 len0 d1 G) := (HF_r_2.out.later hb).later (alloc_low _ _); have HV_s_3 : Hid (Vr (w3.alloc (.cells #[.int .i64 (r : Int), .int .i64 (c : Int), .slice s2 len0 d2] 24)) w3.heap.size (.int .i64 (r : Int)) (.int .i64 (c : Int)) (.slice s2 len0 d2)) := Vr.new w3 _ _ _; have HF_s_3 : Hid (Mt (w3.alloc (.cells #[.int .i64 (r : Int), .int .i64 (c : Int), .slice s2 len0 d2] 24)) s2 len0 d2 G2) := (hm2).later (alloc_low _ _); have HE : Hid (∀ x, x < len0 → G x = G2 x) := stays_self HR.out HR1.out HS1.out hR2 hS2; clear hm2 hR2 hS2; have l_m_0_3 := HV_m_3.out.c0; have l_m_1_3 := HV_m_3.out.c1; have l_m_2_3 := HV_m_3.out.c2; have l_r_0_3 := HV_r_3.out.c0; have l_r_1_3 := HV_r_3.out.c1; have l_r_2_3 := HV_r_3.out.c2; have l_s_0_3 := HV_s_3.out.c0; have l_s_1_3 := HV_s_3.out.c1; have l_s_2_3 := HV_s_3.out.c2; clear hb HV_m_2 HV_r_2 HF_m_2 HF_r_2)
      | (go_at_call 25; have _x := HB_1; refine (right_yes _ _ _ _ _ _ HR.out.p).mono ?_; rintro e w2 ⟨rfl, hb⟩; have HB_2 : Hid (Below w.heap.size w w2) := two_below HB_1.out hb; have HV_m_2 : Hid (Vr w2 w.heap.size (.int .i64 (r : Int)) (.int .i64 (c : Int)) (.slice a0 len0 cap0)) := HV_m_1.out.later hb; have HV_r_2 : Hid (Vr w2 w1.heap.size (.int .i64 (r : Int)) (.int .i64 (c : Int)) (.slice s1 len0 d1)) := HV_r_1.out.later hb; have HF_m_2 : Hid (Mt w2 a0 len0 cap0 F) := HF_m_1.out.later hb; have HF_r_2 : Hid (Mt w2 s1 len0 d1 G) := HF_r_1.out.later hb; have l_m_0_2 := HV_m_2.out.c0; have l_m_1_2 := HV_m_2.out.c1; have l_m_2_2 := HV_m_2.out.c2; have l_r_0_2 := HV_r_2.out.c0; have l_r_1_2 := HV_r_2.out.c1; have l_r_2_2 := HV_r_2.out.c2; clear hb HV_m_1 HV_r_1 HF_m_1 HF_r_1)
      | (go_at_call 9; rw [← HW.out]; refine (gred_ok _ r c len0 cap0 a0 F HF_m_0.out HR.out).mono ?_; rintro e w1 ⟨s1, d1, ps1, pd1, t1, p1, G, rfl, hm1, _, hR1, hS1, _, hb⟩; have HB_1 : Hid (Below w.heap.size w (w1.alloc (.cells #[.int .i64 (r : Int), .int .i64 (c : Int), .slice s1 len0 d1] 24))) := two_below (two_below HB_0.out hb) (alloc_low _ _); have HV_m_1 : Hid (Vr (w1.alloc (.cells #[.int .i64 (r : Int), .int .i64 (c : Int), .slice s1 len0 d1] 24)) w.heap.size (.int .i64 (r : Int)) (.int .i64 (c : Int)) (.slice a0 len0 cap0)) := (HV_m_0.out.later hb).later (alloc_low _ _); have HF_m_1 : Hid (Mt (w1.alloc (.cells #[.int .i64 (r : Int), .int .i64 (c : Int), .slice s1 len0 d1] 24)) a0 len0 cap0 F) := (HF_m_0.out.later hb).later (alloc_low _ _); have HV_r_1 : Hid (Vr (w1.alloc (.cells #[.int .i64 (r : Int), .int .i64 (c : Int), .slice s1 len0 d1] 24)) w1.heap.size (.int .i64 (r : Int)) (.int .i64 (c : Int)) (.slice s1 len0 d1)) := Vr.new w1 _ _ _; have HF_r_1 : Hid (Mt (w1.alloc (.cells #[.int .i64 (r : Int), .int .i64 (c : Int), .slice s1 len0 d1] 24)) s1 len0 d1 G) := (hm1).later (alloc_low _ _); have HR1 : Hid (Rdf (m2 G r c) r t1 p1) := hR1; have HS1 : Hid (SpEq (m2 G r c) r (m2 F r c) r) := hS1; clear hm1 hR1 hS1; have l_m_0_1 := HV_m_1.out.c0; have l_m_1_1 := HV_m_1.out.c1; have l_m_2_1 := HV_m_1.out.c2; have l_r_0_1 := HV_r_1.out.c0; have l_r_1_1 := HV_r_1.out.c1; have l_r_2_1 := HV_r_1.out.c2; clear hb HV_m_0 HF_m_0))
    clear l_m_0_0 l_m_1_0 l_m_2_0 l_m_0_1 l_m_1_1 l_m_2_1 l_r_0_1 l_r_1_1 l_r_2_1 l_m_0_2 l_m_1_2 l_m_2_2 l_r_0_2 l_r_1_2 l_r_2_2 l_m_0_3 l_m_1_3 l_m_2_3 l_r_0_3 l_r_1_3 l_r_2_3 l_s_0_3 l_s_1_3 l_s_2_3 l_s_0_4 l_s_1_4 l_s_2_4 HVa HV_s_4 HF_s_4
    by_cases h0 : n1 < 0
    · have g0 : decide (n1 < 0) = true := by simpa using h0
      go_wp2_with (go_at_call 26; refine (anch4_any _).mono ?_; rintro e w5 ⟨rfl, hb⟩; have HB_5 : Hid (Below w.heap.size w w5) := two_below HB_4.out hb; clear hb)
      go_ret
      exact ⟨rfl, HB_5.out⟩
    have g0 : decide (n1 < 0) = false := by simpa using h0
    by_cases h1 : m1 < 0
    · have g1 : decide (m1 < 0) = true := by simpa using h1
      go_wp2_with (go_at_call 26; refine (anch4_any _).mono ?_; rintro e w5 ⟨rfl, hb⟩; have HB_5 : Hid (Below w.heap.size w w5) := two_below HB_4.out hb; clear hb)
      go_ret
      exact ⟨rfl, HB_5.out⟩
    have g1 : decide (m1 < 0) = false := by simpa using h1
    by_cases h2 : (r : Int) ≤ n1
    · have g2 : decide ((r : Int) ≤ n1) = true := by simpa using h2
      go_wp2_with (go_at_call 26; refine (anch4_any _).mono ?_; rintro e w5 ⟨rfl, hb⟩; have HB_5 : Hid (Below w.heap.size w w5) := two_below HB_4.out hb; clear hb)
      go_ret
      exact ⟨rfl, HB_5.out⟩
    have g2 : decide ((r : Int) ≤ n1) = false := by simpa using h2
    by_cases h3 : (r : Int) ≤ m1
    · have g3 : decide ((r : Int) ≤ m1) = true := by simpa using h3
      go_wp2_with (go_at_call 26; refine (anch4_any _).mono ?_; rintro e w5 ⟨rfl, hb⟩; have HB_5 : Hid (Below w.heap.size w w5) := two_below HB_4.out hb; clear hb)
      go_ret
      exact ⟨rfl, HB_5.out⟩
    have g3 : decide ((r : Int) ≤ m1) = false := by simpa using h3
    by_cases h4 : n1 = m1
    · have g4 : (n1 == m1) = true := by simpa using h4
      go_wp2_with (go_at_call 26; refine (anch4_any _).mono ?_; rintro e w5 ⟨rfl, hb⟩; have HB_5 : Hid (Below w.heap.size w w5) := two_below HB_4.out hb; clear hb)
      go_ret
      exact ⟨rfl, HB_5.out⟩
    have g4 : (n1 == m1) = false := by simpa using h4
    by_cases h5 : (k : Int) = 0
    · obtain rfl : k = 0 := by omega
      go_wp2_with (go_at_call 26; refine (anch4_any _).mono ?_; rintro e w5 ⟨rfl, hb⟩; have HB_5 : Hid (Below w.heap.size w w5) := two_below HB_4.out hb; clear hb)
      go_ret
      exact ⟨rfl, HB_5.out⟩
    have g5 : ((k : Int) == 0) = false := by simpa using h5
    go_wp2_with (go_at_call 28; have _x := HB_4; refine (rcopy3_any _ _ _ len0 cap0 a0 F HF_m_4.out.sl (by have := HR.out.le; omega) HF_m_4.out.nil).mono ?_; rintro e w5 ⟨s5, d5, rfl, ho, hb⟩; have HO5 : Hid (Ob w5 w4.heap.size (.slice s5 len0 d5) len0 F) := ho; have HB45 : Hid (Below w4.heap.size w4 w5) := hb; clear ho hb)
    clear HW
    obtain ⟨i, rfl⟩ : ∃ i : Nat, n1 = (i : Int) := ⟨n1.toNat, by omega⟩
    obtain ⟨j, rfl⟩ : ∃ j : Nat, m1 = (j : Int) := ⟨m1.toNat, by omega⟩
    have hir : i < r := by omega
    have hjr : j < r := by omega
    have hij : i ≠ j := by omega
    clear g0 g1 g2 g3 g4 g5 h0 h1 h2 h3 h4 h5
    have HI0 : Hid (Cpi w4 (w5.alloc (.cells #[.int .i64 (r : Int), .int .i64 (c : Int), .slice s5 len0 d5] 24)) w5.heap.size r c len0 d5 s5 F) := ⟨Vr.new w5 _ _ _, HO5.out.later (alloc_low _ _), HB45.out.size, two_below HB45.out (alloc_low _ _)⟩
    go_loopw [16] (fun sl wl => ∃ l : Nat, sl = .int .i64 (l : Int) ∧ l ≤ c ∧ Hid (Cpi w4 wl w5.heap.size r c len0 d5 s5 (ptr F c i j k l))) (fun sl _ => c - (intOf sl).toNat)
    case atStart => exact ⟨0, rfl, by omega, HI0.out.congr (fun q _ => (ptr_zero F c i j k q).symm)⟩
    case round =>
      clear HI0 HO5 l_m_0_4 l_m_1_4 l_m_2_4 l_r_0_4 l_r_1_4 l_r_2_4
      obtain ⟨l, rfl, hl, HI⟩ := hrel
      have HVm : Hid (Vr wr w.heap.size (.int .i64 (r : Int)) (.int .i64 (c : Int)) (.slice a0 len0 cap0)) := HV_m_4.out.later HI.out.bel
      have q0 := HVm.out.c0
      have q1 := HVm.out.c1
      have q2 := HVm.out.c2
      by_cases hll : l < c
      · obtain ⟨P, HP⟩ : ∃ x, Hid (j * c + l = x) := ⟨_, rfl⟩
        have hpn : P < len0 := by rw [← HP.out]; exact HR.out.at hjr hll
        obtain ⟨gd, es⟩ := HI.out.data.some (by omega)
        have HGD : Hid (s5 = some ⟨gd, 0, none⟩) := es
        clear es
        obtain ⟨u, HU⟩ : ∃ x, Hid (F (i * c + l) = x) := ⟨_, rfl⟩
        obtain ⟨v, HV⟩ : ∃ x, Hid (F (j * c + l) = x) := ⟨_, rfl⟩
        have hu : u < 256 := by rw [← HU.out]; exact HFl.out _ (HR.out.at hir hll)
        have hv : v < 256 := by rw [← HV.out]; exact HFl.out _ (HR.out.at hjr hll)
        obtain ⟨x, HX⟩ : ∃ x, Hid (fm k u = x) := ⟨_, rfl⟩
        have hx : x < 256 := by rw [← HX.out]; exact fm_lt _ _ hk
        have hxo : bits .xor .u8 (x : Int) (v : Int) = ((x ^^^ v : Nat) : Int) := u8_xor_nat _ _ hx hv
        have HMul : Hid (∀ w, Calls Try.prog 30 #[.int .u8 (k : Int), .int .u8 (u : Int)] w fun e w' => e = .returned (.int .u8 (x : Int)) ∧ w = w') := by rw [← HX.out]; exact fun w => rmul_at k u w hk hu
        have HAi : Hid (∀ w', Below wr.heap.size wr w' → Calls Try.prog 29 #[.agg #[.int .i64 (r : Int), .int .i64 (c : Int), .slice a0 len0 cap0], .int .i64 (i : Int), .int .i64 (l : Int)] w' fun e w'' => e = .returned (.int .u8 (u : Int)) ∧ Below w'.heap.size w' w'') := fun w' h' => at3_any w' _ c i l len0 cap0 u a0 F ((HF_m_4.out.later HI.out.bel).later h').sl (HR.out.at hir hll) HR.out.le HU
        have HAj : Hid (∀ w', Below wr.heap.size wr w' → Calls Try.prog 29 #[.agg #[.int .i64 (r : Int), .int .i64 (c : Int), .slice a0 len0 cap0], .int .i64 (j : Int), .int .i64 (l : Int)] w' fun e w'' => e = .returned (.int .u8 (v : Int)) ∧ Below w'.heap.size w' w'') := fun w' h' => at3_any w' _ c j l len0 cap0 v a0 F ((HF_m_4.out.later HI.out.bel).later h').sl (HR.out.at hjr hll) HR.out.le HV
        have e1 : ((j : Int) * (c : Int)) = ((j * c : Nat) : Int) := by simp
        have hmp : j * c ≤ P := by rw [← HP.out]; omega
        have hn4 := HR.out.le
        have w1' : IntKind.i64.wrap ((j : Int) * (c : Int)) = (j : Int) * (c : Int) := by rw [e1, IntKind.wrap_i64]; omega
        have w2' : IntKind.i64.wrap ((j : Int) * (c : Int) + (l : Int)) = (P : Int) := by rw [e1, IntKind.wrap_i64]; have := HP.out; omega
        have p0 : (0 : Int) ≤ (P : Int) := by omega
        have p1 : (P : Int) < (len0 : Int) := by omega
        clear e1
        go_wp2
        obtain ⟨y0, HWD⟩ : ∃ y, Hid (y = wr.drew) := ⟨_, rfl⟩
        have HD : Hid (y0.cell? ⟨w.heap.size, 0, none⟩ = some (.int .i64 (r : Int)) ∧ y0.cell? ⟨w.heap.size, 1, none⟩ = some (.int .i64 (c : Int)) ∧ y0.cell? ⟨w.heap.size, 2, none⟩ = some (.slice a0 len0 cap0)) := by rw [HWD.out]; exact ⟨q0, q1, q2⟩
        refine wp_region_held (S := fun w' => w'.cell? ⟨w.heap.size, 0, none⟩ = some (.int .i64 (r : Int)) ∧ w'.cell? ⟨w.heap.size, 1, none⟩ = some (.int .i64 (c : Int)) ∧ w'.cell? ⟨w.heap.size, 2, none⟩ = some (.slice a0 len0 cap0)) (by kernel_rfl) ?_
        change wpAnyH _ _ _ _ _ _ _ _ wr.drew
        rw [← HWD.out]
        refine wpAnyH_take (i := 0) (v := ?va0) rfl (by kernel_rfl) (by kernel_rfl) (by kernel_rfl) (fun _ _ _ h => h) (Or.inl ⟨by rfl, ?ya0⟩) HD.out ?za0
        case ya0 => (intro w hSw; (try dsimp only at hSw); go_simp; try with_reducible rfl)
        try simp only [List.getElem_toArray, List.getElem_cons_zero, Act.put, List.setIfInBounds_toArray, List.set_cons_zero, List.set_cons_succ]
        refine wpAnyH_take (i := 1) (v := ?va1) rfl (by kernel_rfl) (by kernel_rfl) (by kernel_rfl) (fun _ _ _ h => h) (Or.inl ⟨by rfl, ?ya1⟩) HD.out ?za1
        case ya1 => (intro w hSw; (try dsimp only at hSw); go_simp; try with_reducible rfl)
        try simp only [List.getElem_toArray, List.getElem_cons_succ, List.getElem_cons_zero, Act.put, List.setIfInBounds_toArray, List.set_cons_zero, List.set_cons_succ]
        refine wpAnyH_take (i := 2) (v := ?va2) rfl (by kernel_rfl) (by kernel_rfl) (by kernel_rfl) (fun _ _ _ h => h) (Or.inl ⟨by rfl, ?ya2⟩) HD.out ?za2
        case ya2 => (intro w hSw; (try dsimp only at hSw); go_simp; try with_reducible rfl)
        try simp only [List.getElem_toArray, List.getElem_cons_succ, List.getElem_cons_zero, Act.put, List.setIfInBounds_toArray, List.set_cons_zero, List.set_cons_succ]
        refine wpAnyH_take (i := 4) (v := ?va4) rfl (by kernel_rfl) (by kernel_rfl) (by kernel_rfl) (fun _ _ _ h => h) (Or.inl ⟨by rfl, ?ya4⟩) HD.out ?za4
        case ya4 => (intro w hSw; (try dsimp only at hSw); go_simp; try with_reducible rfl)
        try simp only [List.getElem_toArray, List.getElem_cons_succ, List.getElem_cons_zero, Act.put, List.setIfInBounds_toArray, List.set_cons_zero, List.set_cons_succ]
        refine wpAnyH_take (i := 5) (v := ?va5) rfl (by kernel_rfl) (by kernel_rfl) (by kernel_rfl) (fun _ _ _ h => h) (Or.inl ⟨by rfl, ?ya5⟩) HD.out ?za5
        case ya5 => (intro w hSw; (try dsimp only at hSw); go_simp; try with_reducible rfl)
        try simp only [List.getElem_toArray, List.getElem_cons_succ, List.getElem_cons_zero, Act.put, List.setIfInBounds_toArray, List.set_cons_zero, List.set_cons_succ]
        refine wpAnyH_take (i := 6) (v := ?va6) rfl (by kernel_rfl) (by kernel_rfl) (by kernel_rfl) (fun _ _ _ h => h) (Or.inl ⟨by rfl, ?ya6⟩) HD.out ?za6
        case ya6 => (intro w hSw; (try dsimp only at hSw); go_simp; try with_reducible rfl)
        try simp only [List.getElem_toArray, List.getElem_cons_succ, List.getElem_cons_zero, Act.put, List.setIfInBounds_toArray, List.set_cons_zero, List.set_cons_succ]
        refine wpAnyH_ready (rs := [3]) (by kernel_rfl) (by simp) ?_
        refine AllReadyH.cons rfl (fun K hK => ?_) AllReadyH.nil
        go_simp
        have hb0 : Below wr.heap.size wr y0 := by rw [HWD.out]; exact (Below.refl _ _).drew
        refine (HAi.out _ hb0).mono ?_
        rintro e y1 ⟨rfl, hb1⟩
        have HB1 : Hid (Below wr.heap.size wr y1) := two_below hb0 hb1
        have HD1 : Hid (y1.cell? ⟨w.heap.size, 0, none⟩ = some (.int .i64 (r : Int)) ∧ y1.cell? ⟨w.heap.size, 1, none⟩ = some (.int .i64 (c : Int)) ∧ y1.cell? ⟨w.heap.size, 2, none⟩ = some (.slice a0 len0 cap0)) := ⟨keepb2 hb1 HD.out.1, keepb2 hb1 HD.out.2.1, keepb2 hb1 HD.out.2.2⟩
        clear hb1 hb0
        refine hK.out _ _ HD1.out (fun _ => ?_)
        clear hK K
        try simp only [List.getElem_toArray, List.getElem_cons_succ, List.getElem_cons_zero, Act.put, List.setIfInBounds_toArray, List.set_cons_zero, List.set_cons_succ]
        refine wpAnyH_ready (rs := [7]) (by kernel_rfl) (by simp) ?_
        refine AllReadyH.cons rfl (fun K hK => ?_) AllReadyH.nil
        go_simp
        refine (HAj.out _ HB1.out).mono ?_
        rintro e y2 ⟨rfl, hb2⟩
        have HB2 : Hid (Below wr.heap.size wr y2) := two_below HB1.out hb2
        have HD2 : Hid (y2.cell? ⟨w.heap.size, 0, none⟩ = some (.int .i64 (r : Int)) ∧ y2.cell? ⟨w.heap.size, 1, none⟩ = some (.int .i64 (c : Int)) ∧ y2.cell? ⟨w.heap.size, 2, none⟩ = some (.slice a0 len0 cap0)) := ⟨keepb2 hb2 HD1.out.1, keepb2 hb2 HD1.out.2.1, keepb2 hb2 HD1.out.2.2⟩
        clear hb2
        refine hK.out _ _ HD2.out (fun _ => ?_)
        clear hK K
        try simp only [List.getElem_toArray, List.getElem_cons_succ, List.getElem_cons_zero, Act.put, List.setIfInBounds_toArray, List.set_cons_zero, List.set_cons_succ]
        refine wpAnyH_take (i := 8) (v := ?va8) rfl (by kernel_rfl) (by kernel_rfl) (by kernel_rfl) (fun _ _ _ h => h) (Or.inl ⟨by rfl, ?ya8⟩) HD2.out ?za8
        case ya8 => (intro w hSw; (try dsimp only at hSw); go_simp; try with_reducible rfl)
        try simp only [List.getElem_toArray, List.getElem_cons_succ, List.getElem_cons_zero, Act.put, List.setIfInBounds_toArray, List.set_cons_zero, List.set_cons_succ]
        refine wpAnyH_take (i := 9) (v := ?va9) rfl (by kernel_rfl) (by kernel_rfl) (by kernel_rfl) (fun _ _ _ h => h) (Or.inl ⟨by rfl, ?ya9⟩) HD2.out ?za9
        case ya9 => (intro w hSw; (try dsimp only at hSw); go_simp; try with_reducible rfl)
        try simp only [List.getElem_toArray, List.getElem_cons_succ, List.getElem_cons_zero, Act.put, List.setIfInBounds_toArray, List.set_cons_zero, List.set_cons_succ]
        refine wpAnyH_done (by kernel_rfl) ?_ _
        go_wp2
        have HI2 : Hid (Cpi w4 y2 w5.heap.size r c len0 d5 (some ⟨gd, 0, none⟩) (ptr F c i j k l)) := by have := HI.out.later HB2.out; rw [HGD.out] at this; exact this
        have hd := HI2.out.data.cell hpn
        have hf := HI2.out.data.free P
        have HN : Hid (Cpi w4 (y2.drew.setCell ⟨gd, P, none⟩ (.int .u8 (x ^^^ v : Nat))) w5.heap.size r c len0 d5 s5 (ptr F c i j k (l + 1))) := by rw [HGD.out]; exact ((HI2.out.later (Below.refl _ _).drew).set (q := P) (x := x ^^^ v)).congr (fun t _ => by rw [← HX.out, ← HU.out, ← HV.out, ← HP.out]; exact ptr_step F c i j k l t)
        have HE : Hid (y2.drew.cell? ⟨w5.heap.size, 2, none⟩ = some (.slice (some ⟨gd, 0, none⟩) len0 d5) ∧ y2.drew.cell? ⟨w.heap.size, 1, none⟩ = some (.int .i64 (c : Int))) := ⟨HI2.out.vo.c2, HD2.out.2.1⟩
        refine wp_region_park (k := 14) (n := 14) (fun w' => w'.cell? ⟨w5.heap.size, 2, none⟩ = some (.slice (some ⟨gd, 0, none⟩) len0 d5) ∧ w'.cell? ⟨w.heap.size, 1, none⟩ = some (.int .i64 (c : Int))) (by kernel_rfl) (by kernel_rfl) (by decide) (by rfl) ?_
        refine wpAnyH_take (i := 0) (v := ?vb0) rfl (by kernel_rfl) (by kernel_rfl) (by kernel_rfl) (fun _ _ _ h => h) (Or.inl ⟨by rfl, ?yb0⟩) HE.out ?zb0
        case yb0 => (intro w hSw; (try dsimp only at hSw); go_simp; try with_reducible rfl)
        try simp only [List.getElem_toArray, List.getElem_cons_zero, Act.put, List.setIfInBounds_toArray, List.set_cons_zero, List.set_cons_succ]
        refine wpAnyH_take (i := 1) (v := ?vb1) rfl (by kernel_rfl) (by kernel_rfl) (by kernel_rfl) (fun _ _ _ h => h) (Or.inl ⟨by rfl, ?yb1⟩) HE.out ?zb1
        case yb1 => (intro w hSw; (try dsimp only at hSw); go_simp; try with_reducible rfl)
        try simp only [List.getElem_toArray, List.getElem_cons_succ, List.getElem_cons_zero, Act.put, List.setIfInBounds_toArray, List.set_cons_zero, List.set_cons_succ]
        refine wpAnyH_take (i := 2) (v := ?vb2) rfl (by kernel_rfl) (by kernel_rfl) (by kernel_rfl) (fun _ _ _ h => h) (Or.inl ⟨by rfl, ?yb2⟩) HE.out ?zb2
        case yb2 => (intro w hSw; (try dsimp only at hSw); go_simp; try with_reducible rfl)
        try simp only [List.getElem_toArray, List.getElem_cons_succ, List.getElem_cons_zero, Act.put, List.setIfInBounds_toArray, List.set_cons_zero, List.set_cons_succ]
        refine wpAnyH_take (i := 3) (v := ?vb3) rfl (by kernel_rfl) (by kernel_rfl) (by kernel_rfl) (fun _ _ _ h => h) (Or.inl ⟨by rfl, ?yb3⟩) HE.out ?zb3
        case yb3 => (intro w hSw; (try dsimp only at hSw); go_simp; try with_reducible rfl)
        try simp only [List.getElem_toArray, List.getElem_cons_succ, List.getElem_cons_zero, Act.put, List.setIfInBounds_toArray, List.set_cons_zero, List.set_cons_succ]
        refine wpAnyH_take (i := 4) (v := ?vb4) rfl (by kernel_rfl) (by kernel_rfl) (by kernel_rfl) (fun _ _ _ h => h) (Or.inl ⟨by rfl, ?yb4⟩) HE.out ?zb4
        case yb4 => (intro w hSw; (try dsimp only at hSw); go_simp; try with_reducible rfl)
        try simp only [List.getElem_toArray, List.getElem_cons_succ, List.getElem_cons_zero, Act.put, List.setIfInBounds_toArray, List.set_cons_zero, List.set_cons_succ]
        refine wpAnyH_take (i := 5) (v := ?vb5) rfl (by kernel_rfl) (by kernel_rfl) (by kernel_rfl) (fun _ _ _ h => h) (Or.inl ⟨by rfl, ?yb5⟩) HE.out ?zb5
        case yb5 => (intro w hSw; (try dsimp only at hSw); go_simp; try with_reducible rfl)
        try simp only [List.getElem_toArray, List.getElem_cons_succ, List.getElem_cons_zero, Act.put, List.setIfInBounds_toArray, List.set_cons_zero, List.set_cons_succ]
        refine wpAnyH_take (i := 6) (v := ?vb6) rfl (by kernel_rfl) (by kernel_rfl) (by kernel_rfl) (fun _ _ _ h => h) (Or.inl ⟨by rfl, ?yb6⟩) HE.out ?zb6
        case yb6 => (intro w hSw; (try dsimp only at hSw); go_simp; try with_reducible rfl)
        try simp only [List.getElem_toArray, List.getElem_cons_succ, List.getElem_cons_zero, Act.put, List.setIfInBounds_toArray, List.set_cons_zero, List.set_cons_succ]
        refine wpAnyH_take (i := 7) (v := ?vb7) rfl (by kernel_rfl) (by kernel_rfl) (by kernel_rfl) (fun _ _ _ h => h) (Or.inl ⟨by rfl, ?yb7⟩) HE.out ?zb7
        case yb7 => (intro w hSw; (try dsimp only at hSw); go_simp; try with_reducible rfl)
        try simp only [List.getElem_toArray, List.getElem_cons_succ, List.getElem_cons_zero, Act.put, List.setIfInBounds_toArray, List.set_cons_zero, List.set_cons_succ]
        refine wpAnyH_take (i := 8) (v := ?vb8) rfl (by kernel_rfl) (by kernel_rfl) (by kernel_rfl) (fun _ _ _ h => h) (Or.inl ⟨by rfl, ?yb8⟩) HE.out ?zb8
        case yb8 => (intro w hSw; (try dsimp only at hSw); go_simp; try with_reducible rfl)
        try simp only [List.getElem_toArray, List.getElem_cons_succ, List.getElem_cons_zero, Act.put, List.setIfInBounds_toArray, List.set_cons_zero, List.set_cons_succ]
        refine wpAnyH_take (i := 9) (v := ?vb9) rfl (by kernel_rfl) (by kernel_rfl) (by kernel_rfl) (fun _ _ _ h => h) (Or.inl ⟨by rfl, ?yb9⟩) HE.out ?zb9
        case yb9 => (intro w hSw; (try dsimp only at hSw); go_simp; try with_reducible rfl)
        try simp only [List.getElem_toArray, List.getElem_cons_succ, List.getElem_cons_zero, Act.put, List.setIfInBounds_toArray, List.set_cons_zero, List.set_cons_succ]
        refine wpAnyH_take (i := 11) (v := ?vb11) rfl (by kernel_rfl) (by kernel_rfl) (by kernel_rfl) (fun _ _ _ h => h) (Or.inl ⟨by rfl, ?yb11⟩) HE.out ?zb11
        case yb11 => (intro w hSw; (try dsimp only at hSw); go_simp; try with_reducible rfl)
        try simp only [List.getElem_toArray, List.getElem_cons_succ, List.getElem_cons_zero, Act.put, List.setIfInBounds_toArray, List.set_cons_zero, List.set_cons_succ]
        refine wpAnyH_ready (rs := [10]) (by kernel_rfl) (by simp) ?_
        refine AllReadyH.cons rfl (fun K hK => ?_) AllReadyH.nil
        go_simp
        refine (HMul.out _).mono ?_; rintro e w' ⟨rfl, rfl⟩
        refine hK.out _ _ HE.out (fun _ => ?_)
        clear hK K
        try simp only [List.getElem_toArray, List.getElem_cons_succ, List.getElem_cons_zero, Act.put, List.setIfInBounds_toArray, List.set_cons_zero, List.set_cons_succ]
        refine wpAnyH_take (i := 12) (v := ?vb12) rfl (by kernel_rfl) (by kernel_rfl) (by kernel_rfl) (fun _ _ _ h => h) (Or.inl ⟨by rfl, ?yb12⟩) HE.out ?zb12
        case yb12 => (intro w hSw; (try dsimp only at hSw); go_simp; try with_reducible rfl)
        try simp only [List.getElem_toArray, List.getElem_cons_succ, List.getElem_cons_zero, Act.put, List.setIfInBounds_toArray, List.set_cons_zero, List.set_cons_succ]
        refine wpAnyH_take (i := 13) (v := ?vb13) rfl (by kernel_rfl) (by kernel_rfl) (by kernel_rfl) (fun _ _ _ h => h) (Or.inl ⟨by rfl, ?yb13⟩) HE.out ?zb13
        case yb13 => (intro w hSw; (try dsimp only at hSw); go_simp; try with_reducible rfl)
        try simp only [List.getElem_toArray, List.getElem_cons_succ, List.getElem_cons_zero, Act.put, List.setIfInBounds_toArray, List.set_cons_zero, List.set_cons_succ]
        refine wpAnyH_done (by kernel_rfl) ?_ _
        refine park_last rfl (fun K hK => ?_)
        go_simp
        refine hK.out _ _ ?_
        clear hK K
        try simp only [List.getElem_toArray, List.getElem_cons_succ, List.getElem_cons_zero, Act.put, List.setIfInBounds_toArray, List.set_cons_zero, List.set_cons_succ]
        go_wp2
        exact ⟨⟨l + 1, by go_num, by omega, HN⟩, by simp [intOf]; omega⟩
      · obtain rfl : l = c := by omega
        have HVr : Hid (Vr wr w1.heap.size (.int .i64 (r : Int)) (.int .i64 (l : Int)) (.slice s1 len0 d1)) := HV_r_4.out.later HI.out.bel
        have o0 := HI.out.vo.c0
        have o1 := HI.out.vo.c1
        have o2 := HI.out.vo.c2
        have HOl : Hid (∀ q, q < len0 → ptr F l i j k l q < 256) := ptr_lt HFl.out hk
        have HMr : Hid (Mt wr s1 len0 d1 G) := HF_r_4.out.later HI.out.bel
        have HB9 : Hid (Below w.heap.size w wr) := two_below HB_4.out HI.out.bel
        go_wp2_with (first
          | (go_at_call 12; have _x := HB7; refine (like_ans _ _ _ _ _ len0 _ _ H G HP7.out HR7.out HS7.out).mono ?_; rintro e y8 ⟨rfl, hb8⟩; have HB8 : Hid (Below w.heap.size w y8) := two_below HB7.out hb8; clear hb8)
          | (go_at_call 26; have _x := HB6; refine (anch4_any _).mono ?_; rintro e y7 ⟨rfl, hb7⟩; have HB7 : Hid (Below w.heap.size w y7) := two_below HB6.out hb7; have HP7 : Hid (Mt y7 s6 len0 d6 H) := HP6.out.later hb7; have HR7 : Hid (Mt y7 s1 len0 d1 G) := HR6.out.later hb7; have V7 := HV6.out.later hb7; have U7 := HU6.out.later hb7; have r0 := V7.c0; have r1 := V7.c1; have r2 := V7.c2; have s0 := U7.c0; have s1' := U7.c1; have s2' := U7.c2; clear hb7 V7 U7)
          | (go_at_call 9; refine (gred_ok _ r l len0 d5 s5 _ (HI.out.mt HOl.out) HR.out).mono ?_; rintro e y6 ⟨s6, d6, ps6, pd6, t6, p6, H, rfl, hm6, _, hR6, hS6, _, hb6⟩; have HS7 : Hid (∀ x, x < len0 → H x = G x) := stays_row HFl.out HR.out hir hjr hij hk HR1.out HS1.out hR6 hS6; have HB6 : Hid (Below w.heap.size w (y6.alloc (.cells #[.int .i64 (r : Int), .int .i64 (l : Int), .slice s6 len0 d6] 24))) := two_below (two_below HB9.out hb6) (alloc_low _ _); have HP6 : Hid (Mt (y6.alloc (.cells #[.int .i64 (r : Int), .int .i64 (l : Int), .slice s6 len0 d6] 24)) s6 len0 d6 H) := hm6.later (alloc_low _ _); have HR6 : Hid (Mt (y6.alloc (.cells #[.int .i64 (r : Int), .int .i64 (l : Int), .slice s6 len0 d6] 24)) s1 len0 d1 G) := (HMr.out.later hb6).later (alloc_low _ _); have HV6 : Hid (Vr (y6.alloc (.cells #[.int .i64 (r : Int), .int .i64 (l : Int), .slice s6 len0 d6] 24)) y6.heap.size (.int .i64 (r : Int)) (.int .i64 (l : Int)) (.slice s6 len0 d6)) := Vr.new y6 _ _ _; have HU6 : Hid (Vr (y6.alloc (.cells #[.int .i64 (r : Int), .int .i64 (l : Int), .slice s6 len0 d6] 24)) w1.heap.size (.int .i64 (r : Int)) (.int .i64 (l : Int)) (.slice s1 len0 d1)) := (HVr.out.later hb6).later (alloc_low _ _); clear hm6 hR6 hS6 hb6))
        go_ret
        exact ⟨rfl, HB8.out⟩
  · have H1 : Hid (¬ RightP r0 c0 len0) := h
    clear h hM w2
    have HV_m_0 : Hid (Vr wb w.heap.size (.int .i64 r0) (.int .i64 c0) (.slice a0 len0 cap0)) := HVa.out
    have l_m_0_0 := HV_m_0.out.c0
    have l_m_1_0 := HV_m_0.out.c1
    have l_m_2_0 := HV_m_0.out.c2
    go_enter Try.func8, Try.ntmps8
    go_wp2
    go_region
    go_wp2_with (first
      | (go_at_call 26; have _x := HB_2; refine (anch4_any _).mono ?_; rintro e w3 ⟨rfl, hb⟩; have HB_3 : Hid (Below w.heap.size w w3) := two_below HB_2.out hb; have HV_m_3 : Hid (Vr w3 w.heap.size (.int .i64 r0) (.int .i64 c0) (.slice a0 len0 cap0)) := HV_m_2.out.later hb; have HV_r_3 : Hid (Vr w3 w1.heap.size (.int .i64 0) (.int .i64 0) (.slice none 0 0)) := HV_r_2.out.later hb; have HF_m_3 : Hid (Mt w3 a0 len0 cap0 F) := HF_m_2.out.later hb; clear hb HV_m_2 HV_r_2 HF_m_2)
      | (go_at_call 25; have _x := HB_1; refine (right_no _ _ _ _ _ _ H1.out).mono ?_; rintro e w2 ⟨rfl, hb⟩; have HB_2 : Hid (Below w.heap.size w w2) := two_below HB_1.out hb; have HV_m_2 : Hid (Vr w2 w.heap.size (.int .i64 r0) (.int .i64 c0) (.slice a0 len0 cap0)) := HV_m_1.out.later hb; have HV_r_2 : Hid (Vr w2 w1.heap.size (.int .i64 0) (.int .i64 0) (.slice none 0 0)) := HV_r_1.out.later hb; have HF_m_2 : Hid (Mt w2 a0 len0 cap0 F) := HF_m_1.out.later hb; have l_m_0_2 := HV_m_2.out.c0; have l_m_1_2 := HV_m_2.out.c1; have l_m_2_2 := HV_m_2.out.c2; have l_r_0_2 := HV_r_2.out.c0; have l_r_1_2 := HV_r_2.out.c1; have l_r_2_2 := HV_r_2.out.c2; clear hb HV_m_1 HV_r_1 HF_m_1)
      | (go_at_call 9; rw [← HW.out]; refine (gred_bad _ _ _ _ _ _ H1.out).mono ?_; rintro e w1 ⟨rfl, hb⟩; have HB_1 : Hid (Below w.heap.size w (w1.alloc (.cells #[.int .i64 0, .int .i64 0, .slice none 0 0] 24))) := two_below (two_below HB_0.out hb) (alloc_low _ _); have HV_m_1 : Hid (Vr (w1.alloc (.cells #[.int .i64 0, .int .i64 0, .slice none 0 0] 24)) w.heap.size (.int .i64 r0) (.int .i64 c0) (.slice a0 len0 cap0)) := (HV_m_0.out.later hb).later (alloc_low _ _); have HF_m_1 : Hid (Mt (w1.alloc (.cells #[.int .i64 0, .int .i64 0, .slice none 0 0] 24)) a0 len0 cap0 F) := (HF_m_0.out.later hb).later (alloc_low _ _); have HV_r_1 : Hid (Vr (w1.alloc (.cells #[.int .i64 0, .int .i64 0, .slice none 0 0] 24)) w1.heap.size (.int .i64 0) (.int .i64 0) (.slice none 0 0)) := Vr.new w1 _ _ _; have l_m_0_1 := HV_m_1.out.c0; have l_m_1_1 := HV_m_1.out.c1; have l_m_2_1 := HV_m_1.out.c2; have l_r_0_1 := HV_r_1.out.c0; have l_r_1_1 := HV_r_1.out.c1; have l_r_2_1 := HV_r_1.out.c2; clear hb HV_m_0 HF_m_0))
    go_ret
    exact ⟨rfl, HB_3.out⟩
set_option maxRecDepth 100000 in
set_option maxHeartbeats 2000000 in
theorem lifted (os : Os) (started : os.Started) (H : Type) (enc : TypeId × Value → H) :
    ReturnsInHanded {} Try.checked os 8 .any (Rows.gaussStaysSpec.pre6 enc Try.prog Try.f8 Rows.gaussStaysRow.domain false) (Rows.gaussStaysSpec.post enc Try.prog Try.f8 false true false false) := by
  refine returnsInHanded_of_change_sized (C := Try.checked) own started (by kernel_rfl) Try.func8
    (ChangeSpec.witness6 (enc := enc) (C := Try.checked) false ⟨#[], #[.agg #[.int .i64 0, .int .i64 0, .slice none 0 0], .agg #[.int .i64 0, .int .i64 0], .int .u8 0], []⟩ 8 (by kernel_rfl) (by kernel_rfl) (by kernel_rfl) (by kernel_rfl)) ?_
  intro W base args ds gs before hval0 hW hcnd hsz0 _
  have hsz : (DataW.weightsEach Try.prog (Try.f8.params.toList ++ Rows.gaussStaysSpec.plain.varTypes Try.prog) (ds ++ gs)).all (· ≤ reachBytes) = true := hsz0
  clear hsz0
  have hval : ∀ (j : Nat) t v, Try.f8.params[j]? = some t → args[j]? = some v → Value.okWide Try.prog W .any base t v := hval0
  have hW' := hW
  obtain ⟨p, q, hA0, hV, rfl, hfz, hnd⟩ := hW
  have hA : DataW.TrodAll enc Try.prog W 0 (fun _ => true) true Try.f8.params.toList args.toList ds p := hA0
  rw [Try.params8] at hA hval hsz
  obtain ⟨va0, vs0, d0, ds0, p0, q0, hargs, rfl, rfl, h0, tr0⟩ := trodAll_cons hA
  obtain ⟨va1, vs1, d1, ds1, p1, q1, rfl, rfl, rfl, h1, tr1⟩ := trodAll_cons tr0
  obtain ⟨va2, vs2, d2, ds2, p2, q2, rfl, rfl, rfl, h2, tr2⟩ := trodAll_cons tr1
  obtain ⟨rfl, rfl, rfl⟩ := trodAll_nil tr2
  obtain rfl : args = #[va0, va1, va2] := by cases args; simp_all
  obtain ⟨rfl, rfl⟩ := trodVars_none hV
  have k0 := h0
  have lt0 : ∀ x ∈ p0, x.block < W.heap.size := by obtain ⟨m, hm⟩ := k0; exact DataW.trod_lt m _ _ _ hm
  obtain ⟨f0, g0, s0, y0, x0, e0, m0, rfl, rfl, rfl, hf0, hg0, hs0⟩ := open_agg3 Try.underlying24 (by kernel_rfl) cellsM (hval 0 24 va0 rfl rfl) h0
  obtain ⟨r0, er0, rfl, u0⟩ := DataW.trod_int Try.underlying3 hf0
  obtain ⟨c0, ec0, rfl, v0⟩ := DataW.trod_int Try.underlying3 hg0
  simp only [List.cons.injEq, and_true] at er0 ec0
  subst er0 ec0
  obtain ⟨a0, len0, cap0, rfl⟩ : ∃ a l c, s0 = .slice a l c := by
    rcases open_ints Try.underlying22 Try.underlying5 (by kernel_rfl) hs0 with ⟨hcs, _⟩ | ⟨x, l, c, zs, hcs, _⟩
    · simp only [List.cons.injEq, and_true] at hcs; exact ⟨_, _, _, hcs⟩
    · simp only [List.cons.injEq, and_true] at hcs; exact ⟨_, _, _, hcs⟩
  obtain ⟨z0, w0⟩ : ∃ zs, IsRow .u8 W a0 len0 cap0 zs := by
    obtain ⟨fuel, hf⟩ := (⟨m0, hs0⟩ : ∃ fuel, DataW.trod enc Try.prog W 0 (fun _ => true) true fuel 22 [.slice a0 len0 cap0] = some e0)
    rcases open_ints Try.underlying22 Try.underlying5 (by kernel_rfl) hf with ⟨hcs, _⟩ | ⟨x, l, c, zs, hcs, _, hl, hm, hz, hxx, hcell, hwz⟩
    · simp at hcs
      obtain ⟨rfl, rfl, rfl⟩ := hcs
      exact ⟨[], .inl ⟨rfl, rfl, rfl, rfl⟩⟩
    · simp at hcs
      obtain ⟨rfl, rfl, rfl⟩ := hcs
      have hd := congrArg Prod.fst hxx
      have hs := sized_slice (sized_in hsz (j := 0) (t := 24) rfl rfl) (j := 2) (t := 22) (e := 5) rfl (congrArg some hd) Try.underlying22
      rw [show Try.prog.bytesOf 5 = 1 from by kernel_rfl] at hs
      have hzl : zs.length = cap0 := by simpa using hz
      simp only [lits, List.length_map, List.length_take, List.length_drop, reachBytes] at hs
      exact ⟨zs, .inr ⟨_, rfl, hl, by omega, by simpa using hz, hcell, hwz⟩⟩
  have k1 := h1
  have lt1 : ∀ x ∈ p1, x.block < W.heap.size := by obtain ⟨m, hm⟩ := k1; exact DataW.trod_lt m _ _ _ hm
  obtain ⟨cs1, rfl, hsz1, _⟩ : ∃ cs, va1 = .agg cs ∧ cs.size = Try.prog.cellsOf 51 ∧ Row.okWide Try.prog W .any base 51 cs := by
    have := hval 1 51 va1 rfl rfl
    simpa [Value.okWide, Try.underlying51] using this
  obtain ⟨qa1, qb1, rfl⟩ := array2 (hsz1.trans (show Try.prog.cellsOf 51 = 2 from by kernel_rfl))
  obtain ⟨n1, m1, ⟨rfl, w1⟩, rfl, x1⟩ : ∃ n m : Int, (qa1 = .int .i64 n ∧ (Lit.int .i64 n).wf = true) ∧ qb1 = .int .i64 m ∧ (Lit.int .i64 m).wf = true := by
    obtain ⟨fuel, hf⟩ := h1
    obtain ⟨xs, mm, _, _, _, hlen, hel⟩ := DataW.trod_array Try.underlying51 hf
    have hce : Try.prog.cellsOf 3 = 1 := by kernel_rfl
    have e0 := hel 0 (by omega)
    have e1 := hel 1 (by omega)
    match xs, hlen with
    | [y0, y1], _ =>
      simp [Value.cells, hce] at e0 e1
      obtain ⟨n, en, _, wn⟩ := DataW.trod_int Try.underlying3 e0
      obtain ⟨m, em, _, wm⟩ := DataW.trod_int Try.underlying3 e1
      simp only [List.cons.injEq, and_true] at en em
      exact ⟨n, m, ⟨en, wn⟩, em, wm⟩
  have k2 := h2
  have lt2 : ∀ x ∈ p2, x.block < W.heap.size := by obtain ⟨m, hm⟩ := k2; exact DataW.trod_lt m _ _ _ hm
  obtain ⟨n2, rfl, w2⟩ : ∃ n, va2 = .int .u8 n ∧ (Lit.int .u8 n).wf = true := by
    obtain ⟨n, rfl, _, _, hw⟩ := open_int Try.underlying5 (hval 2 5 va2 rfl rfl) h2
    exact ⟨n, rfl, hw⟩
  clear hA0 hval0
  refine (walk r0 c0 a0 len0 cap0 z0 n1 m1 n2 W u0 v0 w0 w1 x1 w2).mono fun e W' ⟨he, bel⟩ => ?_
  subst he
  exact ⟨_, rfl, _, _, _, [], _, [], hW', trodAll_mk1 (shut_bool Try.underlying4 _), (trodAll_cons_mk (Below.trod laidOut (by kernel_rfl) (of_decide_eq_true (by kernel_rfl)) k0 bel lt0) (trodAll_cons_mk (Below.trod laidOut (by kernel_rfl) (of_decide_eq_true (by kernel_rfl)) k1 bel lt1) (trodAll_cons_mk (Below.trod laidOut (by kernel_rfl) (of_decide_eq_true (by kernel_rfl)) k2 bel lt2) trodAll_mk0))), rfl, bel.frame _, fun h => by cases h⟩
theorem over : Rows.gaussStaysRow.holds Try.pinned (OpenSpec.ofChange Rows.gaussStaysSpec) :=
  OpenClaim.holds_of_wide 8 Try.f8 rfl rfl rfl rfl rfl rfl rfl ⟨rfl, rfl, rfl, rfl, rfl⟩ rfl rfl rfl rfl rfl (by kernel_rfl) Try.func8 (by kernel_rfl)
    (of_decide_eq_true (by kernel_rfl)) (by unfold Func.isWrapper; first | (rw [if_pos (by decide +kernel)]; kernel_rfl) | (rw [if_neg (by decide +kernel)]; exact ⟨rfl, rfl⟩))
    (fun os started H enc _ => lifted os started H enc)
theorem proved : Rows.GaussStaysSaid := over
#print axioms proved
end Go.Proofs.Ytfplhaelpbocjaa.gaussStays
