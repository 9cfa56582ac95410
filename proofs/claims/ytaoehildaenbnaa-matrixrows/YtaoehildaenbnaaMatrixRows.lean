/-
  Proved: for every list of lists, every matrix m and every number i the program's Of, Row and Same answer the document's, or its error (P3.1, P3.2); no condition.
-/
import Derived.Test.YtaoehildaenbnaaMo
import Derived.Deep.RegionHeld3
import Derived.WalkKit
import Derived.SizedLaws
import Derived.ProofKit
import Derived.OpenShut
import Derived.ShutString
import Derived.ChangeOld
import Derived.Below
import Derived.Lib.SmallJoins
import Derived.Deep.Matrix
namespace Go.Proofs.Ytaoehildaenbnaa.matrixRows
open Go.ChangeShapes Go.WideShapes Go.ChangeAt Go.RowKit Go.Joins
set_option linter.unusedVariables false
theorem own : ownKnob Try.prog.godebug = none := by kernel_rfl
theorem laidOut : laidOutB Try.prog = true := by kernel_rfl
/-- A slice of integers that came in. -/
def IsRow (k : IntKind) (w : World) (a : Option Addr) (len cap : Nat) (zs : List Int) : Prop :=
  (a = none ∧ len = 0 ∧ cap = 0 ∧ zs = []) ∨
  ∃ x, a = some x ∧ len ≤ cap ∧ cap ≤ 140737488351232 ∧ zs.length = cap ∧ (∀ i, i < zs.length → w.cell? (x.add i) = some (.int k (zs.getD i 0))) ∧ ∀ n ∈ zs, (Lit.int k n).wf = true
/-- A slice of slices of bytes that came in. -/
def IsRows (w : World) (a : Option Addr) (len cap : Nat) : Prop :=
  (a = none ∧ len = 0 ∧ cap = 0) ∨
  ∃ x, a = some x ∧ len ≤ cap ∧ cap ≤ 140737488351232 ∧ ∀ r, r < cap → ∃ b l c zs, w.cell? (x.add r) = some (.slice b l c) ∧ IsRow .u8 w b l c zs
theorem sized_in {H : Type} {P : Program} {ts : List TypeId} {ds : List (DataW H)} (h : (DataW.weightsEach P ts ds).all (· ≤ reachBytes) = true) {j : Nat} {t : TypeId} {d : DataW H} (ht : ts[j]? = some t) (hd : ds[j]? = some d) : (d.weights P t).all (· ≤ reachBytes) = true :=
  List.all_eq_true.2 fun n hn => List.all_eq_true.1 h n (DataW.weights_mem_each ht hd n hn)
theorem sized_all {H : Type} {P : Program} {e : TypeId} : ∀ {ds : List (DataW H)}, (DataW.weightsAll P e ds).all (· ≤ reachBytes) = true → ∀ d ∈ ds, (d.weights P e).all (· ≤ reachBytes) = true
  | [], _, d, hd => by simp at hd
  | d0 :: r, h, d, hd => by
    simp only [DataW.weightsAll, List.all_append, Bool.and_eq_true] at h
    rcases List.mem_cons.1 hd with rfl | hd
    · exact h.1
    · exact sized_all h.2 d hd
theorem rows_in {H : Type} {P : Program} {W : World} {t e q : TypeId} {x : Addr} {l c : Nat} {A : Nat → Option Addr} {L C : Nat → Nat} {Z : Nat → List Int} {d : Option (DataW H)}
    (_hd : d = some (.slice ((List.range l).map fun r => Go.Deep.intRow .u8 (A r) (L r) (Z r)) ((List.range (c - l)).map fun j => Go.Deep.intRow .u8 (A (l + j)) (L (l + j)) (Z (l + j)))))
    (ht : P.underlying t = some (.slice e)) (he : P.underlying e = some (.slice q)) (hbe : P.bytesOf e = 24) (hbq : P.bytesOf q = 1)
    (hs : ((DataW.slice ((List.range l).map fun r => Go.Deep.intRow (H := H) .u8 (A r) (L r) (Z r)) ((List.range (c - l)).map fun j => Go.Deep.intRow .u8 (A (l + j)) (L (l + j)) (Z (l + j)))).weights P t).all (· ≤ reachBytes) = true) (hl : l ≤ c)
    (hall : ∀ r, r < c → W.cell? (x.add r) = some (.slice (A r) (L r) (C r)) ∧ L r ≤ C r ∧ C r ≤ maxLen ∧ (Z r).length = C r ∧ (∀ n ∈ Z r, (Lit.int .u8 n).wf = true) ∧ (A r = none → C r = 0) ∧
        ∀ a', A r = some a' → 0 ≤ a'.block ∧ ∀ k, k < C r → W.cell? (a'.add k) = some (.int .u8 ((Z r).getD k 0))) : IsRows W (some x) l c := by
  simp only [DataW.weights, ht, hbe, List.all_cons, List.all_append, Bool.and_eq_true, List.length_map, List.length_range] at hs
  obtain ⟨h1, h2, h3⟩ := hs
  have h1 : (l + (c - l)) * 24 ≤ reachBytes := of_decide_eq_true h1
  simp only [reachBytes] at h1
  refine .inr ⟨x, rfl, hl, by omega, fun r hr => ?_⟩
  obtain ⟨hc, hL, hm, hz, hw, h0, hcell⟩ := hall r hr
  refine ⟨A r, L r, C r, Z r, hc, ?_⟩
  cases hA : A r with
  | none =>
    have := h0 hA
    exact .inl ⟨rfl, by omega, by omega, List.eq_nil_of_length_eq_zero (by omega)⟩
  | some a' =>
    have mem : (Go.Deep.intRow (H := H) .u8 (A r) (L r) (Z r)).weights P e = (Go.Deep.intRow (H := H) .u8 (some a') (L r) (Z r)).weights P e := by rw [hA]
    have big : ((Go.Deep.intRow (H := H) .u8 (A r) (L r) (Z r)).weights P e).all (· ≤ reachBytes) = true := by
      by_cases hrl : r < l
      · exact sized_all h2 _ (List.mem_map.2 ⟨r, by simpa using hrl, rfl⟩)
      · exact sized_all h3 _ (List.mem_map.2 ⟨r - l, by simp; omega, by rw [show l + (r - l) = r by omega]⟩)
    rw [mem] at big
    simp only [Go.Deep.intRow, DataW.weights, he, hbq, List.all_cons, Bool.and_eq_true, lits, List.length_map, List.length_take, List.length_drop] at big
    have hb1 : (min (L r) (Z r).length + ((Z r).length - L r)) * 1 ≤ reachBytes := of_decide_eq_true big.1
    simp only [reachBytes] at hb1
    exact .inr ⟨a', rfl, hL, by omega, hz, fun i hi => (hcell a' hA).2 i (by omega), hw⟩
theorem cellsM : Try.prog.cellsOf 24 = 3 := by kernel_rfl
theorem rl_of_rows (w : World) (a : Option Addr) (len cap : Nat) (h : IsRows w a len cap) : ∃ (A : Nat → Option Addr) (L C : Nat → Nat) (f : Nat → Nat → Nat), Rl w a len A L C f ∧ len ≤ 140737488351232 ∧ (∀ i, i < len → L i ≤ 140737488351232) ∧ ∀ i j, i < len → j < L i → f i j < 256 := by
  rcases h with ⟨rfl, rfl, rfl⟩ | ⟨x, rfl, hl, hm, hall⟩
  · exact ⟨fun _ => none, fun _ => 0, fun _ => 0, fun _ _ => 0, ⟨fun i hi => by omega, fun i hi => by omega, fun i hi => by omega⟩, by omega, fun i hi => by omega, fun i j hi => by omega⟩
  · have key : ∀ r, ∃ t : Option Addr × Nat × Nat × (Nat → Nat), r < len → w.cell? (x.add r) = some (.slice t.1 t.2.1 t.2.2.1) ∧ Sl w t.1 t.2.1 t.2.2.2 ∧ (t.1 = none → t.2.1 = 0 ∧ t.2.2.1 = 0) ∧ t.2.1 ≤ 140737488351232 := by
      intro r
      by_cases hr : r < len
      · obtain ⟨b, l, c, zs, hc, hz⟩ := hall r (by omega)
        obtain ⟨g, h1, h2, h3⟩ := sl_of_row w b l c zs hz
        exact ⟨(b, l, c, g), fun _ => ⟨hc, h1, h3, h2⟩⟩
      · exact ⟨(none, 0, 0, fun _ => 0), fun h => absurd h hr⟩
    obtain ⟨T, hT⟩ := Classical.axiomOfChoice key
    refine ⟨fun r => (T r).1, fun r => (T r).2.1, fun r => (T r).2.2.1, fun r => (T r).2.2.2, ⟨fun i hi => ?_, fun i hi => (hT i hi).2.1, fun i hi => (hT i hi).2.2.1⟩, by omega, fun i hi => (hT i hi).2.2.2, fun i j hi hj => (hT i hi).2.1.1 j hj⟩
    have hc := (hT i hi).1
    obtain ⟨b, o, spot⟩ := x
    have hspot : spot = none := by
      have h0 := (hT 0 (by omega)).1
      simpa [Addr.add] using World.cell?_spot h0
    subst hspot
    exact ⟨b, o, rfl, by rw [← add_plain]; exact hc⟩

set_option maxRecDepth 20000 in
set_option maxHeartbeats 8000000 in
theorem walk (a0 : Option Addr) (len0 cap0 : Nat) (r1 c1 : Int) (a1 : Option Addr) (len1 cap1 : Nat) (z1 : List Int) (n2 : Int) (w : World) (w0 : IsRows w a0 len0 cap0) (u1 : (Lit.int .i64 r1).wf = true) (v1 : (Lit.int .i64 c1).wf = true) (w1 : IsRow .u8 w a1 len1 cap1 z1) (w2 : (Lit.int .i64 n2).wf = true) :
    Calls Try.prog 4 #[.slice a0 len0 cap0, .agg #[.int .i64 r1, .int .i64 c1, .slice a1 len1 cap1], .int .i64 n2] w fun e w' => e = .returned (.bool true) ∧ Below w.heap.size w w' := by
  obtain ⟨F1, hM1, hn1⟩ := mt_of_row w a1 len1 cap1 z1 w1
  have HM_m1 : Hid (Mt w a1 len1 cap1 F1) := hM1
  obtain ⟨A, L, K, g, hRl, hl0, hL0, hg0⟩ := rl_of_rows w a0 len0 cap0 w0
  have HRl : Hid (Rl w a0 len0 A L K g) := hRl
  obtain ⟨R, C, N, f, E, hp⟩ := of_pair len0 A L K g hl0 hL0 hg0
  have HP := hid_of hp
  obtain ⟨N2, f2, E2, hq⟩ := row_pair r1 c1 n2 len1 F1 hM1.sl.1
  have HQ := hid_of hq
  obtain ⟨x, hr⟩ := same_pair R C r1 c1 N len1 f F1
  have HR := hid_of hr
  obtain ⟨y, hs⟩ := self_pair r1 c1 len1 F1
  have HS := hid_of hs
  clear hp hq hr hs hM1 hRl w0 w1 w2 u1 v1 hn1 hl0 hL0 hg0
  obtain ⟨wb, HW⟩ : ∃ wb, Hid (wb = (w.alloc (.cells #[.int .i64 r1, .int .i64 c1, .slice a1 len1 cap1] 24))) := ⟨_, rfl⟩
  have HV_m1_0 : Hid (Vr wb w.heap.size (.int .i64 r1) (.int .i64 c1) (.slice a1 len1 cap1)) := by show Vr _ _ _ _ _; rw [HW.out]; have := Vr.new w (.int .i64 r1) (.int .i64 c1) (.slice a1 len1 cap1); simpa using this
  have HB_0 : Hid (Below w.heap.size w wb) := by rw [HW.out]; exact alloc_low _ _
  have HM_m1_0 : Hid (Mt wb a1 len1 cap1 F1) := HM_m1.out.later HB_0.out
  clear HM_m1
  go_enter Try.func4, Try.ntmps4
  go_wp2_with (first
    | (go_at_call 19; have _x := HB_3; refine ((HQ.out _ _ _ HM_m1_3.out).2).mono ?_; rintro e w4 ⟨s4, d4, rfl, hs4, hb4⟩; have HB_4 : Hid (Below w.heap.size w w4) := two_below HB_3.out hb4; have HV_m1_4 : Hid (Vr w4 w.heap.size (.int .i64 r1) (.int .i64 c1) (.slice a1 len1 cap1)) := HV_m1_3.out.later hb4; have HV_p_4 : Hid (Vr w4 w1.heap.size (.int .i64 R) (.int .i64 C) (.slice s1 N d1)) := HV_p_3.out.later hb4; have HV_q_4 : Hid (Vr w4 w2.heap.size (.int .i64 R) (.int .i64 C) (.slice s2 N d2)) := HV_q_3.out.later hb4; have HM_m1_4 : Hid (Mt w4 a1 len1 cap1 F1) := HM_m1_3.out.later hb4; have HM_p_4 : Hid (Mt w4 s1 N d1 f) := HM_p_3.out.later hb4; have HM_q_4 : Hid (Mt w4 s2 N d2 f) := HM_q_3.out.later hb4; have HM_u_4 : Hid (Mt w4 s3 N2 d3 f2) := HM_u_3.out.later hb4; have HM_v_4 : Hid (Mt w4 s4 N2 d4 f2) := hs4; clear HV_m1_3 HV_p_3 HV_q_3 HM_m1_3 HM_p_3 HM_q_3 HM_u_3 hb4 hs4)
    | (go_at_call 18; have _x := HB_2; refine ((HQ.out _ _ _ HM_m1_2.out).1).mono ?_; rintro e w3 ⟨s3, d3, rfl, hs3, hb3⟩; have HB_3 : Hid (Below w.heap.size w w3) := two_below HB_2.out hb3; have HV_m1_3 : Hid (Vr w3 w.heap.size (.int .i64 r1) (.int .i64 c1) (.slice a1 len1 cap1)) := HV_m1_2.out.later hb3; have HV_p_3 : Hid (Vr w3 w1.heap.size (.int .i64 R) (.int .i64 C) (.slice s1 N d1)) := HV_p_2.out.later hb3; have HV_q_3 : Hid (Vr w3 w2.heap.size (.int .i64 R) (.int .i64 C) (.slice s2 N d2)) := HV_q_2.out.later hb3; have HM_m1_3 : Hid (Mt w3 a1 len1 cap1 F1) := HM_m1_2.out.later hb3; have HM_p_3 : Hid (Mt w3 s1 N d1 f) := HM_p_2.out.later hb3; have HM_q_3 : Hid (Mt w3 s2 N d2 f) := HM_q_2.out.later hb3; have HM_u_3 : Hid (Mt w3 s3 N2 d3 f2) := hs3; have x_m1_0_3 := HV_m1_3.out.c0; have x_m1_1_3 := HV_m1_3.out.c1; have x_m1_2_3 := HV_m1_3.out.c2; clear HV_m1_2 HV_p_2 HV_q_2 HM_m1_2 HM_p_2 HM_q_2 hb3 hs3)
    | (go_at_call 17; have _x := HB_1; refine ((HP.out _ _ _ (HRl.out.later HB_1.out)).2).mono ?_; rintro e w2 ⟨s2, d2, rfl, hs2, hb2⟩; have HB_2 : Hid (Below w.heap.size w (w2.alloc (.cells #[.int .i64 R, .int .i64 C, .slice s2 N d2] 24))) := two_below (two_below HB_1.out hb2) (alloc_low _ _); have HV_m1_2 : Hid (Vr (w2.alloc (.cells #[.int .i64 R, .int .i64 C, .slice s2 N d2] 24)) w.heap.size (.int .i64 r1) (.int .i64 c1) (.slice a1 len1 cap1)) := (HV_m1_1.out.later hb2).later (alloc_low _ _); have HV_p_2 : Hid (Vr (w2.alloc (.cells #[.int .i64 R, .int .i64 C, .slice s2 N d2] 24)) w1.heap.size (.int .i64 R) (.int .i64 C) (.slice s1 N d1)) := (HV_p_1.out.later hb2).later (alloc_low _ _); have HM_m1_2 : Hid (Mt (w2.alloc (.cells #[.int .i64 R, .int .i64 C, .slice s2 N d2] 24)) a1 len1 cap1 F1) := (HM_m1_1.out.later hb2).later (alloc_low _ _); have HM_p_2 : Hid (Mt (w2.alloc (.cells #[.int .i64 R, .int .i64 C, .slice s2 N d2] 24)) s1 N d1 f) := (HM_p_1.out.later hb2).later (alloc_low _ _); have HV_q_2 : Hid (Vr (w2.alloc (.cells #[.int .i64 R, .int .i64 C, .slice s2 N d2] 24)) w2.heap.size (.int .i64 R) (.int .i64 C) (.slice s2 N d2)) := Vr.new w2 _ _ _; have HM_q_2 : Hid (Mt (w2.alloc (.cells #[.int .i64 R, .int .i64 C, .slice s2 N d2] 24)) s2 N d2 f) := hs2.later (alloc_low _ _); have x_m1_0_2 := HV_m1_2.out.c0; have x_m1_1_2 := HV_m1_2.out.c1; have x_m1_2_2 := HV_m1_2.out.c2; clear HV_m1_1 HV_p_1 HM_m1_1 HM_p_1 hb2 hs2)
    | (go_at_call 16; rw [← HW.out]; refine ((HP.out _ _ _ (HRl.out.later HB_0.out)).1).mono ?_; rintro e w1 ⟨s1, d1, rfl, hs1, hb1⟩; have HB_1 : Hid (Below w.heap.size w (w1.alloc (.cells #[.int .i64 R, .int .i64 C, .slice s1 N d1] 24))) := two_below (two_below HB_0.out hb1) (alloc_low _ _); have HV_m1_1 : Hid (Vr (w1.alloc (.cells #[.int .i64 R, .int .i64 C, .slice s1 N d1] 24)) w.heap.size (.int .i64 r1) (.int .i64 c1) (.slice a1 len1 cap1)) := (HV_m1_0.out.later hb1).later (alloc_low _ _); have HM_m1_1 : Hid (Mt (w1.alloc (.cells #[.int .i64 R, .int .i64 C, .slice s1 N d1] 24)) a1 len1 cap1 F1) := (HM_m1_0.out.later hb1).later (alloc_low _ _); have HV_p_1 : Hid (Vr (w1.alloc (.cells #[.int .i64 R, .int .i64 C, .slice s1 N d1] 24)) w1.heap.size (.int .i64 R) (.int .i64 C) (.slice s1 N d1)) := Vr.new w1 _ _ _; have HM_p_1 : Hid (Mt (w1.alloc (.cells #[.int .i64 R, .int .i64 C, .slice s1 N d1] 24)) s1 N d1 f) := hs1.later (alloc_low _ _); clear HV_m1_0 HM_m1_0 hb1 hs1))
  have HD : Hid (w4.drew.cell? ⟨w.heap.size, 0, none⟩ = some (.int .i64 r1) ∧ w4.drew.cell? ⟨w.heap.size, 1, none⟩ = some (.int .i64 c1) ∧ w4.drew.cell? ⟨w.heap.size, 2, none⟩ = some (.slice a1 len1 cap1) ∧ w4.drew.cell? ⟨w1.heap.size, 0, none⟩ = some (.int .i64 R) ∧ w4.drew.cell? ⟨w1.heap.size, 1, none⟩ = some (.int .i64 C) ∧ w4.drew.cell? ⟨w1.heap.size, 2, none⟩ = some (.slice s1 N d1) ∧ w4.drew.cell? ⟨w2.heap.size, 0, none⟩ = some (.int .i64 R) ∧ w4.drew.cell? ⟨w2.heap.size, 1, none⟩ = some (.int .i64 C) ∧ w4.drew.cell? ⟨w2.heap.size, 2, none⟩ = some (.slice s2 N d2)) := ⟨HV_m1_4.out.c0, HV_m1_4.out.c1, HV_m1_4.out.c2, HV_p_4.out.c0, HV_p_4.out.c1, HV_p_4.out.c2, HV_q_4.out.c0, HV_q_4.out.c1, HV_q_4.out.c2⟩
  go_region_held3 (fun w' => w'.cell? ⟨w.heap.size, 0, none⟩ = some (.int .i64 r1) ∧ w'.cell? ⟨w.heap.size, 1, none⟩ = some (.int .i64 c1) ∧ w'.cell? ⟨w.heap.size, 2, none⟩ = some (.slice a1 len1 cap1) ∧ w'.cell? ⟨w1.heap.size, 0, none⟩ = some (.int .i64 R) ∧ w'.cell? ⟨w1.heap.size, 1, none⟩ = some (.int .i64 C) ∧ w'.cell? ⟨w1.heap.size, 2, none⟩ = some (.slice s1 N d1) ∧ w'.cell? ⟨w2.heap.size, 0, none⟩ = some (.int .i64 R) ∧ w'.cell? ⟨w2.heap.size, 1, none⟩ = some (.int .i64 C) ∧ w'.cell? ⟨w2.heap.size, 2, none⟩ = some (.slice s2 N d2))
    (first
      | exact HK_10.out
      | exact HK_9.out
      | exact HK_8.out
      | exact HK_7.out
      | exact HK_6.out
      | exact HK_5.out
      | exact HD.out)
    (first
      | (go_at_call 14; have _x := HB_9; refine ((HS.out _ _ _ HM_m1_9.out.sl).2).mono ?_; rintro e w10 ⟨rfl, hb10⟩; have HB_10 : Hid (Below w.heap.size w w10) := two_below HB_9.out hb10; have HV_m1_10 : Hid (Vr w10 w.heap.size (.int .i64 r1) (.int .i64 c1) (.slice a1 len1 cap1)) := HV_m1_9.out.later hb10; have HV_p_10 : Hid (Vr w10 w1.heap.size (.int .i64 R) (.int .i64 C) (.slice s1 N d1)) := HV_p_9.out.later hb10; have HV_q_10 : Hid (Vr w10 w2.heap.size (.int .i64 R) (.int .i64 C) (.slice s2 N d2)) := HV_q_9.out.later hb10; have HM_m1_10 : Hid (Mt w10 a1 len1 cap1 F1) := HM_m1_9.out.later hb10; have HM_p_10 : Hid (Mt w10 s1 N d1 f) := HM_p_9.out.later hb10; have HM_q_10 : Hid (Mt w10 s2 N d2 f) := HM_q_9.out.later hb10; have HM_u_10 : Hid (Mt w10 s3 N2 d3 f2) := HM_u_9.out.later hb10; have HM_v_10 : Hid (Mt w10 s4 N2 d4 f2) := HM_v_9.out.later hb10; have HK_10 : Hid (w10.cell? ⟨w.heap.size, 0, none⟩ = some (.int .i64 r1) ∧ w10.cell? ⟨w.heap.size, 1, none⟩ = some (.int .i64 c1) ∧ w10.cell? ⟨w.heap.size, 2, none⟩ = some (.slice a1 len1 cap1) ∧ w10.cell? ⟨w1.heap.size, 0, none⟩ = some (.int .i64 R) ∧ w10.cell? ⟨w1.heap.size, 1, none⟩ = some (.int .i64 C) ∧ w10.cell? ⟨w1.heap.size, 2, none⟩ = some (.slice s1 N d1) ∧ w10.cell? ⟨w2.heap.size, 0, none⟩ = some (.int .i64 R) ∧ w10.cell? ⟨w2.heap.size, 1, none⟩ = some (.int .i64 C) ∧ w10.cell? ⟨w2.heap.size, 2, none⟩ = some (.slice s2 N d2)) := ⟨HV_m1_10.out.c0, HV_m1_10.out.c1, HV_m1_10.out.c2, HV_p_10.out.c0, HV_p_10.out.c1, HV_p_10.out.c2, HV_q_10.out.c0, HV_q_10.out.c1, HV_q_10.out.c2⟩; clear HV_m1_9 HV_p_9 HV_q_9 HM_m1_9 HM_p_9 HM_q_9 HM_u_9 HM_v_9 hb10)
      | (go_at_call 21; have _x := HB_8; refine ((HS.out _ _ _ HM_m1_8.out.sl).1).mono ?_; rintro e w9 ⟨rfl, hb9⟩; have HB_9 : Hid (Below w.heap.size w w9) := two_below HB_8.out hb9; have HV_m1_9 : Hid (Vr w9 w.heap.size (.int .i64 r1) (.int .i64 c1) (.slice a1 len1 cap1)) := HV_m1_8.out.later hb9; have HV_p_9 : Hid (Vr w9 w1.heap.size (.int .i64 R) (.int .i64 C) (.slice s1 N d1)) := HV_p_8.out.later hb9; have HV_q_9 : Hid (Vr w9 w2.heap.size (.int .i64 R) (.int .i64 C) (.slice s2 N d2)) := HV_q_8.out.later hb9; have HM_m1_9 : Hid (Mt w9 a1 len1 cap1 F1) := HM_m1_8.out.later hb9; have HM_p_9 : Hid (Mt w9 s1 N d1 f) := HM_p_8.out.later hb9; have HM_q_9 : Hid (Mt w9 s2 N d2 f) := HM_q_8.out.later hb9; have HM_u_9 : Hid (Mt w9 s3 N2 d3 f2) := HM_u_8.out.later hb9; have HM_v_9 : Hid (Mt w9 s4 N2 d4 f2) := HM_v_8.out.later hb9; have HK_9 : Hid (w9.cell? ⟨w.heap.size, 0, none⟩ = some (.int .i64 r1) ∧ w9.cell? ⟨w.heap.size, 1, none⟩ = some (.int .i64 c1) ∧ w9.cell? ⟨w.heap.size, 2, none⟩ = some (.slice a1 len1 cap1) ∧ w9.cell? ⟨w1.heap.size, 0, none⟩ = some (.int .i64 R) ∧ w9.cell? ⟨w1.heap.size, 1, none⟩ = some (.int .i64 C) ∧ w9.cell? ⟨w1.heap.size, 2, none⟩ = some (.slice s1 N d1) ∧ w9.cell? ⟨w2.heap.size, 0, none⟩ = some (.int .i64 R) ∧ w9.cell? ⟨w2.heap.size, 1, none⟩ = some (.int .i64 C) ∧ w9.cell? ⟨w2.heap.size, 2, none⟩ = some (.slice s2 N d2)) := ⟨HV_m1_9.out.c0, HV_m1_9.out.c1, HV_m1_9.out.c2, HV_p_9.out.c0, HV_p_9.out.c1, HV_p_9.out.c2, HV_q_9.out.c0, HV_q_9.out.c1, HV_q_9.out.c2⟩; clear HV_m1_8 HV_p_8 HV_q_8 HM_m1_8 HM_p_8 HM_q_8 HM_u_8 HM_v_8 hb9)
      | (go_at_call 22; have _x := HB_7; refine ((HR.out _ _ _ _ _ HM_q_7.out.sl HM_m1_7.out.sl).2).mono ?_; rintro e w8 ⟨rfl, hb8⟩; have HB_8 : Hid (Below w.heap.size w w8) := two_below HB_7.out hb8; have HV_m1_8 : Hid (Vr w8 w.heap.size (.int .i64 r1) (.int .i64 c1) (.slice a1 len1 cap1)) := HV_m1_7.out.later hb8; have HV_p_8 : Hid (Vr w8 w1.heap.size (.int .i64 R) (.int .i64 C) (.slice s1 N d1)) := HV_p_7.out.later hb8; have HV_q_8 : Hid (Vr w8 w2.heap.size (.int .i64 R) (.int .i64 C) (.slice s2 N d2)) := HV_q_7.out.later hb8; have HM_m1_8 : Hid (Mt w8 a1 len1 cap1 F1) := HM_m1_7.out.later hb8; have HM_p_8 : Hid (Mt w8 s1 N d1 f) := HM_p_7.out.later hb8; have HM_q_8 : Hid (Mt w8 s2 N d2 f) := HM_q_7.out.later hb8; have HM_u_8 : Hid (Mt w8 s3 N2 d3 f2) := HM_u_7.out.later hb8; have HM_v_8 : Hid (Mt w8 s4 N2 d4 f2) := HM_v_7.out.later hb8; have HK_8 : Hid (w8.cell? ⟨w.heap.size, 0, none⟩ = some (.int .i64 r1) ∧ w8.cell? ⟨w.heap.size, 1, none⟩ = some (.int .i64 c1) ∧ w8.cell? ⟨w.heap.size, 2, none⟩ = some (.slice a1 len1 cap1) ∧ w8.cell? ⟨w1.heap.size, 0, none⟩ = some (.int .i64 R) ∧ w8.cell? ⟨w1.heap.size, 1, none⟩ = some (.int .i64 C) ∧ w8.cell? ⟨w1.heap.size, 2, none⟩ = some (.slice s1 N d1) ∧ w8.cell? ⟨w2.heap.size, 0, none⟩ = some (.int .i64 R) ∧ w8.cell? ⟨w2.heap.size, 1, none⟩ = some (.int .i64 C) ∧ w8.cell? ⟨w2.heap.size, 2, none⟩ = some (.slice s2 N d2)) := ⟨HV_m1_8.out.c0, HV_m1_8.out.c1, HV_m1_8.out.c2, HV_p_8.out.c0, HV_p_8.out.c1, HV_p_8.out.c2, HV_q_8.out.c0, HV_q_8.out.c1, HV_q_8.out.c2⟩; clear HV_m1_7 HV_p_7 HV_q_7 HM_m1_7 HM_p_7 HM_q_7 HM_u_7 HM_v_7 hb8)
      | (go_at_call 21; have _x := HB_6; refine ((HR.out _ _ _ _ _ HM_p_6.out.sl HM_m1_6.out.sl).1).mono ?_; rintro e w7 ⟨rfl, hb7⟩; have HB_7 : Hid (Below w.heap.size w w7) := two_below HB_6.out hb7; have HV_m1_7 : Hid (Vr w7 w.heap.size (.int .i64 r1) (.int .i64 c1) (.slice a1 len1 cap1)) := HV_m1_6.out.later hb7; have HV_p_7 : Hid (Vr w7 w1.heap.size (.int .i64 R) (.int .i64 C) (.slice s1 N d1)) := HV_p_6.out.later hb7; have HV_q_7 : Hid (Vr w7 w2.heap.size (.int .i64 R) (.int .i64 C) (.slice s2 N d2)) := HV_q_6.out.later hb7; have HM_m1_7 : Hid (Mt w7 a1 len1 cap1 F1) := HM_m1_6.out.later hb7; have HM_p_7 : Hid (Mt w7 s1 N d1 f) := HM_p_6.out.later hb7; have HM_q_7 : Hid (Mt w7 s2 N d2 f) := HM_q_6.out.later hb7; have HM_u_7 : Hid (Mt w7 s3 N2 d3 f2) := HM_u_6.out.later hb7; have HM_v_7 : Hid (Mt w7 s4 N2 d4 f2) := HM_v_6.out.later hb7; have HK_7 : Hid (w7.cell? ⟨w.heap.size, 0, none⟩ = some (.int .i64 r1) ∧ w7.cell? ⟨w.heap.size, 1, none⟩ = some (.int .i64 c1) ∧ w7.cell? ⟨w.heap.size, 2, none⟩ = some (.slice a1 len1 cap1) ∧ w7.cell? ⟨w1.heap.size, 0, none⟩ = some (.int .i64 R) ∧ w7.cell? ⟨w1.heap.size, 1, none⟩ = some (.int .i64 C) ∧ w7.cell? ⟨w1.heap.size, 2, none⟩ = some (.slice s1 N d1) ∧ w7.cell? ⟨w2.heap.size, 0, none⟩ = some (.int .i64 R) ∧ w7.cell? ⟨w2.heap.size, 1, none⟩ = some (.int .i64 C) ∧ w7.cell? ⟨w2.heap.size, 2, none⟩ = some (.slice s2 N d2)) := ⟨HV_m1_7.out.c0, HV_m1_7.out.c1, HV_m1_7.out.c2, HV_p_7.out.c0, HV_p_7.out.c1, HV_p_7.out.c2, HV_q_7.out.c0, HV_q_7.out.c1, HV_q_7.out.c2⟩; clear HV_m1_6 HV_p_6 HV_q_6 HM_m1_6 HM_p_6 HM_q_6 HM_u_6 HM_v_6 hb7)
      | (go_at_call 20; have _x := HB_5; refine (same_at _ s3 s4 N2 d3 d4 f2 HM_u_5.out.sl HM_v_5.out.sl).mono ?_; rintro e w' ⟨rfl, rfl⟩; have HB_6 := HB_5; have HV_m1_6 := HV_m1_5; have HV_p_6 := HV_p_5; have HV_q_6 := HV_q_5; have HM_m1_6 := HM_m1_5; have HM_p_6 := HM_p_5; have HM_q_6 := HM_q_5; have HM_u_6 := HM_u_5; have HM_v_6 := HM_v_5; have HK_6 : Hid (w5.cell? ⟨w.heap.size, 0, none⟩ = some (.int .i64 r1) ∧ w5.cell? ⟨w.heap.size, 1, none⟩ = some (.int .i64 c1) ∧ w5.cell? ⟨w.heap.size, 2, none⟩ = some (.slice a1 len1 cap1) ∧ w5.cell? ⟨w1.heap.size, 0, none⟩ = some (.int .i64 R) ∧ w5.cell? ⟨w1.heap.size, 1, none⟩ = some (.int .i64 C) ∧ w5.cell? ⟨w1.heap.size, 2, none⟩ = some (.slice s1 N d1) ∧ w5.cell? ⟨w2.heap.size, 0, none⟩ = some (.int .i64 R) ∧ w5.cell? ⟨w2.heap.size, 1, none⟩ = some (.int .i64 C) ∧ w5.cell? ⟨w2.heap.size, 2, none⟩ = some (.slice s2 N d2)) := ⟨HV_m1_6.out.c0, HV_m1_6.out.c1, HV_m1_6.out.c2, HV_p_6.out.c0, HV_p_6.out.c1, HV_p_6.out.c2, HV_q_6.out.c0, HV_q_6.out.c1, HV_q_6.out.c2⟩; clear HV_m1_5 HV_p_5 HV_q_5 HM_m1_5 HM_p_5 HM_q_5 HM_u_5 HM_v_5)
      | (go_at_call 15; have _x := HB_4; refine (like3_any _ R C R C E E s1 s2 N N d1 d2 f f (HM_p_4.out.sl.later (Below.refl _ _).drew) (HM_q_4.out.sl.later (Below.refl _ _).drew) true (hid_of (like_self R C E N f))).mono ?_; rintro e w5 ⟨rfl, hb5⟩; have hb5 := two_below (Below.refl _ _).drew hb5; have HB_5 : Hid (Below w.heap.size w w5) := two_below HB_4.out hb5; have HV_m1_5 : Hid (Vr w5 w.heap.size (.int .i64 r1) (.int .i64 c1) (.slice a1 len1 cap1)) := HV_m1_4.out.later hb5; have HV_p_5 : Hid (Vr w5 w1.heap.size (.int .i64 R) (.int .i64 C) (.slice s1 N d1)) := HV_p_4.out.later hb5; have HV_q_5 : Hid (Vr w5 w2.heap.size (.int .i64 R) (.int .i64 C) (.slice s2 N d2)) := HV_q_4.out.later hb5; have HM_m1_5 : Hid (Mt w5 a1 len1 cap1 F1) := HM_m1_4.out.later hb5; have HM_p_5 : Hid (Mt w5 s1 N d1 f) := HM_p_4.out.later hb5; have HM_q_5 : Hid (Mt w5 s2 N d2 f) := HM_q_4.out.later hb5; have HM_u_5 : Hid (Mt w5 s3 N2 d3 f2) := HM_u_4.out.later hb5; have HM_v_5 : Hid (Mt w5 s4 N2 d4 f2) := HM_v_4.out.later hb5; have HK_5 : Hid (w5.cell? ⟨w.heap.size, 0, none⟩ = some (.int .i64 r1) ∧ w5.cell? ⟨w.heap.size, 1, none⟩ = some (.int .i64 c1) ∧ w5.cell? ⟨w.heap.size, 2, none⟩ = some (.slice a1 len1 cap1) ∧ w5.cell? ⟨w1.heap.size, 0, none⟩ = some (.int .i64 R) ∧ w5.cell? ⟨w1.heap.size, 1, none⟩ = some (.int .i64 C) ∧ w5.cell? ⟨w1.heap.size, 2, none⟩ = some (.slice s1 N d1) ∧ w5.cell? ⟨w2.heap.size, 0, none⟩ = some (.int .i64 R) ∧ w5.cell? ⟨w2.heap.size, 1, none⟩ = some (.int .i64 C) ∧ w5.cell? ⟨w2.heap.size, 2, none⟩ = some (.slice s2 N d2)) := ⟨HV_m1_5.out.c0, HV_m1_5.out.c1, HV_m1_5.out.c2, HV_p_5.out.c0, HV_p_5.out.c1, HV_p_5.out.c2, HV_q_5.out.c0, HV_q_5.out.c1, HV_q_5.out.c2⟩; clear HV_m1_4 HV_p_4 HV_q_4 HM_m1_4 HM_p_4 HM_q_4 HM_u_4 HM_v_4 hb5))
  go_wp2
  go_ret
  exact ⟨rfl, HB_10.out⟩
set_option maxRecDepth 100000 in
set_option maxHeartbeats 2000000 in
theorem lifted (os : Os) (started : os.Started) (H : Type) (enc : TypeId × Value → H) :
    ReturnsInHanded {} Try.checked os 4 .any (Rows.matrixRowsSpec.pre6 enc Try.prog Try.f4 Rows.matrixRowsRow.domain false) (Rows.matrixRowsSpec.post enc Try.prog Try.f4 false true false false) := by
  refine returnsInHanded_of_change_sized (C := Try.checked) own started (by kernel_rfl) Try.func4
    (ChangeSpec.witness6 (enc := enc) (C := Try.checked) false ⟨#[], #[.slice none 0 0, .agg #[.int .i64 0, .int .i64 0, .slice none 0 0], .int .i64 0], []⟩ 8 (by kernel_rfl) (by kernel_rfl) (by kernel_rfl) (by kernel_rfl)) ?_
  intro W base args ds gs before hval0 hW hcnd hsz0 _
  have hsz : (DataW.weightsEach Try.prog (Try.f4.params.toList ++ Rows.matrixRowsSpec.plain.varTypes Try.prog) (ds ++ gs)).all (· ≤ reachBytes) = true := hsz0
  clear hsz0
  have hval : ∀ (j : Nat) t v, Try.f4.params[j]? = some t → args[j]? = some v → Value.okWide Try.prog W .any base t v := hval0
  have hW' := hW
  obtain ⟨p, q, hA0, hV, rfl, hfz, hnd⟩ := hW
  have hA : DataW.TrodAll enc Try.prog W 0 (fun _ => true) true Try.f4.params.toList args.toList ds p := hA0
  rw [Try.params4] at hA hval hsz
  obtain ⟨va0, vs0, d0, ds0, p0, q0, hargs, rfl, rfl, h0, tr0⟩ := trodAll_cons hA
  obtain ⟨va1, vs1, d1, ds1, p1, q1, rfl, rfl, rfl, h1, tr1⟩ := trodAll_cons tr0
  obtain ⟨va2, vs2, d2, ds2, p2, q2, rfl, rfl, rfl, h2, tr2⟩ := trodAll_cons tr1
  obtain ⟨rfl, rfl, rfl⟩ := trodAll_nil tr2
  obtain rfl : args = #[va0, va1, va2] := by cases args; simp_all
  obtain ⟨rfl, rfl⟩ := trodVars_none hV
  have k0 := h0
  have lt0 : ∀ x ∈ p0, x.block < W.heap.size := by obtain ⟨m, hm⟩ := k0; exact DataW.trod_lt m _ _ _ hm
  obtain ⟨a0, len0, cap0, rfl⟩ := okWide_slice Try.underlying35 (hval 0 35 va0 rfl rfl)
  have w0 : IsRows W a0 len0 cap0 := by
    obtain ⟨fuel, hf⟩ := h0
    rcases Go.Deep.open_int_rows Try.underlying35 Try.underlying22 Try.underlying5 (by kernel_rfl) (by kernel_rfl) hf with ⟨hcs, _⟩ | ⟨x, l, c, A, L, C, Z, hcs, _, hl, hm, hxx, hall⟩
    · simp [Value.cells] at hcs
      obtain ⟨rfl, rfl, rfl⟩ := hcs
      exact .inl ⟨rfl, rfl, rfl⟩
    · simp [Value.cells] at hcs
      obtain ⟨rfl, rfl, rfl⟩ := hcs
      have hd := congrArg Prod.fst hxx
      exact rows_in (congrArg some hd) Try.underlying35 Try.underlying22 (by kernel_rfl) (by kernel_rfl) (sized_in hsz (j := 0) (t := 35) rfl (congrArg some hd)) hl hall
  have k1 := h1
  have lt1 : ∀ x ∈ p1, x.block < W.heap.size := by obtain ⟨m, hm⟩ := k1; exact DataW.trod_lt m _ _ _ hm
  obtain ⟨f1, g1, s1, y1, x1, e1, m1, rfl, rfl, rfl, hf1, hg1, hs1⟩ := open_agg3 Try.underlying24 (by kernel_rfl) cellsM (hval 1 24 va1 rfl rfl) h1
  obtain ⟨r1, er1, rfl, u1⟩ := DataW.trod_int Try.underlying3 hf1
  obtain ⟨c1, ec1, rfl, v1⟩ := DataW.trod_int Try.underlying3 hg1
  simp only [List.cons.injEq, and_true] at er1 ec1
  subst er1 ec1
  obtain ⟨a1, len1, cap1, rfl⟩ : ∃ a l c, s1 = .slice a l c := by
    rcases open_ints Try.underlying22 Try.underlying5 (by kernel_rfl) hs1 with ⟨hcs, _⟩ | ⟨x, l, c, zs, hcs, _⟩
    · simp only [List.cons.injEq, and_true] at hcs; exact ⟨_, _, _, hcs⟩
    · simp only [List.cons.injEq, and_true] at hcs; exact ⟨_, _, _, hcs⟩
  obtain ⟨z1, w1⟩ : ∃ zs, IsRow .u8 W a1 len1 cap1 zs := by
    obtain ⟨fuel, hf⟩ := (⟨m1, hs1⟩ : ∃ fuel, DataW.trod enc Try.prog W 0 (fun _ => true) true fuel 22 [.slice a1 len1 cap1] = some e1)
    rcases open_ints Try.underlying22 Try.underlying5 (by kernel_rfl) hf with ⟨hcs, _⟩ | ⟨x, l, c, zs, hcs, _, hl, hm, hz, hxx, hcell, hwz⟩
    · simp at hcs
      obtain ⟨rfl, rfl, rfl⟩ := hcs
      exact ⟨[], .inl ⟨rfl, rfl, rfl, rfl⟩⟩
    · simp at hcs
      obtain ⟨rfl, rfl, rfl⟩ := hcs
      have hd := congrArg Prod.fst hxx
      have hs := sized_slice (sized_in hsz (j := 1) (t := 24) rfl rfl) (j := 2) (t := 22) (e := 5) rfl (congrArg some hd) Try.underlying22
      rw [show Try.prog.bytesOf 5 = 1 from by kernel_rfl] at hs
      have hzl : zs.length = cap1 := by simpa using hz
      simp only [lits, List.length_map, List.length_take, List.length_drop, reachBytes] at hs
      exact ⟨zs, .inr ⟨_, rfl, hl, by omega, by simpa using hz, hcell, hwz⟩⟩
  have k2 := h2
  have lt2 : ∀ x ∈ p2, x.block < W.heap.size := by obtain ⟨m, hm⟩ := k2; exact DataW.trod_lt m _ _ _ hm
  obtain ⟨n2, rfl, w2⟩ : ∃ n, va2 = .int .i64 n ∧ (Lit.int .i64 n).wf = true := by
    obtain ⟨n, rfl, _, _, hw⟩ := open_int Try.underlying3 (hval 2 3 va2 rfl rfl) h2
    exact ⟨n, rfl, hw⟩
  clear hA0 hval0
  refine (walk a0 len0 cap0 r1 c1 a1 len1 cap1 z1 n2 W w0 u1 v1 w1 w2).mono fun e W' ⟨he, bel⟩ => ?_
  subst he
  exact ⟨_, rfl, _, _, _, [], _, [], hW', trodAll_mk1 (shut_bool Try.underlying4 _), (trodAll_cons_mk (Below.trod laidOut (by kernel_rfl) (of_decide_eq_true (by kernel_rfl)) k0 bel lt0) (trodAll_cons_mk (Below.trod laidOut (by kernel_rfl) (of_decide_eq_true (by kernel_rfl)) k1 bel lt1) (trodAll_cons_mk (Below.trod laidOut (by kernel_rfl) (of_decide_eq_true (by kernel_rfl)) k2 bel lt2) trodAll_mk0))), rfl, bel.frame _, fun h => by cases h⟩
theorem over : Rows.matrixRowsRow.holds Try.pinned (OpenSpec.ofChange Rows.matrixRowsSpec) :=
  OpenClaim.holds_of_wide 4 Try.f4 rfl rfl rfl rfl rfl rfl rfl ⟨rfl, rfl, rfl, rfl, rfl⟩ rfl rfl rfl rfl rfl (by kernel_rfl) Try.func4 (by kernel_rfl)
    (of_decide_eq_true (by kernel_rfl)) (by unfold Func.isWrapper; first | (rw [if_pos (by decide +kernel)]; kernel_rfl) | (rw [if_neg (by decide +kernel)]; exact ⟨rfl, rfl⟩))
    (fun os started H enc _ => lifted os started H enc)
theorem proved : Rows.MatrixRowsSaid := over
#print axioms proved
end Go.Proofs.Ytaoehildaenbnaa.matrixRows
