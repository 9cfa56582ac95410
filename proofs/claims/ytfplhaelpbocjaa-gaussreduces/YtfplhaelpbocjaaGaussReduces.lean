/-
  Proved: for every matrix m the program's Reduce answers the document's reduced form with its pivot columns, and Rank the rank, or its error (P4.1); no condition.
-/
import Derived.Test.YtfplhaelpbocjaaGo
import Derived.WalkKit
import Derived.SizedLaws
import Derived.ProofKit
import Derived.OpenShut
import Derived.ShutString
import Derived.ChangeOld
import Derived.Below
import Derived.Lib.SmallJoins
import Derived.Deep.Matrix
namespace Go.Proofs.Ytfplhaelpbocjaa.gaussReduces
open Go.ChangeShapes Go.WideShapes Go.ChangeAt Go.RowKit Go.Joins
set_option linter.unusedVariables false
theorem own : ownKnob Try.prog.godebug = none := by kernel_rfl
theorem laidOut : laidOutB Try.prog = true := by kernel_rfl
/-- A slice of integers that came in. -/
def IsRow (k : IntKind) (w : World) (a : Option Addr) (len cap : Nat) (zs : List Int) : Prop :=
  (a = none ∧ len = 0 ∧ cap = 0 ∧ zs = []) ∨
  ∃ x, a = some x ∧ len ≤ cap ∧ cap ≤ 140737488351232 ∧ zs.length = cap ∧ (∀ i, i < zs.length → w.cell? (x.add i) = some (.int k (zs.getD i 0))) ∧ ∀ n ∈ zs, (Lit.int k n).wf = true
/-- A slice of slices of bytes that came in. -/
def IsRows (w : World) (a : Option Addr) (len cap : Nat) : Prop :=
  (a = none ∧ len = 0 ∧ cap = 0) ∨
  ∃ x, a = some x ∧ len ≤ cap ∧ cap ≤ 140737488351232 ∧ ∀ r, r < cap → ∃ b l c zs, w.cell? (x.add r) = some (.slice b l c) ∧ IsRow .u8 w b l c zs
theorem sized_in {H : Type} {P : Program} {ts : List TypeId} {ds : List (DataW H)} (h : (DataW.weightsEach P ts ds).all (· ≤ reachBytes) = true) {j : Nat} {t : TypeId} {d : DataW H} (ht : ts[j]? = some t) (hd : ds[j]? = some d) : (d.weights P t).all (· ≤ reachBytes) = true :=
  List.all_eq_true.2 fun n hn => List.all_eq_true.1 h n (DataW.weights_mem_each ht hd n hn)
theorem sized_all {H : Type} {P : Program} {e : TypeId} : ∀ {ds : List (DataW H)}, (DataW.weightsAll P e ds).all (· ≤ reachBytes) = true → ∀ d ∈ ds, (d.weights P e).all (· ≤ reachBytes) = true
  | [], _, d, hd => by simp at hd
  | d0 :: r, h, d, hd => by
    simp only [DataW.weightsAll, List.all_append, Bool.and_eq_true] at h
    rcases List.mem_cons.1 hd with rfl | hd
    · exact h.1
    · exact sized_all h.2 d hd
theorem cellsM : Try.prog.cellsOf 24 = 3 := by kernel_rfl

set_option maxRecDepth 20000 in
set_option maxHeartbeats 8000000 in
theorem walk (r0 c0 : Int) (a0 : Option Addr) (len0 cap0 : Nat) (z0 : List Int) (w : World) (u0 : (Lit.int .i64 r0).wf = true) (v0 : (Lit.int .i64 c0).wf = true) (w0 : IsRow .u8 w a0 len0 cap0 z0) :
    Calls Try.prog 3 #[.agg #[.int .i64 r0, .int .i64 c0, .slice a0 len0 cap0]] w fun e w' => e = .returned (.bool true) ∧ Below w.heap.size w w' := by
  obtain ⟨F, hM, hn⟩ := mt_of_row w a0 len0 cap0 z0 w0
  have HM : Hid (Mt w a0 len0 cap0 F) := hM
  clear w0 u0 v0 hn
  obtain ⟨wb, HW⟩ : ∃ wb, Hid (wb = w.alloc (.cells #[.int .i64 r0, .int .i64 c0, .slice a0 len0 cap0] 24)) := ⟨_, rfl⟩
  have HVa : Hid (Vr wb w.heap.size (.int .i64 r0) (.int .i64 c0) (.slice a0 len0 cap0)) := by show Vr _ _ _ _ _; rw [HW.out]; exact Vr.new _ _ _ _
  have HB0 : Hid (Below w.heap.size w wb) := by rw [HW.out]; exact alloc_low _ _
  have v0 := HVa.out.c0
  have v1 := HVa.out.c1
  have v2 := HVa.out.c2
  by_cases h : RightP r0 c0 len0
  · obtain ⟨r, c, rfl, rfl, R⟩ := right_rt h
    have HR : Hid (Rt r c len0) := R
    have HEl : Hid (El2 (m2 F r c)) := m2_el hM.sl.1 R
    have hr := R.r64
    clear h R hM
    go_enter Try.func3, Try.ntmps3
    go_wp2_with (first
      | (go_at_call 13; have _x := HB4; refine (ints_yes _ ps1 ps2 t pd1 pd2 p HI4.out HJ4.out (by omega)).mono ?_; rintro e w5 ⟨rfl, hb5⟩; have HB5 : Hid (Below w.heap.size w w5) := two_below HB4.out hb5; clear hb5)
      | (go_at_call 12; have _x := HB3; refine (like_ans _ _ _ _ _ len0 _ _ G G' HM3.out HN3.out HE.out).mono ?_; rintro e w4 ⟨rfl, hb4⟩; have HB4 : Hid (Below w.heap.size w w4) := two_below HB3.out hb4; have HI4 : Hid (Il w4 ps1 t (fun i => (p i : Int))) := HI3.out.later hb4; have HJ4 : Hid (Il w4 ps2 t (fun i => (p i : Int))) := HJ3.out.later hb4; clear hb4)
      | (go_at_call 11; have _x := HB2; refine (grank_ok _ r c len0 cap0 a0 F (HM.out.later HB2.out) HR.out).mono ?_; rintro e w3 ⟨t3, rfl, hk3, hb3⟩; have et3 := (hk3.unique HK.out (SpEq.refl HEl.out _)).symm; subst et3; have HB3 : Hid (Below w.heap.size w w3) := two_below HB2.out hb3; have HM3 : Hid (Mt w3 s1 len0 d1 G) := HM2.out.later hb3; have HN3 : Hid (Mt w3 s2 len0 d2 G') := HN2.out.later hb3; have HI3 : Hid (Il w3 ps1 t (fun i => (p i : Int))) := HI2.out.later hb3; have HJ3 : Hid (Il w3 ps2 t (fun i => (p i : Int))) := HJ2.out.later hb3; have x0 := (HV2.out.later hb3).c0; have x1 := (HV2.out.later hb3).c1; have x2 := (HV2.out.later hb3).c2; have y0 := (HU2.out.later hb3).c0; have y1 := (HU2.out.later hb3).c1; have y2 := (HU2.out.later hb3).c2; clear hb3 hk3)
      | (go_at_call 10; have _x := HB1; refine ((rred_a _ r c len0 cap0 a0 F (HM.out.later HB1.out).sl HM.out.nil HR.out).mono (fun _ _ h => h.p)).mono ?_; rintro e w2 ⟨s2, d2, ps2, pd2, t2, p2, G', rfl, hm2, hi2, hR2, hS2, _, hb2⟩; obtain ⟨et, ep, hE⟩ := red_same HR.out HRd.out HSp.out hR2 hS2; subst et; have HE : Hid (∀ i, i < len0 → G i = G' i) := hE; have HK : Hid (Rk (m2 F r c) r t) := (HRd.out.rk (m2_el HM1.out.sl.1 HR.out)).span HSp.out; have HB2 : Hid (Below w.heap.size w (w2.alloc (.cells #[.int .i64 (r : Int), .int .i64 (c : Int), .slice s2 len0 d2] 24))) := two_below (two_below HB1.out hb2) (alloc_low _ _); have HM2 : Hid (Mt (w2.alloc (.cells #[.int .i64 (r : Int), .int .i64 (c : Int), .slice s2 len0 d2] 24)) s1 len0 d1 G) := (HM1.out.later hb2).later (alloc_low _ _); have HN2 : Hid (Mt (w2.alloc (.cells #[.int .i64 (r : Int), .int .i64 (c : Int), .slice s2 len0 d2] 24)) s2 len0 d2 G') := hm2.later (alloc_low _ _); have HI2 : Hid (Il (w2.alloc (.cells #[.int .i64 (r : Int), .int .i64 (c : Int), .slice s2 len0 d2] 24)) ps1 t (fun i => (p i : Int))) := (HI1.out.later hb2).later (alloc_low _ _); have HJ2 : Hid (Il (w2.alloc (.cells #[.int .i64 (r : Int), .int .i64 (c : Int), .slice s2 len0 d2] 24)) ps2 t (fun i => (p i : Int))) := (hi2.congr (fun i hi => congrArg Int.ofNat (ep i hi).symm)).later (alloc_low _ _); have HV2 : Hid (Vr (w2.alloc (.cells #[.int .i64 (r : Int), .int .i64 (c : Int), .slice s2 len0 d2] 24)) w1.heap.size (.int .i64 (r : Int)) (.int .i64 (c : Int)) (.slice s1 len0 d1)) := (HV1.out.later hb2).later (alloc_low _ _); have HU2 : Hid (Vr (w2.alloc (.cells #[.int .i64 (r : Int), .int .i64 (c : Int), .slice s2 len0 d2] 24)) w2.heap.size (.int .i64 (r : Int)) (.int .i64 (c : Int)) (.slice s2 len0 d2)) := Vr.new w2 _ _ _; have z0 := (HVa.out.later (HBb.out)).c0; have q0 := ((HVb1.out.later hb2).later (alloc_low w2 (.cells #[.int .i64 (r : Int), .int .i64 (c : Int), .slice s2 len0 d2] 24))).c0; have q1 := ((HVb1.out.later hb2).later (alloc_low w2 (.cells #[.int .i64 (r : Int), .int .i64 (c : Int), .slice s2 len0 d2] 24))).c1; have q2 := ((HVb1.out.later hb2).later (alloc_low w2 (.cells #[.int .i64 (r : Int), .int .i64 (c : Int), .slice s2 len0 d2] 24))).c2; clear hb2 hm2 hi2 hR2 hS2 ep hE)
      | (go_at_call 9; rw [← HW.out]; refine (gred_ok _ r c len0 cap0 a0 F (HM.out.later HB0.out) HR.out).mono ?_; rintro e w1 ⟨s1, d1, ps1, pd1, t, p, G, rfl, hm1, hi1, hR1, hS1, hp1, hb1⟩; have htr := hR1.kr; have HRd : Hid (Rdf (m2 G r c) r t p) := hR1; have HSp : Hid (SpEq (m2 G r c) r (m2 F r c) r) := hS1; have HBb : Hid (Below wb.heap.size wb w1) := hb1; have HB1 : Hid (Below w.heap.size w (w1.alloc (.cells #[.int .i64 (r : Int), .int .i64 (c : Int), .slice s1 len0 d1] 24))) := two_below (two_below HB0.out hb1) (alloc_low _ _); have HM1 : Hid (Mt (w1.alloc (.cells #[.int .i64 (r : Int), .int .i64 (c : Int), .slice s1 len0 d1] 24)) s1 len0 d1 G) := hm1.later (alloc_low _ _); have HI1 : Hid (Il (w1.alloc (.cells #[.int .i64 (r : Int), .int .i64 (c : Int), .slice s1 len0 d1] 24)) ps1 t (fun i => (p i : Int))) := hi1.later (alloc_low _ _); have HV1 : Hid (Vr (w1.alloc (.cells #[.int .i64 (r : Int), .int .i64 (c : Int), .slice s1 len0 d1] 24)) w1.heap.size (.int .i64 (r : Int)) (.int .i64 (c : Int)) (.slice s1 len0 d1)) := Vr.new w1 _ _ _; have HVb1 : Hid (Vr (w1.alloc (.cells #[.int .i64 (r : Int), .int .i64 (c : Int), .slice s1 len0 d1] 24)) w.heap.size (.int .i64 (r : Int)) (.int .i64 (c : Int)) (.slice a0 len0 cap0)) := (HVa.out.later hb1).later (alloc_low _ _); have b0 := HVb1.out.c0; have b1 := HVb1.out.c1; have b2 := HVb1.out.c2; clear hb1 hm1 hi1 hR1 hS1 hp1))
    go_ret
    exact ⟨rfl, HB5.out⟩
  · have H1 : Hid (¬ RightP r0 c0 len0) := h
    clear h hM
    go_enter Try.func3, Try.ntmps3
    go_wp2_with (first
      | (go_at_call 13; have _x := HB4; refine (ints_yes _ none none 0 0 0 (fun _ => 0) (fun i hi => by omega) (fun i hi => by omega) (by omega)).mono ?_; rintro e w5 ⟨rfl, hb5⟩; have HB5 : Hid (Below w.heap.size w w5) := two_below HB4.out hb5; clear hb5)
      | (go_at_call 12; have _x := HB3; refine (like_ans _ _ _ _ _ 0 _ _ (fun _ => 0) (fun _ => 0) (Mt.none _ _) (Mt.none _ _) (fun _ _ => rfl)).mono ?_; rintro e w4 ⟨rfl, hb4⟩; have HB4 : Hid (Below w.heap.size w w4) := two_below HB3.out hb4; clear hb4)
      | (go_at_call 11; have _x := HB2; refine (grank_bad _ _ _ _ _ _ H1.out).mono ?_; rintro e w3 ⟨rfl, hb3⟩; have HB3 : Hid (Below w.heap.size w w3) := two_below HB2.out hb3; have x0 := (HV2.out.later hb3).c0; have x1 := (HV2.out.later hb3).c1; have x2 := (HV2.out.later hb3).c2; have y0 := (HU2.out.later hb3).c0; have y1 := (HU2.out.later hb3).c1; have y2 := (HU2.out.later hb3).c2; clear hb3)
      | (go_at_call 10; have _x := HB1; refine (rred_bad _ _ _ _ _ _ H1.out).mono ?_; rintro e w2 ⟨rfl, hb2⟩; have HB2 : Hid (Below w.heap.size w (w2.alloc (.cells #[.int .i64 0, .int .i64 0, .slice none 0 0] 24))) := two_below (two_below HB1.out hb2) (alloc_low _ _); have HV2 : Hid (Vr (w2.alloc (.cells #[.int .i64 0, .int .i64 0, .slice none 0 0] 24)) w1.heap.size (.int .i64 0) (.int .i64 0) (.slice none 0 0)) := (HV1.out.later hb2).later (alloc_low _ _); have HU2 : Hid (Vr (w2.alloc (.cells #[.int .i64 0, .int .i64 0, .slice none 0 0] 24)) w2.heap.size (.int .i64 0) (.int .i64 0) (.slice none 0 0)) := Vr.new w2 _ _ _; have q0 := ((HVb1.out.later hb2).later (alloc_low w2 (.cells #[.int .i64 0, .int .i64 0, .slice none 0 0] 24))).c0; have q1 := ((HVb1.out.later hb2).later (alloc_low w2 (.cells #[.int .i64 0, .int .i64 0, .slice none 0 0] 24))).c1; have q2 := ((HVb1.out.later hb2).later (alloc_low w2 (.cells #[.int .i64 0, .int .i64 0, .slice none 0 0] 24))).c2; clear hb2)
      | (go_at_call 9; rw [← HW.out]; refine (gred_bad _ _ _ _ _ _ H1.out).mono ?_; rintro e w1 ⟨rfl, hb1⟩; have HB1 : Hid (Below w.heap.size w (w1.alloc (.cells #[.int .i64 0, .int .i64 0, .slice none 0 0] 24))) := two_below (two_below HB0.out hb1) (alloc_low _ _); have HV1 : Hid (Vr (w1.alloc (.cells #[.int .i64 0, .int .i64 0, .slice none 0 0] 24)) w1.heap.size (.int .i64 0) (.int .i64 0) (.slice none 0 0)) := Vr.new w1 _ _ _; have HVb1 : Hid (Vr (w1.alloc (.cells #[.int .i64 0, .int .i64 0, .slice none 0 0] 24)) w.heap.size (.int .i64 r0) (.int .i64 c0) (.slice a0 len0 cap0)) := (HVa.out.later hb1).later (alloc_low _ _); have b0 := HVb1.out.c0; have b1 := HVb1.out.c1; have b2 := HVb1.out.c2; clear hb1))
    go_ret
    exact ⟨rfl, HB5.out⟩
set_option maxRecDepth 100000 in
set_option maxHeartbeats 2000000 in
theorem lifted (os : Os) (started : os.Started) (H : Type) (enc : TypeId × Value → H) :
    ReturnsInHanded {} Try.checked os 3 .any (Rows.gaussReducesSpec.pre6 enc Try.prog Try.f3 Rows.gaussReducesRow.domain false) (Rows.gaussReducesSpec.post enc Try.prog Try.f3 false true false false) := by
  refine returnsInHanded_of_change_sized (C := Try.checked) own started (by kernel_rfl) Try.func3
    (ChangeSpec.witness6 (enc := enc) (C := Try.checked) false ⟨#[], #[.agg #[.int .i64 0, .int .i64 0, .slice none 0 0]], []⟩ 8 (by kernel_rfl) (by kernel_rfl) (by kernel_rfl) (by kernel_rfl)) ?_
  intro W base args ds gs before hval0 hW hcnd hsz0 _
  have hsz : (DataW.weightsEach Try.prog (Try.f3.params.toList ++ Rows.gaussReducesSpec.plain.varTypes Try.prog) (ds ++ gs)).all (· ≤ reachBytes) = true := hsz0
  clear hsz0
  have hval : ∀ (j : Nat) t v, Try.f3.params[j]? = some t → args[j]? = some v → Value.okWide Try.prog W .any base t v := hval0
  have hW' := hW
  obtain ⟨p, q, hA0, hV, rfl, hfz, hnd⟩ := hW
  have hA : DataW.TrodAll enc Try.prog W 0 (fun _ => true) true Try.f3.params.toList args.toList ds p := hA0
  rw [Try.params3] at hA hval hsz
  obtain ⟨va0, vs0, d0, ds0, p0, q0, hargs, rfl, rfl, h0, tr0⟩ := trodAll_cons hA
  obtain ⟨rfl, rfl, rfl⟩ := trodAll_nil tr0
  obtain rfl : args = #[va0] := by cases args; simp_all
  obtain ⟨rfl, rfl⟩ := trodVars_none hV
  have k0 := h0
  have lt0 : ∀ x ∈ p0, x.block < W.heap.size := by obtain ⟨m, hm⟩ := k0; exact DataW.trod_lt m _ _ _ hm
  obtain ⟨f0, g0, s0, y0, x0, e0, m0, rfl, rfl, rfl, hf0, hg0, hs0⟩ := open_agg3 Try.underlying24 (by kernel_rfl) cellsM (hval 0 24 va0 rfl rfl) h0
  obtain ⟨r0, er0, rfl, u0⟩ := DataW.trod_int Try.underlying3 hf0
  obtain ⟨c0, ec0, rfl, v0⟩ := DataW.trod_int Try.underlying3 hg0
  simp only [List.cons.injEq, and_true] at er0 ec0
  subst er0 ec0
  obtain ⟨a0, len0, cap0, rfl⟩ : ∃ a l c, s0 = .slice a l c := by
    rcases open_ints Try.underlying22 Try.underlying5 (by kernel_rfl) hs0 with ⟨hcs, _⟩ | ⟨x, l, c, zs, hcs, _⟩
    · simp only [List.cons.injEq, and_true] at hcs; exact ⟨_, _, _, hcs⟩
    · simp only [List.cons.injEq, and_true] at hcs; exact ⟨_, _, _, hcs⟩
  obtain ⟨z0, w0⟩ : ∃ zs, IsRow .u8 W a0 len0 cap0 zs := by
    obtain ⟨fuel, hf⟩ := (⟨m0, hs0⟩ : ∃ fuel, DataW.trod enc Try.prog W 0 (fun _ => true) true fuel 22 [.slice a0 len0 cap0] = some e0)
    rcases open_ints Try.underlying22 Try.underlying5 (by kernel_rfl) hf with ⟨hcs, _⟩ | ⟨x, l, c, zs, hcs, _, hl, hm, hz, hxx, hcell, hwz⟩
    · simp at hcs
      obtain ⟨rfl, rfl, rfl⟩ := hcs
      exact ⟨[], .inl ⟨rfl, rfl, rfl, rfl⟩⟩
    · simp at hcs
      obtain ⟨rfl, rfl, rfl⟩ := hcs
      have hd := congrArg Prod.fst hxx
      have hs := sized_slice (sized_in hsz (j := 0) (t := 24) rfl rfl) (j := 2) (t := 22) (e := 5) rfl (congrArg some hd) Try.underlying22
      rw [show Try.prog.bytesOf 5 = 1 from by kernel_rfl] at hs
      have hzl : zs.length = cap0 := by simpa using hz
      simp only [lits, List.length_map, List.length_take, List.length_drop, reachBytes] at hs
      exact ⟨zs, .inr ⟨_, rfl, hl, by omega, by simpa using hz, hcell, hwz⟩⟩
  clear hA0 hval0
  refine (walk r0 c0 a0 len0 cap0 z0 W u0 v0 w0).mono fun e W' ⟨he, bel⟩ => ?_
  subst he
  exact ⟨_, rfl, _, _, _, [], _, [], hW', trodAll_mk1 (shut_bool Try.underlying4 _), (trodAll_cons_mk (Below.trod laidOut (by kernel_rfl) (of_decide_eq_true (by kernel_rfl)) k0 bel lt0) trodAll_mk0), rfl, bel.frame _, fun h => by cases h⟩
theorem over : Rows.gaussReducesRow.holds Try.pinned (OpenSpec.ofChange Rows.gaussReducesSpec) :=
  OpenClaim.holds_of_wide 3 Try.f3 rfl rfl rfl rfl rfl rfl rfl ⟨rfl, rfl, rfl, rfl, rfl⟩ rfl rfl rfl rfl rfl (by kernel_rfl) Try.func3 (by kernel_rfl)
    (of_decide_eq_true (by kernel_rfl)) (by unfold Func.isWrapper; first | (rw [if_pos (by decide +kernel)]; kernel_rfl) | (rw [if_neg (by decide +kernel)]; exact ⟨rfl, rfl⟩))
    (fun os started H enc _ => lifted os started H enc)
theorem proved : Rows.GaussReducesSaid := over
#print axioms proved
end Go.Proofs.Ytfplhaelpbocjaa.gaussReduces
