/-
  Stage 21: FlowTrims.
-/
import Derived.Test.YtkffkhlaljeimaaQttms00
import Derived.Test.YtkffkhlaljeimaaQttms45
import Derived.Test.YtkffkhlaljeimaaQttms46
import Derived.Test.YtkffkhlaljeimaaQttms49
set_option maxRecDepth 100000
set_option maxHeartbeats 16000000
namespace Go.Proofs.Ytkffkhlaljeimaa
open Go.RowKit
theorem qbw (w : World) (a b c : Option Addr) (p q r : Nat) (F : Fl) (h : FlR w a b c F) (hM : ¬ MayP F) :
  Calls Try.prog 24 #[flv a F.ni p b F.nn q c F.no r] w fun e w' => e = .returned (.tuple #[flv none 0 0 none 0 0 none 0 0, .int .i64 2]) ∧ Below w.heap.size w w' := by
 obtain ⟨wb, HW⟩ : ∃ wb, Hid ((w.alloc (.cells #[.slice a F.ni p, .slice b F.nn q, .slice c F.no r] 25)).alloc (.cells #[.slice none 0 0, .slice none 0 0, .slice none 0 0] 25) = wb) := ⟨_, rfl⟩
 have HB0 : Hid (Below w.heap.size w wb) := by rw [← HW.out]; exact jtwo (jlow _ _) (jlow _ _)
 have HVR : Hid (Vf wb (w.heap.size + 1) 25 #[.slice none 0 0, .slice none 0 0, .slice none 0 0]) := by rw [← HW.out]; exact Vf.new1 _ _ _ _
 have HMay := qa0 (fun (w2 : World) (hb : Below w.heap.size w w2) => qaf (qan w2 a b c p q r F (h.later hb)) hM)
 clear h hM
 obtain ⟨ni, inp, nn, nt, of, fc, no, out⟩ := F
 dsimp only at HMay HW ⊢
 go_enter Try.func24, Try.ntmps24
 go_wp2
 go_step3
 go_wp2_with (first
  | (go_at_call 9; rw [HW.out]; refine (HMay.out _ HB0.out).mono ?_; rintro e w1 ⟨rfl, hb1⟩; have HB1 := qa0 (jtwo HB0.out hb1); have HVR1 := qa0 (HVR.out.later hb1); clear hb1)
  | (refine qa5 rfl 25 _ _ rfl (w.heap.size + 1) _ #[.slice none 0 0, .slice none 0 0, .slice none 0 0] rfl rfl HVR1.out sizeFl rfl (all3s _ _ _ _ _ _ _ _ _) ?_; intro w9 HV9 HG9))
 have d0 := HV9.out.cell 0 (.slice none 0 0) rfl
 have e1 := HV9.out.cell 1 (.slice none 0 0) rfl
 have e2 := HV9.out.cell 2 (.slice none 0 0) rfl
 try rw [Exit.noGoto_ret]
 refine bodyPost_ret (v := .tuple #[flv none 0 0 none 0 0 none 0 0, .int .i64 2]) (by simp [results, Try.results24, go_sem, d0, e1, e2]) rfl ?_
 exact ⟨rfl, qai HB1.out HG9.out (by omega)⟩
theorem qbx (w : World) (a b c : Option Addr) (p q r : Nat) (F : Fl) (h : FlR w a b c F) (hM : ¬ MayP F) :
  Calls Try.prog 25 #[flv a F.ni p b F.nn q c F.no r] w fun e w' => e = .returned (.tuple #[flv none 0 0 none 0 0 none 0 0, .int .i64 2]) ∧ Below w.heap.size w w' := by
 obtain ⟨wb, HW⟩ : ∃ wb, Hid ((w.alloc (.cells #[.slice a F.ni p, .slice b F.nn q, .slice c F.no r] 25)).alloc (.cells #[.slice none 0 0, .slice none 0 0, .slice none 0 0] 25) = wb) := ⟨_, rfl⟩
 have HB0 : Hid (Below w.heap.size w wb) := by rw [← HW.out]; exact jtwo (jlow _ _) (jlow _ _)
 have HVR : Hid (Vf wb (w.heap.size + 1) 25 #[.slice none 0 0, .slice none 0 0, .slice none 0 0]) := by rw [← HW.out]; exact Vf.new1 _ _ _ _
 have HMay := qa0 (fun (w2 : World) (hb : Below w.heap.size w w2) => qaf (qao w2 a b c p q r F (h.later hb)) hM)
 clear h hM
 obtain ⟨ni, inp, nn, nt, of, fc, no, out⟩ := F
 dsimp only at HMay HW ⊢
 go_enter Try.func25, Try.ntmps25
 go_wp2_with (first
  | (go_at_call 10; rw [HW.out]; refine (HMay.out _ HB0.out).mono ?_; rintro e w1 ⟨rfl, hb1⟩; have HB1 := qa0 (jtwo HB0.out hb1); have HVR1 := qa0 (HVR.out.later hb1); clear hb1)
  | (refine qa5 rfl 25 _ _ rfl (w.heap.size + 1) _ #[.slice none 0 0, .slice none 0 0, .slice none 0 0] rfl rfl HVR1.out sizeFl rfl (all3s _ _ _ _ _ _ _ _ _) ?_; intro w9 HV9 HG9))
 have d0 := HV9.out.cell 0 (.slice none 0 0) rfl
 have e1 := HV9.out.cell 1 (.slice none 0 0) rfl
 have e2 := HV9.out.cell 2 (.slice none 0 0) rfl
 try rw [Exit.noGoto_ret]
 refine bodyPost_ret (v := .tuple #[flv none 0 0 none 0 0 none 0 0, .int .i64 2]) (by simp [results, Try.results25, go_sem, d0, e1, e2]) rfl ?_
 exact ⟨rfl, qai HB1.out HG9.out (by omega)⟩
theorem tm_two {F : Fl} {N k k' : Nat} {g g' : Nat → Nat} {m m' : Nat → Bool} (h : En (fun x => m x = true) F.ni k g) (h' : En (fun x => m' x = true) F.ni k' g') (hm : ∀ u, m u = true ↔ NeedP F u) (hm' : ∀ u, m' u = true ↔ NeedP F u) : EqF (trF F m N k g) (trF F m' N k' g') := by
 have e : m = m' := by
  funext u
  have h1 := hm u
  have h2 := hm' u
  cases hx : m u <;> cases hy : m' u <;> simp_all
 subst e
 obtain ⟨rfl, e2⟩ := h.one h'
 refine ⟨⟨rfl, fun i hi => ?_⟩, ⟨rfl, fun _ _ => ⟨rfl, fun _ _ => ⟨rfl, rfl⟩⟩⟩, ⟨rfl, fun _ _ => rfl⟩⟩
 show (((F.inp (g i)).toNat : Nat) : Int) = (((F.inp (g' i)).toNat : Nat) : Int)
 rw [e2 i hi]
theorem qby (w : World) : FlR w none none none ⟨0, fun _ => 0, 0, fun _ => 0, fun _ _ => 0, fun _ _ => 0, 0, fun _ => 0⟩ :=
 ⟨by decide, by decide, by decide, fun i hi => absurd hi (Nat.not_lt_zero i), fun i hi => absurd hi (Nat.not_lt_zero i), fun i hi => absurd hi (Nat.not_lt_zero i)⟩
theorem ftrims21 (w : World) (a b c : Option Addr) (p q r : Nat) (F : Fl) (h : FlR w a b c F) :
  Calls Try.prog 6 #[flv a F.ni p b F.nn q c F.no r] w fun e w' => e = .returned (.bool true) ∧ Below w.heap.size w w' := by
 have HB0 := qa0 (jlow w (.cells #[.slice a F.ni p, .slice b F.nn q, .slice c F.no r] 25))
 have HV0 := qa0 (Vf.new w 25 #[.slice a F.ni p, .slice b F.nn q, .slice c F.no r])
 have HSm := qa0 (fun (w2 : World) (x y z x' y' z' : Option Addr) (d1 d2 d3 d1' d2' d3' : Nat) (G H : Fl) (h1 : FlR w2 x y z G) (h2 : FlR w2 x' y' z' H) (e : EqF G H) => qa7 (qbh w2 x y z x' y' z' d1 d2 d3 d1' d2' d3' G H h1 h2) e)
 have M1 : True := trivial
 -- what Cost answers, what Trim answers
 obtain ⟨s, u, er, HC1, HC2⟩ : ∃ s u er : Nat, Hid (∀ w2, Below w.heap.size w w2 → Calls Try.prog 22 #[flv a F.ni p b F.nn q c F.no r] w2 fun e w' => e = .returned (.tuple #[.int .i64 (s : Int), .int .i64 (u : Int), .int .i64 (er : Int)]) ∧ Below w2.heap.size w2 w') ∧ Hid (∀ w2, Below w.heap.size w w2 → Calls Try.prog 23 #[flv a F.ni p b F.nn q c F.no r] w2 fun e w' => e = .returned (.tuple #[.int .i64 (s : Int), .int .i64 (u : Int), .int .i64 (er : Int)]) ∧ Below w2.heap.size w2 w') := by
  by_cases hm : MayP F
  ·exact ⟨_, _, 0, fun w2 hb => fcost_ok w2 a b c p q r F (h.later hb) hm, fun w2 hb => rcost_ok w2 a b c p q r F (h.later hb) hm⟩
  ·exact ⟨0, 0, 2, fun w2 hb => qbs w2 a b c p q r F (h.later hb) hm, fun w2 hb => qbt w2 a b c p q r F (h.later hb) hm⟩
 obtain ⟨T, er2, HT1, HT2, HTT⟩ : ∃ (T : World → Option Addr → Option Addr → Option Addr → Nat → Nat → Nat → Fl → Prop) (er2 : Nat), Hid (∀ w2, Below w.heap.size w w2 → Calls Try.prog 24 #[flv a F.ni p b F.nn q c F.no r] w2 fun e w' => (∃ x y z d1 d2 d3 k n no G, e = .returned (.tuple #[flv x k d1 y n d2 z no d3, .int .i64 (er2 : Int)]) ∧ T w' x y z k n no G) ∧ Below w2.heap.size w2 w') ∧ Hid (∀ w2, Below w.heap.size w w2 → Calls Try.prog 25 #[flv a F.ni p b F.nn q c F.no r] w2 fun e w' => (∃ x y z d1 d2 d3 k n no G, e = .returned (.tuple #[flv x k d1 y n d2 z no d3, .int .i64 (er2 : Int)]) ∧ T w' x y z k n no G) ∧ Below w2.heap.size w2 w') ∧ Hid (∀ w2 w3 x y z k n no G x' y' z' k' n' no' H, T w2 x y z k n no G → T w3 x' y' z' k' n' no' H → FlR w2 x y z G ∧ FlR w3 x' y' z' H ∧ G.ni = k ∧ G.nn = n ∧ G.no = no ∧ H.ni = k' ∧ H.nn = n' ∧ H.no = no' ∧ EqF G H) := by
  by_cases hm : MayP F
  ·refine ⟨fun w2 x y z k n no G => FlR w2 x y z G ∧ G.ni = k ∧ G.nn = n ∧ G.no = no ∧ ∃ (g : Nat → Nat) (m : Nat → Bool), G = trF F m (F.ni + F.nn) k g ∧ En (fun x => m x = true) F.ni k g ∧ ∀ u, m u = true ↔ NeedP F u, 0, fun w2 hb => (ftrim_ok w2 a b c p q r F (h.later hb) hm _ rfl).mono ?_, fun w2 hb => (rtrim_ok w2 a b c p q r F (h.later hb) hm _ rfl).mono ?_, ?_⟩
   ·rintro e w' ⟨⟨x, d1, y, d2, z, d3, k, g, m, rfl, h1, h2, h3⟩, hb'⟩
    exact ⟨⟨x, y, z, d1, d2, d3, k, _, _, _, rfl, h1, rfl, rfl, rfl, g, m, rfl, h2, h3⟩, hb'⟩
   ·rintro e w' ⟨⟨x, d1, y, d2, z, d3, k, g, m, rfl, h1, h2, h3⟩, hb'⟩
    exact ⟨⟨x, y, z, d1, d2, d3, k, _, _, _, rfl, h1, rfl, rfl, rfl, g, m, rfl, h2, h3⟩, hb'⟩
   ·rintro w2 w3 x y z k n no G x' y' z' k' n' no' H ⟨h1, h2, h3, h4, g, m, rfl, h5, h6⟩ ⟨j1, j2, j3, j4, g', m', rfl, j5, j6⟩
    exact ⟨h1, j1, h2, h3, h4, j2, j3, j4, tm_two h5 j5 h6 j6⟩
  ·refine ⟨fun w2 x y z k n no G => FlR w2 x y z G ∧ G.ni = k ∧ G.nn = n ∧ G.no = no ∧ G = ⟨0, fun _ => 0, 0, fun _ => 0, fun _ _ => 0, fun _ _ => 0, 0, fun _ => 0⟩, 2, fun w2 hb => (qbw w2 a b c p q r F (h.later hb) hm).mono ?_, fun w2 hb => (qbx w2 a b c p q r F (h.later hb) hm).mono ?_, ?_⟩
   ·rintro e w' ⟨rfl, hb'⟩
    exact ⟨⟨none, none, none, 0, 0, 0, 0, 0, 0, _, rfl, qby _, rfl, rfl, rfl, rfl⟩, hb'⟩
   ·rintro e w' ⟨rfl, hb'⟩
    exact ⟨⟨none, none, none, 0, 0, 0, 0, 0, 0, _, rfl, qby _, rfl, rfl, rfl, rfl⟩, hb'⟩
   ·rintro w2 w3 x y z k n no G x' y' z' k' n' no' H ⟨h1, h2, h3, h4, rfl⟩ ⟨j1, j2, j3, j4, rfl⟩
    exact ⟨h1, j1, h2, h3, h4, j2, j3, j4, EqF.refl _⟩
 obtain ⟨ni, HNi⟩ : ∃ x, Hid (F.ni = x) := ⟨_, rfl⟩
 obtain ⟨nn, HNn⟩ : ∃ x, Hid (F.nn = x) := ⟨_, rfl⟩
 obtain ⟨no, HNo⟩ : ∃ x, Hid (F.no = x) := ⟨_, rfl⟩
 rw [HNi.out, HNn.out, HNo.out] at HB0 HV0 HC1 HC2 HT1 HT2 ⊢
 have g1 : ((s : Int) == (s : Int)) = true := by simp
 have g2 : ((u : Int) == (u : Int)) = true := by simp
 have g3 : ((er : Int) == (er : Int)) = true := by simp
 have g4 : ((er2 : Int) == (er2 : Int)) = true := by simp
 clear h
 go_enter Try.func6, Try.ntmps6
 go_wp2_with (first
  | (go_at_call 22; refine (HC1.out _ HB0.out).mono ?_; rintro e w1 ⟨rfl, hb1⟩; have HB1 := qa0 (jtwo HB0.out hb1); have HV1 := qa0 (HV0.out.later hb1); have a0 := HV1.out.cell 0 (.slice a ni p) rfl; have a1 := HV1.out.cell 1 (.slice b nn q) rfl; have a2 := HV1.out.cell 2 (.slice c no r) rfl; clear hb1)
  | (go_at_call 23; refine (HC2.out _ HB1.out).mono ?_; rintro e w2 ⟨rfl, hb2⟩; have HB2 := qa0 (jtwo HB1.out hb2); have HV2 := qa0 (HV1.out.later hb2); have b0 := HV2.out.cell 0 (.slice a ni p) rfl; have b1 := HV2.out.cell 1 (.slice b nn q) rfl; have b2 := HV2.out.cell 2 (.slice c no r) rfl; clear hb2)
  | (go_at_call 24; refine (HT1.out _ HB2.out).mono ?_; rintro e w3 ⟨⟨x, y, z, d1, d2, d3, k, n, o3, G, rfl, ht3⟩, hb3⟩; have HT3 := qa0 ht3; have hl3 := jlow w3 (.cells #[.slice x k d1, .slice y n d2, .slice z o3 d3] 25); have HL3 := qa0 hl3; have HB3 := qa0 (jtwo (jtwo HB2.out hb3) hl3); have HV3 := qa0 ((HV2.out.later hb3).later hl3); have HX3 := qa0 (Vf.new w3 25 #[.slice x k d1, .slice y n d2, .slice z o3 d3]); have e0 := HV3.out.cell 0 (.slice a ni p) rfl; have e1 := HV3.out.cell 1 (.slice b nn q) rfl; have e2 := HV3.out.cell 2 (.slice c no r) rfl; clear hb3 ht3 hl3)
  | (go_at_call 25; refine (HT2.out _ HB3.out).mono ?_; rintro e w4 ⟨⟨x', y', z', d1', d2', d3', k', n', o4, H, rfl, ht4⟩, hb4⟩; have HT4 := qa0 ht4; have hl4 := jlow w4 (.cells #[.slice x' k' d1', .slice y' n' d2', .slice z' o4 d3'] 25); have HL4 := qa0 hl4; have HM4 := qa0 (jtwo (jtwo HL3.out hb4) hl4); have HB4 := qa0 (jtwo (jtwo HB3.out hb4) hl4); have HX4 := qa0 ((HX3.out.later hb4).later hl4); have HY4 := qa0 (Vf.new w4 25 #[.slice x' k' d1', .slice y' n' d2', .slice z' o4 d3']); have k0 := HX4.out.cell 0 (.slice x k d1) rfl; have k1 := HX4.out.cell 1 (.slice y n d2) rfl; have k2 := HX4.out.cell 2 (.slice z o3 d3) rfl; have l0 := HY4.out.cell 0 (.slice x' k' d1') rfl; have l1 := HY4.out.cell 1 (.slice y' n' d2') rfl; have l2 := HY4.out.cell 2 (.slice z' o4 d3') rfl; clear hb4 ht4 hl4)
  | (go_at_call 12; obtain ⟨q1, q2, rfl, rfl, rfl, rfl, rfl, rfl, q3⟩ := HTT.out _ _ _ _ _ _ _ _ _ _ _ _ _ _ _ _ HT3.out HT4.out; refine (HSm.out _ _ _ _ _ _ _ _ _ _ _ _ _ G H (q1.later HM4.out) (q2.later HL4.out) q3).mono ?_; rintro e w5 ⟨rfl, hb5⟩; have HB5 := qa0 (jtwo HB4.out hb5); clear hb5 q1 q2 q3))
 go_ret
 exact ⟨rfl, HB5.out⟩
end Go.Proofs.Ytkffkhlaljeimaa
