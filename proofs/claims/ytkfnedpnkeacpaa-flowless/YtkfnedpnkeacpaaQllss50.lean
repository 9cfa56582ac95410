/-
  Stage 21: the law of Less.
-/
import Derived.Test.YtkfnedpnkeacpaaQllss00
import Derived.Test.YtkfnedpnkeacpaaQllss49
set_option maxRecDepth 100000
set_option maxHeartbeats 16000000
namespace Go.Proofs.Ytkfnedpnkeacpaa
open Go.RowKit
theorem qcv (w : World) (a b c bl : Option Addr) (p q r nb kb : Nat) (F : Fl) (A : Nat → Option Addr) (L C : Nat → Nat) (bt : Nat → Nat → Nat) (h : FlR w a b c F) (hB : Bw w bl nb A L C bt) (hnb : nb ≤ 140737488351232) (hM : MayP F) (hR : RunP F nb L) :
  Calls Try.prog 15 #[flv a F.ni p b F.nn q c F.no r, .slice bl nb kb] w fun e w' => BkT w' F.no (len1 nb L) (fun o => vlx F bt (F.out o).toNat) 0 e ∧ Below w.heap.size w w' :=
 (qax w a b c bl p q r nb kb F A L C bt h hM hB hnb).mono fun e w' hh => by
  obtain ⟨⟨_, g, B, rfl, _, ho⟩ | ⟨hn, _⟩, hb'⟩ := hh
  ·exact ⟨⟨_, _, _, _, rfl, ho.rl fun o i ho' hi => run_lt h hM hB hR (by have := hM.outs o ho'; omega) hi⟩, hb'⟩
  ·exact absurd hR hn
theorem run21_tr (w : World) (a b c bl : Option Addr) (p q r nb kb : Nat) (F G : Fl) (A : Nat → Option Addr) (L C : Nat → Nat) (bt : Nat → Nat → Nat) (h : FlR w a b c G) (hB : Bw w bl nb A L C bt) (hnb : nb ≤ 140737488351232) (hM : MayP F) (hg : IsTr F G) (hR : RunP F nb L) :
  Calls Try.prog 15 #[flv a G.ni p b G.nn q c G.no r, .slice bl nb kb] w fun e w' => BkT w' F.no (len1 nb L) (fun o => vlx F bt (F.out o).toNat) 0 e ∧ Below w.heap.size w w' :=
 (qcv w a b c bl p q r nb kb G A L C bt h hB hnb (hg.may hM) (hg.run hM hR)).mono fun e w' hh => by
  obtain ⟨⟨s, d, A', C', rfl, hr⟩, hb⟩ := hh
  refine ⟨⟨s, d, A', C', by rw [hg.no], ?_⟩, hb⟩
  rw [← hg.no]
  exact hr.congr fun o ho => hg.out hM bt (by rw [hg.no] at ho; exact ho)
theorem run21_sh (w : World) (a b c bl : Option Addr) (p q r nb kb : Nat) (F : Fl) (A : Nat → Option Addr) (L C : Nat → Nat) (bt : Nat → Nat → Nat) (h : FlR w a b c F) (hB : Bw w bl nb A L C bt) (hnb : nb ≤ 140737488351232) (hM : MayP F) (hR : ¬ RunP F nb L) :
  Calls Try.prog 15 #[flv a F.ni p b F.nn q c F.no r, .slice bl nb kb] w fun e w' => e = .returned (.tuple #[.slice none 0 0, .int .i64 3]) ∧ Below w.heap.size w w' :=
 (qax w a b c bl p q r nb kb F A L C bt h hM hB hnb).mono fun e w' hh => by
  obtain ⟨⟨h1, _⟩ | ⟨_, rfl⟩, hb'⟩ := hh
  ·exact absurd h1 hR
  ·exact ⟨rfl, hb'⟩
theorem qeb (w : World) (a b c bl : Option Addr) (p q r nb kb : Nat) (F : Fl) (A : Nat → Option Addr) (L C : Nat → Nat) (bt : Nat → Nat → Nat) (h : FlR w a b c F) (hB : Bw w bl nb A L C bt) (hnb : nb ≤ 140737488351232) :
  Calls Try.prog 15 #[flv a F.ni p b F.nn q c F.no r, .slice bl nb kb] w fun e w' => (∃ v E, e = .returned (.tuple #[v, .int .i64 E])) ∧ Below w.heap.size w w' := by
 obtain ⟨K, T, x, E, _, hall⟩ := qe8 w a b c bl p q r nb kb F A L C bt h hB hnb
 refine (hall w (Below.refl _ _)).1.mono ?_
 rintro e w' ⟨⟨s, d, A', C', rfl, _⟩, hb⟩
 exact ⟨⟨_, _, rfl⟩, hb⟩
theorem qda (w : World) (a b c bl : Option Addr) (p q r nb kb : Nat) (F : Fl) (A : Nat → Option Addr) (L C : Nat → Nat) (bt : Nat → Nat → Nat) (h : FlR w a b c F) (hB : Bw w bl nb A L C bt) (hnb : nb ≤ 140737488351232) (hM : MayP F) (hR : RunP F nb L) :
  Calls Try.prog 7 #[flv a F.ni p b F.nn q c F.no r, .slice bl nb kb] w fun e w' => e = .returned (.bool true) ∧ Below w.heap.size w w' := by
 have HB0 := qa0 (jlow w (.cells #[.slice a F.ni p, .slice b F.nn q, .slice c F.no r] 28))
 have HV0 := qa0 (Vf.new w 28 #[.slice a F.ni p, .slice b F.nn q, .slice c F.no r])
 have HNoG : Hid (∀ G, IsTr F G → G.no = F.no) := fun G hg => hg.no
 have HT1 := qa0 (fun w2 (hb : Below w.heap.size w w2) => qcf w2 a b c p q r F (h.later hb) hM)
 have HT2 := qa0 (fun w2 x y z d1 d2 d3 G (hf : FlR w2 x y z G) (hg : IsTr F G) => qcf w2 x y z d1 d2 d3 G hf (hg.may hM))
 have HMy := qa0 (fun w2 (hb : Below w.heap.size w w2) => qa4 (qai w2 a b c p q r F (h.later hb)) hM)
 have HMg := qa0 (fun w2 x y z d1 d2 d3 G (hf : FlR w2 x y z G) (hg : IsTr F G) => qa4 (qai w2 x y z d1 d2 d3 G hf) (hg.may hM))
 have HCf := qa0 (fun w2 (hb : Below w.heap.size w w2) => qbh w2 a b c p q r F (h.later hb) hM)
 have HCg := qa0 (fun w2 x y z d1 d2 d3 G (hf : FlR w2 x y z G) (hg : IsTr F G) => qbh w2 x y z d1 d2 d3 G hf (hg.may hM))
 have HSm := qa0 (fun (w2 : World) (x y z x' y' z' : Option Addr) (d1 d2 d3 d1' d2' d3' : Nat) (G H : Fl) (h1 : FlR w2 x y z G) (h2 : FlR w2 x' y' z' H) (e : EqF G H) => qa4 (qb9 w2 x y z x' y' z' d1 d2 d3 d1' d2' d3' G H h1 h2) e)
 have HTw := qa0 (fun G H (h1 : IsTr F G) (h2 : IsTr G H) => h1.twice hM h2)
 have hno : F.no ≤ 140737488351232 := by have := hM.o64; omega
 have HRf := qa0 (fun w2 (hb : Below w.heap.size w w2) => qcv w2 a b c bl p q r nb kb F A L C bt (h.later hb) (hB.later hb) hnb hM hR)
 have HRg := qa0 (fun w2 (hb : Below w.heap.size w w2) x y z d1 d2 d3 G (hf : FlR w2 x y z G) (hg : IsTr F G) => run21_tr w2 x y z bl d1 d2 d3 nb kb F G A L C bt hf (hB.later hb) hnb hM hg hR)
 obtain ⟨T, HT⟩ : ∃ t, Hid (len1 nb L = t) := ⟨_, rfl⟩
 obtain ⟨xx, HXX⟩ : ∃ t : Nat → Nat → Nat, Hid ((fun o => vlx F bt (F.out o).toNat) = t) := ⟨_, rfl⟩
 rw [HT.out, HXX.out] at HRf HRg
 obtain ⟨ni, HNi⟩ : ∃ x, Hid (F.ni = x) := ⟨_, rfl⟩
 obtain ⟨nn, HNn⟩ : ∃ x, Hid (F.nn = x) := ⟨_, rfl⟩
 obtain ⟨no, HNo⟩ : ∃ x, Hid (F.no = x) := ⟨_, rfl⟩
 rw [HNi.out, HNn.out, HNo.out] at HB0 HV0 HT1 HMy HRf ⊢
 have HCf2 : Hid (∀ w2, Below w.heap.size w w2 → Calls Try.prog 23 #[flv a ni p b nn q c no r] w2 fun e w' => e = .returned (.tuple #[.int .i64 (csm F.nt F.nn : Nat), .int .i64 (cpr F.nt F.fc F.nn : Nat), .int .i64 0]) ∧ Below w2.heap.size w2 w') := fun w2 hb => by
  have := HCf.out w2 hb
  rw [HNi.out, HNo.out] at this
  rw [← HNn.out]
  exact this
 clear HCf
 have HCf := HCf2
 clear HCf2
 rw [HNo.out] at HNoG hno
 rw [HNo.out] at HRg
 have f0_0 := HV0.out.cell 0 (.slice a ni p) rfl
 have f1_0 := HV0.out.cell 1 (.slice b nn q) rfl
 have f2_0 := HV0.out.cell 2 (.slice c no r) rfl
 clear h hM hB
 go_enter Try.func7, Try.ntmps7
 go_wp2_with (first
  | (go_at_call 22; have _x := HB2; refine (HT2.out _ x y z d1 d2 d3 G HG2.out HTr.out).mono ?_; rintro e w3 ⟨⟨x', d1', y', d2', z', d3', H, rfl, hf, ht⟩, hb3⟩; have hl3 := jlow w3 (.cells #[.slice x' H.ni d1', .slice y' H.nn d2', .slice z' H.no d3'] 28); have HB3 := qa0 (jtwo HB2.out (jtwo hb3 hl3)); have HV3 := qa0 (HV2.out.later (jtwo hb3 hl3)); have HX3 := qa0 (HX2.out.later (jtwo hb3 hl3)); have HG3 := qa0 (HG2.out.later (jtwo hb3 hl3)); have f0_3 := HV3.out.cell 0 (.slice a ni p) rfl; have f1_3 := HV3.out.cell 1 (.slice b nn q) rfl; have f2_3 := HV3.out.cell 2 (.slice c no r) rfl; have t0_3 := HX3.out.cell 0 (.slice x G.ni d1) rfl; have t1_3 := HX3.out.cell 1 (.slice y G.nn d2) rfl; have t2_3 := HX3.out.cell 2 (.slice z G.no d3) rfl; have HY3 := qa0 (Vf.new w3 28 #[.slice x' H.ni d1', .slice y' H.nn d2', .slice z' H.no d3']); have HH3 := qa0 (hf.later hl3); have HTs := qa0 ht; have s0_3 := HY3.out.cell 0 (.slice x' H.ni d1') rfl; have s1_3 := HY3.out.cell 1 (.slice y' H.nn d2') rfl; have s2_3 := HY3.out.cell 2 (.slice z' H.no d3') rfl; clear hf ht hl3; clear f0_2 f1_2 f2_2 t0_2 t1_2 t2_2 hb3)
  | (go_at_call 23; have _x := HB4; refine (HCg.out _ x y z d1 d2 d3 G HG4.out HTr.out).mono ?_; rintro e w5 ⟨rfl, hb5⟩; have HB5 := qa0 (jtwo HB4.out hb5); have HV5 := qa0 (HV4.out.later hb5); have HX5 := qa0 (HX4.out.later hb5); have HG5 := qa0 (HG4.out.later hb5); have HY5 := qa0 (HY4.out.later hb5); have HH5 := qa0 (HH4.out.later hb5); have f0_5 := HV5.out.cell 0 (.slice a ni p) rfl; have f1_5 := HV5.out.cell 1 (.slice b nn q) rfl; have f2_5 := HV5.out.cell 2 (.slice c no r) rfl; have t0_5 := HX5.out.cell 0 (.slice x G.ni d1) rfl; have t1_5 := HX5.out.cell 1 (.slice y G.nn d2) rfl; have t2_5 := HX5.out.cell 2 (.slice z G.no d3) rfl; have s0_5 := HY5.out.cell 0 (.slice x' H.ni d1') rfl; have s1_5 := HY5.out.cell 1 (.slice y' H.nn d2') rfl; have s2_5 := HY5.out.cell 2 (.slice z' H.no d3') rfl; have HCs := qa0 (IsTr.cost HTr.out); have gs : ¬ ((csm F.nt F.nn : Nat) : Int) < ((csm G.nt G.nn : Nat) : Int) := (by have := HCs.out.1; omega); have gp : ¬ ((cpr F.nt F.fc F.nn : Nat) : Int) < ((cpr G.nt G.fc G.nn : Nat) : Int) := (by have := HCs.out.2; omega); clear f0_4 f1_4 f2_4 t0_4 t1_4 t2_4 s0_4 s1_4 s2_4 hb5)
  | (go_at_call 21; have _x := HB5; refine (HMg.out _ x y z d1 d2 d3 G HG5.out HTr.out).mono ?_; rintro e w6 ⟨rfl, hb6⟩; have HB6 := qa0 (jtwo HB5.out hb6); have HV6 := qa0 (HV5.out.later hb6); have HX6 := qa0 (HX5.out.later hb6); have HG6 := qa0 (HG5.out.later hb6); have HY6 := qa0 (HY5.out.later hb6); have HH6 := qa0 (HH5.out.later hb6); have f0_6 := HV6.out.cell 0 (.slice a ni p) rfl; have f1_6 := HV6.out.cell 1 (.slice b nn q) rfl; have f2_6 := HV6.out.cell 2 (.slice c no r) rfl; have t0_6 := HX6.out.cell 0 (.slice x G.ni d1) rfl; have t1_6 := HX6.out.cell 1 (.slice y G.nn d2) rfl; have t2_6 := HX6.out.cell 2 (.slice z G.no d3) rfl; have s0_6 := HY6.out.cell 0 (.slice x' H.ni d1') rfl; have s1_6 := HY6.out.cell 1 (.slice y' H.nn d2') rfl; have s2_6 := HY6.out.cell 2 (.slice z' H.no d3') rfl;  clear f0_5 f1_5 f2_5 t0_5 t1_5 t2_5 s0_5 s1_5 s2_5 hb6)
  | (go_at_call 15; have _x := HB8; refine (HRg.out _ HB8.out x y z d1 d2 d3 G HG8.out HTr.out).mono ?_; rintro e w9 ⟨hr, hb9⟩; have HB9 := qa0 (jtwo HB8.out hb9); have HV9 := qa0 (HV8.out.later hb9); have HX9 := qa0 (HX8.out.later hb9); have HG9 := qa0 (HG8.out.later hb9); have HY9 := qa0 (HY8.out.later hb9); have HH9 := qa0 (HH8.out.later hb9); have f0_9 := HV9.out.cell 0 (.slice a ni p) rfl; have f1_9 := HV9.out.cell 1 (.slice b nn q) rfl; have f2_9 := HV9.out.cell 2 (.slice c no r) rfl; have t0_9 := HX9.out.cell 0 (.slice x G.ni d1) rfl; have t1_9 := HX9.out.cell 1 (.slice y G.nn d2) rfl; have t2_9 := HX9.out.cell 2 (.slice z G.no d3) rfl; have s0_9 := HY9.out.cell 0 (.slice x' H.ni d1') rfl; have s1_9 := HY9.out.cell 1 (.slice y' H.nn d2') rfl; have s2_9 := HY9.out.cell 2 (.slice z' H.no d3') rfl; obtain ⟨s2, e2, A2, C2, rfl, hr2⟩ := hr; have HP9 := qa0 hr2; have HO9 := qa0 (HP8.out.later hb9); clear hr2; clear f0_8 f1_8 f2_8 t0_8 t1_8 t2_8 s0_8 s1_8 s2_8 hb9)
  | (go_at_call 22; refine (HT1.out _ HB0.out).mono ?_; rintro e w1 ⟨⟨x, d1, y, d2, z, d3, G, rfl, hf, ht⟩, hb1⟩; have hl1 := jlow w1 (.cells #[.slice x G.ni d1, .slice y G.nn d2, .slice z G.no d3] 28); have HB1 := qa0 (jtwo HB0.out (jtwo hb1 hl1)); have HV1 := qa0 (HV0.out.later (jtwo hb1 hl1)); have f0_1 := HV1.out.cell 0 (.slice a ni p) rfl; have f1_1 := HV1.out.cell 1 (.slice b nn q) rfl; have f2_1 := HV1.out.cell 2 (.slice c no r) rfl; have HX1 := qa0 (Vf.new w1 28 #[.slice x G.ni d1, .slice y G.nn d2, .slice z G.no d3]); have HG1 := qa0 (hf.later hl1); have HTr := qa0 ht; have gno : ((G.no : Int) != (no : Int)) = false := (by rw [HNoG.out _ ht]; simp); have t0_1 := HX1.out.cell 0 (.slice x G.ni d1) rfl; have t1_1 := HX1.out.cell 1 (.slice y G.nn d2) rfl; have t2_1 := HX1.out.cell 2 (.slice z G.no d3) rfl; clear hf ht hl1; clear f0_0 f1_0 f2_0 hb1)
  | (go_at_call 21; refine (HMy.out _ HB1.out).mono ?_; rintro e w2 ⟨rfl, hb2⟩; have HB2 := qa0 (jtwo HB1.out hb2); have HV2 := qa0 (HV1.out.later hb2); have HX2 := qa0 (HX1.out.later hb2); have HG2 := qa0 (HG1.out.later hb2); have f0_2 := HV2.out.cell 0 (.slice a ni p) rfl; have f1_2 := HV2.out.cell 1 (.slice b nn q) rfl; have f2_2 := HV2.out.cell 2 (.slice c no r) rfl; have t0_2 := HX2.out.cell 0 (.slice x G.ni d1) rfl; have t1_2 := HX2.out.cell 1 (.slice y G.nn d2) rfl; have t2_2 := HX2.out.cell 2 (.slice z G.no d3) rfl;  clear f0_1 f1_1 f2_1 t0_1 t1_1 t2_1 hb2)
  | (go_at_call 23; refine (HCf.out _ HB3.out).mono ?_; rintro e w4 ⟨rfl, hb4⟩; have HB4 := qa0 (jtwo HB3.out hb4); have HV4 := qa0 (HV3.out.later hb4); have HX4 := qa0 (HX3.out.later hb4); have HG4 := qa0 (HG3.out.later hb4); have HY4 := qa0 (HY3.out.later hb4); have HH4 := qa0 (HH3.out.later hb4); have f0_4 := HV4.out.cell 0 (.slice a ni p) rfl; have f1_4 := HV4.out.cell 1 (.slice b nn q) rfl; have f2_4 := HV4.out.cell 2 (.slice c no r) rfl; have t0_4 := HX4.out.cell 0 (.slice x G.ni d1) rfl; have t1_4 := HX4.out.cell 1 (.slice y G.nn d2) rfl; have t2_4 := HX4.out.cell 2 (.slice z G.no d3) rfl; have s0_4 := HY4.out.cell 0 (.slice x' H.ni d1') rfl; have s1_4 := HY4.out.cell 1 (.slice y' H.nn d2') rfl; have s2_4 := HY4.out.cell 2 (.slice z' H.no d3') rfl;  clear f0_3 f1_3 f2_3 t0_3 t1_3 t2_3 s0_3 s1_3 s2_3 hb4)
  | (go_at_call 13; refine (HSm.out _ x' y' z' x y z d1' d2' d3' d1 d2 d3 H G HH6.out HG6.out (HTw.out G H HTr.out HTs.out)).mono ?_; rintro e w7 ⟨rfl, hb7⟩; have HB7 := qa0 (jtwo HB6.out hb7); have HV7 := qa0 (HV6.out.later hb7); have HX7 := qa0 (HX6.out.later hb7); have HG7 := qa0 (HG6.out.later hb7); have HY7 := qa0 (HY6.out.later hb7); have HH7 := qa0 (HH6.out.later hb7); have f0_7 := HV7.out.cell 0 (.slice a ni p) rfl; have f1_7 := HV7.out.cell 1 (.slice b nn q) rfl; have f2_7 := HV7.out.cell 2 (.slice c no r) rfl; have t0_7 := HX7.out.cell 0 (.slice x G.ni d1) rfl; have t1_7 := HX7.out.cell 1 (.slice y G.nn d2) rfl; have t2_7 := HX7.out.cell 2 (.slice z G.no d3) rfl; have s0_7 := HY7.out.cell 0 (.slice x' H.ni d1') rfl; have s1_7 := HY7.out.cell 1 (.slice y' H.nn d2') rfl; have s2_7 := HY7.out.cell 2 (.slice z' H.no d3') rfl;  clear f0_6 f1_6 f2_6 t0_6 t1_6 t2_6 s0_6 s1_6 s2_6 hb7)
  | (go_at_call 15; refine (HRf.out _ HB7.out).mono ?_; rintro e w8 ⟨⟨s1, e1, A1, C1, rfl, hr1⟩, hb8⟩; have HB8 := qa0 (jtwo HB7.out hb8); have HV8 := qa0 (HV7.out.later hb8); have HX8 := qa0 (HX7.out.later hb8); have HG8 := qa0 (HG7.out.later hb8); have HY8 := qa0 (HY7.out.later hb8); have HH8 := qa0 (HH7.out.later hb8); have f0_8 := HV8.out.cell 0 (.slice a ni p) rfl; have f1_8 := HV8.out.cell 1 (.slice b nn q) rfl; have f2_8 := HV8.out.cell 2 (.slice c no r) rfl; have t0_8 := HX8.out.cell 0 (.slice x G.ni d1) rfl; have t1_8 := HX8.out.cell 1 (.slice y G.nn d2) rfl; have t2_8 := HX8.out.cell 2 (.slice z G.no d3) rfl; have s0_8 := HY8.out.cell 0 (.slice x' H.ni d1') rfl; have s1_8 := HY8.out.cell 1 (.slice y' H.nn d2') rfl; have s2_8 := HY8.out.cell 2 (.slice z' H.no d3') rfl; have HP8 := qa0 hr1; clear hr1; clear f0_7 f1_7 f2_7 t0_7 t1_7 t2_7 s0_7 s1_7 s2_7 hb8)
  | (go_at_call 18; refine (qfd w9).mono ?_; rintro e w10 ⟨rfl, hb10⟩; have HB10 := qa0 (jtwo HB9.out hb10); have HV10 := qa0 (HV9.out.later hb10); have HX10 := qa0 (HX9.out.later hb10); have HG10 := qa0 (HG9.out.later hb10); have HY10 := qa0 (HY9.out.later hb10); have HH10 := qa0 (HH9.out.later hb10); have f0_10 := HV10.out.cell 0 (.slice a ni p) rfl; have f1_10 := HV10.out.cell 1 (.slice b nn q) rfl; have f2_10 := HV10.out.cell 2 (.slice c no r) rfl; have t0_10 := HX10.out.cell 0 (.slice x G.ni d1) rfl; have t1_10 := HX10.out.cell 1 (.slice y G.nn d2) rfl; have t2_10 := HX10.out.cell 2 (.slice z G.no d3) rfl; have s0_10 := HY10.out.cell 0 (.slice x' H.ni d1') rfl; have s1_10 := HY10.out.cell 1 (.slice y' H.nn d2') rfl; have s2_10 := HY10.out.cell 2 (.slice z' H.no d3') rfl; have HP10 := qa0 (HP9.out.later hb10); have HO10 := qa0 (HO9.out.later hb10); clear f0_9 f1_9 f2_9 t0_9 t1_9 t2_9 s0_9 s1_9 s2_9 hb10)
  | (go_at_call 17; refine (qfc w10 s1 s2 no e1 e2 A1 A2 (fun _ => T) C1 C2 xx HO10.out HP10.out hno).mono ?_; rintro e w11 ⟨rfl, hb11⟩; have HB11 := qa0 (jtwo HB10.out hb11); clear hb11))
 go_ret
 exact ⟨rfl, HB11.out⟩
theorem qec (w : World) (a b c bl : Option Addr) (p q r nb kb : Nat) (F : Fl) (A : Nat → Option Addr) (L C : Nat → Nat) (bt : Nat → Nat → Nat) (h : FlR w a b c F) (hB : Bw w bl nb A L C bt) (hnb : nb ≤ 140737488351232) (hM : MayP F) (hR : ¬ RunP F nb L) :
  Calls Try.prog 7 #[flv a F.ni p b F.nn q c F.no r, .slice bl nb kb] w fun e w' => e = .returned (.bool true) ∧ Below w.heap.size w w' := by
 have HB0 := qa0 (jlow w (.cells #[.slice a F.ni p, .slice b F.nn q, .slice c F.no r] 28))
 have HV0 := qa0 (Vf.new w 28 #[.slice a F.ni p, .slice b F.nn q, .slice c F.no r])
 have HNoG : Hid (∀ G, IsTr F G → G.no = F.no) := fun G hg => hg.no
 have HT1 := qa0 (fun w2 (hb : Below w.heap.size w w2) => qcf w2 a b c p q r F (h.later hb) hM)
 have HT2 := qa0 (fun w2 x y z d1 d2 d3 G (hf : FlR w2 x y z G) (hg : IsTr F G) => qcf w2 x y z d1 d2 d3 G hf (hg.may hM))
 have HMy := qa0 (fun w2 (hb : Below w.heap.size w w2) => qa4 (qai w2 a b c p q r F (h.later hb)) hM)
 have HMg := qa0 (fun w2 x y z d1 d2 d3 G (hf : FlR w2 x y z G) (hg : IsTr F G) => qa4 (qai w2 x y z d1 d2 d3 G hf) (hg.may hM))
 have HCf := qa0 (fun w2 (hb : Below w.heap.size w w2) => qbh w2 a b c p q r F (h.later hb) hM)
 have HCg := qa0 (fun w2 x y z d1 d2 d3 G (hf : FlR w2 x y z G) (hg : IsTr F G) => qbh w2 x y z d1 d2 d3 G hf (hg.may hM))
 have HSm := qa0 (fun (w2 : World) (x y z x' y' z' : Option Addr) (d1 d2 d3 d1' d2' d3' : Nat) (G H : Fl) (h1 : FlR w2 x y z G) (h2 : FlR w2 x' y' z' H) (e : EqF G H) => qa4 (qb9 w2 x y z x' y' z' d1 d2 d3 d1' d2' d3' G H h1 h2) e)
 have HTw := qa0 (fun G H (h1 : IsTr F G) (h2 : IsTr G H) => h1.twice hM h2)
 have hno : F.no ≤ 140737488351232 := by have := hM.o64; omega
 have HRf := qa0 (fun w2 (hb : Below w.heap.size w w2) => run21_sh w2 a b c bl p q r nb kb F A L C bt (h.later hb) (hB.later hb) hnb hM hR)
 have HRg := qa0 (fun w2 (hb : Below w.heap.size w w2) x y z d1 d2 d3 G (hf : FlR w2 x y z G) (_ : IsTr F G) => qeb w2 x y z bl d1 d2 d3 nb kb G A L C bt hf (hB.later hb) hnb)
 obtain ⟨ni, HNi⟩ : ∃ x, Hid (F.ni = x) := ⟨_, rfl⟩
 obtain ⟨nn, HNn⟩ : ∃ x, Hid (F.nn = x) := ⟨_, rfl⟩
 obtain ⟨no, HNo⟩ : ∃ x, Hid (F.no = x) := ⟨_, rfl⟩
 rw [HNi.out, HNn.out, HNo.out] at HB0 HV0 HT1 HMy HRf ⊢
 have HCf2 : Hid (∀ w2, Below w.heap.size w w2 → Calls Try.prog 23 #[flv a ni p b nn q c no r] w2 fun e w' => e = .returned (.tuple #[.int .i64 (csm F.nt F.nn : Nat), .int .i64 (cpr F.nt F.fc F.nn : Nat), .int .i64 0]) ∧ Below w2.heap.size w2 w') := fun w2 hb => by
  have := HCf.out w2 hb
  rw [HNi.out, HNo.out] at this
  rw [← HNn.out]
  exact this
 clear HCf
 have HCf := HCf2
 clear HCf2
 rw [HNo.out] at HNoG hno
 have f0_0 := HV0.out.cell 0 (.slice a ni p) rfl
 have f1_0 := HV0.out.cell 1 (.slice b nn q) rfl
 have f2_0 := HV0.out.cell 2 (.slice c no r) rfl
 clear h hM hB
 go_enter Try.func7, Try.ntmps7
 go_wp2_with (first
  | (go_at_call 22; have _x := HB2; refine (HT2.out _ x y z d1 d2 d3 G HG2.out HTr.out).mono ?_; rintro e w3 ⟨⟨x', d1', y', d2', z', d3', H, rfl, hf, ht⟩, hb3⟩; have hl3 := jlow w3 (.cells #[.slice x' H.ni d1', .slice y' H.nn d2', .slice z' H.no d3'] 28); have HB3 := qa0 (jtwo HB2.out (jtwo hb3 hl3)); have HV3 := qa0 (HV2.out.later (jtwo hb3 hl3)); have HX3 := qa0 (HX2.out.later (jtwo hb3 hl3)); have HG3 := qa0 (HG2.out.later (jtwo hb3 hl3)); have f0_3 := HV3.out.cell 0 (.slice a ni p) rfl; have f1_3 := HV3.out.cell 1 (.slice b nn q) rfl; have f2_3 := HV3.out.cell 2 (.slice c no r) rfl; have t0_3 := HX3.out.cell 0 (.slice x G.ni d1) rfl; have t1_3 := HX3.out.cell 1 (.slice y G.nn d2) rfl; have t2_3 := HX3.out.cell 2 (.slice z G.no d3) rfl; have HY3 := qa0 (Vf.new w3 28 #[.slice x' H.ni d1', .slice y' H.nn d2', .slice z' H.no d3']); have HH3 := qa0 (hf.later hl3); have HTs := qa0 ht; have s0_3 := HY3.out.cell 0 (.slice x' H.ni d1') rfl; have s1_3 := HY3.out.cell 1 (.slice y' H.nn d2') rfl; have s2_3 := HY3.out.cell 2 (.slice z' H.no d3') rfl; clear hf ht hl3; clear f0_2 f1_2 f2_2 t0_2 t1_2 t2_2 hb3)
  | (go_at_call 23; have _x := HB4; refine (HCg.out _ x y z d1 d2 d3 G HG4.out HTr.out).mono ?_; rintro e w5 ⟨rfl, hb5⟩; have HB5 := qa0 (jtwo HB4.out hb5); have HV5 := qa0 (HV4.out.later hb5); have HX5 := qa0 (HX4.out.later hb5); have HG5 := qa0 (HG4.out.later hb5); have HY5 := qa0 (HY4.out.later hb5); have HH5 := qa0 (HH4.out.later hb5); have f0_5 := HV5.out.cell 0 (.slice a ni p) rfl; have f1_5 := HV5.out.cell 1 (.slice b nn q) rfl; have f2_5 := HV5.out.cell 2 (.slice c no r) rfl; have t0_5 := HX5.out.cell 0 (.slice x G.ni d1) rfl; have t1_5 := HX5.out.cell 1 (.slice y G.nn d2) rfl; have t2_5 := HX5.out.cell 2 (.slice z G.no d3) rfl; have s0_5 := HY5.out.cell 0 (.slice x' H.ni d1') rfl; have s1_5 := HY5.out.cell 1 (.slice y' H.nn d2') rfl; have s2_5 := HY5.out.cell 2 (.slice z' H.no d3') rfl; have HCs := qa0 (IsTr.cost HTr.out); have gs : ¬ ((csm F.nt F.nn : Nat) : Int) < ((csm G.nt G.nn : Nat) : Int) := (by have := HCs.out.1; omega); have gp : ¬ ((cpr F.nt F.fc F.nn : Nat) : Int) < ((cpr G.nt G.fc G.nn : Nat) : Int) := (by have := HCs.out.2; omega); clear f0_4 f1_4 f2_4 t0_4 t1_4 t2_4 s0_4 s1_4 s2_4 hb5)
  | (go_at_call 21; have _x := HB5; refine (HMg.out _ x y z d1 d2 d3 G HG5.out HTr.out).mono ?_; rintro e w6 ⟨rfl, hb6⟩; have HB6 := qa0 (jtwo HB5.out hb6); have HV6 := qa0 (HV5.out.later hb6); have HX6 := qa0 (HX5.out.later hb6); have HG6 := qa0 (HG5.out.later hb6); have HY6 := qa0 (HY5.out.later hb6); have HH6 := qa0 (HH5.out.later hb6); have f0_6 := HV6.out.cell 0 (.slice a ni p) rfl; have f1_6 := HV6.out.cell 1 (.slice b nn q) rfl; have f2_6 := HV6.out.cell 2 (.slice c no r) rfl; have t0_6 := HX6.out.cell 0 (.slice x G.ni d1) rfl; have t1_6 := HX6.out.cell 1 (.slice y G.nn d2) rfl; have t2_6 := HX6.out.cell 2 (.slice z G.no d3) rfl; have s0_6 := HY6.out.cell 0 (.slice x' H.ni d1') rfl; have s1_6 := HY6.out.cell 1 (.slice y' H.nn d2') rfl; have s2_6 := HY6.out.cell 2 (.slice z' H.no d3') rfl;  clear f0_5 f1_5 f2_5 t0_5 t1_5 t2_5 s0_5 s1_5 s2_5 hb6)
  | (go_at_call 15; have _x := HB8; refine (HRg.out _ HB8.out x y z d1 d2 d3 G HG8.out HTr.out).mono ?_; rintro e w9 ⟨hr, hb9⟩; have HB9 := qa0 (jtwo HB8.out hb9); have HV9 := qa0 (HV8.out.later hb9); have HX9 := qa0 (HX8.out.later hb9); have HG9 := qa0 (HG8.out.later hb9); have HY9 := qa0 (HY8.out.later hb9); have HH9 := qa0 (HH8.out.later hb9); have f0_9 := HV9.out.cell 0 (.slice a ni p) rfl; have f1_9 := HV9.out.cell 1 (.slice b nn q) rfl; have f2_9 := HV9.out.cell 2 (.slice c no r) rfl; have t0_9 := HX9.out.cell 0 (.slice x G.ni d1) rfl; have t1_9 := HX9.out.cell 1 (.slice y G.nn d2) rfl; have t2_9 := HX9.out.cell 2 (.slice z G.no d3) rfl; have s0_9 := HY9.out.cell 0 (.slice x' H.ni d1') rfl; have s1_9 := HY9.out.cell 1 (.slice y' H.nn d2') rfl; have s2_9 := HY9.out.cell 2 (.slice z' H.no d3') rfl; obtain ⟨v2, E2, rfl⟩ := hr; clear f0_8 f1_8 f2_8 t0_8 t1_8 t2_8 s0_8 s1_8 s2_8 hb9)
  | (go_at_call 22; refine (HT1.out _ HB0.out).mono ?_; rintro e w1 ⟨⟨x, d1, y, d2, z, d3, G, rfl, hf, ht⟩, hb1⟩; have hl1 := jlow w1 (.cells #[.slice x G.ni d1, .slice y G.nn d2, .slice z G.no d3] 28); have HB1 := qa0 (jtwo HB0.out (jtwo hb1 hl1)); have HV1 := qa0 (HV0.out.later (jtwo hb1 hl1)); have f0_1 := HV1.out.cell 0 (.slice a ni p) rfl; have f1_1 := HV1.out.cell 1 (.slice b nn q) rfl; have f2_1 := HV1.out.cell 2 (.slice c no r) rfl; have HX1 := qa0 (Vf.new w1 28 #[.slice x G.ni d1, .slice y G.nn d2, .slice z G.no d3]); have HG1 := qa0 (hf.later hl1); have HTr := qa0 ht; have gno : ((G.no : Int) != (no : Int)) = false := (by rw [HNoG.out _ ht]; simp); have t0_1 := HX1.out.cell 0 (.slice x G.ni d1) rfl; have t1_1 := HX1.out.cell 1 (.slice y G.nn d2) rfl; have t2_1 := HX1.out.cell 2 (.slice z G.no d3) rfl; clear hf ht hl1; clear f0_0 f1_0 f2_0 hb1)
  | (go_at_call 21; refine (HMy.out _ HB1.out).mono ?_; rintro e w2 ⟨rfl, hb2⟩; have HB2 := qa0 (jtwo HB1.out hb2); have HV2 := qa0 (HV1.out.later hb2); have HX2 := qa0 (HX1.out.later hb2); have HG2 := qa0 (HG1.out.later hb2); have f0_2 := HV2.out.cell 0 (.slice a ni p) rfl; have f1_2 := HV2.out.cell 1 (.slice b nn q) rfl; have f2_2 := HV2.out.cell 2 (.slice c no r) rfl; have t0_2 := HX2.out.cell 0 (.slice x G.ni d1) rfl; have t1_2 := HX2.out.cell 1 (.slice y G.nn d2) rfl; have t2_2 := HX2.out.cell 2 (.slice z G.no d3) rfl;  clear f0_1 f1_1 f2_1 t0_1 t1_1 t2_1 hb2)
  | (go_at_call 23; refine (HCf.out _ HB3.out).mono ?_; rintro e w4 ⟨rfl, hb4⟩; have HB4 := qa0 (jtwo HB3.out hb4); have HV4 := qa0 (HV3.out.later hb4); have HX4 := qa0 (HX3.out.later hb4); have HG4 := qa0 (HG3.out.later hb4); have HY4 := qa0 (HY3.out.later hb4); have HH4 := qa0 (HH3.out.later hb4); have f0_4 := HV4.out.cell 0 (.slice a ni p) rfl; have f1_4 := HV4.out.cell 1 (.slice b nn q) rfl; have f2_4 := HV4.out.cell 2 (.slice c no r) rfl; have t0_4 := HX4.out.cell 0 (.slice x G.ni d1) rfl; have t1_4 := HX4.out.cell 1 (.slice y G.nn d2) rfl; have t2_4 := HX4.out.cell 2 (.slice z G.no d3) rfl; have s0_4 := HY4.out.cell 0 (.slice x' H.ni d1') rfl; have s1_4 := HY4.out.cell 1 (.slice y' H.nn d2') rfl; have s2_4 := HY4.out.cell 2 (.slice z' H.no d3') rfl;  clear f0_3 f1_3 f2_3 t0_3 t1_3 t2_3 s0_3 s1_3 s2_3 hb4)
  | (go_at_call 13; refine (HSm.out _ x' y' z' x y z d1' d2' d3' d1 d2 d3 H G HH6.out HG6.out (HTw.out G H HTr.out HTs.out)).mono ?_; rintro e w7 ⟨rfl, hb7⟩; have HB7 := qa0 (jtwo HB6.out hb7); have HV7 := qa0 (HV6.out.later hb7); have HX7 := qa0 (HX6.out.later hb7); have HG7 := qa0 (HG6.out.later hb7); have HY7 := qa0 (HY6.out.later hb7); have HH7 := qa0 (HH6.out.later hb7); have f0_7 := HV7.out.cell 0 (.slice a ni p) rfl; have f1_7 := HV7.out.cell 1 (.slice b nn q) rfl; have f2_7 := HV7.out.cell 2 (.slice c no r) rfl; have t0_7 := HX7.out.cell 0 (.slice x G.ni d1) rfl; have t1_7 := HX7.out.cell 1 (.slice y G.nn d2) rfl; have t2_7 := HX7.out.cell 2 (.slice z G.no d3) rfl; have s0_7 := HY7.out.cell 0 (.slice x' H.ni d1') rfl; have s1_7 := HY7.out.cell 1 (.slice y' H.nn d2') rfl; have s2_7 := HY7.out.cell 2 (.slice z' H.no d3') rfl;  clear f0_6 f1_6 f2_6 t0_6 t1_6 t2_6 s0_6 s1_6 s2_6 hb7)
  | (go_at_call 15; refine (HRf.out _ HB7.out).mono ?_; rintro e w8 ⟨rfl, hb8⟩; have HB8 := qa0 (jtwo HB7.out hb8); have HV8 := qa0 (HV7.out.later hb8); have HX8 := qa0 (HX7.out.later hb8); have HG8 := qa0 (HG7.out.later hb8); have HY8 := qa0 (HY7.out.later hb8); have HH8 := qa0 (HH7.out.later hb8); have f0_8 := HV8.out.cell 0 (.slice a ni p) rfl; have f1_8 := HV8.out.cell 1 (.slice b nn q) rfl; have f2_8 := HV8.out.cell 2 (.slice c no r) rfl; have t0_8 := HX8.out.cell 0 (.slice x G.ni d1) rfl; have t1_8 := HX8.out.cell 1 (.slice y G.nn d2) rfl; have t2_8 := HX8.out.cell 2 (.slice z G.no d3) rfl; have s0_8 := HY8.out.cell 0 (.slice x' H.ni d1') rfl; have s1_8 := HY8.out.cell 1 (.slice y' H.nn d2') rfl; have s2_8 := HY8.out.cell 2 (.slice z' H.no d3') rfl;  clear f0_7 f1_7 f2_7 t0_7 t1_7 t2_7 s0_7 s1_7 s2_7 hb8)
  | (go_at_call 18; refine (qfd w9).mono ?_; rintro e w10 ⟨rfl, hb10⟩; have HB10 := qa0 (jtwo HB9.out hb10); have HV10 := qa0 (HV9.out.later hb10); have HX10 := qa0 (HX9.out.later hb10); have HG10 := qa0 (HG9.out.later hb10); have HY10 := qa0 (HY9.out.later hb10); have HH10 := qa0 (HH9.out.later hb10); have f0_10 := HV10.out.cell 0 (.slice a ni p) rfl; have f1_10 := HV10.out.cell 1 (.slice b nn q) rfl; have f2_10 := HV10.out.cell 2 (.slice c no r) rfl; have t0_10 := HX10.out.cell 0 (.slice x G.ni d1) rfl; have t1_10 := HX10.out.cell 1 (.slice y G.nn d2) rfl; have t2_10 := HX10.out.cell 2 (.slice z G.no d3) rfl; have s0_10 := HY10.out.cell 0 (.slice x' H.ni d1') rfl; have s1_10 := HY10.out.cell 1 (.slice y' H.nn d2') rfl; have s2_10 := HY10.out.cell 2 (.slice z' H.no d3') rfl;  clear f0_9 f1_9 f2_9 t0_9 t1_9 t2_9 s0_9 s1_9 s2_9 hb10))
 go_ret
 exact ⟨rfl, HB10.out⟩
theorem qed (w : World) (a b c bl : Option Addr) (p q r nb kb : Nat) (F : Fl) (h : FlR w a b c F) (hM : ¬ MayP F) :
  Calls Try.prog 7 #[flv a F.ni p b F.nn q c F.no r, .slice bl nb kb] w fun e w' => e = .returned (.bool true) ∧ Below w.heap.size w w' := by
 have HB0 := qa0 (jlow w (.cells #[.slice a F.ni p, .slice b F.nn q, .slice c F.no r] 28))
 have HV0 := qa0 (Vf.new w 28 #[.slice a F.ni p, .slice b F.nn q, .slice c F.no r])
 have HT1 := qa0 (fun w2 (hb : Below w.heap.size w w2) => qfg w2 a b c p q r F (h.later hb) hM)
 have HMy := qa0 (fun w2 (hb : Below w.heap.size w w2) => qah (qai w2 a b c p q r F (h.later hb)) hM)
 obtain ⟨ni, HNi⟩ : ∃ x, Hid (F.ni = x) := ⟨_, rfl⟩
 obtain ⟨nn, HNn⟩ : ∃ x, Hid (F.nn = x) := ⟨_, rfl⟩
 obtain ⟨no, HNo⟩ : ∃ x, Hid (F.no = x) := ⟨_, rfl⟩
 rw [HNi.out, HNn.out, HNo.out] at HB0 HV0 HT1 HMy ⊢
 have f0_0 := HV0.out.cell 0 (.slice a ni p) rfl
 have f1_0 := HV0.out.cell 1 (.slice b nn q) rfl
 have f2_0 := HV0.out.cell 2 (.slice c no r) rfl
 clear h hM
 go_enter Try.func7, Try.ntmps7
 go_wp2_with (first
  | (go_at_call 22; refine (HT1.out _ HB0.out).mono ?_; rintro e w1 ⟨rfl, hb1⟩; have hl1 := jlow w1 (.cells #[.slice none 0 0, .slice none 0 0, .slice none 0 0] 28); have HB1 := qa0 (jtwo HB0.out (jtwo hb1 hl1)); have HV1 := qa0 (HV0.out.later (jtwo hb1 hl1)); have f0_1 := HV1.out.cell 0 (.slice a ni p) rfl; have f1_1 := HV1.out.cell 1 (.slice b nn q) rfl; have f2_1 := HV1.out.cell 2 (.slice c no r) rfl; clear f0_0 f1_0 f2_0 hb1)
  | (go_at_call 21; refine (HMy.out _ HB1.out).mono ?_; rintro e w2 ⟨rfl, hb2⟩; have HB2 := qa0 (jtwo HB1.out hb2); have HV2 := qa0 (HV1.out.later hb2); have f0_2 := HV2.out.cell 0 (.slice a ni p) rfl; have f1_2 := HV2.out.cell 1 (.slice b nn q) rfl; have f2_2 := HV2.out.cell 2 (.slice c no r) rfl; clear f0_1 f1_1 f2_1 hb2)
  | (go_at_call 18; refine (qfd w2).mono ?_; rintro e w3 ⟨rfl, hb3⟩; have HB3 := qa0 (jtwo HB2.out hb3); clear hb3))
 go_ret
 exact ⟨rfl, HB3.out⟩
theorem fless21 (w : World) (a b c bl : Option Addr) (p q r nb kb : Nat) (F : Fl) (A : Nat → Option Addr) (L C : Nat → Nat) (bt : Nat → Nat → Nat) (h : FlR w a b c F) (hB : Bw w bl nb A L C bt) (hnb : nb ≤ 140737488351232) :
  Calls Try.prog 7 #[flv a F.ni p b F.nn q c F.no r, .slice bl nb kb] w fun e w' => e = .returned (.bool true) ∧ Below w.heap.size w w' := by
 by_cases hM : MayP F
 ·by_cases hR : RunP F nb L
  ·exact qda w a b c bl p q r nb kb F A L C bt h hB hnb hM hR
  ·exact qec w a b c bl p q r nb kb F A L C bt h hB hnb hM hR
 ·exact qed w a b c bl p q r nb kb F h hM
end Go.Proofs.Ytkfnedpnkeacpaa
