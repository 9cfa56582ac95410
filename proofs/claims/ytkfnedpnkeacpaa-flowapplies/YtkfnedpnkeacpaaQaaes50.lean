/-
  Stage 21: the law of Applies.
-/
import Derived.Test.YtkfnedpnkeacpaaQaaes00
import Derived.Test.YtkfnedpnkeacpaaQaaes48
import Derived.Test.YtkfnedpnkeacpaaQaaes49
set_option maxRecDepth 100000
set_option maxHeartbeats 16000000
namespace Go.Proofs.Ytkfnedpnkeacpaa
open Go.RowKit
theorem Rl.congr2 {w : World} {b : Option Addr} {m : Nat} {A : Nat → Option Addr} {L C : Nat → Nat} {f f' : Nat → Nat → Nat} (h : Rl w b m A L C f) (e : ∀ i j, i < m → j < L i → f i j = f' i j) : Rl w b m A L C f' :=
 ⟨h.at', fun i hi => (h.sl i hi).congr fun j hj => e i j hi hj, h.nil⟩
theorem qf3 (w : World) (a b c : Option Addr) (p q r : Nat) (n : Int) (F : Fl) (h : FlR w a b c F) :
  Calls Try.prog 11 #[flv a F.ni p b F.nn q c F.no r, .int .i64 n] w fun e w' => (∃ R C s Z d E, e = .returned (.tuple #[mv R C s Z d, .int .i64 E])) ∧ Below w.heap.size w w' := by
 by_cases hM : MtP21 F n
 ·obtain ⟨h1, h2, h3, h4⟩ := hM
  obtain ⟨k, rfl⟩ := Int.eq_ofNat_of_zero_le h3
  refine (qf1 w a b c p q r k _ F h h1 (en_all h1 h2) (by omega) rfl).mono ?_
  rintro e w' ⟨⟨g, rfl, _, _⟩, hb⟩
  exact ⟨⟨_, _, _, _, _, _, rfl⟩, hb⟩
 ·refine (qdj w a b c p q r n F h hM).mono ?_
  rintro e w' ⟨rfl, hb⟩
  exact ⟨⟨_, _, _, _, _, _, rfl⟩, hb⟩
theorem qf4 (w : World) (a b c bl : Option Addr) (p q r nb kb : Nat) (F : Fl) (A : Nat → Option Addr) (L C : Nat → Nat) (bt : Nat → Nat → Nat) (h : FlR w a b c F) (hB : Bw w bl nb A L C bt) (hnb : nb ≤ 140737488351232) (hR : ¬ (MayP F ∧ RunP F nb L)) :
  Calls Try.prog 15 #[flv a F.ni p b F.nn q c F.no r, .slice bl nb kb] w fun e w' => (∃ E : Int, e = .returned (.tuple #[.slice none 0 0, .int .i64 E]) ∧ E ≠ 0) ∧ Below w.heap.size w w' := by
 by_cases hM : MayP F
 ·refine (run21_sh w a b c bl p q r nb kb F A L C bt h hB hnb hM (fun hr => hR ⟨hM, hr⟩)).mono ?_
  rintro e w' ⟨rfl, hb⟩
  exact ⟨⟨3, rfl, by decide⟩, hb⟩
 ·refine (qeu w a b c bl p q r nb kb F h hM).mono ?_
  rintro e w' ⟨rfl, hb⟩
  exact ⟨⟨2, rfl, by decide⟩, hb⟩
/-- What Apply of a flow's matrix reads as. -/
theorem qf5 (w : World) (nb kb Z k : Nat) (a bl : Option Addr) (F : Fl) (A : Nat → Option Addr) (L C : Nat → Nat) (bt : Nat → Nat → Nat) (hM : MayP F) (hf : ∀ v j, F.ni ≤ v → v < F.ni + F.nn → j < tn F v → F.fc (v - F.ni) j < 256) (hR : RunP F nb L) (ha : Mt w a Z k (mtf F nb)) (hZ : F.no * nb = Z) (hn : nb ≤ 64) (hB : Bw w bl nb A L C bt) :
  Calls Try.prog 20 #[mv F.no nb a Z k, .slice bl nb kb] w fun e w' => (∃ s d A' C', e = .returned (.slice s F.no d) ∧ Rl w' s F.no A' (fun _ => len1 nb L) C' (fun o => vlx F bt (F.out o).toNat)) ∧ Below w.heap.size w w' := by
 have hT : len1 nb L ≤ 140737488351232 := by
  unfold len1
  split
  ·omega
  ·exact hB.len 0 (by omega)
 have hlt : ∀ u j, u < F.ni + F.nn → vlx F unb u j < 256 := fun u j hu => qcg hM hf (fun _ _ => qck _ _) hu
 have hval : ∀ o i, o < F.no → i < len1 nb L → sx bt (fun j => mtf F nb (o * nb + j)) nb i = vlx F bt (F.out o).toNat i := fun o i ho hi => by
  have hv : (F.out o).toNat < F.ni + F.nn := hM.outLt ho
  rw [vlx_lin hM hf hR.1 (fun z hz => (hB.rl.sl z hz).1 i (by rw [hR.2.one z hz]; exact hi)) _ _ (Nat.lt_succ_self _) hv]
  exact qf2 bt i nb fun j hj => qf0 F hj
 refine (rapp_ok w F.no nb Z k kb (len1 nb L) a bl (mtf F nb) A C bt ha ⟨hM.o64, hn, hZ⟩ (hB.bl hR.2) hT (fun e => by unfold len1; rw [if_pos e])).mono ?_
 rintro e w' ⟨⟨v, rfl, hv⟩, hb⟩
 obtain ⟨s, d, rfl, _⟩ := hv.form
 obtain ⟨A', C', hr⟩ := hv.bw (fun o j ho hj => qdy nb fun l hl => by rw [qf0 F hl]; exact hlt _ _ (hM.outLt ho))
 exact ⟨⟨s, d, A', C', rfl, hr.congr2 fun o i ho hi => hval o i ho hi⟩, hb⟩
theorem qf6 (w : World) (a b c bl : Option Addr) (p q r nb kb : Nat) (F : Fl) (A : Nat → Option Addr) (L C : Nat → Nat) (bt : Nat → Nat → Nat) (h : FlR w a b c F) (hB : Bw w bl nb A L C bt) (hnb : nb ≤ 140737488351232) (hR : ¬ (MayP F ∧ RunP F nb L)) :
  Calls Try.prog 5 #[flv a F.ni p b F.nn q c F.no r, .slice bl nb kb] w fun e w' => e = .returned (.bool true) ∧ Below w.heap.size w w' := by
 have HB0 := qa0 (jlow w (.cells #[.slice a F.ni p, .slice b F.nn q, .slice c F.no r] 28))
 have HV0 := qa0 (Vf.new w 28 #[.slice a F.ni p, .slice b F.nn q, .slice c F.no r])
 have HRu := qa0 (fun w2 (hb : Below w.heap.size w w2) => qf4 w2 a b c bl p q r nb kb F A L C bt (h.later hb) (hB.later hb) hnb hR)
 have HMt := qa0 (fun w2 (hb : Below w.heap.size w w2) => qf3 w2 a b c p q r (nb : Int) F (h.later hb))
 obtain ⟨ni, HNi⟩ : ∃ x, Hid (F.ni = x) := ⟨_, rfl⟩
 obtain ⟨nn, HNn⟩ : ∃ x, Hid (F.nn = x) := ⟨_, rfl⟩
 obtain ⟨no, HNo⟩ : ∃ x, Hid (F.no = x) := ⟨_, rfl⟩
 rw [HNi.out, HNn.out, HNo.out] at HB0 HV0 HRu HMt ⊢
 have x0 := HV0.out.cell 0 (.slice a ni p) rfl
 have x1 := HV0.out.cell 1 (.slice b nn q) rfl
 have x2 := HV0.out.cell 2 (.slice c no r) rfl
 clear h hB hR
 go_enter Try.func5, Try.ntmps5
 go_wp2_with (first
  | (go_at_call 15; refine (HRu.out _ HB0.out).mono ?_; rintro e w1 ⟨⟨E, rfl, hE⟩, hb1⟩; have e1 : (E != 0) = true := (by simpa using hE); have e2 : ¬ E = 0 := hE; have HB1 := qa0 (jtwo HB0.out hb1); have HV1 := qa0 (HV0.out.later hb1); have x0 := HV1.out.cell 0 (.slice a ni p) rfl; have x1 := HV1.out.cell 1 (.slice b nn q) rfl; have x2 := HV1.out.cell 2 (.slice c no r) rfl; clear hb1 hE)
  | (go_at_call 11; refine (HMt.out _ HB1.out).mono ?_; rintro e w2 ⟨⟨R, C, s, Z, d, E2, rfl⟩, hb2⟩; have hl2 := jlow w2 (.cells #[.int .i64 R, .int .i64 C, .slice s Z d] 24); have HB2 := qa0 (jtwo HB1.out (jtwo hb2 hl2)); clear hb2 hl2)
  | (go_at_call 18; refine (qex _).mono ?_; rintro e w3 ⟨rfl, hb3⟩; have HB3 := qa0 (jtwo HB2.out hb3); clear hb3))
 go_ret
 exact ⟨rfl, HB3.out⟩
theorem qcx (w : World) (a b c bl : Option Addr) (p q r nb kb : Nat) (F : Fl) (A : Nat → Option Addr) (L C : Nat → Nat) (bt : Nat → Nat → Nat) (h : FlR w a b c F) (hB : Bw w bl nb A L C bt) (hnb : nb ≤ 140737488351232) (hM : MayP F) (hR : RunP F nb L) (hn : ¬ nb ≤ 64) :
  Calls Try.prog 5 #[flv a F.ni p b F.nn q c F.no r, .slice bl nb kb] w fun e w' => e = .returned (.bool true) ∧ Below w.heap.size w w' := by
 have HB0 := qa0 (jlow w (.cells #[.slice a F.ni p, .slice b F.nn q, .slice c F.no r] 28))
 have HV0 := qa0 (Vf.new w 28 #[.slice a F.ni p, .slice b F.nn q, .slice c F.no r])
 have HRu := qa0 (fun w2 (hb : Below w.heap.size w w2) => qcl w2 a b c bl p q r nb kb F A L C bt (h.later hb) (hB.later hb) hnb hM hR)
 have HMt := qa0 (fun w2 (hb : Below w.heap.size w w2) => qdj w2 a b c p q r (nb : Int) F (h.later hb) (fun hh => hn (by have := hh.2.2.2; omega)))
 have g1 : (64 : Int) < (nb : Int) := by omega
 have g2 : decide ((64 : Int) < (nb : Int)) = true := decide_eq_true g1
 have g3 : 64 < nb := by omega
 obtain ⟨T, HT⟩ : ∃ t, Hid (len1 nb L = t) := ⟨_, rfl⟩
 rw [HT.out] at HRu
 obtain ⟨ni, HNi⟩ : ∃ x, Hid (F.ni = x) := ⟨_, rfl⟩
 obtain ⟨nn, HNn⟩ : ∃ x, Hid (F.nn = x) := ⟨_, rfl⟩
 obtain ⟨no, HNo⟩ : ∃ x, Hid (F.no = x) := ⟨_, rfl⟩
 rw [HNi.out, HNn.out, HNo.out] at HB0 HV0 HRu HMt ⊢
 have x0 := HV0.out.cell 0 (.slice a ni p) rfl
 have x1 := HV0.out.cell 1 (.slice b nn q) rfl
 have x2 := HV0.out.cell 2 (.slice c no r) rfl
 clear h hB hR hM hn
 go_enter Try.func5, Try.ntmps5
 go_wp2_with (first
  | (go_at_call 15; refine (HRu.out _ HB0.out).mono ?_; rintro e w1 ⟨⟨s1, d1, A1, C1, rfl, _⟩, hb1⟩; have HB1 := qa0 (jtwo HB0.out hb1); have HV1 := qa0 (HV0.out.later hb1); have x0 := HV1.out.cell 0 (.slice a ni p) rfl; have x1 := HV1.out.cell 1 (.slice b nn q) rfl; have x2 := HV1.out.cell 2 (.slice c no r) rfl; clear hb1)
  | (go_at_call 11; refine (HMt.out _ HB1.out).mono ?_; rintro e w2 ⟨rfl, hb2⟩; have hl2 := jlow w2 (.cells #[.int .i64 0, .int .i64 0, .slice none 0 0] 24); have HB2 := qa0 (jtwo HB1.out (jtwo hb2 hl2)); clear hb2 hl2)
  | (go_at_call 18; refine (qex _).mono ?_; rintro e w3 ⟨rfl, hb3⟩; have HB3 := qa0 (jtwo HB2.out hb3); clear hb3))
 go_ret
 exact ⟨rfl, HB3.out⟩
theorem qe3 (w : World) (a b c bl : Option Addr) (p q r nb kb : Nat) (F : Fl) (A : Nat → Option Addr) (L C : Nat → Nat) (bt : Nat → Nat → Nat) (h : FlR w a b c F) (hB : Bw w bl nb A L C bt) (hnb : nb ≤ 140737488351232) (hM : MayP F) (hR : RunP F nb L) (hn : nb ≤ 64) :
  Calls Try.prog 5 #[flv a F.ni p b F.nn q c F.no r, .slice bl nb kb] w fun e w' => e = .returned (.bool true) ∧ Below w.heap.size w w' := by
 obtain ⟨Z, HZ⟩ : ∃ Z, Hid (F.no * nb = Z) := ⟨_, rfl⟩
 have HB0 := qa0 (jlow w (.cells #[.slice a F.ni p, .slice b F.nn q, .slice c F.no r] 28))
 have HV0 := qa0 (Vf.new w 28 #[.slice a F.ni p, .slice b F.nn q, .slice c F.no r])
 have HRu := qa0 (fun w2 (hb : Below w.heap.size w w2) => qcl w2 a b c bl p q r nb kb F A L C bt (h.later hb) (hB.later hb) hnb hM hR)
 have HMt := qa0 (fun w2 (hb : Below w.heap.size w w2) => qf1 w2 a b c p q r nb Z F (h.later hb) hM hR.1 hn HZ.out)
 have hRt : Rt F.no nb Z := ⟨hM.o64, hn, HZ.out⟩
 have hno := hM.o64
 have HRg := qa0 (fun w2 s => qef w2 F.no nb s Z Z hRt.p)
 have HLt : Hid (∀ p, p < Z → mtf F nb p < 256) := fun p hp => by
  unfold mtf
  have hz : 0 < nb := Nat.pos_of_ne_zero fun e => by have := HZ.out; subst e; omega
  have : p / nb < F.no := Nat.div_lt_of_lt_mul (by rw [Nat.mul_comm]; have := HZ.out; omega)
  exact qcg hM (fun v j h1 h2 h3 => h.fc8 h1 h2 h3) (fun _ _ => qck _ _) (hM.outLt this)
 have HAp := qa0 (fun w2 (hb : Below w.heap.size w w2) (g : Nat) (hr : RowAt w2 g 5 Z (mtf F nb)) => qf5 w2 nb kb Z Z (some ⟨g, 0, none⟩) bl F A L C bt hM (fun v j h1 h2 h3 => h.fc8 h1 h2 h3) hR (hr.mt HLt.out) HZ.out hn (hB.later hb))
 obtain ⟨T, HT⟩ : ∃ t, Hid (len1 nb L = t) := ⟨_, rfl⟩
 obtain ⟨xx, HXX⟩ : ∃ t : Nat → Nat → Nat, Hid ((fun o => vlx F bt (F.out o).toNat) = t) := ⟨_, rfl⟩
 rw [HT.out, HXX.out] at HRu HAp
 obtain ⟨ni, HNi⟩ : ∃ x, Hid (F.ni = x) := ⟨_, rfl⟩
 obtain ⟨nn, HNn⟩ : ∃ x, Hid (F.nn = x) := ⟨_, rfl⟩
 obtain ⟨no, HNo⟩ : ∃ x, Hid (F.no = x) := ⟨_, rfl⟩
 rw [HNi.out, HNn.out, HNo.out] at HB0 HV0 HRu HMt ⊢
 rw [HNo.out] at HRg HAp hno
 have x0 := HV0.out.cell 0 (.slice a ni p) rfl
 have x1 := HV0.out.cell 1 (.slice b nn q) rfl
 have x2 := HV0.out.cell 2 (.slice c no r) rfl
 clear h hB hR hM hn hRt
 go_enter Try.func5, Try.ntmps5
 go_wp2_with (first
  | (go_at_call 15; refine (HRu.out _ HB0.out).mono ?_; rintro e w1 ⟨⟨s1, d1, A1, C1, rfl, hr1⟩, hb1⟩; have HP1 := qa0 hr1; have HB1 := qa0 (jtwo HB0.out hb1); have HV1 := qa0 (HV0.out.later hb1); have x0 := HV1.out.cell 0 (.slice a ni p) rfl; have x1 := HV1.out.cell 1 (.slice b nn q) rfl; have x2 := HV1.out.cell 2 (.slice c no r) rfl; clear hb1 hr1)
  | (go_at_call 11; refine (HMt.out _ HB1.out).mono ?_; rintro e w2 ⟨⟨g2, rfl, hr2, _⟩, hb2⟩; have hl2 := jlow w2 (.cells #[.int .i64 (no : Int), .int .i64 (nb : Int), .slice (some ⟨g2, 0, none⟩) Z Z] 24); have HB2 := qa0 (jtwo HB1.out (jtwo hb2 hl2)); have HP2 := qa0 (HP1.out.later (jtwo hb2 hl2)); have HM2 := qa0 (hr2.later hl2); have HV2 := qa0 (HV1.out.later (jtwo hb2 hl2)); have HX2 := qa0 (Vf.new w2 24 #[.int .i64 (no : Int), .int .i64 (nb : Int), .slice (some ⟨g2, 0, none⟩) Z Z]); have y0 := HX2.out.cell 0 (.int .i64 (no : Int)) rfl; have y1 := HX2.out.cell 1 (.int .i64 (nb : Int)) rfl; have y2 := HX2.out.cell 2 (.slice (some ⟨g2, 0, none⟩) Z Z) rfl; have x2 := HV2.out.cell 2 (.slice c no r) rfl; clear hb2 hl2 hr2)
  | (go_at_call 19; refine (HRg.out _ _).mono ?_; rintro e w3 ⟨rfl, hb3⟩; have HB3 := qa0 (jtwo HB2.out hb3); have HP3 := qa0 (HP2.out.later hb3); have HM3 := qa0 (HM2.out.later hb3); have HV3 := qa0 (HV2.out.later hb3); have HX3 := qa0 (HX2.out.later hb3); have z0 := HX3.out.cell 0 (.int .i64 (no : Int)) rfl; have z1 := HX3.out.cell 1 (.int .i64 (nb : Int)) rfl; have z2 := HX3.out.cell 2 (.slice (some ⟨g2, 0, none⟩) Z Z) rfl; have x2 := HV3.out.cell 2 (.slice c no r) rfl; clear hb3)
  | (go_at_call 18; refine (qex _).mono ?_; rintro e w4 ⟨rfl, hb4⟩; have HB4 := qa0 (jtwo HB3.out hb4); have HP4 := qa0 (HP3.out.later hb4); have HM4 := qa0 (HM3.out.later hb4); have HX4 := qa0 (HX3.out.later hb4); have u0 := HX4.out.cell 0 (.int .i64 (no : Int)) rfl; have u1 := HX4.out.cell 1 (.int .i64 (nb : Int)) rfl; have u2 := HX4.out.cell 2 (.slice (some ⟨g2, 0, none⟩) Z Z) rfl; clear hb4)
  | (go_at_call 20; refine (HAp.out _ HB4.out g2 HM4.out).mono ?_; rintro e w5 ⟨⟨s5, d5, A5, C5, rfl, hr5⟩, hb5⟩; have HQ5 := qa0 hr5; have HB5 := qa0 (jtwo HB4.out hb5); have HP5 := qa0 (HP4.out.later hb5); clear hb5 hr5)
  | (go_at_call 17; refine (qew w5 s1 s5 no d1 d5 A1 A5 (fun _ => T) C1 C5 xx HP5.out HQ5.out (by omega)).mono ?_; rintro e w6 ⟨rfl, hb6⟩; have HB6 := qa0 (jtwo HB5.out hb6); clear hb6))
 go_ret
 exact ⟨rfl, HB6.out⟩
theorem fapp21 (w : World) (a b c bl : Option Addr) (p q r nb kb : Nat) (F : Fl) (A : Nat → Option Addr) (L C : Nat → Nat) (bt : Nat → Nat → Nat) (h : FlR w a b c F) (hB : Bw w bl nb A L C bt) (hnb : nb ≤ 140737488351232) :
  Calls Try.prog 5 #[flv a F.ni p b F.nn q c F.no r, .slice bl nb kb] w fun e w' => e = .returned (.bool true) ∧ Below w.heap.size w w' := by
 by_cases hR : MayP F ∧ RunP F nb L
 ·by_cases hn : nb ≤ 64
  ·exact qe3 w a b c bl p q r nb kb F A L C bt h hB hnb hR.1 hR.2 hn
  ·exact qcx w a b c bl p q r nb kb F A L C bt h hB hnb hR.1 hR.2 hn
 ·exact qf6 w a b c bl p q r nb kb F A L C bt h hB hnb hR
end Go.Proofs.Ytkfnedpnkeacpaa
