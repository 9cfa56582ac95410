/-
  Stage 22: Best.
-/
import Derived.Test.YthdgpmanijifoaaQbbst00
import Derived.Test.YthdgpmanijifoaaQbbst45
set_option maxRecDepth 100000
set_option maxHeartbeats 16000000
namespace Go.Proofs.Ythdgpmanijifoaa
open Go.RowKit Go.Maps
theorem k1_ex {F : Fl} {n i : Nat} {x : Ky} : ∀ {j}, 0 < k1 F n i x j → ∃ k, i < k ∧ k < i + 1 + j ∧ pky F n i k = x
 | 0, h => by simp [k1] at h
 | j + 1, h => by
  rw [k1] at h
  by_cases e : pky F n i (i + 1 + j) = x
  ·exact ⟨i + 1 + j, by omega, by omega, e⟩
  ·rw [if_neg e] at h
   obtain ⟨k, h1, h2, h3⟩ := k1_ex h
   exact ⟨k, h1, by omega, h3⟩
theorem k2_ex {F : Fl} {n : Nat} {x : Ky} : ∀ {i}, i ≤ F.nt n → 0 < k2 F n x i → ∃ i k, i < k ∧ k < F.nt n ∧ pky F n i k = x
 | 0, _, h => by simp [k2] at h
 | i + 1, hi, h => by
  rw [k2] at h
  by_cases e : 0 < k2 F n x i
  ·exact k2_ex (by omega) e
  ·obtain ⟨k, h1, h2, h3⟩ := k1_ex (n := n) (i := i) (j := F.nt n - (i + 1)) (x := x) (F := F) (by omega)
   exact ⟨i, k, h1, by omega, h3⟩
theorem k3_ex {F : Fl} {x : Ky} : ∀ {n}, 0 < k3 F x n → ∃ m i k, m < n ∧ i < k ∧ k < F.nt m ∧ pky F m i k = x
 | 0, h => by simp [k3] at h
 | n + 1, h => by
  rw [k3] at h
  by_cases e : 0 < k3 F x n
  ·obtain ⟨m, i, k, h1, h2⟩ := k3_ex e
   exact ⟨m, i, k, by omega, h2⟩
  ·obtain ⟨i, k, h1, h2, h3⟩ := k2_ex (Nat.le_refl _) (show 0 < k2 F n x (F.nt n) by omega)
   exact ⟨n, i, k, by omega, h1, h2, h3⟩
theorem k3_kok {F : Fl} {x : Ky} (hm : MayP F) (ha : Aok F) (hi : F.ni ≤ 140737488351232) (h : 0 < k3 F x F.nn) : KOk x := by
 obtain ⟨m, i, k, h1, h2, h3, rfl⟩ := k3_ex h
 have a1 := (hm.nodes m h1 i (by omega)).2
 have a2 := (hm.nodes m h1 k h3).2
 have a3 := hm.n4
 exact ⟨by show _ ≤ F.of m i ∧ F.of m i ≤ _; omega, by show _ ≤ F.of m k ∧ F.of m k ≤ _; omega, qba _ _ ((ha m h1).2 k h3).2⟩
theorem qd0 (a b c d : Int) : (#[.int .i64 a, .int .i64 b, .int .u8 c, .int .i64 d] : Array Value).all (·.oneCell') = true := by simp [Value.oneCell']
theorem sizeLp : (Try.prog.info? 27).map (·.size) = some 4 := by kernel_rfl
abbrev prc (x : Ky) (n : Int) : Array Value := #[.int .i64 x.1, .int .i64 x.2.1, .int .u8 (x.2.2 : Nat), .int .i64 n]
abbrev prz : Array Value := #[.int .i64 0, .int .i64 0, .int .u8 0, .int .i64 0]
/-- What Best answers. -/
abbrev plb (p : Pr) (e : Int) : Value := .tuple #[prv p.1 (p.2 : Nat), .bool (decide (0 < p.2)), .int .i64 e]
/-- The program's variables: the flow, the best pair so far. -/
structure Bla (w wr : World) (fl : Array Value) (p : Pr) : Prop where
 vf : Vf wr w.heap.size 25 fl
 vr : Vf wr (w.heap.size + 1) 27 (prc p.1 (p.2 : Nat))
 hb : Below w.heap.size w wr
theorem Bla.later {w wr w2 : World} {fl : Array Value} {p : Pr} (h : Bla w wr fl p) (hb : Below wr.heap.size wr w2) : Bla w w2 fl p :=
 ⟨h.vf.later hb, h.vr.later hb, jtwo h.hb hb⟩
theorem Bla.off {w wr w2 : World} {fl : Array Value} {p : Pr} {g : Nat} (h : Bla w wr fl p) (hg : wr.grownBy w2 (some g)) (h1 : w.heap.size + 1 < g) : Bla w w2 fl p :=
 ⟨h.vf.kept hg (by simp; omega), h.vr.kept hg (by simp; omega), qa3 h.hb hg (by omega)⟩
theorem Bla.put {w wr w2 : World} {fl : Array Value} {p p' : Pr} (h : Bla w wr fl p) (hv : Vf w2 (w.heap.size + 1) 27 (prc p'.1 (p'.2 : Nat))) (hg : wr.grownBy w2 (some (w.heap.size + 1))) : Bla w w2 fl p' :=
 ⟨h.vf.kept hg (by simp), hv, qa3 h.hb hg (by omega)⟩
theorem BestP.no' {c : Ky → Nat} {S S' : Ky → Prop} {p : Pr} {y : Ky} (h : BestP c S p) (hs : ∀ x, S' x ↔ S x ∨ x = y) (ht : ¬ (2 ≤ c y ∧ better (y, c y) p)) : BestP c S' p := by
 by_cases h2 : 2 ≤ c y
 ·exact h.leave hs h2 (fun hb => ht ⟨h2, hb⟩)
 ·exact h.less hs (by omega)
/-- Which pairs a range over the map has met. -/
def Met (c : Ky → Nat) (left : Lit → Bool) (x : Ky) : Prop := KOk x ∧ 0 < c x ∧ left (klp x) = false
theorem Met.step {c : Ky → Nat} {left : Lit → Bool} {y : Ky} (hy : KOk y) (h0 : 0 < c y) (x : Ky) : Met c (fun z => left z && !z.sameKey (klp y)) x ↔ Met c left x ∨ x = y := by
 unfold Met
 constructor
 ·rintro ⟨h1, h2, h3⟩
  cases hl : left (klp x)
  ·exact .inl ⟨h1, h2, rfl⟩
  ·right
   simp only [hl, Bool.true_and, Bool.not_eq_false'] at h3
   exact qbg h1 hy (WideAt.sameKey_eq h3)
 ·rintro (⟨h1, h2, h3⟩ | rfl)
  ·exact ⟨h1, h2, by simp [h3]⟩
  ·exact ⟨hy, h0, by simp [WideAt.sameKey_self (qcu hy)]⟩
theorem fbst_bad (w : World) (a b c : Option Addr) (p q r : Nat) (F : Fl) (h : FlR w a b c F) (hm : ¬ MayP F) :
  Calls Try.prog 9 #[flv a F.ni p b F.nn q c F.no r] w fun e w' => e = .returned (plb ((0, 0, 0), 0) 2) ∧ Below w.heap.size w w' := by
 have HMay := qa0 (fun (w2 : World) (hb : Below w.heap.size w w2) => qad (qbn w2 a b c p q r F (h.later hb)) hm)
 obtain ⟨ni, inp, nn, nt, of, fc, no, out⟩ := F
 dsimp only at HMay ⊢
 have HB0 := qa0 (jtwo (jlow w (.cells #[.slice a ni p, .slice b nn q, .slice c no r] 25)) (jlow _ (.cells prz 27)))
 have HV0 := qa0 (Vf.new (w.alloc (.cells #[.slice a ni p, .slice b nn q, .slice c no r] 25)) 27 prz)
 rw [show (w.alloc (.cells #[.slice a ni p, .slice b nn q, .slice c no r] 25)).heap.size = w.heap.size + 1 by simp] at HV0
 clear h hm
 go_enter Try.func9, Try.ntmps9
 go_wp2_with (first
  | (go_at_call 21; refine (HMay.out _ HB0.out).mono ?_; rintro e w1 ⟨rfl, hb1⟩; have HB1 := qa0 (jtwo HB0.out hb1); have HV1 := qa0 (HV0.out.later hb1); clear hb1)
  | (refine qa1 rfl 27 _ _ rfl (w.heap.size + 1) _ prz rfl rfl HV1.out sizeLp rfl (qd0 _ _ _ _) ?_; intro w9 HV9 HG9))
 have d0 := HV9.out.cell 0 _ rfl
 have d1 := HV9.out.cell 1 _ rfl
 have d2 := HV9.out.cell 2 _ rfl
 have d3 := HV9.out.cell 3 _ rfl
 try rw [Exit.noGoto_ret]
 refine bodyPost_ret (v := plb ((0, 0, 0), 0) 2) (by simp [results, Try.results9, go_sem, d0, d1, d2, d3]) rfl ?_
 exact ⟨rfl, qa3 HB1.out HG9.out (by omega)⟩
theorem qap {w : World} {ops : Array Oper} {rest : List Oper} {o : Oper} {a : Act} {Q : Exit → Act → World → Prop} (hg : o.guard = none) (it : Operand) (hop : o.op = Op.next it false) (b r nn : Nat) (D : DataW Unit) (c : Ky → Nat) (left : Lit → Bool) (cnt : Nat)
  (hit : a.eval it = .pointer (some ⟨r, 0, none⟩)) (h : w.ranges Try.prog 27 (plainElem Try.prog 3) b r nn D left cnt) (hD : CM D c) (hsub : ∀ kl, left kl = true → Maps.has D kl = true)
  (hDone : (∀ kl, left kl = false) → wpList Try.prog ops Q rest (a.put o.dst (.tuple #[.bool false])) w)
  (hMore : ∀ (u v : Int) (rr : Nat) (w' : World) (cnt' : Nat), Hid (KOk (u, v, rr)) → Hid (0 < c (u, v, rr)) → Hid (left (klp (u, v, rr)) = true) → Hid (w'.ranges Try.prog 27 (plainElem Try.prog 3) b r nn D (fun z => left z && !z.sameKey (klp (u, v, rr))) cnt') → Hid (cnt' < cnt) → Hid (w.grownBy w' (some r)) →
   (Instr.entry (.pointer (some ⟨r, 0, none⟩))).run Try.prog w' = .ok (.tuple #[.agg #[.int .i64 u, .int .i64 v, .int .u8 (rr : Int), .int .i64 0], .int .i64 (c (u, v, rr) : Nat)]) w' → wpList Try.prog ops Q rest (a.put o.dst (.tuple #[.bool true, .agg #[.int .i64 u, .int .i64 v, .int .u8 (rr : Int), .int .i64 0], .int .i64 (c (u, v, rr) : Nat)])) w') :
  wpList Try.prog ops Q (o :: rest) a w :=
 qaq hg it hop b r nn D c left cnt hit h hD hsub hDone fun x w' cnt' h1 h2 h3 h4 h5 h6 _ h8 => hMore x.1 x.2.1 x.2.2 w' cnt' h1 h2 h3 h4 h5 h6 h8
theorem qat {w w' : World} (h : Below w.heap.size w w') : w.grownBy w' none := ⟨h.os, h.tape, h.output, h.size, fun i hi _ => h.block i hi⟩
theorem qcf {w w' : World} (h : w.grownBy w' none) : Below w.heap.size w w' := (Below.refl _ _).grown h (Nat.le_refl _) (fun k hk => by cases hk)
theorem qd1 (w : World) (a b c : Option Addr) (p q r : Nat) (F : Fl) (h : FlR w a b c F) (hm : MayP F) (hcp : Ncp w b F.nn F.nt) :
  Calls Try.prog 9 #[flv a F.ni p b F.nn q c F.no r] w fun e w' => e = .returned (plb (bstF F) 0) ∧ Below w.heap.size w w' := by
 have HMay := qa0 (fun (w2 : World) (hb : Below w.heap.size w w2) => qa6 (qbn w2 a b c p q r F (h.later hb)) hm)
 have HTc := qa0 (fun (w2 : World) (hb : Below w.heap.size w w2) => ftc_any w2 a b c p q r F (h.later hb) hm)
 have HCp := qa0 (fun (hf : tsm F.nt F.nn ≤ 512) (w2 : World) (hb : Below w.heap.size w w2) => fcp_any w2 a b c p q r F (h.later hb) hm (hcp.later hb) hf)
 have ha : Aok F := fun n hn => (hm.nodes n hn).nok fun a ha => ((h.nodes n hn).2.choose_spec.choose_spec.choose_spec.choose_spec.2.2 a ha).1
 have HKok := qa0 (fun (x : Ky) (h0 : 0 < k3 F x F.nn) => k3_kok hm ha h.hi h0)
 have HFew : Hid (Few F ↔ tsm F.nt F.nn ≤ 512 ∧ F.nn < 4096) := Iff.rfl
 have hn4 := hm.n4
 have hts : tsm F.nt F.nn ≤ 4096 * 140737488351232 := Nat.le_trans (qbs F.nt 140737488351232 F.nn (fun k hk => (h.nodes k hk).1)) (Nat.mul_le_mul_right _ hn4)
 obtain ⟨AN, HAN⟩ : ∃ x, Hid (plb (bstF F) 0 = x) := ⟨_, rfl⟩
 have HBst : Hid (∀ p9, BestP (fun x => k3 F x F.nn) (fun x => 0 < k3 F x F.nn) p9 → Few F → plb p9 0 = AN) := fun p9 h1 h2 => by rw [← HAN.out, qct h1]; unfold bstF; rw [if_pos h2]
 have HBno : Hid (¬ Few F → plb ((0, 0, 0), 0) 0 = AN) := fun h2 => by rw [← HAN.out]; unfold bstF; rw [if_neg h2]
 rw [HAN.out]
 obtain ⟨C, HC⟩ : ∃ C, Hid ((fun x => k3 F x F.nn) = C) := ⟨_, rfl⟩
 have HCx : Hid (∀ x, k3 F x F.nn = C x) := fun x => by rw [← HC.out]
 obtain ⟨ni, inp, nn, nt, of, fc, no, out⟩ := F
 dsimp only at HMay HTc HCp HKok HFew hn4 hts HBst HBno HC HCx ⊢
 obtain ⟨s, HS⟩ : ∃ s, Hid (tsm nt nn = s) := ⟨_, rfl⟩
 rw [HS.out] at HTc HCp HFew hts
 rw [HC.out] at HCp HBst
 have HB0 := qa0 (jtwo (jlow w (.cells #[.slice a ni p, .slice b nn q, .slice c no r] 25)) (jlow _ (.cells prz 27)))
 have HV0 := qa0 (Vf.new (w.alloc (.cells #[.slice a ni p, .slice b nn q, .slice c no r] 25)) 27 prz)
 have HF0 := qa0 ((Vf.new w 25 #[.slice a ni p, .slice b nn q, .slice c no r]).later (jlow _ (.cells prz 27)))
 rw [show (w.alloc (.cells #[.slice a ni p, .slice b nn q, .slice c no r] 25)).heap.size = w.heap.size + 1 by simp] at HV0
 clear h hm hcp ha HAN
 have hx (w3 : World) (hb : Below w.heap.size w w3) (hv : Vf w3 (w.heap.size + 1) 27 prz) (hf : Vf w3 w.heap.size 25 #[.slice a ni p, .slice b nn q, .slice c no r]) : Bla w w3 #[.slice a ni p, .slice b nn q, .slice c no r] ((0, 0, 0), 0) := ⟨hf, hv, hb⟩
 have HX := qa0 hx
 clear hx
 by_cases h5 : s ≤ 512
 ·have g1 : ¬ (512 : Int) < (s : Int) := by omega
  have g1d : decide ((512 : Int) < (s : Int)) = false := by simp; omega
  have g1n : decide (512 < s) = false := by simp; omega
  by_cases h4 : nn < 4096
  ·have g2 : ((nn : Int) == 4096) = false := by simp; omega
   have HFw := qa0 (HFew.out.2 ⟨h5, h4⟩)
   have HCp2 := qa0 (HCp.out h5)
   clear h5 h4 hts HCp HBno HFew
   go_enter Try.func9, Try.ntmps9
   go_wp2_with (first
    | (go_at_call 21; refine (HMay.out _ HB0.out).mono ?_; rintro e w1 ⟨rfl, hb1⟩; have HB1 := qa0 (jtwo HB0.out hb1); have HV1 := qa0 (HV0.out.later hb1); have HF1 := qa0 (HF0.out.later hb1); have x0 := HF1.out.cell 0 (.slice a ni p) rfl; have x1 := HF1.out.cell 1 (.slice b nn q) rfl; have x2 := HF1.out.cell 2 (.slice c no r) rfl; clear hb1)
    | (go_at_call 22; refine (HTc.out _ HB1.out).mono ?_; rintro e w2 ⟨rfl, hb2⟩; have HB2 := qa0 (jtwo HB1.out hb2); have HV2 := qa0 (HV1.out.later hb2); have HF2 := qa0 (HF1.out.later hb2); have y0 := HF2.out.cell 0 (.slice a ni p) rfl; have y1 := HF2.out.cell 1 (.slice b nn q) rfl; have y2 := HF2.out.cell 2 (.slice c no r) rfl; clear hb2)
    | (go_at_call 23; refine (HCp2.out _ HB2.out).mono ?_; rintro e w3 ⟨B, D, NN, rfl, hB, hom, hcm, hb3⟩; have HBl3 := qa0 (HX.out w3 (jtwo HB2.out hb3) (HV2.out.later hb3) (HF2.out.later hb3)); have HCM := qa0 hcm; have HOM := qa0 hom; have HBG := qa0 (show w.heap.size + 1 < B by have := HV2.out.lt; omega); clear hb3 hcm hom hB)
    | (at_range; refine wpList_range_own _ rfl _ 54 rfl 27 3 keyedPr undMap _ B NN D rfl HOM.out ?_; intro w0 hrg0 hg0 hs0))
   go_frame
   obtain ⟨rI, HRI⟩ : ∃ g, Hid (w3.heap.size = g) := ⟨_, rfl⟩
   rw [HRI.out] at hrg0
   rw [HRI.out]
   have HIG := qa0 (show w.heap.size + 1 < rI by rw [← HRI.out]; exact HBl3.out.vr.lt)
   have HBl0 := qa0 (HBl3.out.later (qcf hg0))
   have HRG0 := qa0 hrg0
   clear hg0 hs0 hrg0 HBl3 HOM HB0 HV0 HF0 HB1 HV1 HF1 HB2 HV2 HF2 HMay HTc HCp2 x0 x1 x2 y0 y1 y2 HX
   go_loopw [6] (fun _ wr => ∃ left cnt p9, wr.ranges Try.prog 27 (plainElem Try.prog 3) B rI NN D left cnt ∧ (∀ kl, left kl = true → Maps.has D kl = true) ∧ BestP C (Met C left) p9 ∧ Bla w wr #[.slice a ni p, .slice b nn q, .slice c no r] p9) (fun _ wr => wr.rangeLeft B rI)
   case atStart => exact ⟨_, _, _, HRG0.out, fun kl h => h, BestP.start (fun x h => by have := HCM.out.hasIt x h.1 h.2.1; rw [h.2.2] at this; cases this), HBl0.out⟩
   case round =>
    clear HRG0 HBl0
    obtain ⟨left, cnt, p9, hrg, hsub, hbp, hbl⟩ := hrel
    have HRG := qa0 hrg
    have HSub := qa0 hsub
    have HBP := qa0 hbp
    have HBL := qa0 hbl
    clear hrg hsub hbp hbl
    go_wp2_with (at_next; refine qap rfl _ rfl B rI NN D C left cnt rfl HRG.out HCM.out HSub.out ?_ ?_)
    ·intro hl0
     have HFin := qa0 (HBst.out p9 (HBP.out.congr (fun x => ⟨fun h => by rw [HCx.out]; exact h.2.1, fun h => ⟨HKok.out x h, by rw [← HCx.out]; exact h, hl0 _⟩⟩) (fun _ _ => rfl)) HFw.out)
     have HVR := qa0 HBL.out.vr
     obtain ⟨⟨⟨q1, q2, q3⟩, q4⟩, HP9⟩ : ∃ z, Hid (p9 = z) := ⟨_, rfl⟩
     rw [HP9.out] at HVR HFin
     dsimp only at HVR
     have b0 := HVR.out.cell 0 _ rfl
     have b1 := HVR.out.cell 1 _ rfl
     have b2 := HVR.out.cell 2 _ rfl
     have b3 := HVR.out.cell 3 _ rfl
     clear hl0
     go_wp2_with (refine qa1 rfl 27 _ _ rfl (w.heap.size + 1) _ #[.int .i64 q1, .int .i64 q2, .int .u8 (q3 : Int), .int .i64 (q4 : Int)] rfl rfl HVR.out sizeLp rfl (qd0 _ _ _ _) ?_; intro w9 HV9 HG9)
     have d0 := HV9.out.cell 0 _ rfl
     have d1 := HV9.out.cell 1 _ rfl
     have d2 := HV9.out.cell 2 _ rfl
     have d3 := HV9.out.cell 3 _ rfl
     try rw [Exit.noGoto_ret]
     refine bodyPost_ret (v := plb ((q1, q2, q3), q4) 0) (by simp [results, Try.results9, go_sem, d0, d1, d2, d3]) rfl ?_
     exact ⟨by rw [HFin.out], qa3 HBL.out.hb HG9.out (by omega)⟩
    ·intro u v rr w5 cnt1 hok h0 hlx hrg1 hlt hg1 hen
     obtain ⟨cc, HCC⟩ : ∃ z, Hid (C (u, v, rr) = z) := ⟨_, rfl⟩
     rw [HCC.out] at hen h0
     rw [HCC.out]
     have HBL5 := qa0 (HBL.out.off hg1.out HIG.out)
     have HM := qa0 (fun x => Met.step (c := C) (left := left) hok.out (by rw [HCC.out]; exact h0.out) x)
     have HSub2 : Hid (∀ kl, (left kl && !kl.sameKey (klp (u, v, rr))) = true → Maps.has D kl = true) := fun kl h => HSub.out kl (by simp only [Bool.and_eq_true] at h; exact h.1)
     have HBL6 := qa0 (HBL5.out.later (jlow w5 (.cells #[.int .i64 u, .int .i64 v, .int .u8 (rr : Int), .int .i64 (cc : Int)] 27)))
     have HRG6 := qa0 (hrg1.out.alloc (.cells #[.int .i64 u, .int .i64 v, .int .u8 (rr : Int), .int .i64 (cc : Int)] 27))
     have HV6 := qa0 (Vf.new w5 27 #[.int .i64 u, .int .i64 v, .int .u8 (rr : Int), .int .i64 (cc : Int)])
     have HVR := qa0 HBL6.out.vr
     obtain ⟨⟨⟨q1, q2, q3⟩, q4⟩, HP9⟩ : ∃ z, Hid (p9 = z) := ⟨_, rfl⟩
     rw [HP9.out] at HVR
     dsimp only at HVR
     have b0 := HVR.out.cell 0 _ rfl
     have b1 := HVR.out.cell 1 _ rfl
     have b2 := HVR.out.cell 2 _ rfl
     have b3 := HVR.out.cell 3 _ rfl
     have HIb := qa0 (fun (w6 : World) => fib_any w6 (u, v, rr) (q1, q2, q3) cc q4)
     have HBt : Hid (better ((u, v, rr), cc) ((q1, q2, q3), q4) ↔ better ((u, v, rr), cc) p9) := by rw [HP9.out]; exact Iff.rfl
     clear hg1 HBL
     by_cases hc1 : 1 < cc
     ·have a3 : (1 : Int) < (cc : Int) := by omega
      have a3d : decide ((1 : Int) < (cc : Int)) = true := by simp; omega
      have a3n : decide (1 < cc) = true := by simp; omega
      have HC1 := qa0 hc1
      clear hc1
      by_cases hbt : better ((u, v, rr), cc) ((q1, q2, q3), q4)
      ·have HI2 := qa0 (fun w6 => qa6 (HIb.out w6) hbt)
       have HBt2 := qa0 (HBt.out.1 hbt)
       clear hbt HIb HBt
       go_wp2_with (first
        | (go_at_call 24; refine (HI2.out _).mono ?_; rintro e w6 ⟨rfl, hb6⟩; have HBL7 := qa0 (HBL6.out.later hb6); have HRG7 := qa0 (HRG6.out.kept (qat hb6) (by simp) (by simp)); have HV7 := qa0 (HV6.out.later hb6); have u0 := HV7.out.cell 0 _ rfl; have u1 := HV7.out.cell 1 _ rfl; have u2 := HV7.out.cell 2 _ rfl; have u3 := HV7.out.cell 3 _ rfl; clear hb6)
        | (refine qa1 rfl 27 _ _ rfl (w.heap.size + 1) _ #[.int .i64 u, .int .i64 v, .int .u8 (rr : Int), .int .i64 (cc : Int)] rfl rfl HBL7.out.vr sizeLp rfl (qd0 _ _ _ _) ?_; intro w9 HV9 HG9; go_frame))
       have HRG9 := qa0 (HRG7.out.kept HG9.out (by have := HBG.out; simp; omega) (by have := HIG.out; simp; omega))
       have HNB := qa0 (HBP.out.take (y := (u, v, rr)) HM.out (by rw [HCC.out]; exact HC1.out) (by rw [HCC.out]; exact HBt2.out))
       rw [HCC.out] at HNB
       exact ⟨⟨_, cnt1, ((u, v, rr), cc), HRG9.out, HSub2.out, HNB.out, HBL7.out.put HV9.out HG9.out⟩, by rw [HRG9.out.left_eq, HRG.out.left_eq]; exact hlt.out⟩
      ·have HI2 := qa0 (fun w6 => qad (HIb.out w6) hbt)
       have HBt2 := qa0 (fun h => hbt (HBt.out.2 h))
       clear hbt HIb HBt
       go_wp2_with (go_at_call 24; refine (HI2.out _).mono ?_; rintro e w6 ⟨rfl, hb6⟩; have HBL7 := qa0 (HBL6.out.later hb6); have HRG7 := qa0 (HRG6.out.kept (qat hb6) (by simp) (by simp)); clear hb6)
       have HNB := qa0 (HBP.out.no' (y := (u, v, rr)) HM.out (by rw [HCC.out]; exact fun h => HBt2.out h.2))
       exact ⟨⟨_, cnt1, p9, HRG7.out, HSub2.out, HNB.out, HBL7.out⟩, by rw [HRG7.out.left_eq, HRG.out.left_eq]; exact hlt.out⟩
     ·have a3 : ¬ (1 : Int) < (cc : Int) := by omega
      have a3d : decide ((1 : Int) < (cc : Int)) = false := by simp; omega
      have a3n : decide (1 < cc) = false := by simp; omega
      have HC1 := qa0 hc1
      clear hc1
      have HNB := qa0 (HBP.out.no' (y := (u, v, rr)) HM.out (by rw [HCC.out]; exact fun h => HC1.out (by omega)))
      go_wp2
      exact ⟨⟨_, cnt1, p9, HRG6.out, HSub2.out, HNB.out, HBL6.out⟩, by rw [HRG6.out.left_eq, HRG.out.left_eq]; exact hlt.out⟩
  ·have g2 : ((nn : Int) == 4096) = true := by simp; omega
   have HN0 := qa0 (HBno.out (fun h => by have := HFew.out.1 h; omega))
   clear h5 h4 hts HCp HBno HFew HBst
   go_enter Try.func9, Try.ntmps9
   go_wp2_with (first
    | (go_at_call 21; refine (HMay.out _ HB0.out).mono ?_; rintro e w1 ⟨rfl, hb1⟩; have HB1 := qa0 (jtwo HB0.out hb1); have HV1 := qa0 (HV0.out.later hb1); have HF1 := qa0 (HF0.out.later hb1); have x0 := HF1.out.cell 0 (.slice a ni p) rfl; have x1 := HF1.out.cell 1 (.slice b nn q) rfl; have x2 := HF1.out.cell 2 (.slice c no r) rfl; clear hb1)
    | (go_at_call 22; refine (HTc.out _ HB1.out).mono ?_; rintro e w2 ⟨rfl, hb2⟩; have HB2 := qa0 (jtwo HB1.out hb2); have HV2 := qa0 (HV1.out.later hb2); have HF2 := qa0 (HF1.out.later hb2); have y1 := HF2.out.cell 1 (.slice b nn q) rfl; clear hb2)
    | (refine qa1 rfl 27 _ _ rfl (w.heap.size + 1) _ prz rfl rfl HV2.out sizeLp rfl (qd0 _ _ _ _) ?_; intro w9 HV9 HG9))
   have d0 := HV9.out.cell 0 _ rfl
   have d1 := HV9.out.cell 1 _ rfl
   have d2 := HV9.out.cell 2 _ rfl
   have d3 := HV9.out.cell 3 _ rfl
   try rw [Exit.noGoto_ret]
   refine bodyPost_ret (v := plb ((0, 0, 0), 0) 0) (by simp [results, Try.results9, go_sem, d0, d1, d2, d3]) rfl ?_
   exact ⟨by rw [HN0.out], qa3 HB2.out HG9.out (by omega)⟩
 ·have g1 : (512 : Int) < (s : Int) := by omega
  have g1d : decide ((512 : Int) < (s : Int)) = true := by simp; omega
  have g1n : decide (512 < s) = true := by simp; omega
  have HN0 := qa0 (HBno.out (fun h => by have := HFew.out.1 h; omega))
  clear h5 hts HCp HBno HFew HBst
  go_enter Try.func9, Try.ntmps9
  go_wp2_with (first
   | (go_at_call 21; refine (HMay.out _ HB0.out).mono ?_; rintro e w1 ⟨rfl, hb1⟩; have HB1 := qa0 (jtwo HB0.out hb1); have HV1 := qa0 (HV0.out.later hb1); have HF1 := qa0 (HF0.out.later hb1); have x0 := HF1.out.cell 0 (.slice a ni p) rfl; have x1 := HF1.out.cell 1 (.slice b nn q) rfl; have x2 := HF1.out.cell 2 (.slice c no r) rfl; clear hb1)
   | (go_at_call 22; refine (HTc.out _ HB1.out).mono ?_; rintro e w2 ⟨rfl, hb2⟩; have HB2 := qa0 (jtwo HB1.out hb2); have HV2 := qa0 (HV1.out.later hb2); have HF2 := qa0 (HF1.out.later hb2); clear hb2)
   | (refine qa1 rfl 27 _ _ rfl (w.heap.size + 1) _ prz rfl rfl HV2.out sizeLp rfl (qd0 _ _ _ _) ?_; intro w9 HV9 HG9))
  have d0 := HV9.out.cell 0 _ rfl
  have d1 := HV9.out.cell 1 _ rfl
  have d2 := HV9.out.cell 2 _ rfl
  have d3 := HV9.out.cell 3 _ rfl
  try rw [Exit.noGoto_ret]
  refine bodyPost_ret (v := plb ((0, 0, 0), 0) 0) (by simp [results, Try.results9, go_sem, d0, d1, d2, d3]) rfl ?_
  exact ⟨by rw [HN0.out], qa3 HB2.out HG9.out (by omega)⟩
end Go.Proofs.Ythdgpmanijifoaa
