/-
  Stage 22: countPairs.
-/
import Derived.Test.YthdgpmanijifoaaQbbst00
import Derived.Test.YthdgpmanijifoaaQbbst23
set_option maxRecDepth 100000
set_option maxHeartbeats 16000000
namespace Go.Proofs.Ythdgpmanijifoaa
open Go.RowKit Go.Maps
/-- No node is longer than its room. -/
def Ncp (w : World) (b : Option Addr) (m : Nat) (nt : Nat → Nat) : Prop := ∀ i, i < m → ∃ x o t d, b = some ⟨x, o, none⟩ ∧ w.cell? ⟨x, o + i, none⟩ = some (.slice t (nt i) d) ∧ nt i ≤ d
theorem Ncp.later {w w' : World} {b : Option Addr} {m : Nat} {nt : Nat → Nat} (h : Ncp w b m nt) (hb : Below w.heap.size w w') : Ncp w' b m nt := fun i hi => by
 obtain ⟨x, o, t, d, e, c, h1⟩ := h i hi
 exact ⟨x, o, t, d, e, by rw [hb.cell (p := ⟨x, _, none⟩) (qa2 c)]; exact c, h1⟩
theorem qce (w : World) : (w.alloc (.map #[] 0)).ownsMap Try.prog 27 (plainElem (H := Unit) Try.prog 3) w.heap.size 0 (.map []) := World.ownsMap_made w Try.prog 27 _
abbrev Om (w : World) (B N : Nat) (D : DataW Unit) : Prop := w.ownsMap Try.prog 27 (plainElem Try.prog 3) B N D
theorem k1_le (F : Fl) (n i : Nat) (x : Ky) : ∀ j, k1 F n i x j ≤ j
 | 0 => Nat.le_refl _
 | j + 1 => by
  have := k1_le F n i x j
  rw [k1]
  split <;> omega
theorem k2_le (F : Fl) (n : Nat) (x : Ky) (h : F.nt n ≤ 512) : ∀ i, k2 F n x i ≤ i * 512
 | 0 => Nat.zero_le _
 | i + 1 => by
  have h1 := k2_le F n x h i
  have h2 := k1_le F n i x (F.nt n - (i + 1))
  rw [k2]
  omega
theorem k3_le (F : Fl) (x : Ky) : ∀ n, (∀ i, i < n → F.nt i ≤ 512) → k3 F x n ≤ tsm F.nt n * 512
 | 0, _ => Nat.zero_le _
 | n + 1, h => by
  have h1 := k3_le F x n (fun i hi => h i (by omega))
  have h2 := k2_le F n x (h n (by omega)) (F.nt n)
  rw [k3, tsm]
  omega
theorem Om.later {w w' : World} {B N : Nat} {D : DataW Unit} (h : Om w B N D) (hb : Below w.heap.size w w') : Om w' B N D := by
 have hl := World.ownsMap.lt h
 obtain ⟨es, clock, h1, h2⟩ := h
 exact ⟨es, clock, by rw [hb.block B hl]; exact h1, h2⟩
theorem qby (nt : Nat → Nat) {i : Nat} : ∀ {n}, i < n → tsm nt i + nt i ≤ tsm nt n
 | n + 1, h => by
  rw [tsm]
  by_cases e : i = n
  ·subst e; omega
  ·have := qby nt (show i < n by omega); omega
theorem fcp_any (w : World) (a b c : Option Addr) (p q r : Nat) (F : Fl) (h : FlR w a b c F) (hm : MayP F) (hcp : Ncp w b F.nn F.nt) (hfew : tsm F.nt F.nn ≤ 512) :
  Calls Try.prog 23 #[flv a F.ni p b F.nn q c F.no r] w fun e w' => ∃ B D N, e = .returned (.map (some B)) ∧ w.heap.size ≤ B ∧ Om w' B N D ∧ CM D (fun x => k3 F x F.nn) ∧ Below w.heap.size w w' := by
 have HN := qa0 h.nodes
 have HC := qa0 hcp
 have hn4 := hm.n4
 have HM := qa0 hm.nodes
 have HF := qa0 hfew
 have hni := h.hi
 obtain ⟨F', HE⟩ : ∃ F', Hid (F = F') := ⟨F, rfl⟩
 obtain ⟨ni, inp, nn, nt, of, fc, no, out⟩ := F
 dsimp only at HN HC hn4 HF HM hni ⊢
 have HNT : Hid (∀ i, F'.nt i = nt i) := fun i => by rw [← HE.out]
 have HPK : Hid (∀ i l k, pky F' i l k = (of i l, of i k, fm (fc i k) (finv (fc i l)))) := fun i l k => by rw [← HE.out]; rfl
 have HLE : Hid (∀ i x, i < nn → k3 F' x i ≤ tsm nt i * 512) := fun i x hi => by
  rw [← HE.out]
  exact k3_le _ x i fun k hk => by have := qby nt (show k < nn by omega); have := HF.out; show nt k ≤ 512; omega
 have HLE2 : Hid (∀ i x l, i < nn → k2 F' i x l ≤ l * 512) := fun i x l hi => by
  rw [← HE.out]
  exact k2_le _ i x (by have := qby nt hi; have := HF.out; show nt i ≤ 512; omega) l
 have hmm := @run_makeMap Try.prog
 have HK3 : Hid (∀ D, CM D (fun x => k3 F' x nn) → CM D (fun x => k3 { ni := ni, inp := inp, nn := nn, nt := nt, of := of, fc := fc, no := no, out := out } x nn)) := fun D h => by rw [HE.out]; exact h
 clear h hm hcp hfew HE
 have HB0 := qa0 (jtwo (jlow w (.cells #[.slice a ni p, .slice b nn q, .slice c no r] 25)) (jlow _ (.map #[] 0)))
 have HM0 := qa0 (qce (w.alloc (.cells #[.slice a ni p, .slice b nn q, .slice c no r] 25)))
 have hsz : (w.alloc (.cells #[.slice a ni p, .slice b nn q, .slice c no r] 25)).heap.size = w.heap.size + 1 := by simp
 rw [hsz] at HM0
 clear hsz
 go_enter Try.func23, Try.ntmps23
 go_wp2
 obtain ⟨B, HBB⟩ : ∃ B, Hid (w.heap.size + 1 = B) := ⟨_, rfl⟩
 rw [HBB.out] at HM0
 try rw [HBB.out]
 go_loopw [16] (fun vi wr => ∃ i : Nat, i ≤ nn ∧ vi = .int .i64 (i : Int) ∧ (∃ D, Om wr B (tsm nt i * 512) D ∧ CM D (fun x => k3 F' x i)) ∧ Below w.heap.size w wr) (fun vi _ => nn - (intOf vi).toNat)
 case atStart => exact ⟨0, by omega, rfl, ⟨_, HM0.out, CM.start fun _ => rfl⟩, HB0.out⟩
 case round =>
  clear HB0 HM0
  obtain ⟨i, hie, rfl, ⟨D, ho, hcm⟩, hb⟩ := hrel
  have HO := qa0 ho
  have HCM := qa0 hcm
  have HB := qa0 hb
  clear ho hcm
  by_cases hlt : i < nn
  ·obtain ⟨x, o, t, d, rfl, hc, hcap⟩ := HC.out i hlt
   obtain ⟨hnt, x', o', t', d', e', hc', htm⟩ := HN.out i hlt
   cases e'
   obtain ⟨rfl, rfl⟩ : t = t' ∧ d = d' := by rw [hc] at hc'; simp at hc'; exact hc'
   clear hc'
   have HCl := qa0 hc
   have HT := qa0 htm
   obtain ⟨n, HK⟩ : ∃ k, Hid (nt i = k) := ⟨_, rfl⟩
   rw [HK.out] at hnt hcap
   have hT5 : tsm nt i + n ≤ 512 := by have := qby nt hlt; have := HF.out; have := HK.out; omega
   obtain ⟨T, HTT⟩ : ∃ x, Hid (tsm nt i = x) := ⟨_, rfl⟩
   rw [HTT.out] at hT5
   have HO := qa0 (show Om wr B (T * 512) D by rw [← HTT.out]; exact HO.out)
   have p0 : (0 : Int) ≤ (i : Int) := by omega
   have p1 : (i : Int) < (nn : Int) := by omega
   have y1 : wr.cell? ⟨x, o + i, none⟩ = some (.slice t n d) := by rw [hb.cell (p := ⟨x, _, none⟩) (qa2 hc), hc, HK.out]
   clear htm hb hc
   go_wp2
   go_loopw [22] (fun vl wr => ∃ l : Nat, l ≤ n ∧ vl = .int .i64 (l : Int) ∧ (∃ D, Om wr B ((T + l) * 512) D ∧ CM D (fun x => k3 F' x i + k2 F' i x l)) ∧ Below w.heap.size w wr) (fun vi _ => n - (intOf vi).toNat)
   case atStart => exact ⟨0, by omega, rfl, ⟨D, HO.out, HCM.out.congr fun x => rfl⟩, HB.out⟩
   case round =>
    clear HB HO HCM y1
    obtain ⟨l, hle, rfl, ⟨D, ho, hcm⟩, hb⟩ := hrel
    have HO := qa0 ho
    have HCM := qa0 hcm
    have HB := qa0 hb
    clear ho hcm
    by_cases hlt2 : l < n
    ·obtain ⟨hg, xb, ob, rfl, t0, t1⟩ := HT.out l (by rw [HK.out]; exact hlt2)
     have s0 : wr.cell? ⟨xb, ob + l * 2, none⟩ = some (.int .i64 (of i l)) := by rw [hb.cell (p := ⟨xb, _, none⟩) (qa2 t0), t0]
     have s1 : wr.cell? ⟨xb, ob + l * 2 + 1, none⟩ = some (.int .u8 (fc i l : Nat)) := by rw [hb.cell (p := ⟨xb, _, none⟩) (qa2 t1), t1]
     obtain ⟨u, HU⟩ : ∃ z, Hid (of i l = z) := ⟨_, rfl⟩
     obtain ⟨z, HZ⟩ : ∃ z, Hid (fc i l = z) := ⟨_, rfl⟩
     rw [HU.out] at s0
     rw [HZ.out] at s1 hg
     have hz0 : z ≠ 0 := by rw [← HZ.out]; exact (HM.out i hlt l (by rw [HK.out]; exact hlt2)).1
     obtain ⟨iz, HIZ⟩ : ∃ z', Hid (finv z = z') := ⟨_, rfl⟩
     have hiz : iz < 256 := by rw [← HIZ.out]; exact qac z
     have HInv : Hid (∀ w, Calls Try.prog 37 #[.int .u8 (z : Int)] w fun e w' => e = .returned (.tuple #[.int .u8 (iz : Int), .int .i64 0]) ∧ Below w.heap.size w w') := by
      rw [← HIZ.out]
      exact fun w => (inv_any z w hg).mono fun e w' hx => ⟨by rw [hx.1, ive, if_neg hz0], hx.2⟩
     have p2 : (0 : Int) ≤ (l : Int) := by omega
     have p3 : (l : Int) < (n : Int) := by omega
     have p4 : (0 : Int) ≤ (l : Int) + 1 := by omega
     have p5 : (l : Int) + 1 ≤ (n : Int) := by omega
     have w1 : IntKind.i64.wrap ((l : Int) + 1) = (l : Int) + 1 := by rw [IntKind.wrap_i64]; omega
     have n1 : ((l : Int) + 1).toNat = l + 1 := by omega
     have HB2 := qa0 (jtwo HB.out (jlow wr (.cells #[.int .i64 u, .int .u8 (z : Int)] 59)))
     have HO2 := qa0 (show Om (wr.alloc (.cells #[.int .i64 u, .int .u8 (z : Int)] 59)) B ((T + l) * 512) D from HO.out.alloc _)
     have HV2 := qa0 (Vf.new wr 59 #[.int .i64 u, .int .u8 (z : Int)])
     obtain ⟨g, HGG⟩ : ∃ g, Hid (wr.heap.size = g) := ⟨_, rfl⟩
     have HOg := HO
     clear hb t0 t1 HO HB
     obtain ⟨m, HMm⟩ : ∃ m, Hid (n - (l + 1) = m) := ⟨_, rfl⟩
     have HNG : Hid (B < g) := by rw [← HGG.out]; exact World.ownsMap.lt HOg.out
     by_cases hd : l + 1 = d
     ·have HD1 := qa0 hd
      go_wp2_with (go_at_call 37; refine (HInv.out _).mono ?_; rintro e w2 ⟨rfl, hb2⟩; have HB3 := qa0 (jtwo HB2.out hb2); have HO3 := qa0 (show Om w2 B ((T + l) * 512) D from HO2.out.later hb2); have HV3 := qa0 (HV2.out.later hb2); clear hb2)
      obtain rfl : m = 0 := by have := HMm.out; have := HD1.out; omega
      rw [HGG.out]
      clear hd
      go_loopw [38] (fun vj w3 => ∃ j : Nat, j ≤ 0 ∧ vj = .int .i64 (j : Int) ∧ (∃ D, Om w3 B ((T + l) * 512 + j) D ∧ CM D (fun x => k3 F' x i + k2 F' i x l + k1 F' i l x j)) ∧ Vf w3 g 59 #[.int .i64 u, .int .u8 (z : Int)] ∧ Below w.heap.size w w3) (fun vj _ => 0 - (intOf vj).toNat)
      case atStart => exact ⟨0, by omega, rfl, ⟨D, HO3.out, HCM.out.congr fun x => rfl⟩, by rw [← HGG.out]; exact HV3.out, HB3.out⟩
      case round =>
       clear HO2 HB2 HV2 HO3 HV3 HB3 HCM s0 s1
       obtain ⟨j, hje, rfl, ⟨D, ho, hcm⟩, hv, hb⟩ := hrel
       have HO := qa0 ho
       have HCM := qa0 hcm
       have HB := qa0 hb
       have HV := qa0 hv
       clear ho hcm hv
       by_cases hlt3 : j < 0
       ·exact absurd HD1.out (by have := HMm.out; omega)
       ·obtain rfl : j = 0 := by omega
        clear hb
        go_wp2
        refine ⟨⟨l + 1, by omega, by go_num, ⟨D, HO.out.mono (by have := HMm.out; omega), HCM.out.congr fun x => ?_⟩, HB.out⟩, by simp [intOf]; omega⟩
        show _ = k3 F' x i + (k2 F' i x l + k1 F' i l x (F'.nt i - (l + 1)))
        rw [HNT.out, HK.out, HMm.out, Nat.add_assoc]
     ·have HD1 := qa0 hd
      have hd2 : ¬ d = l + 1 := by omega
      go_wp2_with (go_at_call 37; refine (HInv.out _).mono ?_; rintro e w2 ⟨rfl, hb2⟩; have HB3 := qa0 (jtwo HB2.out hb2); have HO3 := qa0 (show Om w2 B ((T + l) * 512) D from HO2.out.later hb2); have HV3 := qa0 (HV2.out.later hb2); clear hb2)
      rw [HMm.out, HGG.out]
      go_loopw [38] (fun vj w3 => ∃ j : Nat, j ≤ m ∧ vj = .int .i64 (j : Int) ∧ (∃ D, Om w3 B ((T + l) * 512 + j) D ∧ CM D (fun x => k3 F' x i + k2 F' i x l + k1 F' i l x j)) ∧ Vf w3 g 59 #[.int .i64 u, .int .u8 (z : Int)] ∧ Below w.heap.size w w3) (fun vj _ => m - (intOf vj).toNat)
      case atStart => exact ⟨0, by omega, rfl, ⟨D, HO3.out, HCM.out.congr fun x => rfl⟩, by rw [← HGG.out]; exact HV3.out, HB3.out⟩
      case round =>
       clear HO2 HB2 HV2 HO3 HV3 HB3 HCM s0 s1
       obtain ⟨j, hje, rfl, ⟨D, ho, hcm⟩, hv, hb⟩ := hrel
       have HO := qa0 ho
       have HCM := qa0 hcm
       have HB := qa0 hb
       have HV := qa0 hv
       clear ho hcm hv
       by_cases hlt3 : j < m
       ·obtain ⟨hg2, xb', ob', e', t0, t1⟩ := HT.out (l + 1 + j) (by rw [HK.out]; have := HMm.out; omega)
        cases e'
        obtain ⟨v, HVv⟩ : ∃ z, Hid (of i (l + 1 + j) = z) := ⟨_, rfl⟩
        obtain ⟨y, HY⟩ : ∃ z, Hid (fc i (l + 1 + j) = z) := ⟨_, rfl⟩
        have s0 : wr.cell? ⟨xb, ob + (l + 1) * 2 + j * 2, none⟩ = some (.int .i64 v) := by rw [show ob + (l + 1) * 2 + j * 2 = ob + (l + 1 + j) * 2 by omega, hb.cell (p := ⟨xb, _, none⟩) (qa2 t0), t0, HVv.out]
        have s1 : wr.cell? ⟨xb, ob + (l + 1) * 2 + j * 2 + 1, none⟩ = some (.int .u8 (y : Nat)) := by rw [show ob + (l + 1) * 2 + j * 2 + 1 = ob + (l + 1 + j) * 2 + 1 by omega, hb.cell (p := ⟨xb, _, none⟩) (qa2 t1), t1, HY.out]
        rw [HY.out] at hg2
        obtain ⟨rr, HR⟩ : ∃ z', Hid (fm y iz = z') := ⟨_, rfl⟩
        have hrr : rr < 256 := by rw [← HR.out]; exact qba y iz hg2
        have HMul : Hid (∀ w, Calls Try.prog 38 #[.int .u8 (y : Int), .int .u8 (iz : Int)] w fun e w' => e = .returned (.int .u8 (rr : Int)) ∧ w' = w) := by rw [← HR.out]; exact fun w => mul_nat y iz w hg2 hiz
        obtain ⟨yy, HYY⟩ : ∃ yy : Ky, Hid ((u, v, rr) = yy) := ⟨_, rfl⟩
        have HOK : Hid (KOk yy) := by
         have m1 := (HM.out i hlt l (by rw [HK.out]; exact hlt2)).2
         have m2 := (HM.out i hlt (l + 1 + j) (by rw [HK.out]; have := HMm.out; omega)).2
         rw [HU.out] at m1
         rw [HVv.out] at m2
         rw [← HYY.out]
         exact ⟨by show _ ≤ u ∧ u ≤ _; omega, by show _ ≤ v ∧ v ≤ _; omega, hrr⟩
        obtain ⟨W3, HW⟩ : ∃ W3, Hid (wr.alloc (.cells #[.int .i64 v, .int .u8 (y : Int)] 59) = W3) := ⟨_, rfl⟩
        obtain ⟨g2, HG2⟩ : ∃ g, Hid (wr.heap.size = g) := ⟨_, rfl⟩
        have HV3 := qa0 (HV.out.later (jlow wr (.cells #[.int .i64 v, .int .u8 (y : Int)] 59)))
        have HB3 := qa0 (jtwo HB.out (jlow wr (.cells #[.int .i64 v, .int .u8 (y : Int)] 59)))
        have HO3 := qa0 (show Om (wr.alloc (.cells #[.int .i64 v, .int .u8 (y : Int)] 59)) B ((T + l) * 512 + j) D from HO.out.alloc _)
        have HV4 := qa0 (Vf.new wr 59 #[.int .i64 v, .int .u8 (y : Int)])
        rw [HW.out] at HV3 HB3 HO3 HV4
        rw [HG2.out] at HV4
        have HO4 := qa0 (show Om W3.drew B ((T + l) * 512 + j) D from HO3.out.drew)
        obtain ⟨cc, v0, st, w1, ic1, ic2, ic3, ic4, ic5⟩ := incr_own lawPr undMap undInt zeroInt HO4.out (by have := HMm.out; unfold maxLen; omega) (qb8 HOK.out)
        rw [HCM.out.tells yy HOK.out] at ic1
        obtain ⟨kk, HKK⟩ : ∃ k, Hid (k3 F' yy i + k2 F' i yy l + k1 F' i l yy j = k) := ⟨_, rfl⟩
        have hkk : kk ≤ 1000000 := by
         rw [← HKK.out]
         have := HLE.out i yy hlt
         have := HLE2.out i yy l hlt
         have := k1_le F' i l yy j
         have := HMm.out
         rw [HTT.out] at *
         omega
        have ic1 := (Lit.int.inj (DataW.lit.inj ic1)).2
        rw [HKK.out] at ic1
        subst ic1
        obtain ⟨w5, ic6, ic7, ic8⟩ := ic5 ((kk : Int) + 1) (WalkArith.wf_i64 ⟨by omega, by omega⟩)
        have w2' : IntKind.i64.wrap ((kk : Int) + 1) = (kk : Int) + 1 := by rw [IntKind.wrap_i64]; omega
        have ic2' : (Instr.lookup 54 (.map (some B)) (.agg #[.int .i64 u, .int .i64 v, .int .u8 (rr : Int), .int .i64 0]) false).run Try.prog W3.drew = .ok (.int .i64 (kk : Int)) W3.drew := by rw [← ic2, ← HYY.out]
        have ic3' : (Instr.mapEntry 54 (.map (some B)) (.agg #[.int .i64 u, .int .i64 v, .int .u8 (rr : Int), .int .i64 0])).run Try.prog W3.drew = .ok (.tuple #[v0, .int .i64 (st : Int)]) w1 := by rw [show (Value.tuple #[v0, .int .i64 (st : Int)]) = .tuple #[v0, goInt st] from rfl, ← ic3, ← HYY.out]
        have ic4' : (Instr.lookup 54 (.map (some B)) (.agg #[.int .i64 u, .int .i64 v, .int .u8 (rr : Int), .int .i64 0]) false).run Try.prog w1 = .ok (.int .i64 (kk : Int)) w1 := by rw [← ic4, ← HYY.out]
        have ic6' : (Instr.entryStore 54 (.map (some B)) (.int .i64 (st : Int)) (.int .i64 ((kk : Int) + 1))).run Try.prog w1 = .ok () w5 := ic6
        have HEND : Hid (∃ D, Om w5 B ((T + l) * 512 + (j + 1)) D ∧ CM D (fun x => k3 F' x i + k2 F' i x l + k1 F' i l x (j + 1))) := by
         refine ⟨_, ic7, ?_⟩
         have hst := HCM.out.step (c' := fun x => k3 F' x i + k2 F' i x l + k1 F' i l x (j + 1)) HOK.out (fun x => by
          show k3 F' x i + k2 F' i x l + (k1 F' i l x j + (if pky F' i l (l + 1 + j) = x then 1 else 0)) = _
          rw [HPK.out, HU.out, HVv.out, HY.out, HZ.out, HIZ.out, HR.out, HYY.out, Nat.add_assoc, Nat.add_assoc, Nat.add_assoc])
         rw [HKK.out] at hst
         exact hst
        have hgw := ic8.block
        have HB5 : Hid (Below w.heap.size w w5) := (below_drewN HB3.out 1).grown ic8 (Nat.le_trans (HB3.out.size) (Nat.le_refl _)) (fun k hk => by cases hk; have := HBB.out; omega)
        have HV5 : Hid (Vf w5 g 59 #[.int .i64 u, .int .u8 (z : Int)]) := (Vf.kept (w := W3.drew) HV3.out ic8 (fun e => by cases e; exact absurd HNG.out (by omega)))
        have x0 := HV3.out.cell 0 _ rfl
        have x1 := HV3.out.cell 1 _ rfl
        have x2 := HV4.out.cell 0 _ rfl
        have x3 := HV4.out.cell 1 _ rfl
        have hm5 : m ≤ 512 := by have := HMm.out; omega
        have q0 : (0 : Int) ≤ (j : Int) := by omega
        have q1 : (j : Int) < (m : Int) := by omega
        clear ic1 ic2 ic3 ic4 ic5 ic6 ic7 ic8 hgw HO4 HO3 hb t0 t1 hmm
        go_wp2
        rw [HW.out, HG2.out]
        clear s0 s1
        go_region_with (go_at_call 38; refine (HMul.out _).mono ?_; rintro e w' ⟨rfl, rfl⟩)
        all_goals go_wp2
        all_goals exact ⟨⟨j + 1, by omega, by go_num, HEND.out, HV5.out, HB5.out⟩, by simp [intOf]; omega⟩
       ·obtain rfl : j = m := by omega
        clear hb
        go_wp2
        refine ⟨⟨l + 1, by omega, by go_num, ⟨D, HO.out.mono (by have := HMm.out; omega), HCM.out.congr fun x => ?_⟩, HB.out⟩, by simp [intOf]; omega⟩
        show _ = k3 F' x i + (k2 F' i x l + k1 F' i l x (F'.nt i - (l + 1)))
        rw [HNT.out, HK.out, HMm.out, Nat.add_assoc]
    ·obtain rfl : l = n := by omega
     clear hb
     go_wp2
     refine ⟨⟨i + 1, by omega, by go_num, ⟨D, by rw [show tsm nt (i + 1) = T + l by show tsm nt i + nt i = _; rw [HTT.out, HK.out]]; exact HO.out, HCM.out.congr fun x => ?_⟩, HB.out⟩, by simp [intOf]; omega⟩
     show _ = k3 F' x i + k2 F' i x (F'.nt i)
     rw [HNT.out, HK.out]
  ·obtain rfl : i = nn := by omega
   clear hb
   go_wp2
   go_ret
   exact ⟨B, D, _, rfl, by have := HBB.out; omega, HO.out, HK3.out _ HCM.out, HB.out⟩
end Go.Proofs.Ythdgpmanijifoaa
