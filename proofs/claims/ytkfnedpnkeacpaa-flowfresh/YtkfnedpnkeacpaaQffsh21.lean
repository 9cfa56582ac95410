/-
  Stage 21: Same of the reference.
-/
import Derived.Test.YtkfnedpnkeacpaaQffsh00
import Derived.Test.YtkfnedpnkeacpaaQffsh19
set_option maxRecDepth 100000
set_option maxHeartbeats 16000000
namespace Go.Proofs.Ytkfnedpnkeacpaa
open Go.RowKit
theorem qcd (w : World) (a b c a' b' c' : Option Addr) (p q r p' q' r' : Nat) (F G : Fl) (h : FlR w a b c F) (h' : FlR w a' b' c' G) :
  Calls Try.prog 13 #[flv a F.ni p b F.nn q c F.no r, flv a' G.ni p' b' G.nn q' c' G.no r'] w fun e w' => AnsB e (EqF F G) ∧ Below w.heap.size w w' := by
 obtain ⟨wb, HW⟩ : ∃ wb, Hid ((w.alloc (.cells #[.slice a F.ni p, .slice b F.nn q, .slice c F.no r] 28)).alloc (.cells #[.slice a' G.ni p', .slice b' G.nn q', .slice c' G.no r'] 28) = wb) := ⟨_, rfl⟩
 have HB0 : Hid (Below w.heap.size w wb) := by rw [← HW.out]; exact jtwo (jlow _ _) (jlow _ _)
 have HA : Hid (Vf wb w.heap.size 28 #[.slice a F.ni p, .slice b F.nn q, .slice c F.no r]) := by rw [← HW.out]; exact (Vf.new w _ _).later (jlow _ _)
 have HC : Hid (Vf wb (w.heap.size + 1) 28 #[.slice a' G.ni p', .slice b' G.nn q', .slice c' G.no r']) := by rw [← HW.out]; exact Vf.new1 _ _ _ _
 have HI := qa0 (fun w2 (hb : Below w.heap.size w w2) => qdv w2 a a' F.ni p G.ni p' F.inp G.inp (h.inp.later hb) (h'.inp.later hb) h.hi)
 have HO := qa0 (fun w2 (hb : Below w.heap.size w w2) => qdv w2 c c' F.no r G.no r' F.out G.out (h.outs.later hb) (h'.outs.later hb) h.ho)
 have HN := qa0 h.nodes
 have HN' := qa0 h'.nodes
 have hn := h.hn
 have hn' := h'.hn
 have HX : Hid (EqF F G ↔ (EqI F.ni G.ni F.inp G.inp ∧ EqN F.nn G.nn F.nt G.nt F.of G.of F.fc G.fc ∧ EqI F.no G.no F.out G.out)) := ⟨fun h => ⟨h.1, h.2, h.3⟩, fun h => ⟨h.1, h.2.1, h.2.2⟩⟩
 obtain ⟨P, HP⟩ : ∃ P, Hid (EqF F G = P) := ⟨_, rfl⟩
 rw [HP.out] at HX ⊢
 clear HP
 obtain ⟨ni, inp, nn, nt, of, fc, no, out⟩ := F
 obtain ⟨ni', inp', nn', nt', of', fc', no', out'⟩ := G
 dsimp only at HW HA HC HI HO HN HN' HX hn hn' ⊢
 have a0 := HA.out.cell 0 (.slice a ni p) rfl
 have a1 := HA.out.cell 1 (.slice b nn q) rfl
 have a2 := HA.out.cell 2 (.slice c no r) rfl
 have c0 := HC.out.cell 0 (.slice a' ni' p') rfl
 have c1 := HC.out.cell 1 (.slice b' nn' q') rfl
 have c2 := HC.out.cell 2 (.slice c' no' r') rfl
 clear h h'
 by_cases hi : EqI ni ni' inp inp'
 ·have HI2 := qa0 (fun w2 hb => qam (HI.out w2 hb) hi)
  have HId := qa0 hi
  clear hi HI
  by_cases ho : EqI no no' out out'
  ·have HO2 := qa0 (fun w2 hb => qam (HO.out w2 hb) ho)
   have HOd := qa0 ho
   clear ho HO
   by_cases hnn : nn = nn'
   ·have g1 : ((nn : Int) != (nn' : Int)) = false := by simp; omega
    have HNn := qa0 hnn
    clear hnn
    go_enter Try.func13, Try.ntmps13
    go_wp2_with (first
     | (go_at_call 39; have _x := HB2; refine (HO2.out _ HB2.out).mono ?_; rintro e w3 ⟨rfl, hb3⟩; have HB3 := qa0 (jtwo HB2.out hb3); have d3 := keepc hb3 d1; have f3 := keepc hb3 f1)
     | (go_at_call 39; rw [HW.out]; refine (HI2.out _ HB0.out).mono ?_; rintro e w2 ⟨rfl, hb2⟩; have HB2 := qa0 (jtwo HB0.out hb2); have HA2 := qa0 (HA.out.later hb2); have HC2 := qa0 (HC.out.later hb2); have d1 := keepc hb2 a1; have d2 := keepc hb2 a2; have f1 := keepc hb2 c1; have f2 := keepc hb2 c2; clear hb2))
    have HA3 := qa0 (HA2.out.later hb3)
    have HC3 := qa0 (HC2.out.later hb3)
    clear hb3
    go_loopw [5] (fun vi wr => ∃ i : Nat, i ≤ nn ∧ vi = .int .i64 (i : Int) ∧ (∀ j, j < i → EqT (nt j) (nt' j) (of j) (of' j) (fc j) (fc' j)) ∧ Vf wr w.heap.size 28 #[.slice a ni p, .slice b nn q, .slice c no r] ∧ Vf wr (w.heap.size + 1) 28 #[.slice a' ni' p', .slice b' nn' q', .slice c' no' r'] ∧ Below w.heap.size w wr) (fun vi _ => nn - (intOf vi).toNat)
    case atStart => exact ⟨0, by omega, rfl, fun j hj => by omega, HA3.out, HC3.out, HB3.out⟩
    case round =>
     clear HA3 HC3 HB3 d1 d2 d3 f1 f2 f3 HA HC HB0 a0 a1 a2 c0 c1 c2 HA2 HC2 HB2
     obtain ⟨i, hie, rfl, hall, hva, hvc, hb⟩ := hrel
     have HL := qa0 hall
     have HVA := qa0 hva
     have HVC := qa0 hvc
     have HB := qa0 hb
     have x1 := hva.cell 1 (.slice b nn q) rfl
     have y1 := hvc.cell 1 (.slice b' nn' q') rfl
     clear hall hva hvc
     by_cases hlt : i < nn
     ·have p0 : (0 : Int) ≤ (i : Int) := by omega
      have p1 : (i : Int) < (nn : Int) := by omega
      have p2 : (i : Int) < (nn' : Int) := by have := HNn.out; omega
      obtain ⟨hu, x, o, s, k, ea, hc, ht⟩ := HN.out i hlt
      obtain ⟨hu', x', o', s', k', ea', hc', ht'⟩ := HN'.out i (by have := HNn.out; omega)
      obtain ⟨u, HU⟩ : ∃ u, Hid (nt i = u) := ⟨_, rfl⟩
      obtain ⟨u', HU'⟩ : ∃ u, Hid (nt' i = u) := ⟨_, rfl⟩
      have HT := qa0 ht
      have HT' := qa0 ht'
      rw [HU.out] at hc HT hu
      rw [HU'.out] at hc' HT' hu'
      subst ea ea'
      have HCl := qa0 hc
      have HCl' := qa0 hc'
      have z1 : wr.cell? ⟨x, o + i, none⟩ = some (.slice s u k) := by rw [hb.cell (p := ⟨x, _, none⟩) (qa5 hc)]; exact hc
      have z2 : wr.cell? ⟨x', o' + i, none⟩ = some (.slice s' u' k') := by rw [hb.cell (p := ⟨x', _, none⟩) (qa5 hc')]; exact hc'
      clear ht ht' hb hc hc'
      by_cases huu : u = u'
      ·have HUU := qa0 huu
       have g2 : ((u : Int) != (u' : Int)) = false := by simp; omega
       clear huu
       go_wp2
       go_big_quiet (fail)
       go_wp2
       go_loopw [6] (fun vi w4 => ∃ l : Nat, l ≤ u ∧ vi = .int .i64 (l : Int) ∧ (∀ j, j < l → of i j = of' i j ∧ fc i j = fc' i j) ∧ Vf w4 w.heap.size 28 #[.slice a ni p, .slice (some ⟨x, o, none⟩) nn q, .slice c no r] ∧ Vf w4 (w.heap.size + 1) 28 #[.slice a' ni' p', .slice (some ⟨x', o', none⟩) nn' q', .slice c' no' r'] ∧ Below w.heap.size w w4) (fun vi _ => u - (intOf vi).toNat)
       case atStart => exact ⟨0, by omega, rfl, fun j hj => by omega, HVA.out.drewN _, HVC.out.drewN _, below_drewN HB.out _⟩
       case round =>
        clear HVA HVC HB x1 y1 z1 z2
        obtain ⟨l, hle, rfl, hall, hva, hvc, hb⟩ := hrel
        have HL2 := qa0 hall
        have HVA := qa0 hva
        have HVC := qa0 hvc
        have HB := qa0 hb
        have x1 := hva.cell 1 (.slice (some ⟨x, o, none⟩) nn q) rfl
        have y1 := hvc.cell 1 (.slice (some ⟨x', o', none⟩) nn' q') rfl
        have z1 : wr.cell? ⟨x, o + i, none⟩ = some (.slice s u k) := by rw [hb.cell (p := ⟨x, _, none⟩) (qa5 HCl.out)]; exact HCl.out
        have z2 : wr.cell? ⟨x', o' + i, none⟩ = some (.slice s' u' k') := by rw [hb.cell (p := ⟨x', _, none⟩) (qa5 HCl'.out)]; exact HCl'.out
        clear hall hva hvc
        by_cases hlt2 : l < u
        ·have r0 : (0 : Int) ≤ (l : Int) := by omega
         have r1 : (l : Int) < (u : Int) := by omega
         have r2 : (l : Int) < (u' : Int) := by have := HUU.out; omega
         obtain ⟨_, xx, oo, es, t0, t1⟩ := (HT.out.later hb) l hlt2
         obtain ⟨_, xx', oo', es', s0, s1⟩ := (HT'.out.later hb) l (by have := HUU.out; omega)
         obtain ⟨v, HV⟩ : ∃ u, Hid (of i l = u) := ⟨_, rfl⟩
         obtain ⟨v', HV'⟩ : ∃ u, Hid (of' i l = u) := ⟨_, rfl⟩
         obtain ⟨y, HY⟩ : ∃ u, Hid (fc i l = u) := ⟨_, rfl⟩
         obtain ⟨y', HY'⟩ : ∃ u, Hid (fc' i l = u) := ⟨_, rfl⟩
         rw [HV.out] at t0
         rw [HV'.out] at s0
         rw [HY.out] at t1
         rw [HY'.out] at s1
         subst es es'
         clear hb
         by_cases he : v = v' ∧ y = y'
         ·obtain ⟨h1, h2⟩ := he
          have HE := qa0 h1
          have HE2 := qa0 h2
          subst h1 h2
          go_wp2
          go_big_quiet (fail)
          go_wp2
          exact ⟨⟨l + 1, by omega, by go_num, fun j hj => (by
           by_cases e : j = l
           ·subst e; rw [HV.out, HV'.out, HY.out, HY'.out]; exact ⟨rfl, rfl⟩
           ·exact HL2.out j (by omega)), HVA.out.drewN _, HVC.out.drewN _, below_drewN HB.out _⟩, by simp [intOf]; omega⟩
         ·have HNo : Hid (¬ P) := fun hx => by
           have h2 := ((HX.out.1 hx).2.1.2 i hlt).2 l (by rw [HU.out]; exact hlt2)
           rw [HV.out, HV'.out, HY.out, HY'.out] at h2
           exact he h2
          by_cases h1 : v = v'
          ·subst h1
           have h2 : ¬ y = y' := fun h => he ⟨rfl, h⟩
           have g3 : ((y : Int) == (y' : Int)) = false := by simp; omega
           have g4 : (y == y') = false := by simp; omega
           clear he
           go_wp2
           go_big_quiet (fail)
           go_wp2
           go_ret
           exact ⟨AnsB.no HNo.out, below_drewN HB.out _⟩
          ·have g3 : (v == v') = false := by simp [h1]
           clear he
           go_wp2
           go_big_quiet (fail)
           go_wp2
           go_ret
           exact ⟨AnsB.no HNo.out, below_drewN HB.out _⟩
        ·obtain rfl : l = u := by omega
         clear hb
         go_wp2
         exact ⟨⟨i + 1, by omega, by go_num, fun j hj => (by
          by_cases e : j = i
          ·subst e; exact ⟨by rw [HU.out, HU'.out]; exact HUU.out, fun j hj => HL2.out j (by rw [HU.out] at hj; exact hj)⟩
          ·exact HL.out j (by omega)), HVA.out, HVC.out, HB.out⟩, by simp [intOf]; omega⟩
      ·have HNo : Hid (¬ P) := fun hx => huu (by rw [← HU.out, ← HU'.out]; exact ((HX.out.1 hx).2.1.2 i hlt).1)
       have g2 : ((u : Int) != (u' : Int)) = true := by simp; omega
       clear huu
       go_wp2
       go_big_quiet (fail)
       go_wp2
       go_ret
       exact ⟨AnsB.no HNo.out, below_drewN HB.out _⟩
     ·obtain rfl : i = nn := by omega
      clear hb
      go_wp2
      go_ret
      exact ⟨AnsB.yes (HX.out.2 ⟨HId.out, ⟨HNn.out, HL.out⟩, HOd.out⟩), HB.out⟩
   ·have g1 : ((nn : Int) != (nn' : Int)) = true := by simp; omega
    have HNn := qa0 hnn
    clear hnn
    go_enter Try.func13, Try.ntmps13
    go_wp2_with (first
     | (go_at_call 39; have _x := HB2; refine (HO2.out _ HB2.out).mono ?_; rintro e w3 ⟨rfl, hb3⟩; have HB3 := qa0 (jtwo HB2.out hb3); have d3 := keepc hb3 d1; have f3 := keepc hb3 f1)
     | (go_at_call 39; rw [HW.out]; refine (HI2.out _ HB0.out).mono ?_; rintro e w2 ⟨rfl, hb2⟩; have HB2 := qa0 (jtwo HB0.out hb2); have HA2 := qa0 (HA.out.later hb2); have HC2 := qa0 (HC.out.later hb2); have d1 := keepc hb2 a1; have d2 := keepc hb2 a2; have f1 := keepc hb2 c1; have f2 := keepc hb2 c2; clear hb2))
    go_ret
    exact ⟨AnsB.no fun hx => HNn.out (HX.out.1 hx).2.1.1, HB3.out⟩
  ·have HO2 := qa0 (fun w2 hb => qb1 (HO.out w2 hb) ho)
   have HOd := qa0 ho
   clear ho HO
   go_enter Try.func13, Try.ntmps13
   go_wp2_with (first
    | (go_at_call 39; have _x := HB2; refine (HO2.out _ HB2.out).mono ?_; rintro e w3 ⟨rfl, hb3⟩; have HB3 := qa0 (jtwo HB2.out hb3); have d3 := keepc hb3 d1; have f3 := keepc hb3 f1)
    | (go_at_call 39; rw [HW.out]; refine (HI2.out _ HB0.out).mono ?_; rintro e w2 ⟨rfl, hb2⟩; have HB2 := qa0 (jtwo HB0.out hb2); have HA2 := qa0 (HA.out.later hb2); have HC2 := qa0 (HC.out.later hb2); have d1 := keepc hb2 a1; have d2 := keepc hb2 a2; have f1 := keepc hb2 c1; have f2 := keepc hb2 c2; clear hb2))
   go_ret
   exact ⟨AnsB.no fun hx => HOd.out (HX.out.1 hx).2.2, HB3.out⟩
 ·have HI2 := qa0 (fun w2 hb => qb1 (HI.out w2 hb) hi)
  have HId := qa0 hi
  clear hi HI
  go_enter Try.func13, Try.ntmps13
  go_wp2_with (go_at_call 39; rw [HW.out]; refine (HI2.out _ HB0.out).mono ?_; rintro e w2 ⟨rfl, hb2⟩; have HB2 := qa0 (jtwo HB0.out hb2); have HA2 := qa0 (HA.out.later hb2); have HC2 := qa0 (HC.out.later hb2); have d1 := keepc hb2 a1; have d2 := keepc hb2 a2; have f1 := keepc hb2 c1; have f2 := keepc hb2 c2; clear hb2)
  go_ret
  exact ⟨AnsB.no fun hx => HId.out (HX.out.1 hx).1, HB2.out⟩
end Go.Proofs.Ytkfnedpnkeacpaa
