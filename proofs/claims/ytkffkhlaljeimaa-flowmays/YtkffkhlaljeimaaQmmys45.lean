/-
  Stage 21: Same of both sides.
-/
import Derived.Test.YtkffkhlaljeimaaQmmys00
import Derived.Test.YtkffkhlaljeimaaQmmys43
import Derived.Test.YtkffkhlaljeimaaQmmys44
set_option maxRecDepth 100000
set_option maxHeartbeats 16000000
namespace Go.Proofs.Ytkffkhlaljeimaa
open Go.RowKit
theorem feqn_any (w : World) (b b' : Option Addr) (m d m' d' : Nat) (t t' : Nat → Nat) (f f' : Nat → Nat → Int) (g g' : Nat → Nat → Nat) (hb : Ndl w b m t f g) (hb' : Ndl w b' m' t' f' g') (hm : m ≤ 140737488351232) :
  Calls Try.prog 32 #[.slice b m d, .slice b' m' d', .func (.func 33) #[] #[]] w fun e w' => AnsB e (EqN m m' t t' f f' g g') ∧ Below w.heap.size w w' := by
 have HJ := qa0 hb
 have HJ' := qa0 hb'
 clear hb hb'
 by_cases hmm : m = m'
 ·have HM := qa0 hmm
  have g1 : ((m : Int) != (m' : Int)) = false := by simp; omega
  have hm2 : m ≤ m' := by omega
  clear hmm
  go_enter Try.func32, Try.ntmps32
  go_wp2
  go_loopw [17] (fun vi wr => ∃ i : Nat, i ≤ m ∧ vi = .int .i64 (i : Int) ∧ (∀ j, j < i → EqT (t j) (t' j) (f j) (f' j) (g j) (g' j)) ∧ Below w.heap.size w wr) (fun vi _ => m - (intOf vi).toNat)
  case atStart => exact ⟨0, by omega, rfl, fun j hj => by omega, Below.refl _ _⟩
  case round =>
   obtain ⟨i, hi, rfl, hall, hbr⟩ := hrel
   have HL := qa0 hall
   have HB := qa0 hbr
   by_cases hlt : i < m
   ·have hlt2 : (i : Int) < (m : Int) := by omega
    have hlt3 : (i : Int) < (m' : Int) := by omega
    have i0 : (0 : Int) ≤ (i : Int) := Int.natCast_nonneg _
    obtain ⟨hu, x, o, s, k, ea, hc, ht⟩ := (HJ.out.later hbr) i hlt
    obtain ⟨_, x', o', s', k', ea', hc', ht'⟩ := (HJ'.out.later hbr) i (by omega)
    have HC := qa0 (feqt_any wr s s' (t i) k (t' i) k' (f i) (f' i) (g i) (g' i) ht ht' hu)
    obtain ⟨u, HU⟩ : ∃ u, Hid (t i = u) := ⟨_, rfl⟩
    obtain ⟨u', HU'⟩ : ∃ u, Hid (t' i = u) := ⟨_, rfl⟩
    rw [HU.out] at hc HC
    rw [HU'.out] at hc' HC
    subst ea ea'
    clear hall hbr ht ht' hu
    by_cases he : EqT u u' (f i) (f' i) (g i) (g' i)
    ·have HE := qa0 he
     have HC2 := qa0 (qa1 HC.out he)
     clear he HC
     go_wp2_with (go_at_call 33; refine HC2.out.mono ?_; rintro e w2 ⟨rfl, hb2⟩; have HB2 := qa0 (jtwo HB.out hb2); clear hb2)
     exact ⟨⟨i + 1, by omega, by go_num, fun j hj => (by
      by_cases e : j = i
      ·subst e; rw [HU.out, HU'.out]; exact HE.out
      ·exact HL.out j (by omega)), HB2.out⟩, by simp [intOf]; omega⟩
    ·have HE := qa0 he
     have HC2 := qa0 (qa6 HC.out he)
     clear he HC
     go_wp2_with (go_at_call 33; refine HC2.out.mono ?_; rintro e w2 ⟨rfl, hb2⟩; have HB2 := qa0 (jtwo HB.out hb2); clear hb2)
     go_ret
     exact ⟨AnsB.no fun hx => HE.out (by rw [← HU.out, ← HU'.out]; exact hx.2 i hlt), HB2.out⟩
   ·have hlt2 : ¬ (i : Int) < (m : Int) := by omega
    clear hall hbr
    go_wp2
    go_ret
    exact ⟨AnsB.yes ⟨HM.out, fun j hj => HL.out j (by omega)⟩, HB.out⟩
 ·have g1 : ((m : Int) != (m' : Int)) = true := by simp; omega
  have HM := qa0 hmm
  clear hmm
  go_enter Try.func32, Try.ntmps32
  go_wp2
  go_ret
  exact ⟨AnsB.no fun hx => HM.out hx.1, Below.refl _ _⟩
theorem Vf.new1 (w : World) (o : Obj) (T : TypeId) (xs : Array Value) : Vf ((w.alloc o).alloc (.cells xs T)) (w.heap.size + 1) T xs := by
 have := Vf.new (w.alloc o) T xs
 rwa [show (w.alloc o).heap.size = w.heap.size + 1 by simp] at this
theorem qax (w : World) (a b c a' b' c' : Option Addr) (p q r p' q' r' : Nat) (F G : Fl) (h : FlR w a b c F) (h' : FlR w a' b' c' G) :
  Calls Try.prog 11 #[flv a F.ni p b F.nn q c F.no r, flv a' G.ni p' b' G.nn q' c' G.no r'] w fun e w' => AnsB e (EqF F G) ∧ Below w.heap.size w w' := by
 obtain ⟨wb, HW⟩ : ∃ wb, Hid ((w.alloc (.cells #[.slice a F.ni p, .slice b F.nn q, .slice c F.no r] 25)).alloc (.cells #[.slice a' G.ni p', .slice b' G.nn q', .slice c' G.no r'] 25) = wb) := ⟨_, rfl⟩
 have HB0 : Hid (Below w.heap.size w wb) := by rw [← HW.out]; exact jtwo (jlow _ _) (jlow _ _)
 have HA : Hid (Vf wb w.heap.size 25 #[.slice a F.ni p, .slice b F.nn q, .slice c F.no r]) := by rw [← HW.out]; exact (Vf.new w _ _).later (jlow _ _)
 have HC : Hid (Vf wb (w.heap.size + 1) 25 #[.slice a' G.ni p', .slice b' G.nn q', .slice c' G.no r']) := by rw [← HW.out]; exact Vf.new1 _ _ _ _
 have HI := qa0 (fun w2 (hb : Below w.heap.size w w2) => qbb w2 a a' F.ni p G.ni p' F.inp G.inp (h.inp.later hb) (h'.inp.later hb) h.hi)
 have HO := qa0 (fun w2 (hb : Below w.heap.size w w2) => qbb w2 c c' F.no r G.no r' F.out G.out (h.outs.later hb) (h'.outs.later hb) h.ho)
 have HN := qa0 (fun w2 (hb : Below w.heap.size w w2) => feqn_any w2 b b' F.nn q G.nn q' F.nt G.nt F.of G.of F.fc G.fc (h.nodes.later hb) (h'.nodes.later hb) h.hn)
 have HX : Hid (EqF F G ↔ (EqI F.ni G.ni F.inp G.inp ∧ EqN F.nn G.nn F.nt G.nt F.of G.of F.fc G.fc ∧ EqI F.no G.no F.out G.out)) := ⟨fun h => ⟨h.1, h.2, h.3⟩, fun h => ⟨h.1, h.2.1, h.2.2⟩⟩
 obtain ⟨P, HP⟩ : ∃ P, Hid (EqF F G = P) := ⟨_, rfl⟩
 rw [HP.out] at HX ⊢
 clear HP
 obtain ⟨ni, inp, nn, nt, of, fc, no, out⟩ := F
 obtain ⟨ni', inp', nn', nt', of', fc', no', out'⟩ := G
 dsimp only at HW HA HC HI HO HN HX ⊢
 have a0 := HA.out.cell 0 (.slice a ni p) rfl
 have a1 := HA.out.cell 1 (.slice b nn q) rfl
 have a2 := HA.out.cell 2 (.slice c no r) rfl
 have c0 := HC.out.cell 0 (.slice a' ni' p') rfl
 have c1 := HC.out.cell 1 (.slice b' nn' q') rfl
 have c2 := HC.out.cell 2 (.slice c' no' r') rfl
 have M1 : True := trivial
 clear h h'
 by_cases hi : EqI ni ni' inp inp'
 ·have HI2 := qa0 (fun w2 hb => qa1 (HI.out w2 hb) hi)
  have HId := qa0 hi
  clear hi HI
  by_cases ho : EqI no no' out out'
  ·have HO2 := qa0 (fun w2 hb => qa1 (HO.out w2 hb) ho)
   have HOd := qa0 ho
   clear ho HO
   by_cases hn : EqN nn nn' nt nt' of of' fc fc'
   ·have HN2 := qa0 (fun w2 hb => qa1 (HN.out w2 hb) hn)
    have HNd := qa0 hn
    clear hn HN
    go_enter Try.func11, Try.ntmps11
    go_wp2_with (first
     | (go_at_call 32; refine (HN2.out _ HB3.out).mono ?_; rintro e w4 ⟨rfl, hb4⟩; have HB4 := qa0 (jtwo HB3.out hb4); clear hb4)
     | (go_at_call 31; have _x := HB2; refine (HO2.out _ HB2.out).mono ?_; rintro e w3 ⟨rfl, hb3⟩; have HB3 := qa0 (jtwo HB2.out hb3); have d3 := keepc hb3 d1; have f3 := keepc hb3 f1; clear hb3)
     | (go_at_call 31; rw [HW.out]; refine (HI2.out _ HB0.out).mono ?_; rintro e w2 ⟨rfl, hb2⟩; have HB2 := qa0 (jtwo HB0.out hb2); have d1 := keepc hb2 a1; have d2 := keepc hb2 a2; have f1 := keepc hb2 c1; have f2 := keepc hb2 c2; clear hb2))
    go_ret
    exact ⟨AnsB.yes (HX.out.2 ⟨HId.out, HNd.out, HOd.out⟩), HB4.out⟩
   ·have HN2 := qa0 (fun w2 hb => qa6 (HN.out w2 hb) hn)
    have HNd := qa0 hn
    clear hn HN
    go_enter Try.func11, Try.ntmps11
    go_wp2_with (first
     | (go_at_call 32; refine (HN2.out _ HB3.out).mono ?_; rintro e w4 ⟨rfl, hb4⟩; have HB4 := qa0 (jtwo HB3.out hb4); clear hb4)
     | (go_at_call 31; have _x := HB2; refine (HO2.out _ HB2.out).mono ?_; rintro e w3 ⟨rfl, hb3⟩; have HB3 := qa0 (jtwo HB2.out hb3); have d3 := keepc hb3 d1; have f3 := keepc hb3 f1; clear hb3)
     | (go_at_call 31; rw [HW.out]; refine (HI2.out _ HB0.out).mono ?_; rintro e w2 ⟨rfl, hb2⟩; have HB2 := qa0 (jtwo HB0.out hb2); have d1 := keepc hb2 a1; have d2 := keepc hb2 a2; have f1 := keepc hb2 c1; have f2 := keepc hb2 c2; clear hb2))
    go_ret
    exact ⟨AnsB.no fun hx => HNd.out (HX.out.1 hx).2.1, HB4.out⟩
  ·have HO2 := qa0 (fun w2 hb => qa6 (HO.out w2 hb) ho)
   have HOd := qa0 ho
   clear ho HO
   go_enter Try.func11, Try.ntmps11
   go_wp2_with (first
    | (go_at_call 31; have _x := HB2; refine (HO2.out _ HB2.out).mono ?_; rintro e w3 ⟨rfl, hb3⟩; have HB3 := qa0 (jtwo HB2.out hb3); have d3 := keepc hb3 d1; have f3 := keepc hb3 f1; clear hb3)
    | (go_at_call 31; rw [HW.out]; refine (HI2.out _ HB0.out).mono ?_; rintro e w2 ⟨rfl, hb2⟩; have HB2 := qa0 (jtwo HB0.out hb2); have d1 := keepc hb2 a1; have d2 := keepc hb2 a2; have f1 := keepc hb2 c1; have f2 := keepc hb2 c2; clear hb2))
   go_ret
   exact ⟨AnsB.no fun hx => HOd.out (HX.out.1 hx).2.2, HB3.out⟩
 ·have HI2 := qa0 (fun w2 hb => qa6 (HI.out w2 hb) hi)
  have HId := qa0 hi
  clear hi HI
  go_enter Try.func11, Try.ntmps11
  go_wp2_with (go_at_call 31; rw [HW.out]; refine (HI2.out _ HB0.out).mono ?_; rintro e w2 ⟨rfl, hb2⟩; have HB2 := qa0 (jtwo HB0.out hb2); have d1 := keepc hb2 a1; have d2 := keepc hb2 a2; have f1 := keepc hb2 c1; have f2 := keepc hb2 c2; clear hb2)
  go_ret
  exact ⟨AnsB.no fun hx => HId.out (HX.out.1 hx).1, HB2.out⟩
end Go.Proofs.Ytkffkhlaljeimaa
