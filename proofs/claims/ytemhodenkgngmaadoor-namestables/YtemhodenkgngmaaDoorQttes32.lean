/-
  Stage 13: Table.
-/
import Derived.Test.YtemhodenkgngmaaDoorQttes00
import Derived.Test.YtemhodenkgngmaaDoorQttes31
import Derived.Deep.RegionHeld
set_option maxRecDepth 100000
set_option maxHeartbeats 16000000
namespace Go.Proofs.YtemhodenkgngmaaDoor
open Go.RowKit Go.Shelf Go.Maps
theorem ptab_bad (w : World) (a : Option Addr) (n c : Nat) (F : Nat → It) (hI : Its w a n F) (hn : n ≤ 549755813888) (hw : Wt9 w) (hm : mayD F n = false) :
  Calls Tryd.prog 9 #[.slice a n c] w fun e w' => TbA w' w.heap.size e (tbD F n) ∧ Below w.heap.size w w' := by
 have HM : Hid (∀ w' : World, Below w.heap.size w w' → Calls Tryd.prog 21 #[.slice a n c] w' fun e w'' => e = .returned (.bool false) ∧ Below w'.heap.size w' w'') := fun w' hb => by
  have h := qgc w' a n c F (hI.later hb) hn (hw.later hb)
  rw [hm] at h
  exact h
 have HBad : Hid (tbD F n = .error (2, 0, 0)) := by show (if _ then _ else _) = _; rw [if_neg (by rw [hm]; decide)]
 have HV0 := qa0 (Vn.new w 26 #[.int .i64 0, .int .i64 0, .int .i64 0])
 have HB0 := qa0 (jlow w (.cells #[.int .i64 0, .int .i64 0, .int .i64 0] 26))
 clear hI hw hm
 go_enter Tryd.func9, Tryd.ntmps9
 go_wp2_with (first
  | (go_at_call 21; refine (HM.out _ HB0.out).mono ?_; rintro e w1 ⟨rfl, hb1⟩; have HV1 := qa0 (HV0.out.later hb1); have HB1 := qa0 (jtwo HB0.out hb1); clear hb1)
  | (refine qa1 rfl 26 _ _ rfl w.heap.size _ #[.int .i64 2, .int .i64 0, .int .i64 0] rfl rfl HV1.out qa4 rfl (all3 rfl rfl rfl) ?_; intro w8 HF8 hg8))
 have d0 := HF8.out.cell 0 _ rfl
 have d1 := HF8.out.cell 1 _ rfl
 have d2 := HF8.out.cell 2 _ rfl
 have HB8 : Below w.heap.size w w8 := HB1.out.trans (jbelow hg8.out HB1.out.size (fun g e => by cases e; exact Nat.le_refl _))
 refine bodyPost_ret (v := .tuple #[.slice none 0 0, .agg #[.int .i64 2, .int .i64 0, .int .i64 0]]) (by simp [results, Tryd.results9, go_sem, d0, d1, d2]) rfl ?_
 exact ⟨by rw [HBad.out]; exact rfl, HB8⟩
theorem ptab_ok (w : World) (a : Option Addr) (n c : Nat) (F : Nat → It) (hI : Its w a n F) (hn : n ≤ 549755813888) (hw : Wt9 w) (hm : mayD F n = true) :
  Calls Tryd.prog 9 #[.slice a n c] w fun e w' => TbA w' w.heap.size e (tbD F n) ∧ Below w.heap.size w w' := by
 have HI := qa0 hI
 have HW := qa0 hw
 have HMy : Hid (∀ w' : World, Below w.heap.size w w' → Calls Tryd.prog 21 #[.slice a n c] w' fun e w'' => e = .returned (.bool true) ∧ Below w'.heap.size w' w'') := fun w' hb => by
  have h := qgc w' a n c F (hI.later hb) hn (hw.later hb)
  rw [hm] at h
  exact h
 obtain ⟨h64, hmi⟩ := qdy hm
 have HMi := qa0 hmi
 have HTb : Hid (tbD F n = tbl F n) := by show (if _ then _ else _) = _; rw [if_pos hm]
 rw [HTb.out]
 have hmm := @run_makeMap Tryd.prog
 have hne := qdv
 have hng := qb1
 have HV0 := qa0 (Vn.new w 26 #[.int .i64 0, .int .i64 0, .int .i64 0])
 have HB0 := qa0 (jlow w (.cells #[.int .i64 0, .int .i64 0, .int .i64 0] 26))
 obtain ⟨i0, hi0, hz0, hz1, hz2⟩ := info_parts jsym
 clear hI hw hm hmi
 go_enter Tryd.func9, Tryd.ntmps9
 go_wp2_with (go_at_call 21; refine (HMy.out _ HB0.out).mono ?_; rintro e w1 ⟨rfl, hb1⟩; have HV1 := qa0 (HV0.out.later hb1); have HB1 := qa0 (jtwo HB0.out hb1); clear hb1)
 have hw1 := HV1.out.lt
 go_loopw [4, 20] (fun vt vi wr => ∃ (i : Nat) (T : List Sy), i ≤ n ∧ vi = .int .i64 (i : Int) ∧ Hid (tbl F i = .ok T) ∧ (∃ x d, vt = .slice x T.length d) ∧ Hid (Sw wr (w1.heap.size + 1) vt T) ∧ Hid (Mk wr w1.heap.size T.length (skd T)) ∧ T.length ≤ i ∧ Hid (∀ y ∈ T, SyOk y) ∧ Hid (Vn wr w.heap.size 26 #[.int .i64 0, .int .i64 0, .int .i64 0]) ∧ Hid (Below w.heap.size w wr)) (fun _ vi _ => n - (intOf vi).toNat)
 case atStart => exact ⟨0, [], by omega, rfl, rfl, ⟨none, 0, rfl⟩, Sw.nil _ _, ⟨_, World.ownsMap_made _ _ _ _, qge⟩, Nat.le_refl _, (fun y hy => by cases hy), HV1.out.later (jlow _ _), jtwo HB1.out (jlow _ _)⟩
 case round =>
  obtain ⟨i, T, hi, rfl, HT, ⟨x, d, rfl⟩, HS1, HM1, hlen, HOk, HF1, HBr⟩ := hrel
  clear HV1 HB1 HV0 HB0 HMy
  have HB1 := HBr
  have z1 := HM1.out.lt
  by_cases hlt : i < n
  ·have p0 : (0 : Int) ≤ (i : Int) := by omega
   have p1 : (i : Int) < (n : Int) := by omega
   obtain ⟨b, o, k, pl, nl, vk, vl, vc, sk, na, ca, np, cp, nr, cr, lc, nm, vm, sm, vn, vln, vcl, sln, scl, ln, cl, va, aa, pa, ra, la, X, S, G, rfl, hF, hX, hSv, hG, k8, p8, hnm, hnl, hcl⟩ := HI.out.at_ hlt
   have hdp := (HMi.out i hlt).dpi
   rw [hF] at hdp
   obtain ⟨⟨f0, f1, f2⟩, HFl⟩ : ∃ f, Hid (wfl (skd T) (ius ⟨k, nm, X, S, pl, nl, G, ln, cl⟩) = f) := ⟨_, rfl⟩
   have HU : Hid (∀ w' : World, Below w.heap.size w w' → Mk w' w1.heap.size T.length (skd T) → Calls Tryd.prog 22 #[.agg #[.int .u8 (k : Int), .string nm, .int .u8 (vk : Int), .int .i64 vn, .string vm, .slice va vl vc, .int .i64 vln, .int .i64 vcl, .int .u8 (sk : Int), .string sm, .slice aa na ca, .slice pa np cp, .slice ra nr cr, .int .i64 sln, .int .i64 scl, .int .u8 (pl : Int), .slice la nl lc, .int .i64 ln, .int .i64 cl], .map (some w1.heap.size)] w' fun e w'' => e = .returned (.agg #[.int .i64 f0, .int .i64 f1, .int .i64 f2]) ∧ Below w'.heap.size w' w'') := fun w' hb hm => by
    have h := pwrong w' w1.heap.size T.length k pl nl vk vl vc sk na ca np cp nr cr lc nm vm sm vn vln vcl sln scl ln cl va aa pa ra la X S G (skd T) _ (hX.later hb) (hSv.later hb) (fun d => (hG d).later hb) hnl hdp rfl (ius_sz hX hSv hG hnm) hm
    rw [HFl.out] at h
    exact h
   have HRg := qa0 (hcl _ HBr.out)
   by_cases hf : f0 = 0 ∧ f1 = 0 ∧ f2 = 0
   ·obtain ⟨rfl, rfl, rfl⟩ := hf
    have hcase : (∃ (vv c l1 l2 : Int), c ≠ 0 ∧ stp i (F i) T = .error (c, l1, l2) ∧ Hid (∀ w' : World, Below w.heap.size w w' → Sw w' (w1.heap.size + 1) (.slice x T.length d) T → Calls Tryd.prog 23 #[.agg #[.int .u8 (k : Int), .string nm, .int .u8 (vk : Int), .int .i64 vn, .string vm, .slice va vl vc, .int .i64 vln, .int .i64 vcl, .int .u8 (sk : Int), .string sm, .slice aa na ca, .slice pa np cp, .slice ra nr cr, .int .i64 sln, .int .i64 scl, .int .u8 (pl : Int), .slice la nl lc, .int .i64 ln, .int .i64 cl], .slice x T.length d] w' fun e w'' => e = .returned (.tuple #[.agg #[.string nm, .int .u8 1, .int .i64 0, .int .i64 vv], .agg #[.int .i64 c, .int .i64 l1, .int .i64 l2]]) ∧ Below w'.heap.size w' w'')) ∨ (∃ vv : Int, (k = 1 ∨ k = 2) ∧ -9223372036854775808 ≤ vv ∧ vv ≤ 9223372036854775807 ∧ (∀ R, (if (skd T nm).isSome = true then Except.error (130, ln, cl) else .ok (T ++ [⟨nm, k, i, vv⟩])) = R → stp i (F i) T = R) ∧ Hid (∀ w' : World, Below w.heap.size w w' → Sw w' (w1.heap.size + 1) (.slice x T.length d) T → Calls Tryd.prog 23 #[.agg #[.int .u8 (k : Int), .string nm, .int .u8 (vk : Int), .int .i64 vn, .string vm, .slice va vl vc, .int .i64 vln, .int .i64 vcl, .int .u8 (sk : Int), .string sm, .slice aa na ca, .slice pa np cp, .slice ra nr cr, .int .i64 sln, .int .i64 scl, .int .u8 (pl : Int), .slice la nl lc, .int .i64 ln, .int .i64 cl], .slice x T.length d] w' fun e w'' => e = .returned (.tuple #[.agg #[.string nm, .int .u8 (k : Int), .int .i64 0, .int .i64 vv], .agg #[.int .i64 0, .int .i64 0, .int .i64 0]]) ∧ Below w'.heap.size w' w'')) ∨ (stp i (F i) T = .ok T ∧ Hid (∀ w' : World, Below w.heap.size w w' → Sw w' (w1.heap.size + 1) (.slice x T.length d) T → Calls Tryd.prog 23 #[.agg #[.int .u8 (k : Int), .string nm, .int .u8 (vk : Int), .int .i64 vn, .string vm, .slice va vl vc, .int .i64 vln, .int .i64 vcl, .int .u8 (sk : Int), .string sm, .slice aa na ca, .slice pa np cp, .slice ra nr cr, .int .i64 sln, .int .i64 scl, .int .u8 (pl : Int), .slice la nl lc, .int .i64 ln, .int .i64 cl], .slice x T.length d] w' fun e w'' => e = .returned (.tuple #[.agg #[.string ⟨#[]⟩, .int .u8 0, .int .i64 0, .int .i64 0], .agg #[.int .i64 0, .int .i64 0, .int .i64 0]]) ∧ Below w'.heap.size w' w'')) := by
     have hst : ∀ V, mdk ⟨k, nm, X, S, pl, nl, G, ln, cl⟩ T = V → stp i (F i) T = (if V.c ≠ 0 then Except.error ((V.c : Int), V.ln, V.cl) else if k = 1 ∨ k = 2 then (if (skd T nm).isSome = true then .error (130, ln, cl) else .ok (T ++ [⟨nm, k, i, V.v⟩])) else .ok T) := fun V h => by
      unfold stp
      rw [hF, HFl.out, if_neg (fun e => e rfl), h]
     by_cases hk1 : k = 1
     ·obtain ⟨V, hV⟩ : ∃ V, evl (fun i => (cst (fun j => T.getD j sy0) T.length).getD i cn0) (cst (fun j => T.getD j sy0) T.length).length X = V := ⟨_, rfl⟩
      have h1 := hst V (by
       show (if k = 1 then _ else _) = _
       rw [if_pos hk1]; exact hV)
      have HMd : Hid (∀ w' : World, Below w.heap.size w w' → Sw w' (w1.heap.size + 1) (.slice x T.length d) T → Calls Tryd.prog 23 #[.agg #[.int .u8 (k : Int), .string nm, .int .u8 (vk : Int), .int .i64 vn, .string vm, .slice va vl vc, .int .i64 vln, .int .i64 vcl, .int .u8 (sk : Int), .string sm, .slice aa na ca, .slice pa np cp, .slice ra nr cr, .int .i64 sln, .int .i64 scl, .int .u8 (pl : Int), .slice la nl lc, .int .i64 ln, .int .i64 cl], .slice x T.length d] w' fun e w'' => e = .returned (.tuple #[.agg #[.string nm, .int .u8 1, .int .i64 0, .int .i64 V.v], .agg #[.int .i64 (V.c : Int), .int .i64 V.ln, .int .i64 V.cl]]) ∧ Below w'.heap.size w' w'') := fun w' hb hs => pmade1 w' k pl nl vk vl vc sk na ca np cp nr cr lc nm vm sm vn vln vcl sln scl ln cl va aa pa ra la x T.length d X (fun j => T.getD j sy0) hk1 (hX.later hb) (hs.el HOk.out).2 (by omega) (HW.out.later hb) V hV
      by_cases hc : V.c = 0
      ·obtain ⟨e1, e2, e3⟩ := qd4 (by rw [hV]; exact hc)
       rw [hV] at e1 e2 e3
       rw [e1, e2, hc] at HMd
       have e4 : -2147483647 ≤ V.v ∧ V.v ≤ 2147483647 := by simpa [nmB] using e3
       refine .inr (.inl ⟨V.v, .inl hk1, by omega, by omega, fun R hR => ?_, ?_⟩)
       ·rw [h1, if_neg (fun e => e hc), if_pos (.inl hk1)]; exact hR
       ·subst hk1; exact HMd
      ·refine .inl ⟨V.v, (V.c : Int), V.ln, V.cl, by omega, ?_, HMd⟩
       rw [h1, if_pos hc]
     ·have h1 := hst ⟨0, 0, 0, 0⟩ (by
       show (if k = 1 then _ else _) = _
       rw [if_neg hk1])
      rw [if_neg (fun e => e rfl)] at h1
      by_cases hk2 : k = 2
      ·refine .inr (.inl ⟨0, .inr hk2, by omega, by omega, fun R hR => ?_, ?_⟩)
       ·rw [h1, if_pos (.inr hk2)]; exact hR
       ·exact fun w' hb hs => by
         have h := pmade2 w' k pl nl vk vl vc sk na ca np cp nr cr lc nm vm sm vn vln vcl sln scl ln cl va aa pa ra la x T.length d hk2
         subst hk2
         exact h
      ·refine .inr (.inr ⟨?_, fun w' hb hs => pmade3 w' k pl nl vk vl vc sk na ca np cp nr cr lc nm vm sm vn vln vcl sln scl ln cl va aa pa ra la x T.length d ⟨hk1, hk2⟩⟩)
       rw [h1, if_neg (by omega)]
    clear hcl hX hSv hG hdp hF HFl HI HMi HW
    have M1 : True := trivial
    have M2 : True := trivial
    have M3 : True := trivial
    rcases hcase with ⟨vv, f0, f1, f2, hc, hst, HMd⟩ | ⟨vv, hk, hv1, hv2, hst, HMd⟩ | ⟨hst, HMd⟩
    ·have HBad : Hid (tbl F n = .error (f0, f1, f2)) := qbg hlt HT.out hst
     have q0 : (!((f0 == 0) && ((f1 == 0) && (f2 == 0)))) = true := by simp [hc]
     clear hc hst HBr
     go_wp2_with (first
     | (clear M1; refine wpList_load_mid rfl 61 _ rfl b _ rfl [.int .u8 (k : Int), .string nm, .int .u8 (vk : Int), .int .i64 vn, .string vm, .slice va vl vc, .int .i64 vln, .int .i64 vcl, .int .u8 (sk : Int), .string sm, .slice aa na ca, .slice pa np cp, .slice ra nr cr, .int .i64 sln, .int .i64 scl, .int .u8 (pl : Int), .slice la nl lc, .int .i64 ln, .int .i64 cl] _ HRg.out Tryd.underlying61 rfl qa2 ?_)
     | (clear M2; refine qa1 rfl 61 _ _ rfl wr.heap.size _ #[.int .u8 (k : Int), .string nm, .int .u8 (vk : Int), .int .i64 vn, .string vm, .slice va vl vc, .int .i64 vln, .int .i64 vcl, .int .u8 (sk : Int), .string sm, .slice aa na ca, .slice pa np cp, .slice ra nr cr, .int .i64 sln, .int .i64 scl, .int .u8 (pl : Int), .slice la nl lc, .int .i64 ln, .int .i64 cl] rfl rfl (Vn.new wr _ _) qa2 rfl (qbn rfl rfl rfl rfl rfl rfl rfl rfl rfl rfl rfl rfl rfl rfl rfl rfl rfl rfl rfl) ?_; intro w2 HV2 hg2; have hb2 : Below wr.heap.size wr w2 := (jlow _ _).trans (jbelow hg2.out (jlow _ _).size (fun g e => by cases e; exact Nat.le_refl _)); have HB2 := qa0 (jtwo HB1.out hb2); have HF2 := qa0 (HF1.out.later hb2); have HM2 := qa0 (HM1.out.later hb2); have HS2 := qa0 (HS1.out.later hb2); have z2 := hb2.size; clear hg2 hb2)
     | (refine wpList_load_row rfl 61 _ rfl wr.heap.size rfl 61 #[.int .u8 (k : Int), .string nm, .int .u8 (vk : Int), .int .i64 vn, .string vm, .slice va vl vc, .int .i64 vln, .int .i64 vcl, .int .u8 (sk : Int), .string sm, .slice aa na ca, .slice pa np cp, .slice ra nr cr, .int .i64 sln, .int .i64 scl, .int .u8 (pl : Int), .slice la nl lc, .int .i64 ln, .int .i64 cl] (0, 0) _ HV2.out Tryd.underlying61 rfl qa2 ?_)
     | (go_at_call 22; refine (HU.out _ HB2.out HM2.out).mono ?_; rintro e w3 ⟨rfl, hb3⟩; have HB3 := qa0 (jtwo HB2.out hb3); have HF3 := qa0 (HF2.out.later hb3); have HM3 := qa0 (HM2.out.later hb3); have HS3 := qa0 (HS2.out.later hb3); have z3 := hb3.size; have HV3 := qa0 (HV2.out.later hb3); clear hb3)
     | (clear M3; refine qa1 rfl 26 _ _ rfl w3.heap.size _ #[.int .i64 0, .int .i64 0, .int .i64 0] rfl rfl (Vn.new w3 _ _) qa4 rfl (all3 rfl rfl rfl) ?_; intro w4 HG4 hg4; have hb4 : Below w3.heap.size w3 w4 := (jlow _ _).trans (jbelow hg4.out (jlow _ _).size (fun g e => by cases e; exact Nat.le_refl _)); have HB4 := qa0 (jtwo HB3.out hb4); have HF4 := qa0 (HF3.out.later hb4); have HM4 := qa0 (HM3.out.later hb4); have HS4 := qa0 (HS3.out.later hb4); have z4 := hb4.size; have HV4 := qa0 (HV3.out.later hb4); have g0 := HG4.out.cell 0 _ rfl; have g1 := HG4.out.cell 1 _ rfl; have g2 := HG4.out.cell 2 _ rfl; clear hg4 hb4)
     | (refine wpList_load_row rfl 61 _ rfl wr.heap.size rfl 61 #[.int .u8 (k : Int), .string nm, .int .u8 (vk : Int), .int .i64 vn, .string vm, .slice va vl vc, .int .i64 vln, .int .i64 vcl, .int .u8 (sk : Int), .string sm, .slice aa na ca, .slice pa np cp, .slice ra nr cr, .int .i64 sln, .int .i64 scl, .int .u8 (pl : Int), .slice la nl lc, .int .i64 ln, .int .i64 cl] (0, 0) _ HV4.out Tryd.underlying61 rfl qa2 ?_)
     | (go_at_call 23; refine (HMd.out _ HB4.out HS4.out).mono ?_; rintro e w5 ⟨rfl, hb5⟩; have HB5 := qa0 (jtwo HB4.out hb5); have HF5 := qa0 (HF4.out.later hb5); have HM5 := qa0 (HM4.out.later hb5); have HS5 := qa0 (HS4.out.later hb5); have z5 := hb5.size; have HV5 := qa0 (HV4.out.later hb5); clear hb5; obtain ⟨w7, HW7⟩ : ∃ w7, Hid (w7 = (w5.alloc (.cells #[.string nm, .int .u8 1, .int .i64 0, .int .i64 vv] 35)).alloc (.cells #[.int .i64 f0, .int .i64 f1, .int .i64 f2] 26)) := ⟨_, rfl⟩; have HB57 : Hid (Below w5.heap.size w5 w7) := (by show Below _ _ _; rw [HW7.out]; exact jtwo (jlow _ _) (jlow _ _)); have HY7 : Hid (Vn w7 w5.heap.size 35 #[.string nm, .int .u8 1, .int .i64 0, .int .i64 vv]) := (by show Vn _ _ _ _; rw [HW7.out]; exact (Vn.new _ _ _).later (jlow _ _)); have HG7 : Hid (Vn w7 (w5.heap.size + 1) 26 #[.int .i64 f0, .int .i64 f1, .int .i64 f2]) := (by show Vn _ _ _ _; have h := Vn.new (w5.alloc (.cells #[.string nm, .int .u8 1, .int .i64 0, .int .i64 vv] 35)) 26 #[.int .i64 f0, .int .i64 f1, .int .i64 f2]; rw [World.size_alloc] at h; rw [HW7.out]; exact h); have HB7 := qa0 (jtwo HB5.out HB57.out); have HF7 := qa0 (HF5.out.later HB57.out); have HM7 := qa0 (HM5.out.later HB57.out); have HS7 := qa0 (HS5.out.later HB57.out); have z7 := HB57.out.size; have HV7 := qa0 (HV5.out.later HB57.out)))
     have hzz := HG7.out.lt
     clear HU HRg HV2 HV3 HV4
     rw [← HW7.out]
     refine wp_region_held (S := fun w' => Vn w' (w5.heap.size + 1) 26 #[.int .i64 f0, .int .i64 f1, .int .i64 f2]) (by kernel_rfl) ?_
     change wpAnyH _ _ _ _ _ _ _ _ (World.drew _)
     obtain ⟨wd, HWd⟩ : ∃ wd, Hid (World.drew w7 = wd) := ⟨_, rfl⟩
     have HBd : Hid (Below w.heap.size w wd) := by show Below _ _ _; rw [← HWd.out]; exact HB7.out.drew
     have HFd : Hid (Vn wd w.heap.size 26 #[.int .i64 0, .int .i64 0, .int .i64 0]) := by show Vn _ _ _ _; rw [← HWd.out]; exact HF7.out
     have HYd : Hid (Vn wd ((w5.heap.size + 1)) 26 #[.int .i64 f0, .int .i64 f1, .int .i64 f2]) := by show Vn _ _ _ _; rw [← HWd.out]; exact HG7.out
     rw [HWd.out]
     clear HWd
     refine wtkq 0 ?vb0 rfl (by kernel_rfl) (fun _ _ _ h => h) (by rfl) ?yb0 HYd.out ?zb0
     case yb0 => (intro w hSw; (try dsimp only at hSw); have r0 := hSw.cell 0 _ rfl; have r1 := hSw.cell 1 _ rfl; have r2 := hSw.cell 2 _ rfl; clear hSw; go_simp; try with_reducible rfl)
     try simp only [mz1, mz3, Act.put, mz4, mz5, mz6]
     refine wtkq 1 ?vb1 rfl (by kernel_rfl) (fun _ _ _ h => h) (by rfl) ?yb1 HYd.out ?zb1
     case yb1 => (intro w hSw; (try dsimp only at hSw); have r0 := hSw.cell 0 _ rfl; have r1 := hSw.cell 1 _ rfl; have r2 := hSw.cell 2 _ rfl; clear hSw; go_simp; try with_reducible rfl)
     try simp only [mz1, mz2, mz3, Act.put, mz4, mz5, mz6]
     refine wpAnyH_ready (rs := [2]) (by kernel_rfl) (by simp) ?_
     refine AllReadyH.cons rfl (fun K hK => ?_) AllReadyH.nil
     refine qa3 26 _ _ rfl w.heap.size _ #[.int .i64 f0, .int .i64 f1, .int .i64 f2] rfl rfl HFd.out qa4 rfl (all3 rfl rfl rfl) ?_; intro w8 HF8 hg8; have HY8 := qa0 (HYd.out.keptR hg8.out (by simp; omega))
     refine hK.out _ _ HY8.out (fun _ => ?_)
     clear hK K
     try simp only [mz1, mz2, mz3, Act.put]
     refine wpAnyH_done (by kernel_rfl) ?_ _
     try simp only [mz1, mz2, mz3, Act.put, mz4, mz5, mz6]
     go_wp2
     have d0 := HF8.out.cell 0 _ rfl
     have d1 := HF8.out.cell 1 _ rfl
     have d2 := HF8.out.cell 2 _ rfl
     have HB8 : Below w.heap.size w w8 := HBd.out.trans (jbelow hg8.out HBd.out.size (fun g e => by cases e; exact Nat.le_refl _))
     refine bodyPost_ret (v := .tuple #[.slice none 0 0, .agg #[.int .i64 f0, .int .i64 f1, .int .i64 f2]]) (by simp [results, Tryd.results9, go_sem, d0, d1, d2]) rfl ?_
     exact ⟨by rw [HBad.out]; exact rfl, HB8⟩
    ·have q1 : ((k : Int) == 0) = false := by simp; omega
     have HK := qa0 (WideMaps.keyOf_string_mk (P := Tryd.prog) (k := 9) Tryd.underlying9 (s := nm) (by unfold maxLen; omega))
     have hwf : (Lit.int .u8 (k : Int)).wf = true := by rcases hk with rfl | rfl <;> decide
     have HWf := qa0 hwf
     clear hwf
     cases hsk : skd T nm with
     | some kk =>
      have HBad : Hid (tbl F n = .error (130, ln, cl)) := qbg hlt HT.out (hst _ (by rw [hsk]; rfl))
      clear hst HBr
      go_wp2_with (first
     | (clear M1; refine wpList_load_mid rfl 61 _ rfl b _ rfl [.int .u8 (k : Int), .string nm, .int .u8 (vk : Int), .int .i64 vn, .string vm, .slice va vl vc, .int .i64 vln, .int .i64 vcl, .int .u8 (sk : Int), .string sm, .slice aa na ca, .slice pa np cp, .slice ra nr cr, .int .i64 sln, .int .i64 scl, .int .u8 (pl : Int), .slice la nl lc, .int .i64 ln, .int .i64 cl] _ HRg.out Tryd.underlying61 rfl qa2 ?_)
     | (clear M2; refine qa1 rfl 61 _ _ rfl wr.heap.size _ #[.int .u8 (k : Int), .string nm, .int .u8 (vk : Int), .int .i64 vn, .string vm, .slice va vl vc, .int .i64 vln, .int .i64 vcl, .int .u8 (sk : Int), .string sm, .slice aa na ca, .slice pa np cp, .slice ra nr cr, .int .i64 sln, .int .i64 scl, .int .u8 (pl : Int), .slice la nl lc, .int .i64 ln, .int .i64 cl] rfl rfl (Vn.new wr _ _) qa2 rfl (qbn rfl rfl rfl rfl rfl rfl rfl rfl rfl rfl rfl rfl rfl rfl rfl rfl rfl rfl rfl) ?_; intro w2 HV2 hg2; have hb2 : Below wr.heap.size wr w2 := (jlow _ _).trans (jbelow hg2.out (jlow _ _).size (fun g e => by cases e; exact Nat.le_refl _)); have HB2 := qa0 (jtwo HB1.out hb2); have HF2 := qa0 (HF1.out.later hb2); have HM2 := qa0 (HM1.out.later hb2); have HS2 := qa0 (HS1.out.later hb2); have z2 := hb2.size; clear hg2 hb2)
     | (refine wpList_load_row rfl 61 _ rfl wr.heap.size rfl 61 #[.int .u8 (k : Int), .string nm, .int .u8 (vk : Int), .int .i64 vn, .string vm, .slice va vl vc, .int .i64 vln, .int .i64 vcl, .int .u8 (sk : Int), .string sm, .slice aa na ca, .slice pa np cp, .slice ra nr cr, .int .i64 sln, .int .i64 scl, .int .u8 (pl : Int), .slice la nl lc, .int .i64 ln, .int .i64 cl] (0, 0) _ HV2.out Tryd.underlying61 rfl qa2 ?_)
     | (go_at_call 22; refine (HU.out _ HB2.out HM2.out).mono ?_; rintro e w3 ⟨rfl, hb3⟩; have HB3 := qa0 (jtwo HB2.out hb3); have HF3 := qa0 (HF2.out.later hb3); have HM3 := qa0 (HM2.out.later hb3); have HS3 := qa0 (HS2.out.later hb3); have z3 := hb3.size; have HV3 := qa0 (HV2.out.later hb3); clear hb3)
     | (clear M3; refine qa1 rfl 26 _ _ rfl w3.heap.size _ #[.int .i64 0, .int .i64 0, .int .i64 0] rfl rfl (Vn.new w3 _ _) qa4 rfl (all3 rfl rfl rfl) ?_; intro w4 HG4 hg4; have hb4 : Below w3.heap.size w3 w4 := (jlow _ _).trans (jbelow hg4.out (jlow _ _).size (fun g e => by cases e; exact Nat.le_refl _)); have HB4 := qa0 (jtwo HB3.out hb4); have HF4 := qa0 (HF3.out.later hb4); have HM4 := qa0 (HM3.out.later hb4); have HS4 := qa0 (HS3.out.later hb4); have z4 := hb4.size; have HV4 := qa0 (HV3.out.later hb4); have g0 := HG4.out.cell 0 _ rfl; have g1 := HG4.out.cell 1 _ rfl; have g2 := HG4.out.cell 2 _ rfl; clear hg4 hb4)
     | (refine wpList_load_row rfl 61 _ rfl wr.heap.size rfl 61 #[.int .u8 (k : Int), .string nm, .int .u8 (vk : Int), .int .i64 vn, .string vm, .slice va vl vc, .int .i64 vln, .int .i64 vcl, .int .u8 (sk : Int), .string sm, .slice aa na ca, .slice pa np cp, .slice ra nr cr, .int .i64 sln, .int .i64 scl, .int .u8 (pl : Int), .slice la nl lc, .int .i64 ln, .int .i64 cl] (0, 0) _ HV4.out Tryd.underlying61 rfl qa2 ?_)
     | (go_at_call 23; refine (HMd.out _ HB4.out HS4.out).mono ?_; rintro e w5 ⟨rfl, hb5⟩; have HB5 := qa0 (jtwo HB4.out hb5); have HF5 := qa0 (HF4.out.later hb5); have HM5 := qa0 (HM4.out.later hb5); have HS5 := qa0 (HS4.out.later hb5); have z5 := hb5.size; have HV5 := qa0 (HV4.out.later hb5); clear hb5; obtain ⟨w7, HW7⟩ : ∃ w7, Hid (w7 = (w5.alloc (.cells #[.string nm, .int .u8 (k : Int), .int .i64 0, .int .i64 vv] 35)).alloc (.cells #[.int .i64 0, .int .i64 0, .int .i64 0] 26)) := ⟨_, rfl⟩; have HB57 : Hid (Below w5.heap.size w5 w7) := (by show Below _ _ _; rw [HW7.out]; exact jtwo (jlow _ _) (jlow _ _)); have HY7 : Hid (Vn w7 w5.heap.size 35 #[.string nm, .int .u8 (k : Int), .int .i64 0, .int .i64 vv]) := (by show Vn _ _ _ _; rw [HW7.out]; exact (Vn.new _ _ _).later (jlow _ _)); have HG7 : Hid (Vn w7 (w5.heap.size + 1) 26 #[.int .i64 0, .int .i64 0, .int .i64 0]) := (by show Vn _ _ _ _; have h := Vn.new (w5.alloc (.cells #[.string nm, .int .u8 (k : Int), .int .i64 0, .int .i64 vv] 35)) 26 #[.int .i64 0, .int .i64 0, .int .i64 0]; rw [World.size_alloc] at h; rw [HW7.out]; exact h); have HB7 := qa0 (jtwo HB5.out HB57.out); have HF7 := qa0 (HF5.out.later HB57.out); have HM7 := qa0 (HM5.out.later HB57.out); have HS7 := qa0 (HS5.out.later HB57.out); have z7 := HB57.out.size; have HV7 := qa0 (HV5.out.later HB57.out))
     | (at_lookup; go_loud (rw [← HW7.out]; obtain ⟨Dm, hO7, hD7⟩ := HM7.out; have hh : Maps.has Dm (.string nm.data.toList) = true := (by rw [(hD7 nm hnm).1, hsk]; rfl); refine wpList_lookup_own_ok_int _ rfl _ _ 65 rfl 9 33 .u8 qaw Tryd.underlying65 Tryd.underlying33 (qbr _) w1.heap.size T.length Dm rfl hO7 _ _ rfl HK.out ?_; intro cc hat hwc; clear hat hwc; clear hO7 hD7)))
      clear HU HRg HV2 HV3 HV4
      refine wp_region_held (S := fun w' => Vn w' wr.heap.size 61 #[.int .u8 (k : Int), .string nm, .int .u8 (vk : Int), .int .i64 vn, .string vm, .slice va vl vc, .int .i64 vln, .int .i64 vcl, .int .u8 (sk : Int), .string sm, .slice aa na ca, .slice pa np cp, .slice ra nr cr, .int .i64 sln, .int .i64 scl, .int .u8 (pl : Int), .slice la nl lc, .int .i64 ln, .int .i64 cl]) (by kernel_rfl) ?_
      change wpAnyH _ _ _ _ _ _ _ _ (World.drew _)
      obtain ⟨wd, HWd⟩ : ∃ wd, Hid (World.drew w7 = wd) := ⟨_, rfl⟩
      have HBd : Hid (Below w.heap.size w wd) := by show Below _ _ _; rw [← HWd.out]; exact HB7.out.drew
      have HFd : Hid (Vn wd w.heap.size 26 #[.int .i64 0, .int .i64 0, .int .i64 0]) := by show Vn _ _ _ _; rw [← HWd.out]; exact HF7.out
      have HYd : Hid (Vn wd wr.heap.size 61 #[.int .u8 (k : Int), .string nm, .int .u8 (vk : Int), .int .i64 vn, .string vm, .slice va vl vc, .int .i64 vln, .int .i64 vcl, .int .u8 (sk : Int), .string sm, .slice aa na ca, .slice pa np cp, .slice ra nr cr, .int .i64 sln, .int .i64 scl, .int .u8 (pl : Int), .slice la nl lc, .int .i64 ln, .int .i64 cl]) := by show Vn _ _ _ _; rw [← HWd.out]; exact HV7.out
      rw [HWd.out]
      clear HWd
      refine wtkq 0 ?vd0 rfl (by kernel_rfl) (fun _ _ _ h => h) (by rfl) ?yd0 HYd.out ?zd0
      case yd0 => (intro w hSw; (try dsimp only at hSw); have r0 := hSw.cell 17 _ rfl; have r1 := hSw.cell 18 _ rfl; clear hSw; go_simp; try with_reducible rfl)
      try simp only [mz1, mz3, Act.put, mz4, mz5, mz6]
      refine wtkq 1 ?vd1 rfl (by kernel_rfl) (fun _ _ _ h => h) (by rfl) ?yd1 HYd.out ?zd1
      case yd1 => (intro w hSw; (try dsimp only at hSw); have r0 := hSw.cell 17 _ rfl; have r1 := hSw.cell 18 _ rfl; clear hSw; go_simp; try with_reducible rfl)
      try simp only [mz1, mz2, mz3, Act.put, mz4, mz5, mz6]
      refine wtkq 2 ?vd2 rfl (by kernel_rfl) (fun _ _ _ h => h) (by rfl) ?yd2 HYd.out ?zd2
      case yd2 => (intro w hSw; (try dsimp only at hSw); have r0 := hSw.cell 17 _ rfl; have r1 := hSw.cell 18 _ rfl; clear hSw; go_simp; try with_reducible rfl)
      try simp only [mz1, mz2, mz3, Act.put, mz4, mz5, mz6]
      refine wtkq 3 ?vd3 rfl (by kernel_rfl) (fun _ _ _ h => h) (by rfl) ?yd3 HYd.out ?zd3
      case yd3 => (intro w hSw; (try dsimp only at hSw); have r0 := hSw.cell 17 _ rfl; have r1 := hSw.cell 18 _ rfl; clear hSw; go_simp; try with_reducible rfl)
      try simp only [mz1, mz2, mz3, Act.put, mz4, mz5, mz6]
      refine wtkq 4 ?vd4 rfl (by kernel_rfl) (fun _ _ _ h => h) (by rfl) ?yd4 HYd.out ?zd4
      case yd4 => (intro w hSw; (try dsimp only at hSw); have r0 := hSw.cell 17 _ rfl; have r1 := hSw.cell 18 _ rfl; clear hSw; go_simp; try with_reducible rfl)
      try simp only [mz1, mz2, mz3, Act.put, mz4, mz5, mz6]
      refine wtkq 5 ?vd5 rfl (by kernel_rfl) (fun _ _ _ h => h) (by rfl) ?yd5 HYd.out ?zd5
      case yd5 => (intro w hSw; (try dsimp only at hSw); have r0 := hSw.cell 17 _ rfl; have r1 := hSw.cell 18 _ rfl; clear hSw; go_simp; try with_reducible rfl)
      try simp only [mz1, mz2, mz3, Act.put, mz4, mz5, mz6]
      refine wpAnyH_ready (rs := [6]) (by kernel_rfl) (by simp) ?_
      refine AllReadyH.cons rfl (fun K hK => ?_) AllReadyH.nil
      refine qa3 26 _ _ rfl w.heap.size _ #[.int .i64 130, .int .i64 ln, .int .i64 cl] rfl rfl HFd.out qa4 rfl (all3 rfl rfl rfl) ?_; intro w8 HF8 hg8; have HY8 := qa0 (HYd.out.keptR hg8.out (by simp; omega))
      refine hK.out _ _ HY8.out (fun _ => ?_)
      clear hK K
      try simp only [mz1, mz2, mz3, Act.put]
      refine wpAnyH_done (by kernel_rfl) ?_ _
      try simp only [mz1, mz2, mz3, Act.put, mz4, mz5, mz6]
      go_wp2
      have d0 := HF8.out.cell 0 _ rfl
      have d1 := HF8.out.cell 1 _ rfl
      have d2 := HF8.out.cell 2 _ rfl
      have HB8 : Below w.heap.size w w8 := HBd.out.trans (jbelow hg8.out HBd.out.size (fun g e => by cases e; exact Nat.le_refl _))
      refine bodyPost_ret (v := .tuple #[.slice none 0 0, .agg #[.int .i64 130, .int .i64 ln, .int .i64 cl]]) (by simp [results, Tryd.results9, go_sem, d0, d1, d2]) rfl ?_
      exact ⟨by rw [HBad.out]; exact rfl, HB8⟩
     | none =>
      have HT2 := qa0 (qdi HT.out (hst _ (by rw [hsk]; rfl)))
      clear hst HBr
      go_wp2_with (first
     | (clear M1; refine wpList_load_mid rfl 61 _ rfl b _ rfl [.int .u8 (k : Int), .string nm, .int .u8 (vk : Int), .int .i64 vn, .string vm, .slice va vl vc, .int .i64 vln, .int .i64 vcl, .int .u8 (sk : Int), .string sm, .slice aa na ca, .slice pa np cp, .slice ra nr cr, .int .i64 sln, .int .i64 scl, .int .u8 (pl : Int), .slice la nl lc, .int .i64 ln, .int .i64 cl] _ HRg.out Tryd.underlying61 rfl qa2 ?_)
     | (clear M2; refine qa1 rfl 61 _ _ rfl wr.heap.size _ #[.int .u8 (k : Int), .string nm, .int .u8 (vk : Int), .int .i64 vn, .string vm, .slice va vl vc, .int .i64 vln, .int .i64 vcl, .int .u8 (sk : Int), .string sm, .slice aa na ca, .slice pa np cp, .slice ra nr cr, .int .i64 sln, .int .i64 scl, .int .u8 (pl : Int), .slice la nl lc, .int .i64 ln, .int .i64 cl] rfl rfl (Vn.new wr _ _) qa2 rfl (qbn rfl rfl rfl rfl rfl rfl rfl rfl rfl rfl rfl rfl rfl rfl rfl rfl rfl rfl rfl) ?_; intro w2 HV2 hg2; have hb2 : Below wr.heap.size wr w2 := (jlow _ _).trans (jbelow hg2.out (jlow _ _).size (fun g e => by cases e; exact Nat.le_refl _)); have HB2 := qa0 (jtwo HB1.out hb2); have HF2 := qa0 (HF1.out.later hb2); have HM2 := qa0 (HM1.out.later hb2); have HS2 := qa0 (HS1.out.later hb2); have z2 := hb2.size; clear hg2 hb2)
     | (refine wpList_load_row rfl 61 _ rfl wr.heap.size rfl 61 #[.int .u8 (k : Int), .string nm, .int .u8 (vk : Int), .int .i64 vn, .string vm, .slice va vl vc, .int .i64 vln, .int .i64 vcl, .int .u8 (sk : Int), .string sm, .slice aa na ca, .slice pa np cp, .slice ra nr cr, .int .i64 sln, .int .i64 scl, .int .u8 (pl : Int), .slice la nl lc, .int .i64 ln, .int .i64 cl] (0, 0) _ HV2.out Tryd.underlying61 rfl qa2 ?_)
     | (go_at_call 22; refine (HU.out _ HB2.out HM2.out).mono ?_; rintro e w3 ⟨rfl, hb3⟩; have HB3 := qa0 (jtwo HB2.out hb3); have HF3 := qa0 (HF2.out.later hb3); have HM3 := qa0 (HM2.out.later hb3); have HS3 := qa0 (HS2.out.later hb3); have z3 := hb3.size; have HV3 := qa0 (HV2.out.later hb3); clear hb3)
     | (clear M3; refine qa1 rfl 26 _ _ rfl w3.heap.size _ #[.int .i64 0, .int .i64 0, .int .i64 0] rfl rfl (Vn.new w3 _ _) qa4 rfl (all3 rfl rfl rfl) ?_; intro w4 HG4 hg4; have hb4 : Below w3.heap.size w3 w4 := (jlow _ _).trans (jbelow hg4.out (jlow _ _).size (fun g e => by cases e; exact Nat.le_refl _)); have HB4 := qa0 (jtwo HB3.out hb4); have HF4 := qa0 (HF3.out.later hb4); have HM4 := qa0 (HM3.out.later hb4); have HS4 := qa0 (HS3.out.later hb4); have z4 := hb4.size; have HV4 := qa0 (HV3.out.later hb4); have g0 := HG4.out.cell 0 _ rfl; have g1 := HG4.out.cell 1 _ rfl; have g2 := HG4.out.cell 2 _ rfl; clear hg4 hb4)
     | (refine wpList_load_row rfl 61 _ rfl wr.heap.size rfl 61 #[.int .u8 (k : Int), .string nm, .int .u8 (vk : Int), .int .i64 vn, .string vm, .slice va vl vc, .int .i64 vln, .int .i64 vcl, .int .u8 (sk : Int), .string sm, .slice aa na ca, .slice pa np cp, .slice ra nr cr, .int .i64 sln, .int .i64 scl, .int .u8 (pl : Int), .slice la nl lc, .int .i64 ln, .int .i64 cl] (0, 0) _ HV4.out Tryd.underlying61 rfl qa2 ?_)
     | (go_at_call 23; refine (HMd.out _ HB4.out HS4.out).mono ?_; rintro e w5 ⟨rfl, hb5⟩; have HB5 := qa0 (jtwo HB4.out hb5); have HF5 := qa0 (HF4.out.later hb5); have HM5 := qa0 (HM4.out.later hb5); have HS5 := qa0 (HS4.out.later hb5); have z5 := hb5.size; have HV5 := qa0 (HV4.out.later hb5); clear hb5; obtain ⟨w7, HW7⟩ : ∃ w7, Hid (w7 = (w5.alloc (.cells #[.string nm, .int .u8 (k : Int), .int .i64 0, .int .i64 vv] 35)).alloc (.cells #[.int .i64 0, .int .i64 0, .int .i64 0] 26)) := ⟨_, rfl⟩; have HB57 : Hid (Below w5.heap.size w5 w7) := (by show Below _ _ _; rw [HW7.out]; exact jtwo (jlow _ _) (jlow _ _)); have HY7 : Hid (Vn w7 w5.heap.size 35 #[.string nm, .int .u8 (k : Int), .int .i64 0, .int .i64 vv]) := (by show Vn _ _ _ _; rw [HW7.out]; exact (Vn.new _ _ _).later (jlow _ _)); have HG7 : Hid (Vn w7 (w5.heap.size + 1) 26 #[.int .i64 0, .int .i64 0, .int .i64 0]) := (by show Vn _ _ _ _; have h := Vn.new (w5.alloc (.cells #[.string nm, .int .u8 (k : Int), .int .i64 0, .int .i64 vv] 35)) 26 #[.int .i64 0, .int .i64 0, .int .i64 0]; rw [World.size_alloc] at h; rw [HW7.out]; exact h); have HB7 := qa0 (jtwo HB5.out HB57.out); have HF7 := qa0 (HF5.out.later HB57.out); have HM7 := qa0 (HM5.out.later HB57.out); have HS7 := qa0 (HS5.out.later HB57.out); have z7 := HB57.out.size; have HV7 := qa0 (HV5.out.later HB57.out))
     | (at_lookup; go_loud (rw [← HW7.out]; obtain ⟨Dm, hO7, hD7⟩ := HM7.out; have hh : Maps.has Dm (.string nm.data.toList) = false := (by rw [(hD7 nm hnm).1, hsk]; rfl); refine wpList_lookup_own_ok_int _ rfl _ _ 65 rfl 9 33 .u8 qaw Tryd.underlying65 Tryd.underlying33 (qbr _) w1.heap.size T.length Dm rfl hO7 _ _ rfl HK.out ?_; intro cc hat hwc; clear hat hwc; have HD7 := qa0 hD7; have HIm := qa0 hO7.isMap; have f2 := HY7.out.free 2; have s2 := HY7.out.cell 2 _ rfl; have HY8 : Hid (Vn (w7.setCell ⟨w5.heap.size, 2, none⟩ (.int .i64 (i : Int))) w5.heap.size 35 #[.string nm, .int .u8 (k : Int), .int .i64 (i : Int), .int .i64 vv]) := HY7.out.set 2 _; have HO8 := qa0 (hO7.kept (qaj w7 w5.heap.size 2 (.int .i64 (i : Int))) (by simp; omega)); have HF8 := qa0 (HF7.out.keptR (qaj w7 w5.heap.size 2 (.int .i64 (i : Int))) (by simp; omega)); have HB8 : Hid (Below w.heap.size w (w7.setCell ⟨w5.heap.size, 2, none⟩ (.int .i64 (i : Int)))) := HB7.out.trans (jbelow (qaj w7 w5.heap.size 2 (.int .i64 (i : Int))) HB7.out.size (fun g e => by cases e; omega)); have HS8 := qa0 (HS7.out.kept (qaj w7 w5.heap.size 2 (.int .i64 (i : Int))) (by cases hx : (Value.slice x T.length d).ownBlock with | none => exact .inl rfl | some g => exact .inr (fun e => by cases e; have := (HS5.out.base hx).2; omega))); have t0 := HY8.out.cell 0 _ rfl; have t1 := HY8.out.cell 1 _ rfl; have t2 := HY8.out.cell 2 _ rfl; have t3 := HY8.out.cell 3 _ rfl; clear hO7 hD7))
     | (at_mapUpdate; go_loud (refine wpList_mapUpdate_own _ rfl _ _ _ 65 rfl 9 33 qaw Tryd.underlying65 _ w1.heap.size T.length Dm rfl HO8.out (by unfold maxLen; omega) _ _ _ rfl rfl HK.out _ [] (plainElem_int Tryd.underlying33 HWf.out) ?_; intro w9 hO9 hg9; have HM9 : Hid (Mk w9 w1.heap.size (T.length + 1) (skd (T ++ [⟨nm, k, i, vv⟩]))) := ⟨_, hO9, mkD_put (y := ⟨nm, k, i, vv⟩) HD7.out HIm.out hsk⟩; have HB9 : Hid (Below w.heap.size w w9) := HB8.out.trans (jbelow hg9 HB8.out.size (fun g e => by cases e; omega)); have HF9 := qa0 (HF8.out.keptR hg9 (by simp; omega)); have HY9 := qa0 (HY8.out.keptR hg9 (by simp; omega)); have HS9 := qa0 (HS8.out.kept hg9 (by cases hx : (Value.slice x T.length d).ownBlock with | none => exact .inl rfl | some g => exact .inr (fun e => by cases e; have := (HS8.out.base hx).1; omega))); have z9 := HM9.out.lt; have u0 := HY9.out.cell 0 _ rfl; have u1 := HY9.out.cell 1 _ rfl; have u2 := HY9.out.cell 2 _ rfl; have u3 := HY9.out.cell 3 _ rfl; clear hO9 hg9))
     | (at_builtin; go_loud (refine wpList_append_own _ rfl _ _ 23 rfl (w1.heap.size + 1) 35 i0 (.agg #[.string ⟨#[]⟩, .int .u8 0, .int .i64 0, .int .i64 0]) 4 40 Tryd.underlying23 hi0 hz0 hz1 hz2 rfl (by decide) _ T.length _ rfl (HS9.out.later (jlow _ _)) ⟨w9.heap.size, 0, none⟩ 1 1 [.string nm, .int .u8 (k : Int), .int .i64 (i : Int), .int .i64 vv] rfl rfl (qax _ _ _) (by intro u hu; simp at hu; rcases hu with rfl | rfl | rfl | rfl <;> rfl) (by unfold maxLen; omega) (by omega) (by simp; omega) ?_; intro v' w10 hown' hgrow' _; have HS10 : Hid (Sw w10 (w1.heap.size + 1) v' (T ++ [⟨nm, k, i, vv⟩])) := Sw.push hown'; have hb10 : Below w.heap.size w w10 := (HB9.out.trans ((jlow _ _).mono HB9.out.size)).trans (jbelow hgrow' (by have := HB9.out.size; simp; omega) (fun g hg => by have := (HS9.out.base hg).1; omega)); have HB10 := qa0 hb10; have HF10 := qa0 ((HF9.out.later (jlow _ _)).keptR hgrow' (fun e => by have := (HS9.out.base (g := w.heap.size) e.symm).1; omega)); have HM10 : Hid (Mk w10 w1.heap.size (T.length + 1) (skd (T ++ [⟨nm, k, i, vv⟩]))) := (by obtain ⟨D9, h1, h2⟩ := HM9.out; exact ⟨D9, (qan h1 (jlow _ _)).kept hgrow' (fun e => by have := (HS9.out.base (g := w1.heap.size) e.symm).1; omega), h2⟩); clear hown' hgrow' hb10)))
      obtain ⟨x', d', rfl, _⟩ := HS10.out.form
      refine ⟨⟨i + 1, _, by omega, by go_num, HT2, ⟨x', d', rfl⟩, HS10, ?_, by rw [List.length_append]; show _ + 1 ≤ _; omega, fun y hy => ?_, HF10, HB10⟩, by simp [intOf]; omega⟩
      ·show Mk _ _ _ _
       rw [List.length_append]
       exact HM10.out
      ·rcases List.mem_append.1 hy with hy | hy
       ·exact HOk.out y hy
       ·rw [List.mem_singleton.1 hy]
        exact ⟨hnm, k8, by show _ ≤ (i : Int); omega, by show (i : Int) ≤ _; omega, hv1, hv2⟩
    ·have HT2 := qa0 (qdi HT.out hst)
     clear hst HBr
     go_wp2_with (first
     | (clear M1; refine wpList_load_mid rfl 61 _ rfl b _ rfl [.int .u8 (k : Int), .string nm, .int .u8 (vk : Int), .int .i64 vn, .string vm, .slice va vl vc, .int .i64 vln, .int .i64 vcl, .int .u8 (sk : Int), .string sm, .slice aa na ca, .slice pa np cp, .slice ra nr cr, .int .i64 sln, .int .i64 scl, .int .u8 (pl : Int), .slice la nl lc, .int .i64 ln, .int .i64 cl] _ HRg.out Tryd.underlying61 rfl qa2 ?_)
     | (clear M2; refine qa1 rfl 61 _ _ rfl wr.heap.size _ #[.int .u8 (k : Int), .string nm, .int .u8 (vk : Int), .int .i64 vn, .string vm, .slice va vl vc, .int .i64 vln, .int .i64 vcl, .int .u8 (sk : Int), .string sm, .slice aa na ca, .slice pa np cp, .slice ra nr cr, .int .i64 sln, .int .i64 scl, .int .u8 (pl : Int), .slice la nl lc, .int .i64 ln, .int .i64 cl] rfl rfl (Vn.new wr _ _) qa2 rfl (qbn rfl rfl rfl rfl rfl rfl rfl rfl rfl rfl rfl rfl rfl rfl rfl rfl rfl rfl rfl) ?_; intro w2 HV2 hg2; have hb2 : Below wr.heap.size wr w2 := (jlow _ _).trans (jbelow hg2.out (jlow _ _).size (fun g e => by cases e; exact Nat.le_refl _)); have HB2 := qa0 (jtwo HB1.out hb2); have HF2 := qa0 (HF1.out.later hb2); have HM2 := qa0 (HM1.out.later hb2); have HS2 := qa0 (HS1.out.later hb2); have z2 := hb2.size; clear hg2 hb2)
     | (refine wpList_load_row rfl 61 _ rfl wr.heap.size rfl 61 #[.int .u8 (k : Int), .string nm, .int .u8 (vk : Int), .int .i64 vn, .string vm, .slice va vl vc, .int .i64 vln, .int .i64 vcl, .int .u8 (sk : Int), .string sm, .slice aa na ca, .slice pa np cp, .slice ra nr cr, .int .i64 sln, .int .i64 scl, .int .u8 (pl : Int), .slice la nl lc, .int .i64 ln, .int .i64 cl] (0, 0) _ HV2.out Tryd.underlying61 rfl qa2 ?_)
     | (go_at_call 22; refine (HU.out _ HB2.out HM2.out).mono ?_; rintro e w3 ⟨rfl, hb3⟩; have HB3 := qa0 (jtwo HB2.out hb3); have HF3 := qa0 (HF2.out.later hb3); have HM3 := qa0 (HM2.out.later hb3); have HS3 := qa0 (HS2.out.later hb3); have z3 := hb3.size; have HV3 := qa0 (HV2.out.later hb3); clear hb3)
     | (clear M3; refine qa1 rfl 26 _ _ rfl w3.heap.size _ #[.int .i64 0, .int .i64 0, .int .i64 0] rfl rfl (Vn.new w3 _ _) qa4 rfl (all3 rfl rfl rfl) ?_; intro w4 HG4 hg4; have hb4 : Below w3.heap.size w3 w4 := (jlow _ _).trans (jbelow hg4.out (jlow _ _).size (fun g e => by cases e; exact Nat.le_refl _)); have HB4 := qa0 (jtwo HB3.out hb4); have HF4 := qa0 (HF3.out.later hb4); have HM4 := qa0 (HM3.out.later hb4); have HS4 := qa0 (HS3.out.later hb4); have z4 := hb4.size; have HV4 := qa0 (HV3.out.later hb4); have g0 := HG4.out.cell 0 _ rfl; have g1 := HG4.out.cell 1 _ rfl; have g2 := HG4.out.cell 2 _ rfl; clear hg4 hb4)
     | (refine wpList_load_row rfl 61 _ rfl wr.heap.size rfl 61 #[.int .u8 (k : Int), .string nm, .int .u8 (vk : Int), .int .i64 vn, .string vm, .slice va vl vc, .int .i64 vln, .int .i64 vcl, .int .u8 (sk : Int), .string sm, .slice aa na ca, .slice pa np cp, .slice ra nr cr, .int .i64 sln, .int .i64 scl, .int .u8 (pl : Int), .slice la nl lc, .int .i64 ln, .int .i64 cl] (0, 0) _ HV4.out Tryd.underlying61 rfl qa2 ?_)
     | (go_at_call 23; refine (HMd.out _ HB4.out HS4.out).mono ?_; rintro e w5 ⟨rfl, hb5⟩; have HB5 := qa0 (jtwo HB4.out hb5); have HF5 := qa0 (HF4.out.later hb5); have HM5 := qa0 (HM4.out.later hb5); have HS5 := qa0 (HS4.out.later hb5); have z5 := hb5.size; have HV5 := qa0 (HV4.out.later hb5); clear hb5; obtain ⟨w7, HW7⟩ : ∃ w7, Hid (w7 = (w5.alloc (.cells #[.string ⟨#[]⟩, .int .u8 0, .int .i64 0, .int .i64 0] 35)).alloc (.cells #[.int .i64 0, .int .i64 0, .int .i64 0] 26)) := ⟨_, rfl⟩; have HB57 : Hid (Below w5.heap.size w5 w7) := (by show Below _ _ _; rw [HW7.out]; exact jtwo (jlow _ _) (jlow _ _)); have HY7 : Hid (Vn w7 w5.heap.size 35 #[.string ⟨#[]⟩, .int .u8 0, .int .i64 0, .int .i64 0]) := (by show Vn _ _ _ _; rw [HW7.out]; exact (Vn.new _ _ _).later (jlow _ _)); have HG7 : Hid (Vn w7 (w5.heap.size + 1) 26 #[.int .i64 0, .int .i64 0, .int .i64 0]) := (by show Vn _ _ _ _; have h := Vn.new (w5.alloc (.cells #[.string ⟨#[]⟩, .int .u8 0, .int .i64 0, .int .i64 0] 35)) 26 #[.int .i64 0, .int .i64 0, .int .i64 0]; rw [World.size_alloc] at h; rw [HW7.out]; exact h); have HB7 := qa0 (jtwo HB5.out HB57.out); have HF7 := qa0 (HF5.out.later HB57.out); have HM7 := qa0 (HM5.out.later HB57.out); have HS7 := qa0 (HS5.out.later HB57.out); have z7 := HB57.out.size; have HV7 := qa0 (HV5.out.later HB57.out)))
     rw [← HW7.out]
     exact ⟨⟨i + 1, T, by omega, by go_num, HT2, ⟨x, d, rfl⟩, HS7, HM7, by omega, HOk, HF7, HB7⟩, by simp [intOf]; omega⟩
   ·have HBad : Hid (tbl F n = .error (f0, f1, f2)) := qbg hlt HT.out (by
     unfold stp
     rw [hF, HFl.out, if_pos (fun e => hf (by cases e; exact ⟨rfl, rfl, rfl⟩))])
    have q0 : (!((f0 == 0) && ((f1 == 0) && (f2 == 0)))) = true := by
     rw [Bool.not_eq_true']
     refine Bool.eq_false_iff.2 (fun h => hf ?_)
     simpa using h
    clear hf hcl hX hSv hG hdp hF HFl HBr HI HW HMi HOk
    have M1 : True := trivial
    have M2 : True := trivial
    have M3 : True := trivial
    go_wp2_with (first
     | (clear M1; refine wpList_load_mid rfl 61 _ rfl b _ rfl [.int .u8 (k : Int), .string nm, .int .u8 (vk : Int), .int .i64 vn, .string vm, .slice va vl vc, .int .i64 vln, .int .i64 vcl, .int .u8 (sk : Int), .string sm, .slice aa na ca, .slice pa np cp, .slice ra nr cr, .int .i64 sln, .int .i64 scl, .int .u8 (pl : Int), .slice la nl lc, .int .i64 ln, .int .i64 cl] _ HRg.out Tryd.underlying61 rfl qa2 ?_)
     | (clear M2; refine qa1 rfl 61 _ _ rfl wr.heap.size _ #[.int .u8 (k : Int), .string nm, .int .u8 (vk : Int), .int .i64 vn, .string vm, .slice va vl vc, .int .i64 vln, .int .i64 vcl, .int .u8 (sk : Int), .string sm, .slice aa na ca, .slice pa np cp, .slice ra nr cr, .int .i64 sln, .int .i64 scl, .int .u8 (pl : Int), .slice la nl lc, .int .i64 ln, .int .i64 cl] rfl rfl (Vn.new wr _ _) qa2 rfl (qbn rfl rfl rfl rfl rfl rfl rfl rfl rfl rfl rfl rfl rfl rfl rfl rfl rfl rfl rfl) ?_; intro w2 HV2 hg2; have hb2 : Below wr.heap.size wr w2 := (jlow _ _).trans (jbelow hg2.out (jlow _ _).size (fun g e => by cases e; exact Nat.le_refl _)); have HB2 := qa0 (jtwo HB1.out hb2); have HF2 := qa0 (HF1.out.later hb2); have HM2 := qa0 (HM1.out.later hb2); have HS2 := qa0 (HS1.out.later hb2); have z2 := hb2.size; clear hg2 hb2)
     | (refine wpList_load_row rfl 61 _ rfl wr.heap.size rfl 61 #[.int .u8 (k : Int), .string nm, .int .u8 (vk : Int), .int .i64 vn, .string vm, .slice va vl vc, .int .i64 vln, .int .i64 vcl, .int .u8 (sk : Int), .string sm, .slice aa na ca, .slice pa np cp, .slice ra nr cr, .int .i64 sln, .int .i64 scl, .int .u8 (pl : Int), .slice la nl lc, .int .i64 ln, .int .i64 cl] (0, 0) _ HV2.out Tryd.underlying61 rfl qa2 ?_)
     | (go_at_call 22; refine (HU.out _ HB2.out HM2.out).mono ?_; rintro e w3 ⟨rfl, hb3⟩; have HB3 := qa0 (jtwo HB2.out hb3); have HF3 := qa0 (HF2.out.later hb3); have HM3 := qa0 (HM2.out.later hb3); have HS3 := qa0 (HS2.out.later hb3); have z3 := hb3.size; have HV3 := qa0 (HV2.out.later hb3); clear hb3)
     | (clear M3; refine qa1 rfl 26 _ _ rfl w3.heap.size _ #[.int .i64 f0, .int .i64 f1, .int .i64 f2] rfl rfl (Vn.new w3 _ _) qa4 rfl (all3 rfl rfl rfl) ?_; intro w4 HG4 hg4; have hb4 : Below w3.heap.size w3 w4 := (jlow _ _).trans (jbelow hg4.out (jlow _ _).size (fun g e => by cases e; exact Nat.le_refl _)); have HB4 := qa0 (jtwo HB3.out hb4); have HF4 := qa0 (HF3.out.later hb4); have HM4 := qa0 (HM3.out.later hb4); have HS4 := qa0 (HS3.out.later hb4); have z4 := hb4.size; have HV4 := qa0 (HV3.out.later hb4); have g0 := HG4.out.cell 0 _ rfl; have g1 := HG4.out.cell 1 _ rfl; have g2 := HG4.out.cell 2 _ rfl; clear hg4 hb4))
    have hzz := HG4.out.lt
    clear HU HRg HV2 HV3 HV4
    refine wp_region_held (S := fun w' => Vn w' w3.heap.size 26 #[.int .i64 f0, .int .i64 f1, .int .i64 f2]) (by kernel_rfl) ?_
    change wpAnyH _ _ _ _ _ _ _ _ (World.drew _)
    obtain ⟨wd, HWd⟩ : ∃ wd, Hid (World.drew w4 = wd) := ⟨_, rfl⟩
    have HBd : Hid (Below w.heap.size w wd) := by show Below _ _ _; rw [← HWd.out]; exact HB4.out.drew
    have HFd : Hid (Vn wd w.heap.size 26 #[.int .i64 0, .int .i64 0, .int .i64 0]) := by show Vn _ _ _ _; rw [← HWd.out]; exact HF4.out
    have HYd : Hid (Vn wd (w3.heap.size) 26 #[.int .i64 f0, .int .i64 f1, .int .i64 f2]) := by show Vn _ _ _ _; rw [← HWd.out]; exact HG4.out
    rw [HWd.out]
    clear HWd
    refine wtkq 0 ?v0 rfl (by kernel_rfl) (fun _ _ _ h => h) (by rfl) ?y0 HYd.out ?z0
    case y0 => (intro w hSw; (try dsimp only at hSw); have r0 := hSw.cell 0 _ rfl; have r1 := hSw.cell 1 _ rfl; have r2 := hSw.cell 2 _ rfl; clear hSw; go_simp; try with_reducible rfl)
    try simp only [mz1, mz3, Act.put, mz4, mz5, mz6]
    refine wtkq 1 ?v1 rfl (by kernel_rfl) (fun _ _ _ h => h) (by rfl) ?y1 HYd.out ?z1
    case y1 => (intro w hSw; (try dsimp only at hSw); have r0 := hSw.cell 0 _ rfl; have r1 := hSw.cell 1 _ rfl; have r2 := hSw.cell 2 _ rfl; clear hSw; go_simp; try with_reducible rfl)
    try simp only [mz1, mz2, mz3, Act.put, mz4, mz5, mz6]
    refine wpAnyH_ready (rs := [2]) (by kernel_rfl) (by simp) ?_
    refine AllReadyH.cons rfl (fun K hK => ?_) AllReadyH.nil
    refine qa3 26 _ _ rfl w.heap.size _ #[.int .i64 f0, .int .i64 f1, .int .i64 f2] rfl rfl HFd.out qa4 rfl (all3 rfl rfl rfl) ?_; intro w8 HF8 hg8; have HY8 := qa0 (HYd.out.keptR hg8.out (by simp; omega))
    refine hK.out _ _ HY8.out (fun _ => ?_)
    clear hK K
    try simp only [mz1, mz2, mz3, Act.put]
    refine wpAnyH_done (by kernel_rfl) ?_ _
    try simp only [mz1, mz2, mz3, Act.put, mz4, mz5, mz6]
    go_wp2
    have d0 := HF8.out.cell 0 _ rfl
    have d1 := HF8.out.cell 1 _ rfl
    have d2 := HF8.out.cell 2 _ rfl
    have HB8 : Below w.heap.size w w8 := HBd.out.trans (jbelow hg8.out HBd.out.size (fun g e => by cases e; exact Nat.le_refl _))
    refine bodyPost_ret (v := .tuple #[.slice none 0 0, .agg #[.int .i64 f0, .int .i64 f1, .int .i64 f2]]) (by simp [results, Tryd.results9, go_sem, d0, d1, d2]) rfl ?_
    exact ⟨by rw [HBad.out]; exact rfl, HB8⟩
  ·obtain rfl : i = n := by omega
   have HS := HS1
   clear HI HW HMi
   go_wp2_with (refine qa1 rfl 26 _ _ rfl w.heap.size _ #[.int .i64 0, .int .i64 0, .int .i64 0] rfl rfl HF1.out qa4 rfl (all3 rfl rfl rfl) ?_; intro w8 HF8 hg8)
   have d0 := HF8.out.cell 0 _ rfl
   have d1 := HF8.out.cell 1 _ rfl
   have d2 := HF8.out.cell 2 _ rfl
   have HB8 : Below w.heap.size w w8 := HBr.out.trans (jbelow hg8.out HBr.out.size (fun g e => by cases e; exact Nat.le_refl _))
   have HS8 := HS.out.kept hg8.out (by cases hx : (Value.slice x T.length d).ownBlock with | none => exact .inl rfl | some g => exact .inr (fun e => by cases e; have := (HS.out.base hx).1; omega))
   refine bodyPost_ret (v := .tuple #[.slice x T.length d, .agg #[.int .i64 0, .int .i64 0, .int .i64 0]]) (by simp [results, Tryd.results9, go_sem, d0, d1, d2]) rfl ?_
   exact ⟨by rw [HT.out]; exact ⟨_, rfl, HS8.lower (by omega), HOk.out⟩, HB8⟩
/-- Table. -/
theorem ptable (w : World) (a : Option Addr) (n c : Nat) (F : Nat → It) (hI : Its w a n F) (hn : n ≤ 549755813888) (hw : Wt9 w) :
  Calls Tryd.prog 9 #[.slice a n c] w fun e w' => TbA w' w.heap.size e (tbD F n) ∧ Below w.heap.size w w' := by
 cases hm : mayD F n with
 | false => exact ptab_bad w a n c F hI hn hw hm
 | true => exact ptab_ok w a n c F hI hn hw hm
end Go.Proofs.YtemhodenkgngmaaDoor
