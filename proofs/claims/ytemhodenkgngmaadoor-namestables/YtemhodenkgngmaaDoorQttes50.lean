/-
  Stage 13: the reference's Table.
-/
import Derived.Test.YtemhodenkgngmaaDoorQttes00
import Derived.Test.YtemhodenkgngmaaDoorQttes37
import Derived.Test.YtemhodenkgngmaaDoorQttes33
import Derived.Test.YtemhodenkgngmaaDoorQttes39
import Derived.Test.YtemhodenkgngmaaDoorQttes49
set_option maxRecDepth 100000
set_option maxHeartbeats 16000000
namespace Go.Proofs.YtemhodenkgngmaaDoor
open Go.RowKit Go.Shelf Go.Maps
theorem qgo : (Tryd.prog.info? 33).map (·.size) = some 1 := by kernel_rfl
theorem qcp : (Tryd.prog.info? 3).map (·.size) = some 1 := by kernel_rfl
/-- Ways that come to one place. -/
theorem join3 {G : Value → Nat → World → Prop} {R : Prop} (P : Value → Nat → World → Prop) (hr : (∀ x g w, P x g w → G x g w) → R) (hg : ∀ x g w, P x g w → G x g w) : R := hr hg
theorem qff : ∀ (d : Nat) (T : Xt), ∀ u ∈ xus d T, u.k = 1 := by
 intro d
 induction d with
 | zero =>
  intro T u hu
  unfold xus at hu
  split at hu
  ·rw [List.mem_singleton.1 hu]; rfl
  ·cases hu
 | succ d ih =>
  intro T u hu
  unfold xus at hu
  split at hu
  ·rw [List.mem_singleton.1 hu]; rfl
  ·obtain ⟨i, _, hu⟩ := qat hu
   exact ih _ u hu
theorem sus_k : ∀ (d : Nat) (S : St), ∀ u ∈ sus d S, u.k = 1 ∨ u.k = 2 := by
 intro d
 induction d with
 | zero =>
  intro S u hu
  unfold sus at hu
  split at hu
  ·rw [List.mem_singleton.1 hu]; exact .inr rfl
  ·rcases List.mem_append.1 hu with hu | hu
   ·obtain ⟨i, q, _, _, hu⟩ := qbw hu
    exact .inl (qff 16 _ u hu)
   ·obtain ⟨i, _, hu⟩ := qat hu
    exact .inl (qff 16 _ u hu)
 | succ d ih =>
  intro S u hu
  unfold sus at hu
  split at hu
  ·rw [List.mem_singleton.1 hu]; exact .inr rfl
  ·rcases List.mem_append.1 hu with hu | hu
   ·obtain ⟨i, _, hu⟩ := qey hu
    exact ih _ u hu
   ·rcases List.mem_append.1 hu with hu | hu
    ·obtain ⟨i, q, _, _, hu⟩ := qbw hu
     exact .inl (qff 16 _ u hu)
    ·obtain ⟨i, _, hu⟩ := qat hu
     exact .inl (qff 16 _ u hu)
theorem ius_k (I : It) : ∀ u ∈ ius I, u.k < 256 := by
 intro u hu
 unfold ius at hu
 split at hu
 ·rw [List.mem_singleton.1 hu]; show 2 < 256; omega
 ·rcases List.mem_append.1 hu with hu | hu
  ·rw [qff 16 _ u hu]; omega
  ·rcases List.mem_append.1 hu with hu | hu
   ·rcases sus_k 16 _ u hu with h | h <;> omega
   ·obtain ⟨i, _, hu⟩ := qat hu
    rw [qff 16 _ u hu]; omega
theorem UI.many {k pl nl : Nat} {nm : ByteArray} {X : Xt} {S : St} {G : Nat → Xt} {ln cl : Int} (h : UI X S nl G) : (ius ⟨k, nm, X, S, pl, nl, G, ln, cl⟩).length ≤ 1000000 := by
 obtain ⟨f1, f2, f3⟩ := h.few
 unfold ius
 split
 ·show 1 ≤ _; omega
 ·rw [List.length_append, List.length_append]
  dsimp only
  omega
theorem rtab_bad (w : World) (a : Option Addr) (n c : Nat) (F : Nat → It) (hI : Its w a n F) (hn : n ≤ 549755813888) (hm : mayD F n = false) :
  Calls Tryd.prog 10 #[.slice a n c] w fun e w' => TbA w' w.heap.size e (tbD F n) ∧ Below w.heap.size w w' := by
 have HM : Hid (∀ w' : World, Below w.heap.size w w' → Calls Tryd.prog 19 #[.slice a n c] w' fun e w'' => e = .returned (.bool false) ∧ Below w'.heap.size w' w'') := fun w' hb => by
  have h := rmay10 w' a n c F (hI.later hb) hn
  rw [hm] at h
  exact h
 have HBad : Hid (tbD F n = .error (2, 0, 0)) := by show (if _ then _ else _) = _; rw [if_neg (by rw [hm]; decide)]
 have HV0 := qa0 (Vn.new w 26 #[.int .i64 0, .int .i64 0, .int .i64 0])
 have HB0 := qa0 (jlow w (.cells #[.int .i64 0, .int .i64 0, .int .i64 0] 26))
 clear hI hm
 go_enter Tryd.func10, Tryd.ntmps10
 go_wp2_with (first
  | (go_at_call 19; refine (HM.out _ HB0.out).mono ?_; rintro e w1 ⟨rfl, hb1⟩; have HV1 := qa0 (HV0.out.later hb1); have HB1 := qa0 (jtwo HB0.out hb1); clear hb1)
  | (refine qa1 rfl 26 _ _ rfl w.heap.size _ #[.int .i64 2, .int .i64 0, .int .i64 0] rfl rfl HV1.out qa4 rfl (all3 rfl rfl rfl) ?_; intro w8 HF8 hg8))
 have d0 := HF8.out.cell 0 _ rfl
 have d1 := HF8.out.cell 1 _ rfl
 have d2 := HF8.out.cell 2 _ rfl
 have HB8 : Below w.heap.size w w8 := HB1.out.trans (jbelow hg8.out HB1.out.size (fun g e => by cases e; exact Nat.le_refl _))
 refine bodyPost_ret (v := .tuple #[.slice none 0 0, .agg #[.int .i64 2, .int .i64 0, .int .i64 0]]) (by simp [results, Tryd.results10, go_sem, d0, d1, d2]) rfl ?_
 exact ⟨by rw [HBad.out]; exact rfl, HB8⟩
theorem rtab_ok (w : World) (a : Option Addr) (n c : Nat) (F : Nat → It) (hI : Its w a n F) (hn : n ≤ 549755813888) (hm : mayD F n = true) :
  Calls Tryd.prog 10 #[.slice a n c] w fun e w' => TbA w' w.heap.size e (tbD F n) ∧ Below w.heap.size w w' := by
 have HI := qa0 hI
 have HMy : Hid (∀ w' : World, Below w.heap.size w w' → Calls Tryd.prog 19 #[.slice a n c] w' fun e w'' => e = .returned (.bool true) ∧ Below w'.heap.size w' w'') := fun w' hb => by
  have h := rmay10 w' a n c F (hI.later hb) hn
  rw [hm] at h
  exact h
 obtain ⟨h64, hmi⟩ := qdy hm
 have HMi : Hid (∀ i, i < n → MI (F i) ∧ (F i).nl ≤ 64) := fun i hi => ⟨hmi i hi, iwant_nl (mayD_nl hm i hi)⟩
 have HTb : Hid (tbD F n = tbl F n) := by show (if _ then _ else _) = _; rw [if_pos hm]
 rw [HTb.out]
 have HV0 := qa0 (Vn.new w 26 #[.int .i64 0, .int .i64 0, .int .i64 0])
 have HB0 := qa0 (jlow w (.cells #[.int .i64 0, .int .i64 0, .int .i64 0] 26))
 obtain ⟨i0, hi0, hz0, hz1, hz2⟩ := info_parts jsym
 clear hI hm hmi HTb
 go_enter Tryd.func10, Tryd.ntmps10
 go_wp2_with (go_at_call 19; refine (HMy.out _ HB0.out).mono ?_; rintro e w1 ⟨rfl, hb1⟩; have HVs := qa0 (HV0.out.later hb1); have HBs := qa0 (jtwo HB0.out hb1); clear hb1)
 go_loopw [4, 5] (fun vt vi wr => ∃ (i : Nat) (T : List Sy), i ≤ n ∧ vi = .int .i64 (i : Int) ∧ Hid (tbl F i = .ok T) ∧ (∃ x d, vt = .slice x T.length d) ∧ Hid (Sw wr (w.heap.size + 1) vt T) ∧ T.length ≤ i ∧ Hid (∀ y ∈ T, SyOk y) ∧ Hid (Vn wr w.heap.size 26 #[.int .i64 0, .int .i64 0, .int .i64 0]) ∧ Hid (Below w.heap.size w wr)) (fun _ vi _ => n - (intOf vi).toNat)
 case atStart => exact ⟨0, [], by omega, rfl, rfl, ⟨none, 0, rfl⟩, Sw.nil _ _, Nat.le_refl _, (fun y hy => by cases hy), HVs, HBs⟩
 case round =>
  obtain ⟨i, T, hi, rfl, HT, ⟨x, d, rfl⟩, HS1, hlen, HOk, HF1, HB1⟩ := hrel
  clear HVs HBs HV0 HB0 HMy
  by_cases hlt : i < n
  ·have p0 : (0 : Int) ≤ (i : Int) := by omega
   have p1 : (i : Int) < (n : Int) := by omega
   have zl := HF1.out.lt
   obtain ⟨b, o, k, pl, nl, vk, vl, vc, sk, na, ca, np, cp, nr, cr, lc, nm, vm, sm, vn, vln, vcl, sln, scl, ln, cl, va, aa, pa, ra, la, X, S, G, rfl, hF, hX, hSv, hG, k8, p8, hnm, hnl, hcl⟩ := HI.out.at_ hlt
   have hTR := tbl_tr (fun q hq => (HMi.out q (by omega)).1) HT.out
   obtain ⟨hMI, hnl64⟩ := HMi.out i hlt
   rw [hF] at hMI hnl64
   have HK0 : Hid (¬ k = 0) := by
    show ¬ k = 0
    rcases hMI with ⟨g, _⟩ | ⟨g, _⟩ | ⟨g, _⟩ | ⟨g, _⟩ | ⟨g, _⟩ | ⟨g, _⟩ | ⟨g, _⟩ | ⟨g, _⟩ | ⟨g, _⟩ <;> (have g : k = _ := g; omega)
   have hui : UI X S nl G := hMI.ui hnl64
   obtain ⟨⟨f0, f1, f2⟩, HFl⟩ : ∃ f, Hid (wfl (skd T) (ius ⟨k, nm, X, S, pl, nl, G, ln, cl⟩) = f) := ⟨_, rfl⟩
   have HU : Hid (∀ w' : World, Below w.heap.size w w' → Sw w' (w.heap.size + 1) (.slice x T.length d) T → Calls Tryd.prog 24 #[.slice x T.length d, .agg #[.int .u8 (k : Int), .string nm, .int .u8 (vk : Int), .int .i64 vn, .string vm, .slice va vl vc, .int .i64 vln, .int .i64 vcl, .int .u8 (sk : Int), .string sm, .slice aa na ca, .slice pa np cp, .slice ra nr cr, .int .i64 sln, .int .i64 scl, .int .u8 (pl : Int), .slice la nl lc, .int .i64 ln, .int .i64 cl]] w' fun e w'' => e = .returned (.agg #[.int .i64 f0, .int .i64 f1, .int .i64 f2]) ∧ Below w'.heap.size w' w'') := fun w' hb hs => by
    have h := rwrong13 w' x d T k pl nl vk vl vc sk na ca np cp nr cr lc nm vm sm vn vln vcl sln scl ln cl va aa pa ra la X S G _ (hs.el HOk.out).2 (by omega) (hX.later hb) (hSv.later hb) (fun d => (hG d).later hb) hui rfl (ius_k _) hui.many
    rw [HFl.out] at h
    exact h
   have HRg := qa0 (hcl _ HB1.out)
   by_cases hf : f0 = 0 ∧ f1 = 0 ∧ f2 = 0
   ·obtain ⟨rfl, rfl, rfl⟩ := hf
    have hst : ∀ V, mdk ⟨k, nm, X, S, pl, nl, G, ln, cl⟩ T = V → stp i (F i) T = (if V.c ≠ 0 then Except.error ((V.c : Int), V.ln, V.cl) else if k = 1 ∨ k = 2 then (if (skd T nm).isSome = true then .error (130, ln, cl) else .ok (T ++ [⟨nm, k, i, V.v⟩])) else .ok T) := fun V h => by
     unfold stp
     rw [hF, HFl.out, if_neg (fun e => e rfl), h]
    by_cases hk : k = 1
    ·have hMX : MX 16 X := by
      rcases hMI with ⟨_, _, _, h, _⟩ | ⟨g, _⟩ | ⟨g, _⟩ | ⟨g, _⟩ | ⟨g, _⟩ | ⟨g, _⟩ | ⟨g, _⟩ | ⟨g, _⟩ | ⟨g, _⟩
      ·exact h
      all_goals (exact absurd g (by show ¬ k = _; omega))
     have henv := hTR.env
     obtain ⟨L, HLc⟩ : ∃ L, Hid (cst (fun j => T.getD j sy0) T.length = L) := ⟨_, rfl⟩
     obtain ⟨VV, HVV⟩ : ∃ VV, Hid (evl (fun i => L.getD i cn0) L.length X = VV) := ⟨_, rfl⟩
     have HCk : Hid (∀ c ∈ L, CnOk c) := by
      show ∀ c ∈ L, CnOk c
      rw [← HLc.out]
      exact cst_ok T.length (fun q hq => HOk.out _ (qbx hq))
     have hLl : L.length ≤ 64 := by rw [← HLc.out]; exact Nat.le_trans (qg4 _ _) (by omega)
     rw [HLc.out] at henv
     have hval : xval (elk (fun i => L.getD i cn0) L.length) 16 X = VV := by
      rw [← HVV.out]
      unfold evl
      rw [if_pos henv, if_pos (mx_may13 hMX)]
     have HEn : Hid (∀ w' : World, Below w.heap.size w w' → Sw w' (w.heap.size + 1) (.slice x T.length d) T → Calls Tryd.prog 16 #[.slice x T.length d] w' fun e w'' => (∃ v, e = .returned v ∧ Cw w'' w'.heap.size v L) ∧ Below w'.heap.size w' w'') := fun w' hb hs => by
      have h := renv w' x T.length d _ (hs.el HOk.out).2 (by omega)
      rw [HLc.out] at h
      exact h
     have HVal : Hid (∀ (w' : World) (xE : Option Addr) (dE : Nat), Below w.heap.size w w' → EL w' xE L.length (fun i => L.getD i cn0) → Calls Tryd.prog 25 #[.agg #[.int .u8 (vk : Int), .int .i64 vn, .string vm, .slice va vl vc, .int .i64 vln, .int .i64 vcl], .slice xE L.length dE] w' fun e w'' => e = .returned (.tuple #[.int .i64 VV.v, .agg #[.int .i64 (VV.c : Int), .int .i64 VV.ln, .int .i64 VV.cl]]) ∧ Below w'.heap.size w' w'') := fun w' xE dE hb hE => by
      have h := qgm 16 w' X _ xE L.length dE (fun i => L.getD i cn0) (hX.later hb) hMX hE (by omega) henv
      rw [hval] at h
      exact h
     have h1 := hst VV (by
      show (if k = 1 then _ else _) = _
      rw [if_pos hk, HLc.out]; exact HVV.out)
     have hz : VV.c = 0 → VV.ln = 0 ∧ VV.cl = 0 ∧ nmB VV.v = true := fun e => by
      have h := qd4 (F := fun i => L.getD i cn0) (n := L.length) (T := X) (by rw [HVV.out]; exact e)
      rw [HVV.out] at h
      exact h
     have q1 : ((k : Int) == 1) = true := by simp; omega
     have q2 : decide ((2 : Int) < (k : Int)) = false := decide_eq_false (by omega)
     clear hst hcl hX hSv hG hF HFl HI HMi hMI hui hTR henv hval HLc HVV hMX hnl64
     have M1 : True := trivial
     have M2 : True := trivial
     have M3 : True := trivial
     by_cases hc : VV.c = 0
     ·obtain ⟨e1, e2, e3⟩ := hz hc
      have e4 : -2147483647 ≤ VV.v ∧ VV.v ≤ 2147483647 := by simpa [nmB] using e3
      have hv1 : -9223372036854775808 ≤ VV.v := by omega
      have hv2 : VV.v ≤ 9223372036854775807 := by omega
      have HSt : Hid (∀ R, (if (skd T nm).isSome = true then Except.error (130, ln, cl) else .ok (T ++ [⟨nm, k, i, VV.v⟩])) = R → stp i (F i) T = R) := fun R hR => by
       rw [h1, if_neg (fun e => e hc), if_pos (.inl hk)]; exact hR
      have Hk : Hid (k = 1) := hk
      clear hk
      obtain ⟨VVv, VVc, VVl, VVk⟩ := VV
      dsimp only at *
      subst hc e1 e2
      clear hz h1 e3 e4
      go_wp2_with (first
       | (clear M1; refine wpList_load_mid rfl 61 _ rfl b _ rfl [.int .u8 (k : Int), .string nm, .int .u8 (vk : Int), .int .i64 vn, .string vm, .slice va vl vc, .int .i64 vln, .int .i64 vcl, .int .u8 (sk : Int), .string sm, .slice aa na ca, .slice pa np cp, .slice ra nr cr, .int .i64 sln, .int .i64 scl, .int .u8 (pl : Int), .slice la nl lc, .int .i64 ln, .int .i64 cl] _ HRg.out Tryd.underlying61 rfl qa2 ?_)
       | (clear M2; refine qa1 rfl 61 _ _ rfl wr.heap.size _ #[.int .u8 (k : Int), .string nm, .int .u8 (vk : Int), .int .i64 vn, .string vm, .slice va vl vc, .int .i64 vln, .int .i64 vcl, .int .u8 (sk : Int), .string sm, .slice aa na ca, .slice pa np cp, .slice ra nr cr, .int .i64 sln, .int .i64 scl, .int .u8 (pl : Int), .slice la nl lc, .int .i64 ln, .int .i64 cl] rfl rfl (Vn.new wr _ _) qa2 rfl (qbn rfl rfl rfl rfl rfl rfl rfl rfl rfl rfl rfl rfl rfl rfl rfl rfl rfl rfl rfl) ?_; intro w2 HV2 hg2; have hb2 : Below wr.heap.size wr w2 := (jlow _ _).trans (jbelow hg2.out (jlow _ _).size (fun g e => by cases e; exact Nat.le_refl _)); have HB2 := qa0 (jtwo HB1.out hb2); have HF2 := qa0 (HF1.out.later hb2); have HS2 := qa0 (HS1.out.later hb2); have z2 := hb2.size; have zv2 := HV2.out.lt; clear hg2 hb2)
       | (refine wpList_load_row rfl 61 _ rfl wr.heap.size rfl 61 #[.int .u8 (k : Int), .string nm, .int .u8 (vk : Int), .int .i64 vn, .string vm, .slice va vl vc, .int .i64 vln, .int .i64 vcl, .int .u8 (sk : Int), .string sm, .slice aa na ca, .slice pa np cp, .slice ra nr cr, .int .i64 sln, .int .i64 scl, .int .u8 (pl : Int), .slice la nl lc, .int .i64 ln, .int .i64 cl] (0, 0) _ HV2.out Tryd.underlying61 rfl qa2 ?_)
       | (go_at_call 24; go_loud (refine (HU.out _ HB2.out HS2.out).mono ?_; rintro e w3 ⟨rfl, hb3⟩; have HB3 := qa0 (jtwo HB2.out hb3); have HF3 := qa0 (HF2.out.later hb3); have HS3 := qa0 (HS2.out.later hb3); have z3 := hb3.size; have HV3 := qa0 (HV2.out.later hb3); clear hb3))
       | (clear M3; refine qa1 rfl 26 _ _ rfl w3.heap.size _ #[.int .i64 0, .int .i64 0, .int .i64 0] rfl rfl (Vn.new w3 _ _) qa4 rfl (all3 rfl rfl rfl) ?_; intro w4 HG4 hg4; go_loud (have hb4 : Below w3.heap.size w3 w4 := (jlow _ _).trans (jbelow hg4.out (jlow _ _).size (fun g e => by cases e; exact Nat.le_refl _)); have HB4 := qa0 (jtwo HB3.out hb4); have HF4 := qa0 (HF3.out.later hb4); have HS4 := qa0 (HS3.out.later hb4); have z4 := hb4.size; have HV4 := qa0 (HV3.out.later hb4); have g0 := HG4.out.cell 0 _ rfl; have g1 := HG4.out.cell 1 _ rfl; have g2 := HG4.out.cell 2 _ rfl; clear hg4 hb4; obtain ⟨w5, HW5⟩ : ∃ w5, Hid (w5 = (w4.alloc (.cells #[.string nm, .int .u8 2, .int .i64 (i : Int), .int .i64 0] 35))) := ⟨_, qa0 rfl⟩; have hb5 : Below w4.heap.size w4 w5 := (by rw [HW5.out]; exact jlow _ _); have HB5 := qa0 (jtwo HB4.out hb5); have HF5 := qa0 (HF4.out.later hb5); have HS5 := qa0 (HS4.out.later hb5); have z5 := hb5.size; have HV5 := qa0 (HV4.out.later hb5); have HY5 : Hid (Vn w5 w4.heap.size 35 #[.string nm, .int .u8 2, .int .i64 (i : Int), .int .i64 0]) := (by show Vn _ _ _ _; rw [HW5.out]; exact Vn.new _ _ _); have n1 := HV4.out.cell 1 _ rfl; have n0 := HV4.out.cell 0 _ rfl; have k0 := cell_kept n0 (jlow w4 (.cells #[.string nm, .int .u8 2, .int .i64 (i : Int), .int .i64 0] 35)); have k1 := cell_kept n1 (jlow w4 (.cells #[.string nm, .int .u8 2, .int .i64 (i : Int), .int .i64 0] 35)); clear hb5)))
      rw [← HW5.out]
      refine wp_region_held (S := fun w' => Vn w' wr.heap.size 61 #[.int .u8 (k : Int), .string nm, .int .u8 (vk : Int), .int .i64 vn, .string vm, .slice va vl vc, .int .i64 vln, .int .i64 vcl, .int .u8 (sk : Int), .string sm, .slice aa na ca, .slice pa np cp, .slice ra nr cr, .int .i64 sln, .int .i64 scl, .int .u8 (pl : Int), .slice la nl lc, .int .i64 ln, .int .i64 cl]) (by kernel_rfl) ?_
      change wpAnyH _ _ _ _ _ _ _ _ (World.drew _)
      obtain ⟨W0, HW0⟩ : ∃ W0, Hid (w5.drew = W0) := ⟨_, rfl⟩
      have hb0 : Below w5.heap.size w5 W0 := by rw [← HW0.out]; exact (Below.refl _ _).drew
      rw [HW0.out]
      clear HW0
      have HB0 := qa0 (jtwo HB5.out hb0)
      have HV0 := qa0 (HV5.out.later hb0)
      have HS0 := qa0 (HS5.out.later hb0)
      refine wtkq 0 ?vpat0 rfl (by kernel_rfl) (fun _ _ _ h => h) (by rfl) ?ypat0 HV0.out ?zpat0
      case ypat0 => (intro wq hSw; (try dsimp only at hSw); go_simp; try with_reducible rfl)
      try simp only [mz1, mz3, Act.put, mz4, mz5, mz6]
      refine wtkq 1 ?vpat1 rfl (by kernel_rfl) (fun _ _ _ h => h) (by rfl) ?ypat1 HV0.out ?zpat1
      case ypat1 => (intro wq hSw; (try dsimp only at hSw); have r2 := hSw.cell 2 _ rfl; have r3 := hSw.cell 3 _ rfl; have r4 := hSw.cell 4 _ rfl; have r5 := hSw.cell 5 _ rfl; have r6 := hSw.cell 6 _ rfl; have r7 := hSw.cell 7 _ rfl; clear hSw; go_simp; try with_reducible rfl)
      try simp only [mz1, mz2, mz3, Act.put, mz4, mz5, mz6]
      refine wtkq 2 ?vpat2 rfl (by kernel_rfl) (fun _ _ _ h => h) (by rfl) ?ypat2 HV0.out ?zpat2
      case ypat2 => (intro wq hSw; (try dsimp only at hSw); go_simp; try with_reducible rfl)
      try simp only [mz1, mz2, mz3, Act.put, mz4, mz5, mz6]
      apply join3 (fun v g w' => Vn w' g 26 #[.int .i64 0, .int .i64 0, .int .i64 0] ∧ Below w5.heap.size w5 w' ∧ w5.heap.size ≤ g)
      ·intro hG
       refine wpAnyH_ready (rs := [3, 8]) (by kernel_rfl) (by simp) ?_
       refine AllReadyH.cons rfl (fun KK hKK => ?_) (AllReadyH.cons rfl (fun KK hKK => ?_) AllReadyH.nil)
       ·go_simp
        refine (HEn.out _ (HB0.out) (HS0.out)).mono ?_; rintro e WE ⟨⟨vE, rfl, hE⟩, hbE⟩
        obtain ⟨xE, dE, rfl, -⟩ := hE.form
        have HEl := qa0 (hE.el HCk.out).2
        clear hE
        refine hKK.out _ _ (HV0.out.later hbE) (fun _ => ?_)
        clear hKK KK
        try simp only [mz1, mz2, mz3, Act.put, mz4, mz5, mz6]
        refine wpAnyH_ready (rs := [4, 8]) (by kernel_rfl) (by simp) ?_
        refine AllReadyH.cons rfl (fun KK hKK => ?_) (AllReadyH.cons rfl (fun KK hKK => ?_) AllReadyH.nil)
        ·go_simp
         refine (HVal.out _ _ _ (jtwo HB0.out hbE) (HEl.out)).mono ?_; rintro e WV ⟨rfl, hbV⟩
         refine hKK.out _ _ (HV0.out.later (jtwo hbE hbV)) (fun _ => ?_)
         clear hKK KK
         try simp only [mz1, mz2, mz3, Act.put, mz4, mz5, mz6]
         refine wtkq 5 ?vpae5 rfl (by kernel_rfl) (fun _ _ _ h => h) (by rfl) ?ypae5 (HV0.out.later (jtwo hbE hbV)) ?zpae5
         case ypae5 => (intro wq hSw; (try dsimp only at hSw); go_simp; try with_reducible rfl)
         try simp only [mz1, mz2, mz3, Act.put, mz4, mz5, mz6]
         refine wtkq 6 ?vpae6 rfl (by kernel_rfl) (fun _ _ _ h => h) (by rfl) ?ypae6 (HV0.out.later (jtwo hbE hbV)) ?zpae6
         case ypae6 => (intro wq hSw; (try dsimp only at hSw); go_simp; try with_reducible rfl)
         try simp only [mz1, mz2, mz3, Act.put, mz4, mz5, mz6]
         refine wtkq 7 ?vpae7 rfl (by kernel_rfl) (fun _ _ _ h => h) (by rfl) ?ypae7 (HV0.out.later (jtwo hbE hbV)) ?zpae7
         case ypae7 => (intro wq hSw; (try dsimp only at hSw); go_simp; try with_reducible rfl)
         try simp only [mz1, mz2, mz3, Act.put, mz4, mz5, mz6]
         refine wpAnyH_ready (rs := [8]) (by kernel_rfl) (by simp) ?_
         refine AllReadyH.cons rfl (fun KK hKK => ?_) AllReadyH.nil
         go_simp
         refine hKK.out _ _ (HV0.out.later (jtwo (jtwo hbE hbV) (jlow _ (.cells #[.int .i64 0, .int .i64 0, .int .i64 0] 26)))) (fun _ => ?_)
         clear hKK KK
         try simp only [mz1, mz2, mz3, Act.put, mz4, mz5, mz6]
         have HGg : w5.heap.size ≤ WV.heap.size := by have := hb0.size; have := hbE.size; have := hbV.size; omega
         have hbw := jtwo (jtwo hbE hbV) (jlow WV (.cells #[.int .i64 0, .int .i64 0, .int .i64 0] 26))
         have HVe := qa0 (HV0.out.later hbw)
         have HGe := qa0 (Vn.new WV 26 #[.int .i64 0, .int .i64 0, .int .i64 0])
         refine wtkq 9 ?vpae9 rfl (by kernel_rfl) (fun _ _ _ h => h) (by rfl) ?ypae9 HVe.out ?zpae9
         case ypae9 => (intro wq hSw; (try dsimp only at hSw); go_simp; try with_reducible rfl)
         try simp only [mz1, mz2, mz3, Act.put, mz4, mz5, mz6]
         refine wpAnyH_ready (rs := [10]) (by kernel_rfl) (by simp) ?_
         refine AllReadyH.cons rfl (fun KK hKK => ?_) AllReadyH.nil
         refine qa3 26 _ _ rfl WV.heap.size _ #[.int .i64 0, .int .i64 0, .int .i64 0] rfl rfl HGe.out qa4 rfl (all3 rfl rfl rfl) ?_; intro w8 HF8 hg8
         have hge : w5.heap.size ≤ WV.heap.size := HGg
         have hb8 : Below w5.heap.size w5 w8 := (jtwo hb0 hbw).trans (jbelow hg8.out (jtwo hb0 hbw).size (fun g e => by cases e; exact hge))
         refine hKK.out _ _ (HV5.out.later hb8) (fun _ => ?_)
         clear hKK KK
         try simp only [mz1, mz2, mz3, Act.put]
         refine wpAnyH_done (by kernel_rfl) ?_ _
         try simp only [mz1, mz2, mz3, Act.put, mz4, mz5, mz6]
         generalize Value.slice xE L.length dE = vEE
         generalize WV.heap.size = gg at *
         exact hG vEE gg w8 ⟨HF8.out, hb8, hge⟩
        ·go_simp
         refine hKK.out _ _ (HV0.out.later (jtwo hbE (jlow _ (.cells #[.int .i64 0, .int .i64 0, .int .i64 0] 26)))) (fun _ => ?_)
         clear hKK KK
         try simp only [mz1, mz2, mz3, Act.put, mz4, mz5, mz6]
         refine wpAnyH_ready (rs := [4]) (by kernel_rfl) (by simp) ?_
         refine AllReadyH.cons rfl (fun KK hKK => ?_) AllReadyH.nil
         go_simp
         refine (HVal.out _ _ _ (jtwo HB0.out (jtwo hbE (jlow _ (.cells #[.int .i64 0, .int .i64 0, .int .i64 0] 26)))) (HEl.out.later (jlow _ (.cells #[.int .i64 0, .int .i64 0, .int .i64 0] 26)))).mono ?_; rintro e WV ⟨rfl, hbV⟩
         refine hKK.out _ _ (HV0.out.later (jtwo (jtwo hbE (jlow _ (.cells #[.int .i64 0, .int .i64 0, .int .i64 0] 26))) hbV)) (fun _ => ?_)
         clear hKK KK
         try simp only [mz1, mz2, mz3, Act.put, mz4, mz5, mz6]
         have HGg : w5.heap.size ≤ WE.heap.size := by have := hb0.size; have := hbE.size; omega
         have hbw := jtwo (jtwo hbE (jlow WE (.cells #[.int .i64 0, .int .i64 0, .int .i64 0] 26))) hbV
         have HVe := qa0 (HV0.out.later hbw)
         have HGe := qa0 ((Vn.new WE 26 #[.int .i64 0, .int .i64 0, .int .i64 0]).later hbV)
         refine wtkq 5 ?vpaf5 rfl (by kernel_rfl) (fun _ _ _ h => h) (by rfl) ?ypaf5 HVe.out ?zpaf5
         case ypaf5 => (intro wq hSw; (try dsimp only at hSw); go_simp; try with_reducible rfl)
         try simp only [mz1, mz2, mz3, Act.put, mz4, mz5, mz6]
         refine wtkq 6 ?vpaf6 rfl (by kernel_rfl) (fun _ _ _ h => h) (by rfl) ?ypaf6 HVe.out ?zpaf6
         case ypaf6 => (intro wq hSw; (try dsimp only at hSw); go_simp; try with_reducible rfl)
         try simp only [mz1, mz2, mz3, Act.put, mz4, mz5, mz6]
         refine wtkq 7 ?vpaf7 rfl (by kernel_rfl) (fun _ _ _ h => h) (by rfl) ?ypaf7 HVe.out ?zpaf7
         case ypaf7 => (intro wq hSw; (try dsimp only at hSw); go_simp; try with_reducible rfl)
         try simp only [mz1, mz2, mz3, Act.put, mz4, mz5, mz6]
         refine wtkq 9 ?vpaf9 rfl (by kernel_rfl) (fun _ _ _ h => h) (by rfl) ?ypaf9 HVe.out ?zpaf9
         case ypaf9 => (intro wq hSw; (try dsimp only at hSw); go_simp; try with_reducible rfl)
         try simp only [mz1, mz2, mz3, Act.put, mz4, mz5, mz6]
         refine wpAnyH_ready (rs := [10]) (by kernel_rfl) (by simp) ?_
         refine AllReadyH.cons rfl (fun KK hKK => ?_) AllReadyH.nil
         refine qa3 26 _ _ rfl WE.heap.size _ #[.int .i64 0, .int .i64 0, .int .i64 0] rfl rfl HGe.out qa4 rfl (all3 rfl rfl rfl) ?_; intro w8 HF8 hg8
         have hge : w5.heap.size ≤ WE.heap.size := HGg
         have hb8 : Below w5.heap.size w5 w8 := (jtwo hb0 hbw).trans (jbelow hg8.out (jtwo hb0 hbw).size (fun g e => by cases e; exact hge))
         refine hKK.out _ _ (HV5.out.later hb8) (fun _ => ?_)
         clear hKK KK
         try simp only [mz1, mz2, mz3, Act.put]
         refine wpAnyH_done (by kernel_rfl) ?_ _
         try simp only [mz1, mz2, mz3, Act.put, mz4, mz5, mz6]
         exact hG _ _ _ ⟨HF8.out, hb8, hge⟩
       ·go_simp
        refine hKK.out _ _ (HV0.out.later (jlow _ (.cells #[.int .i64 0, .int .i64 0, .int .i64 0] 26))) (fun _ => ?_)
        clear hKK KK
        try simp only [mz1, mz2, mz3, Act.put, mz4, mz5, mz6]
        refine wpAnyH_ready (rs := [3]) (by kernel_rfl) (by simp) ?_
        refine AllReadyH.cons rfl (fun KK hKK => ?_) AllReadyH.nil
        go_simp
        refine (HEn.out _ (jtwo HB0.out (jlow _ (.cells #[.int .i64 0, .int .i64 0, .int .i64 0] 26))) (HS0.out.later (jlow _ (.cells #[.int .i64 0, .int .i64 0, .int .i64 0] 26)))).mono ?_; rintro e WE ⟨⟨vE, rfl, hE⟩, hbE⟩
        obtain ⟨xE, dE, rfl, -⟩ := hE.form
        have HEl := qa0 (hE.el HCk.out).2
        clear hE
        refine hKK.out _ _ (HV0.out.later (jtwo (jlow _ (.cells #[.int .i64 0, .int .i64 0, .int .i64 0] 26)) hbE)) (fun _ => ?_)
        clear hKK KK
        try simp only [mz1, mz2, mz3, Act.put, mz4, mz5, mz6]
        refine wpAnyH_ready (rs := [4]) (by kernel_rfl) (by simp) ?_
        refine AllReadyH.cons rfl (fun KK hKK => ?_) AllReadyH.nil
        go_simp
        refine (HVal.out _ _ _ (jtwo HB0.out (jtwo (jlow _ (.cells #[.int .i64 0, .int .i64 0, .int .i64 0] 26)) hbE)) (HEl.out)).mono ?_; rintro e WV ⟨rfl, hbV⟩
        refine hKK.out _ _ (HV0.out.later (jtwo (jtwo (jlow _ (.cells #[.int .i64 0, .int .i64 0, .int .i64 0] 26)) hbE) hbV)) (fun _ => ?_)
        clear hKK KK
        try simp only [mz1, mz2, mz3, Act.put, mz4, mz5, mz6]
        have HGg : w5.heap.size ≤ W0.heap.size := hb0.size
        have hbw := jtwo (jtwo (jlow W0 (.cells #[.int .i64 0, .int .i64 0, .int .i64 0] 26)) hbE) hbV
        have HVe := qa0 (HV0.out.later hbw)
        have HGe := qa0 (((Vn.new W0 26 #[.int .i64 0, .int .i64 0, .int .i64 0]).later hbE).later hbV)
        refine wtkq 5 ?vpag5 rfl (by kernel_rfl) (fun _ _ _ h => h) (by rfl) ?ypag5 HVe.out ?zpag5
        case ypag5 => (intro wq hSw; (try dsimp only at hSw); go_simp; try with_reducible rfl)
        try simp only [mz1, mz2, mz3, Act.put, mz4, mz5, mz6]
        refine wtkq 6 ?vpag6 rfl (by kernel_rfl) (fun _ _ _ h => h) (by rfl) ?ypag6 HVe.out ?zpag6
        case ypag6 => (intro wq hSw; (try dsimp only at hSw); go_simp; try with_reducible rfl)
        try simp only [mz1, mz2, mz3, Act.put, mz4, mz5, mz6]
        refine wtkq 7 ?vpag7 rfl (by kernel_rfl) (fun _ _ _ h => h) (by rfl) ?ypag7 HVe.out ?zpag7
        case ypag7 => (intro wq hSw; (try dsimp only at hSw); go_simp; try with_reducible rfl)
        try simp only [mz1, mz2, mz3, Act.put, mz4, mz5, mz6]
        refine wtkq 9 ?vpag9 rfl (by kernel_rfl) (fun _ _ _ h => h) (by rfl) ?ypag9 HVe.out ?zpag9
        case ypag9 => (intro wq hSw; (try dsimp only at hSw); go_simp; try with_reducible rfl)
        try simp only [mz1, mz2, mz3, Act.put, mz4, mz5, mz6]
        refine wpAnyH_ready (rs := [10]) (by kernel_rfl) (by simp) ?_
        refine AllReadyH.cons rfl (fun KK hKK => ?_) AllReadyH.nil
        refine qa3 26 _ _ rfl W0.heap.size _ #[.int .i64 0, .int .i64 0, .int .i64 0] rfl rfl HGe.out qa4 rfl (all3 rfl rfl rfl) ?_; intro w8 HF8 hg8
        have hge : w5.heap.size ≤ W0.heap.size := HGg
        have hb8 : Below w5.heap.size w5 w8 := (jtwo hb0 hbw).trans (jbelow hg8.out (jtwo hb0 hbw).size (fun g e => by cases e; exact hge))
        refine hKK.out _ _ (HV5.out.later hb8) (fun _ => ?_)
        clear hKK KK
        try simp only [mz1, mz2, mz3, Act.put]
        refine wpAnyH_done (by kernel_rfl) ?_ _
        try simp only [mz1, mz2, mz3, Act.put, mz4, mz5, mz6]
        exact hG _ _ _ ⟨HF8.out, hb8, hge⟩
      rintro vE gj wj ⟨hgj, hbj, hgl⟩
      have HGj := qa0 hgj
      have HBj := qa0 (jtwo HB5.out hbj)
      have HFj := qa0 (HF5.out.later hbj)
      have HSj := qa0 (HS5.out.later hbj)
      have HVj := qa0 (HV5.out.later hbj)
      have HYj := qa0 (HY5.out.later hbj)
      have zj := hbj.size
      have j0 := hgj.cell 0 _ rfl
      clear hgj hbj
      try dsimp only
      rcases qe2 T nm with ⟨hs, hl⟩ | ⟨y, hs, hl⟩
      ·have HT2 := qa0 (qdi HT.out (HSt.out _ (by rw [hs]; rfl)))
       have HLk : Hid (∀ (w' : World) (d : Nat), Sw w' (w.heap.size + 1) (.slice x T.length d) T → Calls Tryd.prog 14 #[.slice x T.length d, .string nm] w' fun e w'' => e = .returned (.tuple #[.agg #[.string ⟨#[]⟩, .int .u8 0, .int .i64 0, .int .i64 0], .bool false]) ∧ Below w'.heap.size w' w'') := fun w' d h => by
        have h2 := rlook w' x T.length d _ nm (h.el HOk.out).2 (by omega)
        rw [hl] at h2
        exact h2
       clear hs hl HSt
       go_wp2_with (first
        | (refine wpList_store_one rfl 33 _ _ rfl w4.heap.size 1 35 #[.string nm, .int .u8 2, .int .i64 (i : Int), .int .i64 0] (.int .u8 1) rfl rfl qgo rfl rfl HYj.out (by show 1 < 4; omega) ?_; go_loud (intro wk HYx hg; have HYk : Hid (Vn wk w4.heap.size 35 #[.string nm, .int .u8 1, .int .i64 (i : Int), .int .i64 0]) := HYx.out; have hbx : Below w5.heap.size wj wk → True := fun _ => trivial; clear hbx; have HBk : Hid (Below w.heap.size w wk) := HBj.out.trans (jbelow hg.out HBj.out.size (fun g e => by cases e; omega)); have HFk := qa0 (HFj.out.keptR hg.out (by simp; omega)); have HVk := qa0 (HVj.out.keptR hg.out (by simp; omega)); have HSk := qa0 (HSj.out.kept hg.out (by cases hx : (Value.slice x T.length d).ownBlock with | none => exact .inl rfl | some g => exact .inr (fun e => by cases e; have := (HS4.out.base hx).2; omega))); have zzk := hg.out.size; have e0k := HVk.out.cell 0 _ rfl; have e1k := HVk.out.cell 1 _ rfl; clear hg HYx))
        | (refine wpList_store_one rfl 3 _ _ rfl w4.heap.size 3 35 #[.string nm, .int .u8 1, .int .i64 (i : Int), .int .i64 0] (.int .i64 VVv) rfl rfl qcp rfl rfl HYk.out (by show 3 < 4; omega) ?_; go_loud (intro wq HYx hg; have HYq : Hid (Vn wq w4.heap.size 35 #[.string nm, .int .u8 1, .int .i64 (i : Int), .int .i64 VVv]) := HYx.out; have hbx : Below w5.heap.size wk wq → True := fun _ => trivial; clear hbx; have HBq : Hid (Below w.heap.size w wq) := HBk.out.trans (jbelow hg.out HBk.out.size (fun g e => by cases e; omega)); have HFq := qa0 (HFk.out.keptR hg.out (by simp; omega)); have HVq := qa0 (HVk.out.keptR hg.out (by simp; omega)); have HSq := qa0 (HSk.out.kept hg.out (by cases hx : (Value.slice x T.length d).ownBlock with | none => exact .inl rfl | some g => exact .inr (fun e => by cases e; have := (HS4.out.base hx).2; omega))); have zzq := hg.out.size; have e0q := HVq.out.cell 0 _ rfl; have e1q := HVq.out.cell 1 _ rfl; clear hg HYx))
        | (go_at_call 14; go_loud (refine (HLk.out _ _ HSq.out).mono ?_; rintro e w6 ⟨rfl, hb6⟩; obtain ⟨w7, HW7⟩ : ∃ w7, Hid (w7 = (w6.alloc (.cells #[.string ⟨#[]⟩, .int .u8 0, .int .i64 0, .int .i64 0] 35))) := ⟨_, qa0 rfl⟩; have hb7 : Below wq.heap.size wq w7 := (by rw [HW7.out]; exact jtwo hb6 (jlow _ _)); have HB7 := qa0 (jtwo HBq.out hb7); have HF7 := qa0 (HFq.out.later hb7); have HS7 := qa0 (HSq.out.later hb7); have HV7 := qa0 (HVq.out.later hb7); have HY7 := qa0 (HYq.out.later hb7); have zz7 := hb7.size; have Hz7 : Hid (w7.heap.size = w6.heap.size + 1) := (by show _ = _; rw [HW7.out]; simp); have t0 := HY7.out.cell 0 _ rfl; have t1 := HY7.out.cell 1 _ rfl; have t2 := HY7.out.cell 2 _ rfl; have t3 := HY7.out.cell 3 _ rfl; rw [HW7.out] at t0 t1 t2 t3; clear hb6 hb7))
        | (at_builtin; go_loud (rw [← HW7.out]; refine wpList_append_own _ rfl _ _ 23 rfl (w.heap.size + 1) 35 i0 (.agg #[.string ⟨#[]⟩, .int .u8 0, .int .i64 0, .int .i64 0]) 4 40 Tryd.underlying23 hi0 hz0 hz1 hz2 rfl (by decide) _ T.length _ rfl (HS7.out.later (jlow _ _)) ⟨w6.heap.size + 1, 0, none⟩ 1 1 [.string nm, .int .u8 1, .int .i64 (i : Int), .int .i64 VVv] rfl rfl (by have h := qax w7 [.string nm, .int .u8 1, .int .i64 (i : Int), .int .i64 VVv] 35; rw [Hz7.out] at h; exact h) (by intro u hu; simp at hu; rcases hu with rfl | rfl | rfl | rfl <;> rfl) (by unfold maxLen; omega) (by omega) (by have := HB7.out.size; simp; omega) ?_; intro v' w10 hown' hgrow' _; have HS10 : Hid (Sw w10 (w.heap.size + 1) v' (T ++ [⟨nm, k, i, VVv⟩])) := (by show Sw _ _ _ _; rw [Hk.out]; exact Sw.push hown'); have hb10 : Below w.heap.size w w10 := (HB7.out.trans ((jlow _ _).mono HB7.out.size)).trans (jbelow hgrow' (by have := HB7.out.size; simp; omega) (fun g hg => by have := (HS7.out.base hg).1; omega)); have HB10 := qa0 hb10; have HF10 := qa0 ((HF7.out.later (jlow _ _)).keptR hgrow' (fun e => by have := (HS7.out.base (g := w.heap.size) e.symm).1; omega)); clear hown' hgrow' hb10)))
       obtain ⟨x', d', rfl, -⟩ := HS10.out.form
       refine ⟨⟨i + 1, _, by omega, by go_num, HT2, ⟨x', d', rfl⟩, HS10, by rw [List.length_append]; show _ + 1 ≤ _; omega, fun y hy => ?_, HF10, HB10⟩, by simp [intOf]; omega⟩
       rcases List.mem_append.1 hy with hy | hy
       ·exact HOk.out y hy
       ·rw [List.mem_singleton.1 hy]
        exact ⟨hnm, k8, by show _ ≤ (i : Int); omega, by show (i : Int) ≤ _; omega, hv1, hv2⟩
      ·obtain ⟨yn, yk, yi, yv⟩ := y
       have HBad : Hid (tbl F n = .error (130, ln, cl)) := qbg hlt HT.out (HSt.out _ (by rw [hs]; rfl))
       have HLk : Hid (∀ (w' : World) (d : Nat), Sw w' (w.heap.size + 1) (.slice x T.length d) T → Calls Tryd.prog 14 #[.slice x T.length d, .string nm] w' fun e w'' => e = .returned (.tuple #[.agg #[.string yn, .int .u8 (yk : Int), .int .i64 yi, .int .i64 yv], .bool true]) ∧ Below w'.heap.size w' w'') := fun w' d h => by
        have h2 := rlook w' x T.length d _ nm (h.el HOk.out).2 (by omega)
        rw [hl] at h2
        exact h2
       clear hs hl HSt
       go_wp2_with (first
        | (refine wpList_store_one rfl 33 _ _ rfl w4.heap.size 1 35 #[.string nm, .int .u8 2, .int .i64 (i : Int), .int .i64 0] (.int .u8 1) rfl rfl qgo rfl rfl HYj.out (by show 1 < 4; omega) ?_; go_loud (intro wk HYx hg; have HYk : Hid (Vn wk w4.heap.size 35 #[.string nm, .int .u8 1, .int .i64 (i : Int), .int .i64 0]) := HYx.out; have hbx : Below w5.heap.size wj wk → True := fun _ => trivial; clear hbx; have HBk : Hid (Below w.heap.size w wk) := HBj.out.trans (jbelow hg.out HBj.out.size (fun g e => by cases e; omega)); have HFk := qa0 (HFj.out.keptR hg.out (by simp; omega)); have HVk := qa0 (HVj.out.keptR hg.out (by simp; omega)); have HSk := qa0 (HSj.out.kept hg.out (by cases hx : (Value.slice x T.length d).ownBlock with | none => exact .inl rfl | some g => exact .inr (fun e => by cases e; have := (HS4.out.base hx).2; omega))); have zzk := hg.out.size; have e0k := HVk.out.cell 0 _ rfl; have e1k := HVk.out.cell 1 _ rfl; clear hg HYx))
        | (refine wpList_store_one rfl 3 _ _ rfl w4.heap.size 3 35 #[.string nm, .int .u8 1, .int .i64 (i : Int), .int .i64 0] (.int .i64 VVv) rfl rfl qcp rfl rfl HYk.out (by show 3 < 4; omega) ?_; go_loud (intro wq HYx hg; have HYq : Hid (Vn wq w4.heap.size 35 #[.string nm, .int .u8 1, .int .i64 (i : Int), .int .i64 VVv]) := HYx.out; have hbx : Below w5.heap.size wk wq → True := fun _ => trivial; clear hbx; have HBq : Hid (Below w.heap.size w wq) := HBk.out.trans (jbelow hg.out HBk.out.size (fun g e => by cases e; omega)); have HFq := qa0 (HFk.out.keptR hg.out (by simp; omega)); have HVq := qa0 (HVk.out.keptR hg.out (by simp; omega)); have HSq := qa0 (HSk.out.kept hg.out (by cases hx : (Value.slice x T.length d).ownBlock with | none => exact .inl rfl | some g => exact .inr (fun e => by cases e; have := (HS4.out.base hx).2; omega))); have zzq := hg.out.size; have e0q := HVq.out.cell 0 _ rfl; have e1q := HVq.out.cell 1 _ rfl; clear hg HYx))
        | (go_at_call 14; go_loud (refine (HLk.out _ _ HSq.out).mono ?_; rintro e w6 ⟨rfl, hb6⟩; obtain ⟨w7, HW7⟩ : ∃ w7, Hid (w7 = (w6.alloc (.cells #[.string yn, .int .u8 (yk : Int), .int .i64 yi, .int .i64 yv] 35))) := ⟨_, qa0 rfl⟩; have hb7 : Below wq.heap.size wq w7 := (by rw [HW7.out]; exact jtwo hb6 (jlow _ _)); have HB7 := qa0 (jtwo HBq.out hb7); have HF7 := qa0 (HFq.out.later hb7); have HS7 := qa0 (HSq.out.later hb7); have HV7 := qa0 (HVq.out.later hb7); have HY7 := qa0 (HYq.out.later hb7); have zz7 := hb7.size; have Hz7 : Hid (w7.heap.size = w6.heap.size + 1) := (by show _ = _; rw [HW7.out]; simp); skip; clear hb6 hb7)))
       rw [← HW7.out]
       refine wp_region_held (S := fun w' => Vn w' wr.heap.size 61 #[.int .u8 (k : Int), .string nm, .int .u8 (vk : Int), .int .i64 vn, .string vm, .slice va vl vc, .int .i64 vln, .int .i64 vcl, .int .u8 (sk : Int), .string sm, .slice aa na ca, .slice pa np cp, .slice ra nr cr, .int .i64 sln, .int .i64 scl, .int .u8 (pl : Int), .slice la nl lc, .int .i64 ln, .int .i64 cl]) (by kernel_rfl) ?_
       change wpAnyH _ _ _ _ _ _ _ _ (World.drew _)
       obtain ⟨wd, HWd⟩ : ∃ wd, Hid (World.drew w7 = wd) := ⟨_, rfl⟩
       have HBd : Hid (Below w.heap.size w wd) := by show Below _ _ _; rw [← HWd.out]; exact HB7.out.drew
       have HFd : Hid (Vn wd w.heap.size 26 #[.int .i64 0, .int .i64 0, .int .i64 0]) := by show Vn _ _ _ _; rw [← HWd.out]; exact HF7.out
       have HYd : Hid (Vn wd (wr.heap.size) 61 #[.int .u8 (k : Int), .string nm, .int .u8 (vk : Int), .int .i64 vn, .string vm, .slice va vl vc, .int .i64 vln, .int .i64 vcl, .int .u8 (sk : Int), .string sm, .slice aa na ca, .slice pa np cp, .slice ra nr cr, .int .i64 sln, .int .i64 scl, .int .u8 (pl : Int), .slice la nl lc, .int .i64 ln, .int .i64 cl]) := by show Vn _ _ _ _; rw [← HWd.out]; exact HV7.out
       rw [HWd.out]
       clear HWd
       refine wtkq 0 ?vr0 rfl (by kernel_rfl) (fun _ _ _ h => h) (by rfl) ?yr0 HYd.out ?zr0
       case yr0 => (intro w hSw; (try dsimp only at hSw); have r17 := hSw.cell 17 _ rfl; have r18 := hSw.cell 18 _ rfl; clear hSw; go_simp; try with_reducible rfl)
       try simp only [mz1, mz3, Act.put, mz4, mz5, mz6]
       refine wtkq 1 ?vr1 rfl (by kernel_rfl) (fun _ _ _ h => h) (by rfl) ?yr1 HYd.out ?zr1
       case yr1 => (intro w hSw; (try dsimp only at hSw); have r17 := hSw.cell 17 _ rfl; have r18 := hSw.cell 18 _ rfl; clear hSw; go_simp; try with_reducible rfl)
       try simp only [mz1, mz2, mz3, Act.put, mz4, mz5, mz6]
       refine wtkq 2 ?vr2 rfl (by kernel_rfl) (fun _ _ _ h => h) (by rfl) ?yr2 HYd.out ?zr2
       case yr2 => (intro w hSw; (try dsimp only at hSw); have r17 := hSw.cell 17 _ rfl; have r18 := hSw.cell 18 _ rfl; clear hSw; go_simp; try with_reducible rfl)
       try simp only [mz1, mz2, mz3, Act.put, mz4, mz5, mz6]
       refine wtkq 3 ?vr3 rfl (by kernel_rfl) (fun _ _ _ h => h) (by rfl) ?yr3 HYd.out ?zr3
       case yr3 => (intro w hSw; (try dsimp only at hSw); have r17 := hSw.cell 17 _ rfl; have r18 := hSw.cell 18 _ rfl; clear hSw; go_simp; try with_reducible rfl)
       try simp only [mz1, mz2, mz3, Act.put, mz4, mz5, mz6]
       refine wtkq 4 ?vr4 rfl (by kernel_rfl) (fun _ _ _ h => h) (by rfl) ?yr4 HYd.out ?zr4
       case yr4 => (intro w hSw; (try dsimp only at hSw); have r17 := hSw.cell 17 _ rfl; have r18 := hSw.cell 18 _ rfl; clear hSw; go_simp; try with_reducible rfl)
       try simp only [mz1, mz2, mz3, Act.put, mz4, mz5, mz6]
       refine wtkq 5 ?vr5 rfl (by kernel_rfl) (fun _ _ _ h => h) (by rfl) ?yr5 HYd.out ?zr5
       case yr5 => (intro w hSw; (try dsimp only at hSw); have r17 := hSw.cell 17 _ rfl; have r18 := hSw.cell 18 _ rfl; clear hSw; go_simp; try with_reducible rfl)
       try simp only [mz1, mz2, mz3, Act.put, mz4, mz5, mz6]
       refine wpAnyH_ready (rs := [6]) (by kernel_rfl) (by simp) ?_
       refine AllReadyH.cons rfl (fun K hK => ?_) AllReadyH.nil
       refine qa3 26 _ _ rfl w.heap.size _ #[.int .i64 130, .int .i64 ln, .int .i64 cl] rfl rfl HFd.out qa4 rfl (all3 rfl rfl rfl) ?_; intro w8 HF8 hg8; have HY8 := qa0 (HYd.out.keptR hg8.out (by simp; omega))
       refine hK.out _ _ HY8.out (fun _ => ?_)
       clear hK K
       try simp only [mz1, mz2, mz3, Act.put]
       refine wpAnyH_done (by kernel_rfl) ?_ _
       try simp only [mz1, mz2, mz3, Act.put, mz4, mz5, mz6]
       go_wp2
       have d0 := HF8.out.cell 0 _ rfl
       have d1 := HF8.out.cell 1 _ rfl
       have d2 := HF8.out.cell 2 _ rfl
       have HB8 : Below w.heap.size w w8 := HBd.out.trans (jbelow hg8.out HBd.out.size (fun g e => by cases e; exact Nat.le_refl _))
       refine bodyPost_ret (v := .tuple #[.slice none 0 0, .agg #[.int .i64 130, .int .i64 ln, .int .i64 cl]]) (by simp [results, Tryd.results10, go_sem, d0, d1, d2]) rfl ?_
       exact ⟨by rw [HBad.out]; exact rfl, HB8⟩
     ·have HBad : Hid (tbl F n = .error ((VV.c : Int), VV.ln, VV.cl)) := qbg hlt HT.out (by rw [h1, if_pos hc])
      have q0 : ((VV.c : Int) != 0) = true := by simp; omega
      clear hk
      obtain ⟨VVv, VVc, VVl, VVk⟩ := VV
      dsimp only at *
      clear hz h1 hc
      go_wp2_with (first
       | (clear M1; refine wpList_load_mid rfl 61 _ rfl b _ rfl [.int .u8 (k : Int), .string nm, .int .u8 (vk : Int), .int .i64 vn, .string vm, .slice va vl vc, .int .i64 vln, .int .i64 vcl, .int .u8 (sk : Int), .string sm, .slice aa na ca, .slice pa np cp, .slice ra nr cr, .int .i64 sln, .int .i64 scl, .int .u8 (pl : Int), .slice la nl lc, .int .i64 ln, .int .i64 cl] _ HRg.out Tryd.underlying61 rfl qa2 ?_)
       | (clear M2; refine qa1 rfl 61 _ _ rfl wr.heap.size _ #[.int .u8 (k : Int), .string nm, .int .u8 (vk : Int), .int .i64 vn, .string vm, .slice va vl vc, .int .i64 vln, .int .i64 vcl, .int .u8 (sk : Int), .string sm, .slice aa na ca, .slice pa np cp, .slice ra nr cr, .int .i64 sln, .int .i64 scl, .int .u8 (pl : Int), .slice la nl lc, .int .i64 ln, .int .i64 cl] rfl rfl (Vn.new wr _ _) qa2 rfl (qbn rfl rfl rfl rfl rfl rfl rfl rfl rfl rfl rfl rfl rfl rfl rfl rfl rfl rfl rfl) ?_; intro w2 HV2 hg2; have hb2 : Below wr.heap.size wr w2 := (jlow _ _).trans (jbelow hg2.out (jlow _ _).size (fun g e => by cases e; exact Nat.le_refl _)); have HB2 := qa0 (jtwo HB1.out hb2); have HF2 := qa0 (HF1.out.later hb2); have HS2 := qa0 (HS1.out.later hb2); have z2 := hb2.size; have zv2 := HV2.out.lt; clear hg2 hb2)
       | (refine wpList_load_row rfl 61 _ rfl wr.heap.size rfl 61 #[.int .u8 (k : Int), .string nm, .int .u8 (vk : Int), .int .i64 vn, .string vm, .slice va vl vc, .int .i64 vln, .int .i64 vcl, .int .u8 (sk : Int), .string sm, .slice aa na ca, .slice pa np cp, .slice ra nr cr, .int .i64 sln, .int .i64 scl, .int .u8 (pl : Int), .slice la nl lc, .int .i64 ln, .int .i64 cl] (0, 0) _ HV2.out Tryd.underlying61 rfl qa2 ?_)
       | (go_at_call 24; go_loud (refine (HU.out _ HB2.out HS2.out).mono ?_; rintro e w3 ⟨rfl, hb3⟩; have HB3 := qa0 (jtwo HB2.out hb3); have HF3 := qa0 (HF2.out.later hb3); have HS3 := qa0 (HS2.out.later hb3); have z3 := hb3.size; have HV3 := qa0 (HV2.out.later hb3); clear hb3))
       | (clear M3; refine qa1 rfl 26 _ _ rfl w3.heap.size _ #[.int .i64 0, .int .i64 0, .int .i64 0] rfl rfl (Vn.new w3 _ _) qa4 rfl (all3 rfl rfl rfl) ?_; intro w4 HG4 hg4; go_loud (have hb4 : Below w3.heap.size w3 w4 := (jlow _ _).trans (jbelow hg4.out (jlow _ _).size (fun g e => by cases e; exact Nat.le_refl _)); have HB4 := qa0 (jtwo HB3.out hb4); have HF4 := qa0 (HF3.out.later hb4); have HS4 := qa0 (HS3.out.later hb4); have z4 := hb4.size; have HV4 := qa0 (HV3.out.later hb4); have g0 := HG4.out.cell 0 _ rfl; have g1 := HG4.out.cell 1 _ rfl; have g2 := HG4.out.cell 2 _ rfl; clear hg4 hb4; obtain ⟨w5, HW5⟩ : ∃ w5, Hid (w5 = (w4.alloc (.cells #[.string nm, .int .u8 2, .int .i64 (i : Int), .int .i64 0] 35))) := ⟨_, qa0 rfl⟩; have hb5 : Below w4.heap.size w4 w5 := (by rw [HW5.out]; exact jlow _ _); have HB5 := qa0 (jtwo HB4.out hb5); have HF5 := qa0 (HF4.out.later hb5); have HS5 := qa0 (HS4.out.later hb5); have z5 := hb5.size; have HV5 := qa0 (HV4.out.later hb5); have HY5 : Hid (Vn w5 w4.heap.size 35 #[.string nm, .int .u8 2, .int .i64 (i : Int), .int .i64 0]) := (by show Vn _ _ _ _; rw [HW5.out]; exact Vn.new _ _ _); have n1 := HV4.out.cell 1 _ rfl; have n0 := HV4.out.cell 0 _ rfl; have k0 := cell_kept n0 (jlow w4 (.cells #[.string nm, .int .u8 2, .int .i64 (i : Int), .int .i64 0] 35)); have k1 := cell_kept n1 (jlow w4 (.cells #[.string nm, .int .u8 2, .int .i64 (i : Int), .int .i64 0] 35)); clear hb5)))
      rw [← HW5.out]
      refine wp_region_held (S := fun w' => Vn w' wr.heap.size 61 #[.int .u8 (k : Int), .string nm, .int .u8 (vk : Int), .int .i64 vn, .string vm, .slice va vl vc, .int .i64 vln, .int .i64 vcl, .int .u8 (sk : Int), .string sm, .slice aa na ca, .slice pa np cp, .slice ra nr cr, .int .i64 sln, .int .i64 scl, .int .u8 (pl : Int), .slice la nl lc, .int .i64 ln, .int .i64 cl]) (by kernel_rfl) ?_
      change wpAnyH _ _ _ _ _ _ _ _ (World.drew _)
      obtain ⟨W0, HW0⟩ : ∃ W0, Hid (w5.drew = W0) := ⟨_, rfl⟩
      have hb0 : Below w5.heap.size w5 W0 := by rw [← HW0.out]; exact (Below.refl _ _).drew
      rw [HW0.out]
      clear HW0
      have HB0 := qa0 (jtwo HB5.out hb0)
      have HV0 := qa0 (HV5.out.later hb0)
      have HS0 := qa0 (HS5.out.later hb0)
      refine wtkq 0 ?vpbt0 rfl (by kernel_rfl) (fun _ _ _ h => h) (by rfl) ?ypbt0 HV0.out ?zpbt0
      case ypbt0 => (intro wq hSw; (try dsimp only at hSw); go_simp; try with_reducible rfl)
      try simp only [mz1, mz3, Act.put, mz4, mz5, mz6]
      refine wtkq 1 ?vpbt1 rfl (by kernel_rfl) (fun _ _ _ h => h) (by rfl) ?ypbt1 HV0.out ?zpbt1
      case ypbt1 => (intro wq hSw; (try dsimp only at hSw); have r2 := hSw.cell 2 _ rfl; have r3 := hSw.cell 3 _ rfl; have r4 := hSw.cell 4 _ rfl; have r5 := hSw.cell 5 _ rfl; have r6 := hSw.cell 6 _ rfl; have r7 := hSw.cell 7 _ rfl; clear hSw; go_simp; try with_reducible rfl)
      try simp only [mz1, mz2, mz3, Act.put, mz4, mz5, mz6]
      refine wtkq 2 ?vpbt2 rfl (by kernel_rfl) (fun _ _ _ h => h) (by rfl) ?ypbt2 HV0.out ?zpbt2
      case ypbt2 => (intro wq hSw; (try dsimp only at hSw); go_simp; try with_reducible rfl)
      try simp only [mz1, mz2, mz3, Act.put, mz4, mz5, mz6]
      apply join3 (fun v g w' => Vn w' g 26 #[.int .i64 (VVc : Int), .int .i64 VVl, .int .i64 VVk] ∧ Below w5.heap.size w5 w' ∧ w5.heap.size ≤ g)
      ·intro hG
       refine wpAnyH_ready (rs := [3, 8]) (by kernel_rfl) (by simp) ?_
       refine AllReadyH.cons rfl (fun KK hKK => ?_) (AllReadyH.cons rfl (fun KK hKK => ?_) AllReadyH.nil)
       ·go_simp
        refine (HEn.out _ (HB0.out) (HS0.out)).mono ?_; rintro e WE ⟨⟨vE, rfl, hE⟩, hbE⟩
        obtain ⟨xE, dE, rfl, -⟩ := hE.form
        have HEl := qa0 (hE.el HCk.out).2
        clear hE
        refine hKK.out _ _ (HV0.out.later hbE) (fun _ => ?_)
        clear hKK KK
        try simp only [mz1, mz2, mz3, Act.put, mz4, mz5, mz6]
        refine wpAnyH_ready (rs := [4, 8]) (by kernel_rfl) (by simp) ?_
        refine AllReadyH.cons rfl (fun KK hKK => ?_) (AllReadyH.cons rfl (fun KK hKK => ?_) AllReadyH.nil)
        ·go_simp
         refine (HVal.out _ _ _ (jtwo HB0.out hbE) (HEl.out)).mono ?_; rintro e WV ⟨rfl, hbV⟩
         refine hKK.out _ _ (HV0.out.later (jtwo hbE hbV)) (fun _ => ?_)
         clear hKK KK
         try simp only [mz1, mz2, mz3, Act.put, mz4, mz5, mz6]
         refine wtkq 5 ?vpbe5 rfl (by kernel_rfl) (fun _ _ _ h => h) (by rfl) ?ypbe5 (HV0.out.later (jtwo hbE hbV)) ?zpbe5
         case ypbe5 => (intro wq hSw; (try dsimp only at hSw); go_simp; try with_reducible rfl)
         try simp only [mz1, mz2, mz3, Act.put, mz4, mz5, mz6]
         refine wtkq 6 ?vpbe6 rfl (by kernel_rfl) (fun _ _ _ h => h) (by rfl) ?ypbe6 (HV0.out.later (jtwo hbE hbV)) ?zpbe6
         case ypbe6 => (intro wq hSw; (try dsimp only at hSw); go_simp; try with_reducible rfl)
         try simp only [mz1, mz2, mz3, Act.put, mz4, mz5, mz6]
         refine wtkq 7 ?vpbe7 rfl (by kernel_rfl) (fun _ _ _ h => h) (by rfl) ?ypbe7 (HV0.out.later (jtwo hbE hbV)) ?zpbe7
         case ypbe7 => (intro wq hSw; (try dsimp only at hSw); go_simp; try with_reducible rfl)
         try simp only [mz1, mz2, mz3, Act.put, mz4, mz5, mz6]
         refine wpAnyH_ready (rs := [8]) (by kernel_rfl) (by simp) ?_
         refine AllReadyH.cons rfl (fun KK hKK => ?_) AllReadyH.nil
         go_simp
         refine hKK.out _ _ (HV0.out.later (jtwo (jtwo hbE hbV) (jlow _ (.cells #[.int .i64 0, .int .i64 0, .int .i64 0] 26)))) (fun _ => ?_)
         clear hKK KK
         try simp only [mz1, mz2, mz3, Act.put, mz4, mz5, mz6]
         have HGg : w5.heap.size ≤ WV.heap.size := by have := hb0.size; have := hbE.size; have := hbV.size; omega
         have hbw := jtwo (jtwo hbE hbV) (jlow WV (.cells #[.int .i64 0, .int .i64 0, .int .i64 0] 26))
         have HVe := qa0 (HV0.out.later hbw)
         have HGe := qa0 (Vn.new WV 26 #[.int .i64 0, .int .i64 0, .int .i64 0])
         refine wtkq 9 ?vpbe9 rfl (by kernel_rfl) (fun _ _ _ h => h) (by rfl) ?ypbe9 HVe.out ?zpbe9
         case ypbe9 => (intro wq hSw; (try dsimp only at hSw); go_simp; try with_reducible rfl)
         try simp only [mz1, mz2, mz3, Act.put, mz4, mz5, mz6]
         refine wpAnyH_ready (rs := [10]) (by kernel_rfl) (by simp) ?_
         refine AllReadyH.cons rfl (fun KK hKK => ?_) AllReadyH.nil
         refine qa3 26 _ _ rfl WV.heap.size _ #[.int .i64 (VVc : Int), .int .i64 VVl, .int .i64 VVk] rfl rfl HGe.out qa4 rfl (all3 rfl rfl rfl) ?_; intro w8 HF8 hg8
         have hge : w5.heap.size ≤ WV.heap.size := HGg
         have hb8 : Below w5.heap.size w5 w8 := (jtwo hb0 hbw).trans (jbelow hg8.out (jtwo hb0 hbw).size (fun g e => by cases e; exact hge))
         refine hKK.out _ _ (HV5.out.later hb8) (fun _ => ?_)
         clear hKK KK
         try simp only [mz1, mz2, mz3, Act.put]
         refine wpAnyH_done (by kernel_rfl) ?_ _
         try simp only [mz1, mz2, mz3, Act.put, mz4, mz5, mz6]
         generalize Value.slice xE L.length dE = vEE
         generalize WV.heap.size = gg at *
         exact hG vEE gg w8 ⟨HF8.out, hb8, hge⟩
        ·go_simp
         refine hKK.out _ _ (HV0.out.later (jtwo hbE (jlow _ (.cells #[.int .i64 0, .int .i64 0, .int .i64 0] 26)))) (fun _ => ?_)
         clear hKK KK
         try simp only [mz1, mz2, mz3, Act.put, mz4, mz5, mz6]
         refine wpAnyH_ready (rs := [4]) (by kernel_rfl) (by simp) ?_
         refine AllReadyH.cons rfl (fun KK hKK => ?_) AllReadyH.nil
         go_simp
         refine (HVal.out _ _ _ (jtwo HB0.out (jtwo hbE (jlow _ (.cells #[.int .i64 0, .int .i64 0, .int .i64 0] 26)))) (HEl.out.later (jlow _ (.cells #[.int .i64 0, .int .i64 0, .int .i64 0] 26)))).mono ?_; rintro e WV ⟨rfl, hbV⟩
         refine hKK.out _ _ (HV0.out.later (jtwo (jtwo hbE (jlow _ (.cells #[.int .i64 0, .int .i64 0, .int .i64 0] 26))) hbV)) (fun _ => ?_)
         clear hKK KK
         try simp only [mz1, mz2, mz3, Act.put, mz4, mz5, mz6]
         have HGg : w5.heap.size ≤ WE.heap.size := by have := hb0.size; have := hbE.size; omega
         have hbw := jtwo (jtwo hbE (jlow WE (.cells #[.int .i64 0, .int .i64 0, .int .i64 0] 26))) hbV
         have HVe := qa0 (HV0.out.later hbw)
         have HGe := qa0 ((Vn.new WE 26 #[.int .i64 0, .int .i64 0, .int .i64 0]).later hbV)
         refine wtkq 5 ?vpbf5 rfl (by kernel_rfl) (fun _ _ _ h => h) (by rfl) ?ypbf5 HVe.out ?zpbf5
         case ypbf5 => (intro wq hSw; (try dsimp only at hSw); go_simp; try with_reducible rfl)
         try simp only [mz1, mz2, mz3, Act.put, mz4, mz5, mz6]
         refine wtkq 6 ?vpbf6 rfl (by kernel_rfl) (fun _ _ _ h => h) (by rfl) ?ypbf6 HVe.out ?zpbf6
         case ypbf6 => (intro wq hSw; (try dsimp only at hSw); go_simp; try with_reducible rfl)
         try simp only [mz1, mz2, mz3, Act.put, mz4, mz5, mz6]
         refine wtkq 7 ?vpbf7 rfl (by kernel_rfl) (fun _ _ _ h => h) (by rfl) ?ypbf7 HVe.out ?zpbf7
         case ypbf7 => (intro wq hSw; (try dsimp only at hSw); go_simp; try with_reducible rfl)
         try simp only [mz1, mz2, mz3, Act.put, mz4, mz5, mz6]
         refine wtkq 9 ?vpbf9 rfl (by kernel_rfl) (fun _ _ _ h => h) (by rfl) ?ypbf9 HVe.out ?zpbf9
         case ypbf9 => (intro wq hSw; (try dsimp only at hSw); go_simp; try with_reducible rfl)
         try simp only [mz1, mz2, mz3, Act.put, mz4, mz5, mz6]
         refine wpAnyH_ready (rs := [10]) (by kernel_rfl) (by simp) ?_
         refine AllReadyH.cons rfl (fun KK hKK => ?_) AllReadyH.nil
         refine qa3 26 _ _ rfl WE.heap.size _ #[.int .i64 (VVc : Int), .int .i64 VVl, .int .i64 VVk] rfl rfl HGe.out qa4 rfl (all3 rfl rfl rfl) ?_; intro w8 HF8 hg8
         have hge : w5.heap.size ≤ WE.heap.size := HGg
         have hb8 : Below w5.heap.size w5 w8 := (jtwo hb0 hbw).trans (jbelow hg8.out (jtwo hb0 hbw).size (fun g e => by cases e; exact hge))
         refine hKK.out _ _ (HV5.out.later hb8) (fun _ => ?_)
         clear hKK KK
         try simp only [mz1, mz2, mz3, Act.put]
         refine wpAnyH_done (by kernel_rfl) ?_ _
         try simp only [mz1, mz2, mz3, Act.put, mz4, mz5, mz6]
         exact hG _ _ _ ⟨HF8.out, hb8, hge⟩
       ·go_simp
        refine hKK.out _ _ (HV0.out.later (jlow _ (.cells #[.int .i64 0, .int .i64 0, .int .i64 0] 26))) (fun _ => ?_)
        clear hKK KK
        try simp only [mz1, mz2, mz3, Act.put, mz4, mz5, mz6]
        refine wpAnyH_ready (rs := [3]) (by kernel_rfl) (by simp) ?_
        refine AllReadyH.cons rfl (fun KK hKK => ?_) AllReadyH.nil
        go_simp
        refine (HEn.out _ (jtwo HB0.out (jlow _ (.cells #[.int .i64 0, .int .i64 0, .int .i64 0] 26))) (HS0.out.later (jlow _ (.cells #[.int .i64 0, .int .i64 0, .int .i64 0] 26)))).mono ?_; rintro e WE ⟨⟨vE, rfl, hE⟩, hbE⟩
        obtain ⟨xE, dE, rfl, -⟩ := hE.form
        have HEl := qa0 (hE.el HCk.out).2
        clear hE
        refine hKK.out _ _ (HV0.out.later (jtwo (jlow _ (.cells #[.int .i64 0, .int .i64 0, .int .i64 0] 26)) hbE)) (fun _ => ?_)
        clear hKK KK
        try simp only [mz1, mz2, mz3, Act.put, mz4, mz5, mz6]
        refine wpAnyH_ready (rs := [4]) (by kernel_rfl) (by simp) ?_
        refine AllReadyH.cons rfl (fun KK hKK => ?_) AllReadyH.nil
        go_simp
        refine (HVal.out _ _ _ (jtwo HB0.out (jtwo (jlow _ (.cells #[.int .i64 0, .int .i64 0, .int .i64 0] 26)) hbE)) (HEl.out)).mono ?_; rintro e WV ⟨rfl, hbV⟩
        refine hKK.out _ _ (HV0.out.later (jtwo (jtwo (jlow _ (.cells #[.int .i64 0, .int .i64 0, .int .i64 0] 26)) hbE) hbV)) (fun _ => ?_)
        clear hKK KK
        try simp only [mz1, mz2, mz3, Act.put, mz4, mz5, mz6]
        have HGg : w5.heap.size ≤ W0.heap.size := hb0.size
        have hbw := jtwo (jtwo (jlow W0 (.cells #[.int .i64 0, .int .i64 0, .int .i64 0] 26)) hbE) hbV
        have HVe := qa0 (HV0.out.later hbw)
        have HGe := qa0 (((Vn.new W0 26 #[.int .i64 0, .int .i64 0, .int .i64 0]).later hbE).later hbV)
        refine wtkq 5 ?vpbg5 rfl (by kernel_rfl) (fun _ _ _ h => h) (by rfl) ?ypbg5 HVe.out ?zpbg5
        case ypbg5 => (intro wq hSw; (try dsimp only at hSw); go_simp; try with_reducible rfl)
        try simp only [mz1, mz2, mz3, Act.put, mz4, mz5, mz6]
        refine wtkq 6 ?vpbg6 rfl (by kernel_rfl) (fun _ _ _ h => h) (by rfl) ?ypbg6 HVe.out ?zpbg6
        case ypbg6 => (intro wq hSw; (try dsimp only at hSw); go_simp; try with_reducible rfl)
        try simp only [mz1, mz2, mz3, Act.put, mz4, mz5, mz6]
        refine wtkq 7 ?vpbg7 rfl (by kernel_rfl) (fun _ _ _ h => h) (by rfl) ?ypbg7 HVe.out ?zpbg7
        case ypbg7 => (intro wq hSw; (try dsimp only at hSw); go_simp; try with_reducible rfl)
        try simp only [mz1, mz2, mz3, Act.put, mz4, mz5, mz6]
        refine wtkq 9 ?vpbg9 rfl (by kernel_rfl) (fun _ _ _ h => h) (by rfl) ?ypbg9 HVe.out ?zpbg9
        case ypbg9 => (intro wq hSw; (try dsimp only at hSw); go_simp; try with_reducible rfl)
        try simp only [mz1, mz2, mz3, Act.put, mz4, mz5, mz6]
        refine wpAnyH_ready (rs := [10]) (by kernel_rfl) (by simp) ?_
        refine AllReadyH.cons rfl (fun KK hKK => ?_) AllReadyH.nil
        refine qa3 26 _ _ rfl W0.heap.size _ #[.int .i64 (VVc : Int), .int .i64 VVl, .int .i64 VVk] rfl rfl HGe.out qa4 rfl (all3 rfl rfl rfl) ?_; intro w8 HF8 hg8
        have hge : w5.heap.size ≤ W0.heap.size := HGg
        have hb8 : Below w5.heap.size w5 w8 := (jtwo hb0 hbw).trans (jbelow hg8.out (jtwo hb0 hbw).size (fun g e => by cases e; exact hge))
        refine hKK.out _ _ (HV5.out.later hb8) (fun _ => ?_)
        clear hKK KK
        try simp only [mz1, mz2, mz3, Act.put]
        refine wpAnyH_done (by kernel_rfl) ?_ _
        try simp only [mz1, mz2, mz3, Act.put, mz4, mz5, mz6]
        exact hG _ _ _ ⟨HF8.out, hb8, hge⟩
      rintro vE gj wj ⟨hgj, hbj, hgl⟩
      have HGj := qa0 hgj
      have HBj := qa0 (jtwo HB5.out hbj)
      have HFj := qa0 (HF5.out.later hbj)
      have zj := hbj.size
      have j0 := hgj.cell 0 _ rfl
      clear hgj hbj
      try dsimp only
      go_wp2
      refine wp_region_held (S := fun w' => Vn w' gj 26 #[.int .i64 (VVc : Int), .int .i64 VVl, .int .i64 VVk]) (by kernel_rfl) ?_
      change wpAnyH _ _ _ _ _ _ _ _ (World.drew _)
      obtain ⟨wd, HWd⟩ : ∃ wd, Hid (World.drew wj = wd) := ⟨_, rfl⟩
      have HBd : Hid (Below w.heap.size w wd) := by show Below _ _ _; rw [← HWd.out]; exact HBj.out.drew
      have HFd : Hid (Vn wd w.heap.size 26 #[.int .i64 0, .int .i64 0, .int .i64 0]) := by show Vn _ _ _ _; rw [← HWd.out]; exact HFj.out
      have HYd : Hid (Vn wd (gj) 26 #[.int .i64 (VVc : Int), .int .i64 VVl, .int .i64 VVk]) := by show Vn _ _ _ _; rw [← HWd.out]; exact HGj.out
      rw [HWd.out]
      clear HWd
      refine wtkq 0 ?vx0 rfl (by kernel_rfl) (fun _ _ _ h => h) (by rfl) ?yx0 HYd.out ?zx0
      case yx0 => (intro w hSw; (try dsimp only at hSw); have r0 := hSw.cell 0 _ rfl; have r1 := hSw.cell 1 _ rfl; have r2 := hSw.cell 2 _ rfl; clear hSw; go_simp; try with_reducible rfl)
      try simp only [mz1, mz3, Act.put, mz4, mz5, mz6]
      refine wtkq 1 ?vx1 rfl (by kernel_rfl) (fun _ _ _ h => h) (by rfl) ?yx1 HYd.out ?zx1
      case yx1 => (intro w hSw; (try dsimp only at hSw); have r0 := hSw.cell 0 _ rfl; have r1 := hSw.cell 1 _ rfl; have r2 := hSw.cell 2 _ rfl; clear hSw; go_simp; try with_reducible rfl)
      try simp only [mz1, mz2, mz3, Act.put, mz4, mz5, mz6]
      refine wpAnyH_ready (rs := [2]) (by kernel_rfl) (by simp) ?_
      refine AllReadyH.cons rfl (fun K hK => ?_) AllReadyH.nil
      refine qa3 26 _ _ rfl w.heap.size _ #[.int .i64 (VVc : Int), .int .i64 VVl, .int .i64 VVk] rfl rfl HFd.out qa4 rfl (all3 rfl rfl rfl) ?_; intro w8 HF8 hg8; have HY8 := qa0 (HYd.out.keptR hg8.out (by simp; omega))
      refine hK.out _ _ HY8.out (fun _ => ?_)
      clear hK K
      try simp only [mz1, mz2, mz3, Act.put]
      refine wpAnyH_done (by kernel_rfl) ?_ _
      try simp only [mz1, mz2, mz3, Act.put, mz4, mz5, mz6]
      go_wp2
      have d0 := HF8.out.cell 0 _ rfl
      have d1 := HF8.out.cell 1 _ rfl
      have d2 := HF8.out.cell 2 _ rfl
      have HB8 : Below w.heap.size w w8 := HBd.out.trans (jbelow hg8.out HBd.out.size (fun g e => by cases e; exact Nat.le_refl _))
      refine bodyPost_ret (v := .tuple #[.slice none 0 0, .agg #[.int .i64 (VVc : Int), .int .i64 VVl, .int .i64 VVk]]) (by simp [results, Tryd.results10, go_sem, d0, d1, d2]) rfl ?_
      exact ⟨by rw [HBad.out]; exact rfl, HB8⟩
    ·have h1 := hst ⟨0, 0, 0, 0⟩ (by
      show (if k = 1 then _ else _) = _
      rw [if_neg hk])
     rw [if_neg (fun e => e rfl)] at h1
     have q1 : ((k : Int) == 1) = false := by simp; omega
     have M1 : True := trivial
     have M2 : True := trivial
     have M3 : True := trivial
     clear hst hcl hX hSv hG hF HFl HI HMi hMI hui hTR hnl64
     by_cases hk2 : k = 2
     ·have q2 : decide ((2 : Int) < (k : Int)) = false := decide_eq_false (by omega)
      have HSt : Hid (∀ R, (if (skd T nm).isSome = true then Except.error (130, ln, cl) else .ok (T ++ [⟨nm, k, i, 0⟩])) = R → stp i (F i) T = R) := fun R hR => by
       rw [h1, if_pos (.inr hk2)]; exact hR
      have hv1 : (-9223372036854775808 : Int) ≤ 0 := by omega
      have hv2 : (0 : Int) ≤ 9223372036854775807 := by omega
      have Hk : Hid (k = 2) := hk2
      clear hk hk2 h1
      rcases qe2 T nm with ⟨hs, hl⟩ | ⟨y, hs, hl⟩
      ·have HT2 := qa0 (qdi HT.out (HSt.out _ (by rw [hs]; rfl)))
       have HLk : Hid (∀ (w' : World) (d : Nat), Sw w' (w.heap.size + 1) (.slice x T.length d) T → Calls Tryd.prog 14 #[.slice x T.length d, .string nm] w' fun e w'' => e = .returned (.tuple #[.agg #[.string ⟨#[]⟩, .int .u8 0, .int .i64 0, .int .i64 0], .bool false]) ∧ Below w'.heap.size w' w'') := fun w' d h => by
        have h2 := rlook w' x T.length d _ nm (h.el HOk.out).2 (by omega)
        rw [hl] at h2
        exact h2
       clear hs hl HSt
       go_wp2_with (first
        | (clear M1; refine wpList_load_mid rfl 61 _ rfl b _ rfl [.int .u8 (k : Int), .string nm, .int .u8 (vk : Int), .int .i64 vn, .string vm, .slice va vl vc, .int .i64 vln, .int .i64 vcl, .int .u8 (sk : Int), .string sm, .slice aa na ca, .slice pa np cp, .slice ra nr cr, .int .i64 sln, .int .i64 scl, .int .u8 (pl : Int), .slice la nl lc, .int .i64 ln, .int .i64 cl] _ HRg.out Tryd.underlying61 rfl qa2 ?_)
        | (clear M2; refine qa1 rfl 61 _ _ rfl wr.heap.size _ #[.int .u8 (k : Int), .string nm, .int .u8 (vk : Int), .int .i64 vn, .string vm, .slice va vl vc, .int .i64 vln, .int .i64 vcl, .int .u8 (sk : Int), .string sm, .slice aa na ca, .slice pa np cp, .slice ra nr cr, .int .i64 sln, .int .i64 scl, .int .u8 (pl : Int), .slice la nl lc, .int .i64 ln, .int .i64 cl] rfl rfl (Vn.new wr _ _) qa2 rfl (qbn rfl rfl rfl rfl rfl rfl rfl rfl rfl rfl rfl rfl rfl rfl rfl rfl rfl rfl rfl) ?_; intro w2 HV2 hg2; have hb2 : Below wr.heap.size wr w2 := (jlow _ _).trans (jbelow hg2.out (jlow _ _).size (fun g e => by cases e; exact Nat.le_refl _)); have HB2 := qa0 (jtwo HB1.out hb2); have HF2 := qa0 (HF1.out.later hb2); have HS2 := qa0 (HS1.out.later hb2); have z2 := hb2.size; have zv2 := HV2.out.lt; clear hg2 hb2)
        | (refine wpList_load_row rfl 61 _ rfl wr.heap.size rfl 61 #[.int .u8 (k : Int), .string nm, .int .u8 (vk : Int), .int .i64 vn, .string vm, .slice va vl vc, .int .i64 vln, .int .i64 vcl, .int .u8 (sk : Int), .string sm, .slice aa na ca, .slice pa np cp, .slice ra nr cr, .int .i64 sln, .int .i64 scl, .int .u8 (pl : Int), .slice la nl lc, .int .i64 ln, .int .i64 cl] (0, 0) _ HV2.out Tryd.underlying61 rfl qa2 ?_)
        | (go_at_call 24; go_loud (refine (HU.out _ HB2.out HS2.out).mono ?_; rintro e w3 ⟨rfl, hb3⟩; have HB3 := qa0 (jtwo HB2.out hb3); have HF3 := qa0 (HF2.out.later hb3); have HS3 := qa0 (HS2.out.later hb3); have z3 := hb3.size; have HV3 := qa0 (HV2.out.later hb3); clear hb3))
        | (clear M3; refine qa1 rfl 26 _ _ rfl w3.heap.size _ #[.int .i64 0, .int .i64 0, .int .i64 0] rfl rfl (Vn.new w3 _ _) qa4 rfl (all3 rfl rfl rfl) ?_; intro w4 HG4 hg4; go_loud (have hb4 : Below w3.heap.size w3 w4 := (jlow _ _).trans (jbelow hg4.out (jlow _ _).size (fun g e => by cases e; exact Nat.le_refl _)); have HB4 := qa0 (jtwo HB3.out hb4); have HF4 := qa0 (HF3.out.later hb4); have HS4 := qa0 (HS3.out.later hb4); have z4 := hb4.size; have HV4 := qa0 (HV3.out.later hb4); have g0 := HG4.out.cell 0 _ rfl; have g1 := HG4.out.cell 1 _ rfl; have g2 := HG4.out.cell 2 _ rfl; clear hg4 hb4; obtain ⟨w5, HW5⟩ : ∃ w5, Hid (w5 = (w4.alloc (.cells #[.string nm, .int .u8 2, .int .i64 (i : Int), .int .i64 0] 35))) := ⟨_, qa0 rfl⟩; have hb5 : Below w4.heap.size w4 w5 := (by rw [HW5.out]; exact jlow _ _); have HB5 := qa0 (jtwo HB4.out hb5); have HF5 := qa0 (HF4.out.later hb5); have HS5 := qa0 (HS4.out.later hb5); have z5 := hb5.size; have HV5 := qa0 (HV4.out.later hb5); have HY5 : Hid (Vn w5 w4.heap.size 35 #[.string nm, .int .u8 2, .int .i64 (i : Int), .int .i64 0]) := (by show Vn _ _ _ _; rw [HW5.out]; exact Vn.new _ _ _); have n1 := HV4.out.cell 1 _ rfl; have n0 := HV4.out.cell 0 _ rfl; have k0 := cell_kept n0 (jlow w4 (.cells #[.string nm, .int .u8 2, .int .i64 (i : Int), .int .i64 0] 35)); have k1 := cell_kept n1 (jlow w4 (.cells #[.string nm, .int .u8 2, .int .i64 (i : Int), .int .i64 0] 35)); clear hb5))
        | (go_at_call 14; go_loud (rw [← HW5.out]; refine (HLk.out _ _ HS5.out).mono ?_; rintro e w6 ⟨rfl, hb6⟩; obtain ⟨w7, HW7⟩ : ∃ w7, Hid (w7 = (w6.alloc (.cells #[.string ⟨#[]⟩, .int .u8 0, .int .i64 0, .int .i64 0] 35))) := ⟨_, qa0 rfl⟩; have hb7 : Below w5.heap.size w5 w7 := (by rw [HW7.out]; exact jtwo hb6 (jlow _ _)); have HB7 := qa0 (jtwo HB5.out hb7); have HF7 := qa0 (HF5.out.later hb7); have HS7 := qa0 (HS5.out.later hb7); have HV7 := qa0 (HV5.out.later hb7); have HY7 := qa0 (HY5.out.later hb7); have zz7 := hb7.size; have Hz7 : Hid (w7.heap.size = w6.heap.size + 1) := (by show _ = _; rw [HW7.out]; simp); have t0 := HY7.out.cell 0 _ rfl; have t1 := HY7.out.cell 1 _ rfl; have t2 := HY7.out.cell 2 _ rfl; have t3 := HY7.out.cell 3 _ rfl; rw [HW7.out] at t0 t1 t2 t3; clear hb6 hb7))
        | (at_builtin; go_loud (rw [← HW7.out]; refine wpList_append_own _ rfl _ _ 23 rfl (w.heap.size + 1) 35 i0 (.agg #[.string ⟨#[]⟩, .int .u8 0, .int .i64 0, .int .i64 0]) 4 40 Tryd.underlying23 hi0 hz0 hz1 hz2 rfl (by decide) _ T.length _ rfl (HS7.out.later (jlow _ _)) ⟨w6.heap.size + 1, 0, none⟩ 1 1 [.string nm, .int .u8 2, .int .i64 (i : Int), .int .i64 0] rfl rfl (by have h := qax w7 [.string nm, .int .u8 2, .int .i64 (i : Int), .int .i64 0] 35; rw [Hz7.out] at h; exact h) (by intro u hu; simp at hu; rcases hu with rfl | rfl | rfl | rfl <;> rfl) (by unfold maxLen; omega) (by omega) (by have := HB7.out.size; simp; omega) ?_; intro v' w10 hown' hgrow' _; have HS10 : Hid (Sw w10 (w.heap.size + 1) v' (T ++ [⟨nm, k, i, 0⟩])) := (by show Sw _ _ _ _; rw [Hk.out]; exact Sw.push hown'); have hb10 : Below w.heap.size w w10 := (HB7.out.trans ((jlow _ _).mono HB7.out.size)).trans (jbelow hgrow' (by have := HB7.out.size; simp; omega) (fun g hg => by have := (HS7.out.base hg).1; omega)); have HB10 := qa0 hb10; have HF10 := qa0 ((HF7.out.later (jlow _ _)).keptR hgrow' (fun e => by have := (HS7.out.base (g := w.heap.size) e.symm).1; omega)); clear hown' hgrow' hb10)))
       obtain ⟨x', d', rfl, -⟩ := HS10.out.form
       refine ⟨⟨i + 1, _, by omega, by go_num, HT2, ⟨x', d', rfl⟩, HS10, by rw [List.length_append]; show _ + 1 ≤ _; omega, fun y hy => ?_, HF10, HB10⟩, by simp [intOf]; omega⟩
       rcases List.mem_append.1 hy with hy | hy
       ·exact HOk.out y hy
       ·rw [List.mem_singleton.1 hy]
        exact ⟨hnm, k8, by show _ ≤ (i : Int); omega, by show (i : Int) ≤ _; omega, hv1, hv2⟩
      ·obtain ⟨yn, yk, yi, yv⟩ := y
       have HBad : Hid (tbl F n = .error (130, ln, cl)) := qbg hlt HT.out (HSt.out _ (by rw [hs]; rfl))
       have HLk : Hid (∀ (w' : World) (d : Nat), Sw w' (w.heap.size + 1) (.slice x T.length d) T → Calls Tryd.prog 14 #[.slice x T.length d, .string nm] w' fun e w'' => e = .returned (.tuple #[.agg #[.string yn, .int .u8 (yk : Int), .int .i64 yi, .int .i64 yv], .bool true]) ∧ Below w'.heap.size w' w'') := fun w' d h => by
        have h2 := rlook w' x T.length d _ nm (h.el HOk.out).2 (by omega)
        rw [hl] at h2
        exact h2
       clear hs hl HSt
       go_wp2_with (first
        | (clear M1; refine wpList_load_mid rfl 61 _ rfl b _ rfl [.int .u8 (k : Int), .string nm, .int .u8 (vk : Int), .int .i64 vn, .string vm, .slice va vl vc, .int .i64 vln, .int .i64 vcl, .int .u8 (sk : Int), .string sm, .slice aa na ca, .slice pa np cp, .slice ra nr cr, .int .i64 sln, .int .i64 scl, .int .u8 (pl : Int), .slice la nl lc, .int .i64 ln, .int .i64 cl] _ HRg.out Tryd.underlying61 rfl qa2 ?_)
        | (clear M2; refine qa1 rfl 61 _ _ rfl wr.heap.size _ #[.int .u8 (k : Int), .string nm, .int .u8 (vk : Int), .int .i64 vn, .string vm, .slice va vl vc, .int .i64 vln, .int .i64 vcl, .int .u8 (sk : Int), .string sm, .slice aa na ca, .slice pa np cp, .slice ra nr cr, .int .i64 sln, .int .i64 scl, .int .u8 (pl : Int), .slice la nl lc, .int .i64 ln, .int .i64 cl] rfl rfl (Vn.new wr _ _) qa2 rfl (qbn rfl rfl rfl rfl rfl rfl rfl rfl rfl rfl rfl rfl rfl rfl rfl rfl rfl rfl rfl) ?_; intro w2 HV2 hg2; have hb2 : Below wr.heap.size wr w2 := (jlow _ _).trans (jbelow hg2.out (jlow _ _).size (fun g e => by cases e; exact Nat.le_refl _)); have HB2 := qa0 (jtwo HB1.out hb2); have HF2 := qa0 (HF1.out.later hb2); have HS2 := qa0 (HS1.out.later hb2); have z2 := hb2.size; have zv2 := HV2.out.lt; clear hg2 hb2)
        | (refine wpList_load_row rfl 61 _ rfl wr.heap.size rfl 61 #[.int .u8 (k : Int), .string nm, .int .u8 (vk : Int), .int .i64 vn, .string vm, .slice va vl vc, .int .i64 vln, .int .i64 vcl, .int .u8 (sk : Int), .string sm, .slice aa na ca, .slice pa np cp, .slice ra nr cr, .int .i64 sln, .int .i64 scl, .int .u8 (pl : Int), .slice la nl lc, .int .i64 ln, .int .i64 cl] (0, 0) _ HV2.out Tryd.underlying61 rfl qa2 ?_)
        | (go_at_call 24; go_loud (refine (HU.out _ HB2.out HS2.out).mono ?_; rintro e w3 ⟨rfl, hb3⟩; have HB3 := qa0 (jtwo HB2.out hb3); have HF3 := qa0 (HF2.out.later hb3); have HS3 := qa0 (HS2.out.later hb3); have z3 := hb3.size; have HV3 := qa0 (HV2.out.later hb3); clear hb3))
        | (clear M3; refine qa1 rfl 26 _ _ rfl w3.heap.size _ #[.int .i64 0, .int .i64 0, .int .i64 0] rfl rfl (Vn.new w3 _ _) qa4 rfl (all3 rfl rfl rfl) ?_; intro w4 HG4 hg4; go_loud (have hb4 : Below w3.heap.size w3 w4 := (jlow _ _).trans (jbelow hg4.out (jlow _ _).size (fun g e => by cases e; exact Nat.le_refl _)); have HB4 := qa0 (jtwo HB3.out hb4); have HF4 := qa0 (HF3.out.later hb4); have HS4 := qa0 (HS3.out.later hb4); have z4 := hb4.size; have HV4 := qa0 (HV3.out.later hb4); have g0 := HG4.out.cell 0 _ rfl; have g1 := HG4.out.cell 1 _ rfl; have g2 := HG4.out.cell 2 _ rfl; clear hg4 hb4; obtain ⟨w5, HW5⟩ : ∃ w5, Hid (w5 = (w4.alloc (.cells #[.string nm, .int .u8 2, .int .i64 (i : Int), .int .i64 0] 35))) := ⟨_, qa0 rfl⟩; have hb5 : Below w4.heap.size w4 w5 := (by rw [HW5.out]; exact jlow _ _); have HB5 := qa0 (jtwo HB4.out hb5); have HF5 := qa0 (HF4.out.later hb5); have HS5 := qa0 (HS4.out.later hb5); have z5 := hb5.size; have HV5 := qa0 (HV4.out.later hb5); have HY5 : Hid (Vn w5 w4.heap.size 35 #[.string nm, .int .u8 2, .int .i64 (i : Int), .int .i64 0]) := (by show Vn _ _ _ _; rw [HW5.out]; exact Vn.new _ _ _); have n1 := HV4.out.cell 1 _ rfl; have n0 := HV4.out.cell 0 _ rfl; have k0 := cell_kept n0 (jlow w4 (.cells #[.string nm, .int .u8 2, .int .i64 (i : Int), .int .i64 0] 35)); have k1 := cell_kept n1 (jlow w4 (.cells #[.string nm, .int .u8 2, .int .i64 (i : Int), .int .i64 0] 35)); clear hb5))
        | (go_at_call 14; go_loud (rw [← HW5.out]; refine (HLk.out _ _ HS5.out).mono ?_; rintro e w6 ⟨rfl, hb6⟩; obtain ⟨w7, HW7⟩ : ∃ w7, Hid (w7 = (w6.alloc (.cells #[.string yn, .int .u8 (yk : Int), .int .i64 yi, .int .i64 yv] 35))) := ⟨_, qa0 rfl⟩; have hb7 : Below w5.heap.size w5 w7 := (by rw [HW7.out]; exact jtwo hb6 (jlow _ _)); have HB7 := qa0 (jtwo HB5.out hb7); have HF7 := qa0 (HF5.out.later hb7); have HS7 := qa0 (HS5.out.later hb7); have HV7 := qa0 (HV5.out.later hb7); have HY7 := qa0 (HY5.out.later hb7); have zz7 := hb7.size; have Hz7 : Hid (w7.heap.size = w6.heap.size + 1) := (by show _ = _; rw [HW7.out]; simp); skip; clear hb6 hb7)))
       rw [← HW7.out]
       refine wp_region_held (S := fun w' => Vn w' wr.heap.size 61 #[.int .u8 (k : Int), .string nm, .int .u8 (vk : Int), .int .i64 vn, .string vm, .slice va vl vc, .int .i64 vln, .int .i64 vcl, .int .u8 (sk : Int), .string sm, .slice aa na ca, .slice pa np cp, .slice ra nr cr, .int .i64 sln, .int .i64 scl, .int .u8 (pl : Int), .slice la nl lc, .int .i64 ln, .int .i64 cl]) (by kernel_rfl) ?_
       change wpAnyH _ _ _ _ _ _ _ _ (World.drew _)
       obtain ⟨wd, HWd⟩ : ∃ wd, Hid (World.drew w7 = wd) := ⟨_, rfl⟩
       have HBd : Hid (Below w.heap.size w wd) := by show Below _ _ _; rw [← HWd.out]; exact HB7.out.drew
       have HFd : Hid (Vn wd w.heap.size 26 #[.int .i64 0, .int .i64 0, .int .i64 0]) := by show Vn _ _ _ _; rw [← HWd.out]; exact HF7.out
       have HYd : Hid (Vn wd (wr.heap.size) 61 #[.int .u8 (k : Int), .string nm, .int .u8 (vk : Int), .int .i64 vn, .string vm, .slice va vl vc, .int .i64 vln, .int .i64 vcl, .int .u8 (sk : Int), .string sm, .slice aa na ca, .slice pa np cp, .slice ra nr cr, .int .i64 sln, .int .i64 scl, .int .u8 (pl : Int), .slice la nl lc, .int .i64 ln, .int .i64 cl]) := by show Vn _ _ _ _; rw [← HWd.out]; exact HV7.out
       rw [HWd.out]
       clear HWd
       refine wtkq 0 ?vs0 rfl (by kernel_rfl) (fun _ _ _ h => h) (by rfl) ?ys0 HYd.out ?zs0
       case ys0 => (intro w hSw; (try dsimp only at hSw); have r17 := hSw.cell 17 _ rfl; have r18 := hSw.cell 18 _ rfl; clear hSw; go_simp; try with_reducible rfl)
       try simp only [mz1, mz3, Act.put, mz4, mz5, mz6]
       refine wtkq 1 ?vs1 rfl (by kernel_rfl) (fun _ _ _ h => h) (by rfl) ?ys1 HYd.out ?zs1
       case ys1 => (intro w hSw; (try dsimp only at hSw); have r17 := hSw.cell 17 _ rfl; have r18 := hSw.cell 18 _ rfl; clear hSw; go_simp; try with_reducible rfl)
       try simp only [mz1, mz2, mz3, Act.put, mz4, mz5, mz6]
       refine wtkq 2 ?vs2 rfl (by kernel_rfl) (fun _ _ _ h => h) (by rfl) ?ys2 HYd.out ?zs2
       case ys2 => (intro w hSw; (try dsimp only at hSw); have r17 := hSw.cell 17 _ rfl; have r18 := hSw.cell 18 _ rfl; clear hSw; go_simp; try with_reducible rfl)
       try simp only [mz1, mz2, mz3, Act.put, mz4, mz5, mz6]
       refine wtkq 3 ?vs3 rfl (by kernel_rfl) (fun _ _ _ h => h) (by rfl) ?ys3 HYd.out ?zs3
       case ys3 => (intro w hSw; (try dsimp only at hSw); have r17 := hSw.cell 17 _ rfl; have r18 := hSw.cell 18 _ rfl; clear hSw; go_simp; try with_reducible rfl)
       try simp only [mz1, mz2, mz3, Act.put, mz4, mz5, mz6]
       refine wtkq 4 ?vs4 rfl (by kernel_rfl) (fun _ _ _ h => h) (by rfl) ?ys4 HYd.out ?zs4
       case ys4 => (intro w hSw; (try dsimp only at hSw); have r17 := hSw.cell 17 _ rfl; have r18 := hSw.cell 18 _ rfl; clear hSw; go_simp; try with_reducible rfl)
       try simp only [mz1, mz2, mz3, Act.put, mz4, mz5, mz6]
       refine wtkq 5 ?vs5 rfl (by kernel_rfl) (fun _ _ _ h => h) (by rfl) ?ys5 HYd.out ?zs5
       case ys5 => (intro w hSw; (try dsimp only at hSw); have r17 := hSw.cell 17 _ rfl; have r18 := hSw.cell 18 _ rfl; clear hSw; go_simp; try with_reducible rfl)
       try simp only [mz1, mz2, mz3, Act.put, mz4, mz5, mz6]
       refine wpAnyH_ready (rs := [6]) (by kernel_rfl) (by simp) ?_
       refine AllReadyH.cons rfl (fun K hK => ?_) AllReadyH.nil
       refine qa3 26 _ _ rfl w.heap.size _ #[.int .i64 130, .int .i64 ln, .int .i64 cl] rfl rfl HFd.out qa4 rfl (all3 rfl rfl rfl) ?_; intro w8 HF8 hg8; have HY8 := qa0 (HYd.out.keptR hg8.out (by simp; omega))
       refine hK.out _ _ HY8.out (fun _ => ?_)
       clear hK K
       try simp only [mz1, mz2, mz3, Act.put]
       refine wpAnyH_done (by kernel_rfl) ?_ _
       try simp only [mz1, mz2, mz3, Act.put, mz4, mz5, mz6]
       go_wp2
       have d0 := HF8.out.cell 0 _ rfl
       have d1 := HF8.out.cell 1 _ rfl
       have d2 := HF8.out.cell 2 _ rfl
       have HB8 : Below w.heap.size w w8 := HBd.out.trans (jbelow hg8.out HBd.out.size (fun g e => by cases e; exact Nat.le_refl _))
       refine bodyPost_ret (v := .tuple #[.slice none 0 0, .agg #[.int .i64 130, .int .i64 ln, .int .i64 cl]]) (by simp [results, Tryd.results10, go_sem, d0, d1, d2]) rfl ?_
       exact ⟨by rw [HBad.out]; exact rfl, HB8⟩
     ·have q2 : decide ((2 : Int) < (k : Int)) = true := decide_eq_true (by
       have := k8
       rcases Nat.lt_or_ge 2 k with h | h
       ·omega
       ·exfalso
        exact HK0.out (by omega))
      have HT2 := qa0 (qdi HT.out (by rw [h1, if_neg (by omega)]))
      clear hk hk2 h1
      go_wp2_with (first
       | (clear M1; refine wpList_load_mid rfl 61 _ rfl b _ rfl [.int .u8 (k : Int), .string nm, .int .u8 (vk : Int), .int .i64 vn, .string vm, .slice va vl vc, .int .i64 vln, .int .i64 vcl, .int .u8 (sk : Int), .string sm, .slice aa na ca, .slice pa np cp, .slice ra nr cr, .int .i64 sln, .int .i64 scl, .int .u8 (pl : Int), .slice la nl lc, .int .i64 ln, .int .i64 cl] _ HRg.out Tryd.underlying61 rfl qa2 ?_)
       | (clear M2; refine qa1 rfl 61 _ _ rfl wr.heap.size _ #[.int .u8 (k : Int), .string nm, .int .u8 (vk : Int), .int .i64 vn, .string vm, .slice va vl vc, .int .i64 vln, .int .i64 vcl, .int .u8 (sk : Int), .string sm, .slice aa na ca, .slice pa np cp, .slice ra nr cr, .int .i64 sln, .int .i64 scl, .int .u8 (pl : Int), .slice la nl lc, .int .i64 ln, .int .i64 cl] rfl rfl (Vn.new wr _ _) qa2 rfl (qbn rfl rfl rfl rfl rfl rfl rfl rfl rfl rfl rfl rfl rfl rfl rfl rfl rfl rfl rfl) ?_; intro w2 HV2 hg2; have hb2 : Below wr.heap.size wr w2 := (jlow _ _).trans (jbelow hg2.out (jlow _ _).size (fun g e => by cases e; exact Nat.le_refl _)); have HB2 := qa0 (jtwo HB1.out hb2); have HF2 := qa0 (HF1.out.later hb2); have HS2 := qa0 (HS1.out.later hb2); have z2 := hb2.size; have zv2 := HV2.out.lt; clear hg2 hb2)
       | (refine wpList_load_row rfl 61 _ rfl wr.heap.size rfl 61 #[.int .u8 (k : Int), .string nm, .int .u8 (vk : Int), .int .i64 vn, .string vm, .slice va vl vc, .int .i64 vln, .int .i64 vcl, .int .u8 (sk : Int), .string sm, .slice aa na ca, .slice pa np cp, .slice ra nr cr, .int .i64 sln, .int .i64 scl, .int .u8 (pl : Int), .slice la nl lc, .int .i64 ln, .int .i64 cl] (0, 0) _ HV2.out Tryd.underlying61 rfl qa2 ?_)
       | (go_at_call 24; go_loud (refine (HU.out _ HB2.out HS2.out).mono ?_; rintro e w3 ⟨rfl, hb3⟩; have HB3 := qa0 (jtwo HB2.out hb3); have HF3 := qa0 (HF2.out.later hb3); have HS3 := qa0 (HS2.out.later hb3); have z3 := hb3.size; have HV3 := qa0 (HV2.out.later hb3); clear hb3))
       | (clear M3; refine qa1 rfl 26 _ _ rfl w3.heap.size _ #[.int .i64 0, .int .i64 0, .int .i64 0] rfl rfl (Vn.new w3 _ _) qa4 rfl (all3 rfl rfl rfl) ?_; intro w4 HG4 hg4; go_loud (have hb4 : Below w3.heap.size w3 w4 := (jlow _ _).trans (jbelow hg4.out (jlow _ _).size (fun g e => by cases e; exact Nat.le_refl _)); have HB4 := qa0 (jtwo HB3.out hb4); have HF4 := qa0 (HF3.out.later hb4); have HS4 := qa0 (HS3.out.later hb4); have z4 := hb4.size; have HV4 := qa0 (HV3.out.later hb4); have g0 := HG4.out.cell 0 _ rfl; have g1 := HG4.out.cell 1 _ rfl; have g2 := HG4.out.cell 2 _ rfl; clear hg4 hb4; obtain ⟨w5, HW5⟩ : ∃ w5, Hid (w5 = (w4.alloc (.cells #[.string nm, .int .u8 2, .int .i64 (i : Int), .int .i64 0] 35))) := ⟨_, qa0 rfl⟩; have hb5 : Below w4.heap.size w4 w5 := (by rw [HW5.out]; exact jlow _ _); have HB5 := qa0 (jtwo HB4.out hb5); have HF5 := qa0 (HF4.out.later hb5); have HS5 := qa0 (HS4.out.later hb5); have z5 := hb5.size; have HV5 := qa0 (HV4.out.later hb5); have HY5 : Hid (Vn w5 w4.heap.size 35 #[.string nm, .int .u8 2, .int .i64 (i : Int), .int .i64 0]) := (by show Vn _ _ _ _; rw [HW5.out]; exact Vn.new _ _ _); have n1 := HV4.out.cell 1 _ rfl; have n0 := HV4.out.cell 0 _ rfl; have k0 := cell_kept n0 (jlow w4 (.cells #[.string nm, .int .u8 2, .int .i64 (i : Int), .int .i64 0] 35)); have k1 := cell_kept n1 (jlow w4 (.cells #[.string nm, .int .u8 2, .int .i64 (i : Int), .int .i64 0] 35)); clear hb5)))
      rw [← HW5.out]
      exact ⟨⟨i + 1, T, by omega, by go_num, HT2, ⟨x, d, rfl⟩, HS5, by omega, HOk, HF5, HB5⟩, by simp [intOf]; omega⟩
   ·have HBad : Hid (tbl F n = .error (f0, f1, f2)) := qbg hlt HT.out (by
     unfold stp
     rw [hF, HFl.out, if_pos (fun e => hf (by cases e; exact ⟨rfl, rfl, rfl⟩))])
    have hfc : f0 ≠ 0 := by
     have h := wfl_code (E := skd T) (U := ius ⟨k, nm, X, S, pl, nl, G, ln, cl⟩) (by rw [HFl.out]; exact fun e => hf (by cases e; exact ⟨rfl, rfl, rfl⟩))
     rw [HFl.out] at h
     exact h
    have q0 : (f0 != 0) = true := by simpa using hfc
    clear hf hfc hcl hX hSv hG hF HFl HI HMi HOk hMI hui hTR hnl64
    have M1 : True := trivial
    have M2 : True := trivial
    have M3 : True := trivial
    go_wp2_with (first
     | (clear M1; refine wpList_load_mid rfl 61 _ rfl b _ rfl [.int .u8 (k : Int), .string nm, .int .u8 (vk : Int), .int .i64 vn, .string vm, .slice va vl vc, .int .i64 vln, .int .i64 vcl, .int .u8 (sk : Int), .string sm, .slice aa na ca, .slice pa np cp, .slice ra nr cr, .int .i64 sln, .int .i64 scl, .int .u8 (pl : Int), .slice la nl lc, .int .i64 ln, .int .i64 cl] _ HRg.out Tryd.underlying61 rfl qa2 ?_)
     | (clear M2; refine qa1 rfl 61 _ _ rfl wr.heap.size _ #[.int .u8 (k : Int), .string nm, .int .u8 (vk : Int), .int .i64 vn, .string vm, .slice va vl vc, .int .i64 vln, .int .i64 vcl, .int .u8 (sk : Int), .string sm, .slice aa na ca, .slice pa np cp, .slice ra nr cr, .int .i64 sln, .int .i64 scl, .int .u8 (pl : Int), .slice la nl lc, .int .i64 ln, .int .i64 cl] rfl rfl (Vn.new wr _ _) qa2 rfl (qbn rfl rfl rfl rfl rfl rfl rfl rfl rfl rfl rfl rfl rfl rfl rfl rfl rfl rfl rfl) ?_; intro w2 HV2 hg2; have hb2 : Below wr.heap.size wr w2 := (jlow _ _).trans (jbelow hg2.out (jlow _ _).size (fun g e => by cases e; exact Nat.le_refl _)); have HB2 := qa0 (jtwo HB1.out hb2); have HF2 := qa0 (HF1.out.later hb2); have HS2 := qa0 (HS1.out.later hb2); have z2 := hb2.size; have zv2 := HV2.out.lt; clear hg2 hb2)
     | (refine wpList_load_row rfl 61 _ rfl wr.heap.size rfl 61 #[.int .u8 (k : Int), .string nm, .int .u8 (vk : Int), .int .i64 vn, .string vm, .slice va vl vc, .int .i64 vln, .int .i64 vcl, .int .u8 (sk : Int), .string sm, .slice aa na ca, .slice pa np cp, .slice ra nr cr, .int .i64 sln, .int .i64 scl, .int .u8 (pl : Int), .slice la nl lc, .int .i64 ln, .int .i64 cl] (0, 0) _ HV2.out Tryd.underlying61 rfl qa2 ?_)
     | (go_at_call 24; go_loud (refine (HU.out _ HB2.out HS2.out).mono ?_; rintro e w3 ⟨rfl, hb3⟩; have HB3 := qa0 (jtwo HB2.out hb3); have HF3 := qa0 (HF2.out.later hb3); have HS3 := qa0 (HS2.out.later hb3); have z3 := hb3.size; have HV3 := qa0 (HV2.out.later hb3); clear hb3))
     | (clear M3; refine qa1 rfl 26 _ _ rfl w3.heap.size _ #[.int .i64 f0, .int .i64 f1, .int .i64 f2] rfl rfl (Vn.new w3 _ _) qa4 rfl (all3 rfl rfl rfl) ?_; intro w4 HG4 hg4; go_loud (have hb4 : Below w3.heap.size w3 w4 := (jlow _ _).trans (jbelow hg4.out (jlow _ _).size (fun g e => by cases e; exact Nat.le_refl _)); have HB4 := qa0 (jtwo HB3.out hb4); have HF4 := qa0 (HF3.out.later hb4); have HS4 := qa0 (HS3.out.later hb4); have z4 := hb4.size; have HV4 := qa0 (HV3.out.later hb4); have g0 := HG4.out.cell 0 _ rfl; have g1 := HG4.out.cell 1 _ rfl; have g2 := HG4.out.cell 2 _ rfl; clear hg4 hb4)))
    have hzz := HG4.out.lt
    clear HU HRg HV2 HV3 HV4
    refine wp_region_held (S := fun w' => Vn w' w3.heap.size 26 #[.int .i64 f0, .int .i64 f1, .int .i64 f2]) (by kernel_rfl) ?_
    change wpAnyH _ _ _ _ _ _ _ _ (World.drew _)
    obtain ⟨wd, HWd⟩ : ∃ wd, Hid (World.drew w4 = wd) := ⟨_, rfl⟩
    have HBd : Hid (Below w.heap.size w wd) := by show Below _ _ _; rw [← HWd.out]; exact HB4.out.drew
    have HFd : Hid (Vn wd w.heap.size 26 #[.int .i64 0, .int .i64 0, .int .i64 0]) := by show Vn _ _ _ _; rw [← HWd.out]; exact HF4.out
    have HYd : Hid (Vn wd (w3.heap.size) 26 #[.int .i64 f0, .int .i64 f1, .int .i64 f2]) := by show Vn _ _ _ _; rw [← HWd.out]; exact HG4.out
    rw [HWd.out]
    clear HWd
    refine wtkq 0 ?vu0 rfl (by kernel_rfl) (fun _ _ _ h => h) (by rfl) ?yu0 HYd.out ?zu0
    case yu0 => (intro w hSw; (try dsimp only at hSw); have r0 := hSw.cell 0 _ rfl; have r1 := hSw.cell 1 _ rfl; have r2 := hSw.cell 2 _ rfl; clear hSw; go_simp; try with_reducible rfl)
    try simp only [mz1, mz3, Act.put, mz4, mz5, mz6]
    refine wtkq 1 ?vu1 rfl (by kernel_rfl) (fun _ _ _ h => h) (by rfl) ?yu1 HYd.out ?zu1
    case yu1 => (intro w hSw; (try dsimp only at hSw); have r0 := hSw.cell 0 _ rfl; have r1 := hSw.cell 1 _ rfl; have r2 := hSw.cell 2 _ rfl; clear hSw; go_simp; try with_reducible rfl)
    try simp only [mz1, mz2, mz3, Act.put, mz4, mz5, mz6]
    refine wpAnyH_ready (rs := [2]) (by kernel_rfl) (by simp) ?_
    refine AllReadyH.cons rfl (fun K hK => ?_) AllReadyH.nil
    refine qa3 26 _ _ rfl w.heap.size _ #[.int .i64 f0, .int .i64 f1, .int .i64 f2] rfl rfl HFd.out qa4 rfl (all3 rfl rfl rfl) ?_; intro w8 HF8 hg8; have HY8 := qa0 (HYd.out.keptR hg8.out (by simp; omega))
    refine hK.out _ _ HY8.out (fun _ => ?_)
    clear hK K
    try simp only [mz1, mz2, mz3, Act.put]
    refine wpAnyH_done (by kernel_rfl) ?_ _
    try simp only [mz1, mz2, mz3, Act.put, mz4, mz5, mz6]
    go_wp2
    have d0 := HF8.out.cell 0 _ rfl
    have d1 := HF8.out.cell 1 _ rfl
    have d2 := HF8.out.cell 2 _ rfl
    have HB8 : Below w.heap.size w w8 := HBd.out.trans (jbelow hg8.out HBd.out.size (fun g e => by cases e; exact Nat.le_refl _))
    refine bodyPost_ret (v := .tuple #[.slice none 0 0, .agg #[.int .i64 f0, .int .i64 f1, .int .i64 f2]]) (by simp [results, Tryd.results10, go_sem, d0, d1, d2]) rfl ?_
    exact ⟨by rw [HBad.out]; exact rfl, HB8⟩
  ·obtain rfl : i = n := by omega
   clear HI HMi
   go_wp2_with (refine qa1 rfl 26 _ _ rfl w.heap.size _ #[.int .i64 0, .int .i64 0, .int .i64 0] rfl rfl HF1.out qa4 rfl (all3 rfl rfl rfl) ?_; intro w8 HF8 hg8)
   have d0 := HF8.out.cell 0 _ rfl
   have d1 := HF8.out.cell 1 _ rfl
   have d2 := HF8.out.cell 2 _ rfl
   have HB8 : Below w.heap.size w w8 := HB1.out.trans (jbelow hg8.out HB1.out.size (fun g e => by cases e; exact Nat.le_refl _))
   have HS8 := HS1.out.kept hg8.out (by cases hx : (Value.slice x T.length d).ownBlock with | none => exact .inl rfl | some g => exact .inr (fun e => by cases e; have := (HS1.out.base hx).1; omega))
   refine bodyPost_ret (v := .tuple #[.slice x T.length d, .agg #[.int .i64 0, .int .i64 0, .int .i64 0]]) (by simp [results, Tryd.results10, go_sem, d0, d1, d2]) rfl ?_
   exact ⟨by rw [HT.out]; exact ⟨_, rfl, HS8.lower (by omega), HOk.out⟩, HB8⟩
/-- The reference's Table. -/
theorem rtable13 (w : World) (a : Option Addr) (n c : Nat) (F : Nat → It) (hI : Its w a n F) (hn : n ≤ 549755813888) :
  Calls Tryd.prog 10 #[.slice a n c] w fun e w' => TbA w' w.heap.size e (tbD F n) ∧ Below w.heap.size w w' := by
 cases hm : mayD F n with
 | false => exact rtab_bad w a n c F hI hn hm
 | true => exact rtab_ok w a n c F hI hn hm
end Go.Proofs.YtemhodenkgngmaaDoor
