/-
  Codes of portions: Pyramid.
  The document's Local, Pyramid and Same; the law's like; what both sides answer, in pairs.
  What both sides answer: Reed, Cross, Local, Pyramid.
-/
import Derived.Test.YtnfbbddoaeofgaaGreatQmmde00
import Derived.Test.YtnfbbddoaeofgaaGreatQmmde45
import Derived.Test.YtnfbbddoaeofgaaGreatQmmde46
import Derived.Test.YtnfbbddoaeofgaaGreatQmmde48
import Derived.Test.YtnfbbddoaeofgaaGreatQmmde49
set_option maxRecDepth 100000
set_option maxHeartbeats 16000000
namespace Go.Proofs.YtnfbbddoaeofgaaGreat
open Go.RowKit
theorem pyr16_ok (w : World) (k l s m R N : Nat) (hk : 1 ≤ k) (hl : 1 ≤ l) (hs : 1 ≤ s) (HK : Hid (l * s = k)) (HR : Hid (k + l + m = R)) (hR : R ≤ 64) (HN : Hid (R * k = N)) :
  Calls Tryz.prog 15 #[.int .i64 (k : Int), .int .i64 (l : Int), .int .i64 (m : Int)] w fun e w' => CAns w w' e R k N (ptf k l s (fun j => crf k (k * k + j)) (fun q => crf k ((k + 1) * k + q))) l (gpf k s) 0 := by
 have HV0 : Hid (Vq (w.alloc (.cells #[.int .i64 0, .int .i64 0, .slice none 0 0, .slice none 0 0] 27)) w.heap.size 27 #[.int .i64 0, .int .i64 0, .slice none 0 0, .slice none 0 0]) := Vq.new w _ _
 have hrr := HR.out
 have HPf : Hid (∀ w, Calls Tryz.prog 39 #[.int .i64 (k : Int), .int .i64 (l : Int), .int .i64 (m : Int)] w fun e w' => e = .returned (.int .i64 0) ∧ Below w.heap.size w w') := fun w => pfail w k l m 0 (by omega) (by omega) (by omega) (.inr (.inr ⟨⟨by omega, by omega, qdt HK.out, by omega⟩, by omega, rfl⟩))
 obtain ⟨A, HA⟩ : ∃ A, Hid (k * k = A) := ⟨_, rfl⟩
 obtain ⟨B, HB⟩ : ∃ B, Hid ((m + 1) * k = B) := ⟨_, rfl⟩
 obtain ⟨T, HT⟩ : ∃ T, Hid (k + (m + 1) = T) := ⟨_, rfl⟩
 obtain ⟨Q, HQ⟩ : ∃ Q, Hid (A + B = Q) := ⟨_, rfl⟩
 obtain ⟨M, HM⟩ : ∃ M, Hid (m * k = M) := ⟨_, rfl⟩
 have htt := HT.out
 have HRT : Hid (Rt T k Q) := ⟨by omega, by omega, by rw [← HQ.out, ← HA.out, ← HB.out, ← HT.out, Nat.add_mul]⟩
 have HCr : Hid (∀ w, Calls Tryz.prog 37 #[.int .i64 (k : Int), .int .i64 ((m + 1 : Nat) : Int)] w fun e w' => ∃ s d, e = .returned (.tuple #[mv (T : Int) k s Q d, .int .i64 0]) ∧ Mt w' s Q d (crf k) ∧ Below w.heap.size w w') := fun w => by rw [← HT.out, ← HQ.out]; exact qem w k (m + 1) A B hk (by omega) HA HB
 have hm1w : IntKind.i64.wrap ((m : Int) + 1) = ((m + 1 : Nat) : Int) := by rw [IntKind.wrap_i64]; omega
 obtain ⟨Wf, HWf⟩ : ∃ Wf : Nat → Nat, Hid ((fun j => crf k (k * k + j)) = Wf) := ⟨_, rfl⟩
 obtain ⟨Xf, HXf⟩ : ∃ Xf : Nat → Nat, Hid ((fun q => crf k ((k + 1) * k + q)) = Xf) := ⟨_, rfl⟩
 have hXf : ((fun q => crf k ((k + 1) * k + q))) = Xf := HXf.out
 rw [HWf.out, hXf]
 have HRo : Hid (∀ (w : World) (a : Option Addr) (d : Nat), Mt w a Q d (crf k) → Calls Tryz.prog 44 #[mv T k a Q d, .int .i64 (k : Int)] w fun e w' => ∃ s d, e = .returned (.tuple #[.slice s k d, .int .i64 0]) ∧ Mt w' s k d Wf ∧ Below w.heap.size w w') := fun w a d h => (mrow_ok w T k Q d k a (crf k) h HRT.out (by omega)).mono (fun e w' h => by
  obtain ⟨v, he, ho, hb⟩ := h
  obtain ⟨s, d, rfl, _, _⟩ := qap ho
  rw [← HWf.out]
  exact ⟨s, d, he, ql4 ho (fun i _ => qb8 k _), hb⟩)
 have HXlt : Hid (∀ q, q < M → Xf q < 256) := fun q hq => by rw [← HXf.out]; exact qb8 k _
 have HLa : Hid (∀ (w : World) (a : Option Addr) (d : Nat), Mt w a Q d (crf k) → Calls Tryz.prog 42 #[mv T k a Q d, .int .i64 (m : Int)] w fun e w' => ∃ g, e = .returned (mv m k (some ⟨g, 0, none⟩) M M) ∧ RowAt w' g 5 M Xf ∧ w.heap.size ≤ g ∧ Below w.heap.size w w') := fun w a d h => by rw [← HXf.out]; exact last16 w T k Q d m (k + 1) M a (crf k) h HRT.out (by omega) HM
 have HPo : Hid (∀ (w : World) (sw sf : Option Addr) (kw dM : Nat), Mt w sw k kw Wf → Mt w sf M dM Xf → Calls Tryz.prog 40 #[.int .i64 (l : Int), .slice sw k kw, mv m k sf M dM] w fun e w' => ∃ gd gg, e = .returned (cv R k (some ⟨gd, 0, none⟩) N N (some ⟨gg, 0, none⟩) l l) ∧ RowAt w' gd 5 N (ptf k l s Wf Xf) ∧ JAt w' gg 54 .u64 l (gpf k s) ∧ Below w.heap.size w w') := fun w sw sf kw dM h1 h2 => portd w l k s m R N M kw dM sw sf Wf Xf h1 h2 hl hs HK HR hR HN HM
 have HRt : Hid (∀ q, q < N → ptf k l s Wf Xf q < 256) := fun q hq => qi7 HK.out hl (fun j => by rw [← HWf.out]; exact qb8 k _) (fun j => by rw [← HXf.out]; exact qb8 k _) q
 clear hrr htt HK HN HM HRT HA HB HQ HWf HXf hXf
 go_enter Tryz.func15, Tryz.ntmps15
 go_wp2_with (first
  | (go_at_call 39; refine (HPf.out _).mono ?_; rintro e w0 ⟨rfl, hb0⟩; have HB0 : Hid (Below w.heap.size w w0) := qa1 (qa0 _ _) hb0; have HV0a : Hid (Vq w0 w.heap.size 27 #[.int .i64 0, .int .i64 0, .slice none 0 0, .slice none 0 0]) := HV0.out.later hb0; clear hb0)
  | (go_at_call 37; refine (HCr.out _).mono ?_; rintro e w1 ⟨s1, d1, rfl, hm1, hb1⟩; have HM1 : Hid (Mt (w1.alloc (.cells #[.int .i64 (T : Int), .int .i64 (k : Int), .slice s1 Q d1] 24)) s1 Q d1 (crf k)) := hm1.later (qa0 _ _); have HB1 : Hid (Below w.heap.size w (w1.alloc (.cells #[.int .i64 (T : Int), .int .i64 (k : Int), .slice s1 Q d1] 24))) := qa1 (qa1 HB0.out hb1) (qa0 _ _); have HV1 : Hid (Vq (w1.alloc (.cells #[.int .i64 (T : Int), .int .i64 (k : Int), .slice s1 Q d1] 24)) w.heap.size 27 #[.int .i64 0, .int .i64 0, .slice none 0 0, .slice none 0 0]) := (HV0a.out.later hb1).later (qa0 _ _); have HC1 : Hid (Vq (w1.alloc (.cells #[.int .i64 (T : Int), .int .i64 (k : Int), .slice s1 Q d1] 24)) w1.heap.size 24 #[.int .i64 (T : Int), .int .i64 (k : Int), .slice s1 Q d1]) := Vq.new w1 _ _; have y0 := HC1.out.cell 0 _ rfl; have y1 := HC1.out.cell 1 _ rfl; have y2 := HC1.out.cell 2 _ rfl; clear hm1 hb1)
  | (go_at_call 44; refine (HRo.out _ _ _ HM1.out).mono ?_; rintro e w2 ⟨s2, d2, rfl, hm2, hb2⟩; have HM2 : Hid (Mt w2 s2 k d2 Wf) := hm2; have HB2 : Hid (Below w.heap.size w w2) := qa1 HB1.out hb2; have HV2 : Hid (Vq w2 w.heap.size 27 #[.int .i64 0, .int .i64 0, .slice none 0 0, .slice none 0 0]) := HV1.out.later hb2; have HN2 : Hid (Mt w2 s1 Q d1 (crf k)) := HM1.out.later hb2; have HC2 := HC1.out.later hb2; have z0 := HC2.cell 0 _ rfl; have z1 := HC2.cell 1 _ rfl; have z2 := HC2.cell 2 _ rfl; clear hm2 hb2 HC2)
  | (go_at_call 42; refine (HLa.out _ _ _ HN2.out).mono ?_; rintro e w3 ⟨g3, rfl, hr3, hg3, hb3⟩; have HM3 : Hid (Mt w3 (some ⟨g3, 0, none⟩) M M Xf) := hr3.mt HXlt.out; have HB3 : Hid (Below w.heap.size w w3) := qa1 HB2.out hb3; have HV3 : Hid (Vq w3 w.heap.size 27 #[.int .i64 0, .int .i64 0, .slice none 0 0, .slice none 0 0]) := HV2.out.later hb3; have HW3 : Hid (Mt w3 s2 k d2 Wf) := HM2.out.later hb3; clear hr3 hg3 hb3)
  | (go_at_call 40; refine (HPo.out _ _ _ _ _ HW3.out HM3.out).mono ?_; rintro e w4 ⟨gd, gg, rfl, hr4, hj4, hb4⟩; have HR4 : Hid (RowAt w4 gd 5 N (ptf k l s Wf Xf)) := hr4; have HJ4 : Hid (JAt w4 gg 54 .u64 l (gpf k s)) := hj4; have HB4 : Hid (Below w.heap.size w w4) := qa1 HB3.out hb4; have HV4 : Hid (Vq w4 w.heap.size 27 #[.int .i64 0, .int .i64 0, .slice none 0 0, .slice none 0 0]) := HV3.out.later hb4; clear hr4 hj4 hb4)
  | (refine qa4 rfl 27 _ _ rfl w.heap.size _ #[.int .i64 (R : Int), .int .i64 (k : Int), .slice (some ⟨gd, 0, none⟩) N N, .slice (some ⟨gg, 0, none⟩) l l] rfl rfl HV4.out sizeCo rfl (occ _ _ _ _ _ _ _ _) ?_; intro w5 HV5 HG5))
 have c0 := HV5.out.cell 0 _ rfl
 have c1 := HV5.out.cell 1 _ rfl
 have c2 := HV5.out.cell 2 _ rfl
 have c3 := HV5.out.cell 3 _ rfl
 refine bodyPost_ret (v := .tuple #[cv R k (some ⟨gd, 0, none⟩) N N (some ⟨gg, 0, none⟩) l l, .int .i64 0]) (by simp [results, Tryz.results15, go_sem, c0, c1, c2, c3, cv]) rfl ?_
 have e1 : gd ≠ w.heap.size := qi4 HR4.out HV4.out
 have e2 : gg ≠ w.heap.size := qi5 HJ4.out HV4.out
 exact ⟨_, _, _, _, rfl, (HR4.out.kept HG5.out e1).mt HRt.out, qi6 (HJ4.out.kept HG5.out e2), qa2 HB4.out HG5.out (Nat.le_refl _)⟩
open Go.RowKit
theorem qg3 {w w' : World} {s2 : Option Addr} {M b : Nat} {q : Nat → Int} (h : Jl w s2 .u64 M q) (hv : Vq w b 27 #[.int .i64 0, .int .i64 0, .slice none 0 0, .slice none 0 0]) (hg : w.grownBy w' (some b)) : Jl w' s2 .u64 M q := fun i hi => by
 obtain ⟨x, o, e, hc⟩ := h i hi
 refine ⟨x, o, e, ?_⟩
 have hx : x ≠ b := fun e2 => by
  subst e2
  rw [cell_of_row w x (o + i) _ _ _ hv] at hc
  rcases (by omega : o + i = 0 ∨ o + i = 1 ∨ o + i = 2 ∨ o + i = 3 ∨ 4 ≤ o + i) with h4 | h4 | h4 | h4 | h4
  ·rw [h4] at hc; cases hc
  ·rw [h4] at hc; cases hc
  ·rw [h4] at hc; cases hc
  ·rw [h4] at hc; cases hc
  ·rw [Array.getElem?_eq_none (by simpa using h4)] at hc; cases hc
 have := hg.block x (qhq hc) (by simpa using hx)
 unfold World.cell? at *
 rw [this]
 exact hc
theorem qg4 (w : World) (k l m E : Int) (hl : l < 9223372036854775808) (h : PfP k l m E) (hE : E ≠ 0) :
  Calls Tryz.prog 43 #[.int .i64 k, .int .i64 l, .int .i64 m, .bool false] w fun e w' => CAns w w' e 0 0 0 (fun _ => 0) 0 (fun _ => 0) E := by
 have HE : Hid (PfP k l m E) := h
 have HV0 : Hid (Vq (w.alloc (.cells #[.int .i64 0, .int .i64 0, .slice none 0 0, .slice none 0 0] 27)) w.heap.size 27 #[.int .i64 0, .int .i64 0, .slice none 0 0, .slice none 0 0]) := Vq.new w _ _
 clear h
 by_cases h1 : k < 1
 ·obtain rfl : E = 2 := by rcases HE.out with ⟨_, h⟩ | ⟨⟨h, _⟩, _⟩ | ⟨⟨h, _⟩, _⟩ <;> omega
  have g1 : decide (k < 1) = true := by simpa using h1
  clear HE h1 hE
  go_enter Tryz.func43, Tryz.ntmps43
  go_wp2_with (refine qa4 rfl 27 _ _ rfl w.heap.size _ #[.int .i64 0, .int .i64 0, .slice none 0 0, .slice none 0 0] rfl rfl HV0.out sizeCo rfl (occ _ _ _ _ _ _ _ _) ?_; intro w5 HV5 HG5)
  have c0 := HV5.out.cell 0 _ rfl
  have c1 := HV5.out.cell 1 _ rfl
  have c2 := HV5.out.cell 2 _ rfl
  have c3 := HV5.out.cell 3 _ rfl
  refine bodyPost_ret (v := .tuple #[cv 0 0 none 0 0 none 0 0, .int .i64 2]) (by simp [results, Tryz.results43, go_sem, c0, c1, c2, c3, cv]) rfl ?_
  exact ⟨none, 0, none, 0, rfl, Mt.none _ _, fun i hi => by omega, qa2 (qa0 _ _) HG5.out (Nat.le_refl _)⟩
 ·have g1 : decide (k < 1) = false := by simpa using h1
  by_cases h2 : l < 1
  ·obtain rfl : E = 2 := by rcases HE.out with ⟨_, h⟩ | ⟨⟨_, h, _⟩, _⟩ | ⟨⟨_, h, _⟩, _⟩ <;> omega
   have g2 : decide (l < 1) = true := by simpa using h2
   clear HE h1 h2 hE
   go_enter Tryz.func43, Tryz.ntmps43
   go_wp2_with (refine qa4 rfl 27 _ _ rfl w.heap.size _ #[.int .i64 0, .int .i64 0, .slice none 0 0, .slice none 0 0] rfl rfl HV0.out sizeCo rfl (occ _ _ _ _ _ _ _ _) ?_; intro w5 HV5 HG5)
   have c0 := HV5.out.cell 0 _ rfl
   have c1 := HV5.out.cell 1 _ rfl
   have c2 := HV5.out.cell 2 _ rfl
   have c3 := HV5.out.cell 3 _ rfl
   refine bodyPost_ret (v := .tuple #[cv 0 0 none 0 0 none 0 0, .int .i64 2]) (by simp [results, Tryz.results43, go_sem, c0, c1, c2, c3, cv]) rfl ?_
   exact ⟨none, 0, none, 0, rfl, Mt.none _ _, fun i hi => by omega, qa2 (qa0 _ _) HG5.out (Nat.le_refl _)⟩
  ·have g2 : decide (l < 1) = false := by simpa using h2
   by_cases h4 : m < 0
   ·obtain rfl : E = 2 := by rcases HE.out with ⟨_, h⟩ | ⟨⟨_, _, _, h⟩, _⟩ | ⟨⟨_, _, _, h⟩, _⟩ <;> omega
    have g4 : decide (m < 0) = true := by simpa using h4
    clear HE h1 h2 h4 hE
    go_enter Tryz.func43, Tryz.ntmps43
    go_wp2_with (refine qa4 rfl 27 _ _ rfl w.heap.size _ #[.int .i64 0, .int .i64 0, .slice none 0 0, .slice none 0 0] rfl rfl HV0.out sizeCo rfl (occ _ _ _ _ _ _ _ _) ?_; intro w5 HV5 HG5)
    have c0 := HV5.out.cell 0 _ rfl
    have c1 := HV5.out.cell 1 _ rfl
    have c2 := HV5.out.cell 2 _ rfl
    have c3 := HV5.out.cell 3 _ rfl
    refine bodyPost_ret (v := .tuple #[cv 0 0 none 0 0 none 0 0, .int .i64 2]) (by simp [results, Tryz.results43, go_sem, c0, c1, c2, c3, cv]) rfl ?_
    exact ⟨none, 0, none, 0, rfl, Mt.none _ _, fun i hi => by omega, qa2 (qa0 _ _) HG5.out (Nat.le_refl _)⟩
   ·have g4 : decide (m < 0) = false := by simpa using h4
    have w5 : k.tmod l = k % l := Int.tmod_eq_emod_of_nonneg (by omega)
    have hlz : ¬ l = 0 := by omega
    have glz : (l == 0) = false := by simpa using hlz
    by_cases h3 : k % l = 0
    ·have h3' : k.tmod l = 0 := by rw [w5]; exact h3
     have q3 : (k.tmod l != 0) = false := by simp [h3']
     have q4 : (k % l != 0) = false := by simp [h3]
     have hP : PortP k l m := ⟨by omega, by omega, h3, by omega⟩
     have hE4 : E = 4 := by rcases HE.out with ⟨h, _⟩ | ⟨_, _, h⟩ | ⟨_, _, h⟩ <;> first | exact absurd hP h | omega
     subst hE4
     have HPl : Hid (∀ w, Calls Tryz.prog 35 #[.int .i64 k, .int .i64 l, .int .i64 m] w fun e w' => e = .returned (.int .i64 4) ∧ w = w') := fun w => qcj w k l m 4 (by omega) (.inr (.inl ⟨by omega, by rcases HE.out with ⟨_, h⟩ | ⟨_, h, _⟩ | ⟨_, _, h⟩ <;> omega, rfl⟩))
     clear HE h1 h2 h4 w5 h3 h3' hP hE
     go_enter Tryz.func43, Tryz.ntmps43
     go_wp2_with (first
      | (go_at_call 35; refine (HPl.out _).mono ?_; rintro e w' ⟨rfl, rfl⟩)
      | (refine qa4 rfl 27 _ _ rfl w.heap.size _ #[.int .i64 0, .int .i64 0, .slice none 0 0, .slice none 0 0] rfl rfl HV0.out sizeCo rfl (occ _ _ _ _ _ _ _ _) ?_; intro w5 HV5 HG5))
     have c0 := HV5.out.cell 0 _ rfl
     have c1 := HV5.out.cell 1 _ rfl
     have c2 := HV5.out.cell 2 _ rfl
     have c3 := HV5.out.cell 3 _ rfl
     refine bodyPost_ret (v := .tuple #[cv 0 0 none 0 0 none 0 0, .int .i64 4]) (by simp [results, Tryz.results43, go_sem, c0, c1, c2, c3, cv]) rfl ?_
     exact ⟨none, 0, none, 0, rfl, Mt.none _ _, fun i hi => by omega, qa2 (qa0 _ _) HG5.out (Nat.le_refl _)⟩
    ·obtain rfl : E = 2 := by rcases HE.out with ⟨_, h⟩ | ⟨⟨_, _, h, _⟩, _⟩ | ⟨⟨_, _, h, _⟩, _⟩ <;> first | exact h | exact absurd h h3
     have w0 : 0 ≤ k % l := Int.emod_nonneg _ (by omega)
     have w1 : k % l < l := Int.emod_lt_of_pos _ (by omega)
     have w2 : -9223372036854775808 ≤ k % l := by omega
     have w3 : k % l ≤ 9223372036854775807 := by omega
     have q3 : (k % l != 0) = true := by simp [h3]
     clear HE h1 h2 hE
     go_enter Tryz.func43, Tryz.ntmps43
     go_wp2_with (refine qa4 rfl 27 _ _ rfl w.heap.size _ #[.int .i64 0, .int .i64 0, .slice none 0 0, .slice none 0 0] rfl rfl HV0.out sizeCo rfl (occ _ _ _ _ _ _ _ _) ?_; intro w5 HV5 HG5)
     have c0 := HV5.out.cell 0 _ rfl
     have c1 := HV5.out.cell 1 _ rfl
     have c2 := HV5.out.cell 2 _ rfl
     have c3 := HV5.out.cell 3 _ rfl
     refine bodyPost_ret (v := .tuple #[cv 0 0 none 0 0 none 0 0, .int .i64 2]) (by simp [results, Tryz.results43, go_sem, c0, c1, c2, c3, cv]) rfl ?_
     exact ⟨none, 0, none, 0, rfl, Mt.none _ _, fun i hi => by omega, qa2 (qa0 _ _) HG5.out (Nat.le_refl _)⟩
theorem qgv (w : World) (k l m E : Int) (hl : l < 9223372036854775808) (h : PfP k l m E) (hE : E ≠ 0) :
  Calls Tryz.prog 43 #[.int .i64 k, .int .i64 l, .int .i64 m, .bool true] w fun e w' => CAns w w' e 0 0 0 (fun _ => 0) 0 (fun _ => 0) E := by
 have HE : Hid (PfP k l m E) := h
 have HV0 : Hid (Vq (w.alloc (.cells #[.int .i64 0, .int .i64 0, .slice none 0 0, .slice none 0 0] 27)) w.heap.size 27 #[.int .i64 0, .int .i64 0, .slice none 0 0, .slice none 0 0]) := Vq.new w _ _
 clear h
 by_cases h1 : k < 1
 ·obtain rfl : E = 2 := by rcases HE.out with ⟨_, h⟩ | ⟨⟨h, _⟩, _⟩ | ⟨⟨h, _⟩, _⟩ <;> omega
  have g1 : decide (k < 1) = true := by simpa using h1
  clear HE h1 hE
  go_enter Tryz.func43, Tryz.ntmps43
  go_wp2_with (refine qa4 rfl 27 _ _ rfl w.heap.size _ #[.int .i64 0, .int .i64 0, .slice none 0 0, .slice none 0 0] rfl rfl HV0.out sizeCo rfl (occ _ _ _ _ _ _ _ _) ?_; intro w5 HV5 HG5)
  have c0 := HV5.out.cell 0 _ rfl
  have c1 := HV5.out.cell 1 _ rfl
  have c2 := HV5.out.cell 2 _ rfl
  have c3 := HV5.out.cell 3 _ rfl
  refine bodyPost_ret (v := .tuple #[cv 0 0 none 0 0 none 0 0, .int .i64 2]) (by simp [results, Tryz.results43, go_sem, c0, c1, c2, c3, cv]) rfl ?_
  exact ⟨none, 0, none, 0, rfl, Mt.none _ _, fun i hi => by omega, qa2 (qa0 _ _) HG5.out (Nat.le_refl _)⟩
 ·have g1 : decide (k < 1) = false := by simpa using h1
  by_cases h2 : l < 1
  ·obtain rfl : E = 2 := by rcases HE.out with ⟨_, h⟩ | ⟨⟨_, h, _⟩, _⟩ | ⟨⟨_, h, _⟩, _⟩ <;> omega
   have g2 : decide (l < 1) = true := by simpa using h2
   clear HE h1 h2 hE
   go_enter Tryz.func43, Tryz.ntmps43
   go_wp2_with (refine qa4 rfl 27 _ _ rfl w.heap.size _ #[.int .i64 0, .int .i64 0, .slice none 0 0, .slice none 0 0] rfl rfl HV0.out sizeCo rfl (occ _ _ _ _ _ _ _ _) ?_; intro w5 HV5 HG5)
   have c0 := HV5.out.cell 0 _ rfl
   have c1 := HV5.out.cell 1 _ rfl
   have c2 := HV5.out.cell 2 _ rfl
   have c3 := HV5.out.cell 3 _ rfl
   refine bodyPost_ret (v := .tuple #[cv 0 0 none 0 0 none 0 0, .int .i64 2]) (by simp [results, Tryz.results43, go_sem, c0, c1, c2, c3, cv]) rfl ?_
   exact ⟨none, 0, none, 0, rfl, Mt.none _ _, fun i hi => by omega, qa2 (qa0 _ _) HG5.out (Nat.le_refl _)⟩
  ·have g2 : decide (l < 1) = false := by simpa using h2
   by_cases h4 : m < 0
   ·obtain rfl : E = 2 := by rcases HE.out with ⟨_, h⟩ | ⟨⟨_, _, _, h⟩, _⟩ | ⟨⟨_, _, _, h⟩, _⟩ <;> omega
    have g4 : decide (m < 0) = true := by simpa using h4
    clear HE h1 h2 h4 hE
    go_enter Tryz.func43, Tryz.ntmps43
    go_wp2_with (refine qa4 rfl 27 _ _ rfl w.heap.size _ #[.int .i64 0, .int .i64 0, .slice none 0 0, .slice none 0 0] rfl rfl HV0.out sizeCo rfl (occ _ _ _ _ _ _ _ _) ?_; intro w5 HV5 HG5)
    have c0 := HV5.out.cell 0 _ rfl
    have c1 := HV5.out.cell 1 _ rfl
    have c2 := HV5.out.cell 2 _ rfl
    have c3 := HV5.out.cell 3 _ rfl
    refine bodyPost_ret (v := .tuple #[cv 0 0 none 0 0 none 0 0, .int .i64 2]) (by simp [results, Tryz.results43, go_sem, c0, c1, c2, c3, cv]) rfl ?_
    exact ⟨none, 0, none, 0, rfl, Mt.none _ _, fun i hi => by omega, qa2 (qa0 _ _) HG5.out (Nat.le_refl _)⟩
   ·have g4 : decide (m < 0) = false := by simpa using h4
    have w5 : k.tmod l = k % l := Int.tmod_eq_emod_of_nonneg (by omega)
    have hlz : ¬ l = 0 := by omega
    have glz : (l == 0) = false := by simpa using hlz
    by_cases h3 : k % l = 0
    ·have h3' : k.tmod l = 0 := by rw [w5]; exact h3
     have q3 : (k.tmod l != 0) = false := by simp [h3']
     have q4 : (k % l != 0) = false := by simp [h3]
     have hP : PortP k l m := ⟨by omega, by omega, h3, by omega⟩
     have hE4 : E = 4 := by rcases HE.out with ⟨h, _⟩ | ⟨_, _, h⟩ | ⟨_, _, h⟩ <;> first | exact absurd hP h | omega
     subst hE4
     have HPl : Hid (∀ w, Calls Tryz.prog 35 #[.int .i64 k, .int .i64 l, .int .i64 m] w fun e w' => e = .returned (.int .i64 4) ∧ w = w') := fun w => qcj w k l m 4 (by omega) (.inr (.inl ⟨by omega, by rcases HE.out with ⟨_, h⟩ | ⟨_, h, _⟩ | ⟨_, _, h⟩ <;> omega, rfl⟩))
     clear HE h1 h2 h4 w5 h3 h3' hP hE
     go_enter Tryz.func43, Tryz.ntmps43
     go_wp2_with (first
      | (go_at_call 35; refine (HPl.out _).mono ?_; rintro e w' ⟨rfl, rfl⟩)
      | (refine qa4 rfl 27 _ _ rfl w.heap.size _ #[.int .i64 0, .int .i64 0, .slice none 0 0, .slice none 0 0] rfl rfl HV0.out sizeCo rfl (occ _ _ _ _ _ _ _ _) ?_; intro w5 HV5 HG5))
     have c0 := HV5.out.cell 0 _ rfl
     have c1 := HV5.out.cell 1 _ rfl
     have c2 := HV5.out.cell 2 _ rfl
     have c3 := HV5.out.cell 3 _ rfl
     refine bodyPost_ret (v := .tuple #[cv 0 0 none 0 0 none 0 0, .int .i64 4]) (by simp [results, Tryz.results43, go_sem, c0, c1, c2, c3, cv]) rfl ?_
     exact ⟨none, 0, none, 0, rfl, Mt.none _ _, fun i hi => by omega, qa2 (qa0 _ _) HG5.out (Nat.le_refl _)⟩
    ·obtain rfl : E = 2 := by rcases HE.out with ⟨_, h⟩ | ⟨⟨_, _, h, _⟩, _⟩ | ⟨⟨_, _, h, _⟩, _⟩ <;> first | exact h | exact absurd h h3
     have w0 : 0 ≤ k % l := Int.emod_nonneg _ (by omega)
     have w1 : k % l < l := Int.emod_lt_of_pos _ (by omega)
     have w2 : -9223372036854775808 ≤ k % l := by omega
     have w3 : k % l ≤ 9223372036854775807 := by omega
     have q3 : (k % l != 0) = true := by simp [h3]
     clear HE h1 h2 hE
     go_enter Tryz.func43, Tryz.ntmps43
     go_wp2_with (refine qa4 rfl 27 _ _ rfl w.heap.size _ #[.int .i64 0, .int .i64 0, .slice none 0 0, .slice none 0 0] rfl rfl HV0.out sizeCo rfl (occ _ _ _ _ _ _ _ _) ?_; intro w5 HV5 HG5)
     have c0 := HV5.out.cell 0 _ rfl
     have c1 := HV5.out.cell 1 _ rfl
     have c2 := HV5.out.cell 2 _ rfl
     have c3 := HV5.out.cell 3 _ rfl
     refine bodyPost_ret (v := .tuple #[cv 0 0 none 0 0 none 0 0, .int .i64 2]) (by simp [results, Tryz.results43, go_sem, c0, c1, c2, c3, cv]) rfl ?_
     exact ⟨none, 0, none, 0, rfl, Mt.none _ _, fun i hi => by omega, qa2 (qa0 _ _) HG5.out (Nat.le_refl _)⟩
theorem qdc (w : World) (k l m : Int) (R C : Int) (N : Nat) (f : Nat → Nat) (M : Nat) (q : Nat → Nat) (E : Int) (HP : Hid (∀ w, Calls Tryz.prog 43 #[.int .i64 k, .int .i64 l, .int .i64 m, .bool false] w fun e w' => CAns w w' e R C N f M q E)) :
  Calls Tryz.prog 14 #[.int .i64 k, .int .i64 l, .int .i64 m] w fun e w' => CAns w w' e R C N f M q E := by
 have HV0 : Hid (Vq (w.alloc (.cells #[.int .i64 0, .int .i64 0, .slice none 0 0, .slice none 0 0] 27)) w.heap.size 27 #[.int .i64 0, .int .i64 0, .slice none 0 0, .slice none 0 0]) := Vq.new w _ _
 go_enter Tryz.func14, Tryz.ntmps14
 go_wp2_with (first
  | (go_at_call 43; refine (HP.out _).mono ?_; rintro e w1 ⟨s1, d1, s2, d2, rfl, hm1, hj1, hb1⟩; have HM1 : Hid (Mt w1 s1 N d1 f) := hm1; have HJ1 : Hid (Jl w1 s2 .u64 M (fun i => (q i : Int))) := hj1; have HB1 : Hid (Below w.heap.size w w1) := qa1 (qa0 _ _) hb1; have HV1 : Hid (Vq w1 w.heap.size 27 #[.int .i64 0, .int .i64 0, .slice none 0 0, .slice none 0 0]) := HV0.out.later hb1; clear hm1 hj1 hb1)
  | (refine qa4 rfl 27 _ _ rfl w.heap.size _ #[.int .i64 R, .int .i64 C, .slice s1 N d1, .slice s2 M d2] rfl rfl HV1.out sizeCo rfl (occ _ _ _ _ _ _ _ _) ?_; intro w5 HV5 HG5))
 have c0 := HV5.out.cell 0 _ rfl
 have c1 := HV5.out.cell 1 _ rfl
 have c2 := HV5.out.cell 2 _ rfl
 have c3 := HV5.out.cell 3 _ rfl
 refine bodyPost_ret (v := .tuple #[cv R C s1 N d1 s2 M d2, .int .i64 E]) (by simp [results, Tryz.results14, go_sem, c0, c1, c2, c3, cv]) rfl ?_
 exact ⟨s1, d1, s2, d2, rfl, HM1.out.kept HG5.out (fun hp x hx => qbm HM1.out.sl hp HV1.out x hx), qg3 HJ1.out HV1.out HG5.out, qa2 HB1.out HG5.out (Nat.le_refl _)⟩
theorem qf1 (w : World) (k l m : Int) (R C : Int) (N : Nat) (f : Nat → Nat) (M : Nat) (q : Nat → Nat) (E : Int) (HP : Hid (∀ w, Calls Tryz.prog 43 #[.int .i64 k, .int .i64 l, .int .i64 m, .bool true] w fun e w' => CAns w w' e R C N f M q E)) :
  Calls Tryz.prog 16 #[.int .i64 k, .int .i64 l, .int .i64 m] w fun e w' => CAns w w' e R C N f M q E := by
 have HV0 : Hid (Vq (w.alloc (.cells #[.int .i64 0, .int .i64 0, .slice none 0 0, .slice none 0 0] 27)) w.heap.size 27 #[.int .i64 0, .int .i64 0, .slice none 0 0, .slice none 0 0]) := Vq.new w _ _
 go_enter Tryz.func16, Tryz.ntmps16
 go_wp2_with (first
  | (go_at_call 43; refine (HP.out _).mono ?_; rintro e w1 ⟨s1, d1, s2, d2, rfl, hm1, hj1, hb1⟩; have HM1 : Hid (Mt w1 s1 N d1 f) := hm1; have HJ1 : Hid (Jl w1 s2 .u64 M (fun i => (q i : Int))) := hj1; have HB1 : Hid (Below w.heap.size w w1) := qa1 (qa0 _ _) hb1; have HV1 : Hid (Vq w1 w.heap.size 27 #[.int .i64 0, .int .i64 0, .slice none 0 0, .slice none 0 0]) := HV0.out.later hb1; clear hm1 hj1 hb1)
  | (refine qa4 rfl 27 _ _ rfl w.heap.size _ #[.int .i64 R, .int .i64 C, .slice s1 N d1, .slice s2 M d2] rfl rfl HV1.out sizeCo rfl (occ _ _ _ _ _ _ _ _) ?_; intro w5 HV5 HG5))
 have c0 := HV5.out.cell 0 _ rfl
 have c1 := HV5.out.cell 1 _ rfl
 have c2 := HV5.out.cell 2 _ rfl
 have c3 := HV5.out.cell 3 _ rfl
 refine bodyPost_ret (v := .tuple #[cv R C s1 N d1 s2 M d2, .int .i64 E]) (by simp [results, Tryz.results16, go_sem, c0, c1, c2, c3, cv]) rfl ?_
 exact ⟨s1, d1, s2, d2, rfl, HM1.out.kept HG5.out (fun hp x hx => qbm HM1.out.sl hp HV1.out x hx), qg3 HJ1.out HV1.out HG5.out, qa2 HB1.out HG5.out (Nat.le_refl _)⟩
theorem qg5 (w : World) (n : Nat) : Below w.heap.size w (w.drewN n) := ⟨rfl, rfl, rfl, Nat.le_refl _, fun _ _ => rfl⟩
/-- Two lists of sets are the same. -/
def gsB (q q' : Nat → Nat) : Nat → Bool
 | 0 => true
 | j + 1 => gsB q q' j && (q j == q' j)
theorem gsB_self (q : Nat → Nat) : ∀ j, gsB q q j = true := by
 intro j
 induction j with
 | zero => rfl
 | succ j ih => simp [gsB, ih]
theorem gsB_no {q q' : Nat → Nat} {m j : Nat} (hj : j < m) (h : q j ≠ q' j) : gsB q q' m = false := by
 induction m with
 | zero => omega
 | succ m ih =>
  by_cases e : j = m
  ·subst e; simp [gsB, h]
  ·simp [gsB, ih (by omega)]
theorem gsB_yes {q q' : Nat → Nat} : ∀ {m}, (∀ j, j < m → q j = q' j) → gsB q q' m = true := by
 intro m
 induction m with
 | zero => intro _; rfl
 | succ m ih => intro h; simp [gsB, ih (fun j hj => h j (by omega)), h m (by omega)]
theorem rsame16 (w : World) (r c r' c' : Int) (a b a' b' : Option Addr) (n k m d n' k' m' d' : Nat) (f f' q q' : Nat → Nat) (ha : Sl w a n f) (ha' : Sl w a' n' f') (hb : Jl w b .u64 m (fun i => (q i : Int))) (hb' : Jl w b' .u64 m' (fun i => (q' i : Int))) (hm : m ≤ 17592186044416) (s : Bool) (HS : Hid ((likeB r c r' c' n n' f f' && (decide (m = m') && gsB q q' m)) = s)) :
  Calls Tryz.prog 27 #[cv r c a n k b m d, cv r' c' a' n' k' b' m' d'] w fun e w' => e = .returned (.bool s) ∧ Below w.heap.size w w' := by
 obtain ⟨wb, HW⟩ : ∃ wb, Hid ((w.alloc (.cells #[.int .i64 r, .int .i64 c, .slice a n k, .slice b m d] 27)).alloc (.cells #[.int .i64 r', .int .i64 c', .slice a' n' k', .slice b' m' d'] 27) = wb) := ⟨_, rfl⟩
 have HB0 : Hid (Below w.heap.size w wb) := by rw [← HW.out]; exact qa1 (qa0 _ _) (qa0 _ _)
 have HA : Hid (Vq wb w.heap.size 27 #[.int .i64 r, .int .i64 c, .slice a n k, .slice b m d]) := by rw [← HW.out]; exact (Vq.new w _ _).later (qa0 _ _)
 have HC : Hid (Vq wb (w.heap.size + 1) 27 #[.int .i64 r', .int .i64 c', .slice a' n' k', .slice b' m' d']) := by rw [← HW.out]; exact Vq.new1 _ _ _ _
 have HSa : Hid (Sl wb a n f) := ha.later HB0.out
 have HSa' : Hid (Sl wb a' n' f') := ha'.later HB0.out
 have HJ : Hid (Jl wb b .u64 m (fun i => (q i : Int))) := hb.later HB0.out
 have HJ' : Hid (Jl wb b' .u64 m' (fun i => (q' i : Int))) := hb'.later HB0.out
 obtain ⟨lb, HLb⟩ : ∃ lb, Hid (likeB r c r' c' n n' f f' = lb) := ⟨_, rfl⟩
 rw [HLb.out] at HS
 have HLi : Hid (∀ w, Sl w a n f → Sl w a' n' f' → Calls Tryz.prog 68 #[mv r c a n k, mv r' c' a' n' k'] w fun e w' => e = .returned (.bool lb) ∧ Below w.heap.size w w') := fun w h1 h2 => by rw [← HLb.out]; exact qit w r c r' c' a a' n n' k k' f f' h1 h2
 have a0 := HA.out.cell 0 _ rfl
 have a1 := HA.out.cell 1 _ rfl
 have a2 := HA.out.cell 2 _ rfl
 have b0 := HC.out.cell 0 _ rfl
 have b1 := HC.out.cell 1 _ rfl
 have b2 := HC.out.cell 2 _ rfl
 clear ha ha' hb hb' HLb
 rw [← HW.out] at a0 a1 a2 b0 b1 b2
 cases lb with
 | false =>
  obtain rfl : s = false := by rw [← HS.out]; rfl
  clear HS
  go_enter Tryz.func27, Tryz.ntmps27
  go_wp2_with (go_at_call 68; rw [HW.out]; refine (HLi.out _ HSa.out HSa'.out).mono ?_; rintro e w1 ⟨rfl, hb1⟩; have HB1 : Hid (Below wb.heap.size wb w1) := hb1; clear hb1)
  go_ret
  exact ⟨rfl, qa1 HB0.out HB1.out⟩
 | true =>
  by_cases hmm : m = m'
  ·subst hmm
   have HS2 : Hid (gsB q q' m = s) := by show _ = _; rw [← HS.out]; simp
   have gm : ((m : Int) != (m : Int)) = false := by simp
   clear HS
   go_enter Tryz.func27, Tryz.ntmps27
   go_wp2_with (go_at_call 68; rw [HW.out]; refine (HLi.out _ HSa.out HSa'.out).mono ?_; rintro e w1 ⟨rfl, hb1⟩; have HB1 : Hid (Below wb.heap.size wb w1) := hb1; have a3 := (HA.out.later hb1).cell 3 _ rfl; have b3 := (HC.out.later hb1).cell 3 _ rfl; clear hb1)
   go_loopw [5] (fun j wr => ∃ i : Nat, i ≤ m ∧ j = .int .i64 (i : Int) ∧ (∀ t, t < i → q t = q' t) ∧ Below wb.heap.size wb wr) (fun j _ => m - (intOf j).toNat)
   case atStart => exact ⟨0, by omega, rfl, fun t ht => by omega, HB1.out⟩
   case round =>
    clear a3 b3 HB1
    obtain ⟨i, hi, rfl, heq, hbr⟩ := hrel
    have HEq : Hid (∀ t, t < i → q t = q' t) := heq
    have HB1 : Hid (Below wb.heap.size wb wr) := hbr
    have a3 := (HA.out.later hbr).cell 3 _ rfl
    have b3 := (HC.out.later hbr).cell 3 _ rfl
    clear heq hbr
    by_cases hlt : i < m
    ·obtain ⟨x, o, eb, hci⟩ := HJ.out i hlt
     obtain ⟨x', o', eb', hci'⟩ := HJ'.out i hlt
     subst eb
     subst eb'
     have e1 : wr.cell? ⟨x, o + i, none⟩ = some (.int .u64 ((q i : Nat) : Int)) := keepc HB1.out hci
     have e2 : wr.cell? ⟨x', o' + i, none⟩ = some (.int .u64 ((q' i : Nat) : Int)) := keepc HB1.out hci'
     obtain ⟨y, HY⟩ : ∃ y, Hid (q i = y) := ⟨_, rfl⟩
     obtain ⟨y', HY'⟩ : ∃ y, Hid (q' i = y) := ⟨_, rfl⟩
     rw [HY.out] at e1
     rw [HY'.out] at e2
     have i0' : (0 : Int) ≤ (i : Int) := Int.natCast_nonneg _
     have i1' : (i : Int) < (m : Int) := by omega
     clear hci hci'
     by_cases hy : y = y'
     ·have gy : ((y : Int) != (y' : Int)) = false := by simp [hy]
      have HN : Hid (∀ t, t < i + 1 → q t = q' t) := fun t ht => by
       by_cases e : t = i
       ·subst e; rw [HY.out, HY'.out]; exact hy
       ·exact HEq.out t (by omega)
      clear hy
      go_wp2
      go_quiet (fail)
      go_wp2
      exact ⟨⟨i + 1, by omega, by go_num, HN.out, qa1 HB1.out (qg5 _ _)⟩, by simp [intOf]; omega⟩
     ·have gy : ((y : Int) != (y' : Int)) = true := by simp; omega
      obtain rfl : s = false := by rw [← HS2.out]; exact gsB_no hlt (by rw [HY.out, HY'.out]; exact hy)
      clear hy HS2
      go_wp2
      go_quiet (fail)
      go_wp2
      go_ret
      exact ⟨rfl, qa1 HB0.out (qa1 HB1.out (qg5 _ _))⟩
    ·obtain rfl : i = m := by omega
     obtain rfl : s = true := by rw [← HS2.out]; exact gsB_yes HEq.out
     clear HS2
     go_wp2
     go_ret
     exact ⟨rfl, qa1 HB0.out HB1.out⟩
  ·obtain rfl : s = false := by rw [← HS.out]; simp [hmm]
   have gm : ((m : Int) != (m' : Int)) = true := by simp; omega
   clear HS hmm
   go_enter Tryz.func27, Tryz.ntmps27
   go_wp2_with (go_at_call 68; rw [HW.out]; refine (HLi.out _ HSa.out HSa'.out).mono ?_; rintro e w1 ⟨rfl, hb1⟩; have HB1 : Hid (Below wb.heap.size wb w1) := hb1; have a3 := (HA.out.later hb1).cell 3 _ rfl; have b3 := (HC.out.later hb1).cell 3 _ rfl; clear hb1)
   go_ret
   exact ⟨rfl, qa1 HB0.out HB1.out⟩
theorem qck (w : World) (R C E : Int) (a b a' b' : Option Addr) (n k m d k' d' : Nat) (f q : Nat → Nat) (ha : Sl w a n f) (ha' : Sl w a' n f) (hb : Jl w b .u64 m (fun i => (q i : Int))) (hb' : Jl w b' .u64 m (fun i => (q i : Int))) (hm : m ≤ 17592186044416) :
  Calls Tryz.prog 17 #[cv R C a n k b m d, .int .i64 E, cv R C a' n k' b' m d', .int .i64 E] w fun e w' => e = .returned (.bool true) ∧ Below w.heap.size w w' := by
 obtain ⟨wb, HW⟩ : ∃ wb, Hid ((w.alloc (.cells #[.int .i64 R, .int .i64 C, .slice a n k, .slice b m d] 27)).alloc (.cells #[.int .i64 R, .int .i64 C, .slice a' n k', .slice b' m d'] 27) = wb) := ⟨_, rfl⟩
 have HB0 : Hid (Below w.heap.size w wb) := by rw [← HW.out]; exact qa1 (qa0 _ _) (qa0 _ _)
 have HC : Hid (Calls Tryz.prog 27 #[cv R C a n k b m d, cv R C a' n k' b' m d'] wb fun e w' => e = .returned (.bool true) ∧ Below wb.heap.size wb w') := rsame16 wb R C R C a b a' b' n k m d n k' m d' f f q q (ha.later HB0.out) (ha'.later HB0.out) (hb.later HB0.out) (hb'.later HB0.out) hm true (qas (by rw [qiv (fun _ _ => rfl), gsB_self]; simp))
 clear ha ha' hb hb'
 go_enter Tryz.func17, Tryz.ntmps17
 go_wp2_with (go_at_call 27; rw [HW.out]; refine HC.out.mono ?_; rintro e w1 ⟨rfl, hb1⟩; have HB1 : Hid (Below wb.heap.size wb w1) := hb1; clear hb1)
 go_ret
 exact ⟨rfl, qa1 HB0.out HB1.out⟩
open Go.RowKit
theorem qls (k m : Int) (h1 : 1 ≤ k) (h2 : 0 ≤ m) (h3 : k + m ≤ 64) : ∃ (R C : Int) (N : Nat) (f : Nat → Nat), ∀ (w : World),
  Calls Tryz.prog 34 #[.int .i64 k, .int .i64 m] w (fun e w' => MAns w w' e R C N f 0) ∧ Calls Tryz.prog 36 #[.int .i64 k, .int .i64 m] w (fun e w' => MAns w w' e R C N f 0) := by
 obtain ⟨a, rfl⟩ := Int.eq_ofNat_of_zero_le (show 0 ≤ k by omega)
 obtain ⟨b, rfl⟩ := Int.eq_ofNat_of_zero_le h2
 have R : Rt (a + b) a ((a + b) * a) := ⟨by omega, by omega, rfl⟩
 have hv : ∀ (N : Nat) (i : Nat), i < N → vdf a i < 256 := fun _ i _ => qhn a i
 have hk := qgj (k := a) (by omega)
 obtain ⟨X0, hX0, h0⟩ := inv_list (hv (a * a)) ⟨by omega, by omega, rfl⟩ hk
 exact ⟨_, _, _, _, fun w => ⟨(breed_ok w a b _ (by omega) (by omega) rfl).mono (fun _ _ h => qlf R (by omega) (hv _) hk hX0 h0 h), (rreed_p w a b _ (by omega) (by omega) rfl).mono (fun _ _ h => qlf R (by omega) (hv _) hk hX0 h0 h)⟩⟩
theorem qjc (k m : Int) (h1 : 1 ≤ k) (h2 : 0 ≤ m) (h3 : k + m ≤ 64) : ∃ (R C : Int) (N : Nat) (f : Nat → Nat), ∀ (w : World),
  Calls Tryz.prog 37 #[.int .i64 k, .int .i64 m] w (fun e w' => MAns w w' e R C N f 0) ∧ Calls Tryz.prog 38 #[.int .i64 k, .int .i64 m] w (fun e w' => MAns w w' e R C N f 0) := by
 obtain ⟨a, rfl⟩ := Int.eq_ofNat_of_zero_le (show 0 ≤ k by omega)
 obtain ⟨b, rfl⟩ := Int.eq_ofNat_of_zero_le h2
 exact ⟨_, _, _, _, fun w => ⟨qem w a b _ _ (by omega) (by omega) rfl rfl, qeg w a b _ _ (by omega) (by omega) rfl rfl⟩⟩
theorem qgw (k m : Int) (hk : k < 9223372036854775808) (hm : m < 9223372036854775808) : ∃ (R C : Int) (N : Nat) (f : Nat → Nat) (E : Int), ∀ (w : World),
  Calls Tryz.prog 9 #[.int .i64 k, .int .i64 m] w (fun e w' => CAns w w' e R C N f 0 (fun _ => 0) E) ∧ Calls Tryz.prog 10 #[.int .i64 k, .int .i64 m] w (fun e w' => CAns w w' e R C N f 0 (fun _ => 0) E) := by
 by_cases h1 : k < 1 ∨ m < 0
 ·exact ⟨0, 0, 0, fun _ => 0, 2, fun w => ⟨qll w k m hk hm 0 0 0 _ 2 (qas (.inl ⟨h1, rfl, rfl, rfl, rfl⟩)), qgu w k m 0 0 0 _ 2 (qas (.inl ⟨h1, rfl, rfl, rfl, rfl⟩))⟩⟩
 ·by_cases h2 : 64 < k + m
  ·exact ⟨0, 0, 0, fun _ => 0, 4, fun w => ⟨qll w k m hk hm 0 0 0 _ 4 (qas (.inr (.inl ⟨h1, h2, rfl, rfl, rfl, rfl⟩))), qgu w k m 0 0 0 _ 4 (qas (.inr (.inl ⟨h1, h2, rfl, rfl, rfl, rfl⟩)))⟩⟩
  ·obtain ⟨R, C, N, f, hp⟩ := qls k m (by omega) (by omega) (by omega)
   exact ⟨R, C, N, f, 0, fun w => ⟨qll w k m hk hm R C N f 0 (qas (.inr (.inr ⟨h1, by omega, rfl, fun w => (hp w).1⟩))), qgu w k m R C N f 0 (qas (.inr (.inr ⟨h1, by omega, rfl, fun w => (hp w).2⟩)))⟩⟩
theorem qg6 (k m : Int) (hk : k < 9223372036854775808) (hm : m < 9223372036854775808) : ∃ (R C : Int) (N : Nat) (f : Nat → Nat) (E : Int), ∀ (w : World),
  Calls Tryz.prog 11 #[.int .i64 k, .int .i64 m] w (fun e w' => CAns w w' e R C N f 0 (fun _ => 0) E) ∧ Calls Tryz.prog 12 #[.int .i64 k, .int .i64 m] w (fun e w' => CAns w w' e R C N f 0 (fun _ => 0) E) := by
 by_cases h1 : k < 1 ∨ m < 0
 ·exact ⟨0, 0, 0, fun _ => 0, 2, fun w => ⟨qgs w k m hk hm 0 0 0 _ 2 (qas (.inl ⟨h1, rfl, rfl, rfl, rfl⟩)), qfl w k m 0 0 0 _ 2 (qas (.inl ⟨h1, rfl, rfl, rfl, rfl⟩))⟩⟩
 ·by_cases h2 : 64 < k + m
  ·exact ⟨0, 0, 0, fun _ => 0, 4, fun w => ⟨qgs w k m hk hm 0 0 0 _ 4 (qas (.inr (.inl ⟨h1, h2, rfl, rfl, rfl, rfl⟩))), qfl w k m 0 0 0 _ 4 (qas (.inr (.inl ⟨h1, h2, rfl, rfl, rfl, rfl⟩)))⟩⟩
  ·obtain ⟨R, C, N, f, hp⟩ := qjc k m (by omega) (by omega) (by omega)
   exact ⟨R, C, N, f, 0, fun w => ⟨qgs w k m hk hm R C N f 0 (qas (.inr (.inr ⟨h1, by omega, rfl, fun w => (hp w).1⟩))), qfl w k m R C N f 0 (qas (.inr (.inr ⟨h1, by omega, rfl, fun w => (hp w).2⟩)))⟩⟩
theorem qct {n : Int} (h : (Lit.int .i64 n).wf = true) : n < 9223372036854775808 := by
 have := bounds_i64 h
 omega
/-- Numbers of a code of portions, as naturals. -/
theorem qid {k l m : Int} (h : PortP k l m) (hs : k + l + m ≤ 64) : ∃ a b c s : Nat, k = a ∧ l = b ∧ m = c ∧ 1 ≤ a ∧ 1 ≤ b ∧ 1 ≤ s ∧ b * s = a ∧ a + b + c ≤ 64 := by
 obtain ⟨h1, h2, h3, h4⟩ := h
 obtain ⟨a, rfl⟩ := Int.eq_ofNat_of_zero_le (show 0 ≤ k by omega)
 obtain ⟨b, rfl⟩ := Int.eq_ofNat_of_zero_le (show 0 ≤ l by omega)
 obtain ⟨c, rfl⟩ := Int.eq_ofNat_of_zero_le h4
 have hm : a % b = 0 := by
  rw [← Int.natCast_emod] at h3
  omega
 have e := Nat.div_add_mod a b
 rw [hm, Nat.add_zero] at e
 refine ⟨a, b, c, a / b, rfl, rfl, rfl, by omega, by omega, ?_, e, by omega⟩
 exact Nat.div_pos (by
  rcases Nat.lt_or_ge a b with h | h
  ·rw [Nat.div_eq_of_lt h, Nat.mul_zero] at e; omega
  ·exact h) (by omega)
theorem qg7 (k l m : Int) (hk : k < 9223372036854775808) (hl : l < 9223372036854775808) (hm : m < 9223372036854775808) : ∃ (R C : Int) (N : Nat) (f : Nat → Nat) (M : Nat) (q : Nat → Nat) (E : Int), M ≤ 64 ∧ ∀ (w : World),
  Calls Tryz.prog 13 #[.int .i64 k, .int .i64 l, .int .i64 m] w (fun e w' => CAns w w' e R C N f M q E) ∧ Calls Tryz.prog 14 #[.int .i64 k, .int .i64 l, .int .i64 m] w (fun e w' => CAns w w' e R C N f M q E) := by
 obtain ⟨E, hE⟩ := pfp_ex k l m
 by_cases h0 : E = 0
 ·subst h0
  obtain ⟨hP, hs⟩ : PortP k l m ∧ k + l + m ≤ 64 := by
   rcases hE with ⟨_, h⟩ | ⟨_, _, h⟩ | ⟨h1, h2, _⟩
   ·omega
   ·omega
   ·exact ⟨h1, h2⟩
  obtain ⟨a, b, c, s, rfl, rfl, rfl, h1, h2, h3, h4, h5⟩ := qid hP hs
  exact ⟨_, _, _, _, _, _, _, by omega, fun w => ⟨qjb w a b s c _ _ h1 h2 h3 h4 rfl h5 rfl, qdc w a b c _ _ _ _ _ _ _ (qas (fun w => qlq w a b s c _ _ h1 h2 h3 h4 rfl h5 rfl))⟩⟩
 ·exact ⟨_, _, _, _, _, _, E, Nat.zero_le _, fun w => ⟨qgt w k l m E hk hl hm hE h0, qdc w k l m _ _ _ _ _ _ _ (qas (fun w => qg4 w k l m E hl hE h0))⟩⟩
theorem qjd (k l m : Int) (hk : k < 9223372036854775808) (hl : l < 9223372036854775808) (hm : m < 9223372036854775808) : ∃ (R C : Int) (N : Nat) (f : Nat → Nat) (M : Nat) (q : Nat → Nat) (E : Int), M ≤ 64 ∧ ∀ (w : World),
  Calls Tryz.prog 15 #[.int .i64 k, .int .i64 l, .int .i64 m] w (fun e w' => CAns w w' e R C N f M q E) ∧ Calls Tryz.prog 16 #[.int .i64 k, .int .i64 l, .int .i64 m] w (fun e w' => CAns w w' e R C N f M q E) := by
 obtain ⟨E, hE⟩ := pfp_ex k l m
 by_cases h0 : E = 0
 ·subst h0
  obtain ⟨hP, hs⟩ : PortP k l m ∧ k + l + m ≤ 64 := by
   rcases hE with ⟨_, h⟩ | ⟨_, _, h⟩ | ⟨h1, h2, _⟩
   ·omega
   ·omega
   ·exact ⟨h1, h2⟩
  obtain ⟨a, b, c, s, rfl, rfl, rfl, h1, h2, h3, h4, h5⟩ := qid hP hs
  exact ⟨_, _, _, _, _, _, _, by omega, fun w => ⟨pyr16_ok w a b s c _ _ h1 h2 h3 h4 rfl h5 rfl, qf1 w a b c _ _ _ _ _ _ _ (qas (fun w => qlr w a b s c _ _ h1 h2 h3 h4 rfl h5 rfl))⟩⟩
 ·exact ⟨_, _, _, _, _, _, E, Nat.zero_le _, fun w => ⟨qlm w k l m E hk hl hm hE h0, qf1 w k l m _ _ _ _ _ _ _ (qas (fun w => qgv w k l m E hl hE h0))⟩⟩
/-- A code lies in a variable. -/
structure CvI (w : World) (b : Nat) (R C : Int) (N : Nat) (f : Nat → Nat) (M : Nat) (q : Nat → Nat) (s : Option Addr) (d : Nat) (t : Option Addr) (e : Nat) : Prop where
 v : Vq w b 27 #[.int .i64 R, .int .i64 C, .slice s N d, .slice t M e]
 m : Mt w s N d f
 g : Jl w t .u64 M (fun i => (q i : Int))
theorem CvI.later {w w' : World} {b : Nat} {R C : Int} {N : Nat} {f : Nat → Nat} {M : Nat} {q : Nat → Nat} {s : Option Addr} {d : Nat} {t : Option Addr} {e : Nat} (h : CvI w b R C N f M q s d t e) (hb : Below w.heap.size w w') : CvI w' b R C N f M q s d t e := ⟨h.v.later hb, h.m.later hb, h.g.later hb⟩
end Go.Proofs.YtnfbbddoaeofgaaGreat
