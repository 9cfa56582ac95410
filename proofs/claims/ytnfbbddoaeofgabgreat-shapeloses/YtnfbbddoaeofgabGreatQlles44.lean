/-
  Codes of portions: Pyramid.
-/
import Derived.Test.YtnfbbddoaeofgabGreatQlles00
import Derived.Test.YtnfbbddoaeofgabGreatQlles43
set_option maxRecDepth 100000
set_option maxHeartbeats 16000000
namespace Go.Proofs.YtnfbbddoaeofgabGreat
open Go.RowKit
theorem qex (w : World) (k l s m R N : Nat) (hk : 1 ≤ k) (hl : 1 ≤ l) (hs : 1 ≤ s) (HK : Hid (l * s = k)) (HR : Hid (k + l + m = R)) (hR : R ≤ 64) (HN : Hid (R * k = N)) :
  Calls Tryz.prog 12 #[.int .i64 (k : Int), .int .i64 (l : Int), .int .i64 (m : Int)] w fun e w' => CAns w w' e R k N (ptf k l s (fun j => crf k (k * k + j)) (fun q => crf k ((k + 1) * k + q))) l (gpf k s) 0 := by
 have HV0 : Hid (Vq (w.alloc (.cells #[.int .i64 0, .int .i64 0, .slice none 0 0, .slice none 0 0] 27)) w.heap.size 27 #[.int .i64 0, .int .i64 0, .slice none 0 0, .slice none 0 0]) := Vq.new w _ _
 have hrr := HR.out
 have HPf : Hid (∀ w, Calls Tryz.prog 34 #[.int .i64 (k : Int), .int .i64 (l : Int), .int .i64 (m : Int)] w fun e w' => e = .returned (.int .i64 0) ∧ Below w.heap.size w w') := fun w => pfail w k l m 0 (by omega) (by omega) (by omega) (.inr (.inr ⟨⟨by omega, by omega, qh4 HK.out, by omega⟩, by omega, rfl⟩))
 obtain ⟨A, HA⟩ : ∃ A, Hid (k * k = A) := ⟨_, rfl⟩
 obtain ⟨B, HB⟩ : ∃ B, Hid ((m + 1) * k = B) := ⟨_, rfl⟩
 obtain ⟨T, HT⟩ : ∃ T, Hid (k + (m + 1) = T) := ⟨_, rfl⟩
 obtain ⟨Q, HQ⟩ : ∃ Q, Hid (A + B = Q) := ⟨_, rfl⟩
 obtain ⟨M, HM⟩ : ∃ M, Hid (m * k = M) := ⟨_, rfl⟩
 have htt := HT.out
 have HRT : Hid (Rt T k Q) := ⟨by omega, by omega, by rw [← HQ.out, ← HA.out, ← HB.out, ← HT.out, Nat.add_mul]⟩
 have HCr : Hid (∀ w, Calls Tryz.prog 35 #[.int .i64 (k : Int), .int .i64 ((m + 1 : Nat) : Int)] w fun e w' => ∃ s d, e = .returned (.tuple #[mv (T : Int) k s Q d, .int .i64 0]) ∧ Mt w' s Q d (crf k) ∧ Below w.heap.size w w') := fun w => by rw [← HT.out, ← HQ.out]; exact qfe w k (m + 1) A B hk (by omega) HA HB
 have hm1w : IntKind.i64.wrap ((m : Int) + 1) = ((m + 1 : Nat) : Int) := by rw [IntKind.wrap_i64]; omega
 obtain ⟨Wf, HWf⟩ : ∃ Wf : Nat → Nat, Hid ((fun j => crf k (k * k + j)) = Wf) := ⟨_, rfl⟩
 obtain ⟨Xf, HXf⟩ : ∃ Xf : Nat → Nat, Hid ((fun q => crf k ((k + 1) * k + q)) = Xf) := ⟨_, rfl⟩
 have hXf : ((fun q => crf k ((k + 1) * k + q))) = Xf := HXf.out
 rw [HWf.out, hXf]
 have HRo : Hid (∀ (w : World) (a : Option Addr) (d : Nat), Mt w a Q d (crf k) → Calls Tryz.prog 39 #[mv T k a Q d, .int .i64 (k : Int)] w fun e w' => ∃ s d, e = .returned (.tuple #[.slice s k d, .int .i64 0]) ∧ Mt w' s k d Wf ∧ Below w.heap.size w w') := fun w a d h => (mrow_ok w T k Q d k a (crf k) h HRT.out (by omega)).mono (fun e w' h => by
  obtain ⟨v, he, ho, hb⟩ := h
  obtain ⟨s, d, rfl, _, _⟩ := qcw ho
  rw [← HWf.out]
  exact ⟨s, d, he, own_mt ho (fun i _ => qbr k _), hb⟩)
 have HXlt : Hid (∀ q, q < M → Xf q < 256) := fun q hq => by rw [← HXf.out]; exact qbr k _
 have HLa : Hid (∀ (w : World) (a : Option Addr) (d : Nat), Mt w a Q d (crf k) → Calls Tryz.prog 38 #[mv T k a Q d, .int .i64 (m : Int)] w fun e w' => ∃ g, e = .returned (mv m k (some ⟨g, 0, none⟩) M M) ∧ RowAt w' g 5 M Xf ∧ w.heap.size ≤ g ∧ Below w.heap.size w w') := fun w a d h => by rw [← HXf.out]; exact last16 w T k Q d m (k + 1) M a (crf k) h HRT.out (by omega) HM
 have HPo : Hid (∀ (w : World) (sw sf : Option Addr) (kw dM : Nat), Mt w sw k kw Wf → Mt w sf M dM Xf → Calls Tryz.prog 36 #[.int .i64 (l : Int), .slice sw k kw, mv m k sf M dM] w fun e w' => ∃ gd gg, e = .returned (cv R k (some ⟨gd, 0, none⟩) N N (some ⟨gg, 0, none⟩) l l) ∧ RowAt w' gd 5 N (ptf k l s Wf Xf) ∧ JAt w' gg 40 .u64 l (gpf k s) ∧ Below w.heap.size w w') := fun w sw sf kw dM h1 h2 => portd w l k s m R N M kw dM sw sf Wf Xf h1 h2 hl hs HK HR hR HN HM
 have HRt : Hid (∀ q, q < N → ptf k l s Wf Xf q < 256) := fun q hq => ptf_lt HK.out hl (fun j => by rw [← HWf.out]; exact qbr k _) (fun j => by rw [← HXf.out]; exact qbr k _) q
 clear hrr htt HK HN HM HRT HA HB HQ HWf HXf hXf
 go_enter Tryz.func12, Tryz.ntmps12
 go_wp2_with (first
  | (go_at_call 34; refine (HPf.out _).mono ?_; rintro e w0 ⟨rfl, hb0⟩; have HB0 : Hid (Below w.heap.size w w0) := qa2 (qa1 _ _) hb0; have HV0a : Hid (Vq w0 w.heap.size 27 #[.int .i64 0, .int .i64 0, .slice none 0 0, .slice none 0 0]) := HV0.out.later hb0; clear hb0)
  | (go_at_call 35; refine (HCr.out _).mono ?_; rintro e w1 ⟨s1, d1, rfl, hm1, hb1⟩; have HM1 : Hid (Mt (w1.alloc (.cells #[.int .i64 (T : Int), .int .i64 (k : Int), .slice s1 Q d1] 24)) s1 Q d1 (crf k)) := hm1.later (qa1 _ _); have HB1 : Hid (Below w.heap.size w (w1.alloc (.cells #[.int .i64 (T : Int), .int .i64 (k : Int), .slice s1 Q d1] 24))) := qa2 (qa2 HB0.out hb1) (qa1 _ _); have HV1 : Hid (Vq (w1.alloc (.cells #[.int .i64 (T : Int), .int .i64 (k : Int), .slice s1 Q d1] 24)) w.heap.size 27 #[.int .i64 0, .int .i64 0, .slice none 0 0, .slice none 0 0]) := (HV0a.out.later hb1).later (qa1 _ _); have HC1 : Hid (Vq (w1.alloc (.cells #[.int .i64 (T : Int), .int .i64 (k : Int), .slice s1 Q d1] 24)) w1.heap.size 24 #[.int .i64 (T : Int), .int .i64 (k : Int), .slice s1 Q d1]) := Vq.new w1 _ _; have y0 := HC1.out.cell 0 _ rfl; have y1 := HC1.out.cell 1 _ rfl; have y2 := HC1.out.cell 2 _ rfl; clear hm1 hb1)
  | (go_at_call 39; refine (HRo.out _ _ _ HM1.out).mono ?_; rintro e w2 ⟨s2, d2, rfl, hm2, hb2⟩; have HM2 : Hid (Mt w2 s2 k d2 Wf) := hm2; have HB2 : Hid (Below w.heap.size w w2) := qa2 HB1.out hb2; have HV2 : Hid (Vq w2 w.heap.size 27 #[.int .i64 0, .int .i64 0, .slice none 0 0, .slice none 0 0]) := HV1.out.later hb2; have HN2 : Hid (Mt w2 s1 Q d1 (crf k)) := HM1.out.later hb2; have HC2 := HC1.out.later hb2; have z0 := HC2.cell 0 _ rfl; have z1 := HC2.cell 1 _ rfl; have z2 := HC2.cell 2 _ rfl; clear hm2 hb2 HC2)
  | (go_at_call 38; refine (HLa.out _ _ _ HN2.out).mono ?_; rintro e w3 ⟨g3, rfl, hr3, hg3, hb3⟩; have HM3 : Hid (Mt w3 (some ⟨g3, 0, none⟩) M M Xf) := hr3.mt HXlt.out; have HB3 : Hid (Below w.heap.size w w3) := qa2 HB2.out hb3; have HV3 : Hid (Vq w3 w.heap.size 27 #[.int .i64 0, .int .i64 0, .slice none 0 0, .slice none 0 0]) := HV2.out.later hb3; have HW3 : Hid (Mt w3 s2 k d2 Wf) := HM2.out.later hb3; clear hr3 hg3 hb3)
  | (go_at_call 36; refine (HPo.out _ _ _ _ _ HW3.out HM3.out).mono ?_; rintro e w4 ⟨gd, gg, rfl, hr4, hj4, hb4⟩; have HR4 : Hid (RowAt w4 gd 5 N (ptf k l s Wf Xf)) := hr4; have HJ4 : Hid (JAt w4 gg 40 .u64 l (gpf k s)) := hj4; have HB4 : Hid (Below w.heap.size w w4) := qa2 HB3.out hb4; have HV4 : Hid (Vq w4 w.heap.size 27 #[.int .i64 0, .int .i64 0, .slice none 0 0, .slice none 0 0]) := HV3.out.later hb4; clear hr4 hj4 hb4)
  | (refine qah rfl 27 _ _ rfl w.heap.size _ #[.int .i64 (R : Int), .int .i64 (k : Int), .slice (some ⟨gd, 0, none⟩) N N, .slice (some ⟨gg, 0, none⟩) l l] rfl rfl HV4.out sizeCo rfl (occ _ _ _ _ _ _ _ _) ?_; intro w5 HV5 HG5))
 have c0 := HV5.out.cell 0 _ rfl
 have c1 := HV5.out.cell 1 _ rfl
 have c2 := HV5.out.cell 2 _ rfl
 have c3 := HV5.out.cell 3 _ rfl
 refine bodyPost_ret (v := .tuple #[cv R k (some ⟨gd, 0, none⟩) N N (some ⟨gg, 0, none⟩) l l, .int .i64 0]) (by simp [results, Tryz.results12, go_sem, c0, c1, c2, c3, cv]) rfl ?_
 have e1 : gd ≠ w.heap.size := qh1 HR4.out HV4.out
 have e2 : gg ≠ w.heap.size := qh2 HJ4.out HV4.out
 exact ⟨_, _, _, _, rfl, (HR4.out.kept HG5.out e1).mt HRt.out, qh3 (HJ4.out.kept HG5.out e2), qa4 HB4.out HG5.out (Nat.le_refl _)⟩
end Go.Proofs.YtnfbbddoaeofgabGreat
