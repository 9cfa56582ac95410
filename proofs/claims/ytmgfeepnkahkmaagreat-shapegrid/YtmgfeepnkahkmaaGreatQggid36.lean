/-
  Codes of portions: Local.
-/
import Derived.Test.YtmgfeepnkahkmaaGreatQggid00
import Derived.Test.YtmgfeepnkahkmaaGreatQggid35
set_option maxRecDepth 100000
set_option maxHeartbeats 16000000
namespace Go.Proofs.YtmgfeepnkahkmaaGreat
open Go.RowKit
theorem qil (w : World) (k l s m R N : Nat) (hk : 1 ≤ k) (hl : 1 ≤ l) (hs : 1 ≤ s) (HK : Hid (l * s = k)) (HR : Hid (k + l + m = R)) (hR : R ≤ 64) (HN : Hid (R * k = N)) :
  Calls Tryz.prog 21 #[.int .i64 (k : Int), .int .i64 (l : Int), .int .i64 (m : Int)] w fun e w' => CAns w w' e R k N (ptf k l s (fun _ => 1) (fun q => crf k (k * k + q))) l (gpf k s) 0 := by
 have HV0 : Hid (Vq (w.alloc (.cells #[.int .i64 0, .int .i64 0, .slice none 0 0, .slice none 0 0] 27)) w.heap.size 27 #[.int .i64 0, .int .i64 0, .slice none 0 0, .slice none 0 0]) := Vq.new w _ _
 have hrr := HR.out
 have HPf : Hid (∀ w, Calls Tryz.prog 52 #[.int .i64 (k : Int), .int .i64 (l : Int), .int .i64 (m : Int)] w fun e w' => e = .returned (.int .i64 0) ∧ Below w.heap.size w w') := fun w => pfail w k l m 0 (by omega) (by omega) (by omega) (.inr (.inr ⟨⟨by omega, by omega, port_mod HK.out, by omega⟩, by omega, rfl⟩))
 obtain ⟨A, HA⟩ : ∃ A, Hid (k * k = A) := ⟨_, rfl⟩
 obtain ⟨B, HB⟩ : ∃ B, Hid ((m) * k = B) := ⟨_, rfl⟩
 obtain ⟨T, HT⟩ : ∃ T, Hid (k + (m) = T) := ⟨_, rfl⟩
 obtain ⟨Q, HQ⟩ : ∃ Q, Hid (A + B = Q) := ⟨_, rfl⟩
 obtain ⟨M, HM⟩ : ∃ M, Hid (m * k = M) := ⟨_, rfl⟩
 have htt := HT.out
 have HRT : Hid (Rt T k Q) := ⟨by omega, by omega, by rw [← HQ.out, ← HA.out, ← HB.out, ← HT.out, Nat.add_mul]⟩
 have HCr : Hid (∀ w, Calls Tryz.prog 53 #[.int .i64 (k : Int), .int .i64 ((m : Nat) : Int)] w fun e w' => ∃ s d, e = .returned (.tuple #[mv (T : Int) k s Q d, .int .i64 0]) ∧ Mt w' s Q d (crf k) ∧ Below w.heap.size w w') := fun w => by rw [← HT.out, ← HQ.out]; exact qkg w k (m) A B hk (by omega) HA HB
 obtain ⟨Wf, HWf⟩ : ∃ Wf : Nat → Nat, Hid ((fun _ => 1) = Wf) := ⟨_, rfl⟩
 obtain ⟨Xf, HXf⟩ : ∃ Xf : Nat → Nat, Hid ((fun q => crf k (k * k + q)) = Xf) := ⟨_, rfl⟩
 have hXf : ((fun q => crf k (k * k + q))) = Xf := HXf.out
 rw [HWf.out, hXf]
 have HRep : Hid (∀ (w : World) (b c : Nat), w.cell? ⟨b, 0, none⟩ = some (.int .u8 1) → Calls Tryz.prog 55 #[.slice (some ⟨b, 0, none⟩) 1 c, .int .i64 (k : Int)] w fun e w' => ∃ g, e = .returned (.slice (some ⟨g, 0, none⟩) k k) ∧ Mt w' (some ⟨g, 0, none⟩) k k Wf ∧ w.heap.size ≤ g ∧ Below w.heap.size w w') := fun w b c h => by rw [← HWf.out]; exact rep16 k hk (by omega) w b c h
 have HXlt : Hid (∀ q, q < M → Xf q < 256) := fun q hq => by rw [← HXf.out]; exact qhj k _
 have HLa : Hid (∀ (w : World) (a : Option Addr) (d : Nat), Mt w a Q d (crf k) → Calls Tryz.prog 56 #[mv T k a Q d, .int .i64 (m : Int)] w fun e w' => ∃ g, e = .returned (mv m k (some ⟨g, 0, none⟩) M M) ∧ RowAt w' g 5 M Xf ∧ w.heap.size ≤ g ∧ Below w.heap.size w w') := fun w a d h => by rw [← HXf.out]; exact last16 w T k Q d m k M a (crf k) h HRT.out (by omega) HM
 have HPo : Hid (∀ (w : World) (sw sf : Option Addr) (kw dM : Nat), Mt w sw k kw Wf → Mt w sf M dM Xf → Calls Tryz.prog 54 #[.int .i64 (l : Int), .slice sw k kw, mv m k sf M dM] w fun e w' => ∃ gd gg, e = .returned (cv R k (some ⟨gd, 0, none⟩) N N (some ⟨gg, 0, none⟩) l l) ∧ RowAt w' gd 5 N (ptf k l s Wf Xf) ∧ JAt w' gg 52 .u64 l (gpf k s) ∧ Below w.heap.size w w') := fun w sw sf kw dM h1 h2 => portd w l k s m R N M kw dM sw sf Wf Xf h1 h2 hl hs HK HR hR HN HM
 have HRt : Hid (∀ q, q < N → ptf k l s Wf Xf q < 256) := fun q hq => ptf_lt HK.out hl (fun j => by rw [← HWf.out]; show 1 < 256; omega) (fun j => by rw [← HXf.out]; exact qhj k _) q
 clear hrr htt HK HN HM HRT HA HB HQ HWf HXf hXf
 go_enter Tryz.func21, Tryz.ntmps21
 go_wp2_with (first
  | (go_at_call 52; refine (HPf.out _).mono ?_; rintro e w0 ⟨rfl, hb0⟩; have HB0 : Hid (Below w.heap.size w w0) := qa0 (qa1 _ _) hb0; have HV0a : Hid (Vq w0 w.heap.size 27 #[.int .i64 0, .int .i64 0, .slice none 0 0, .slice none 0 0]) := HV0.out.later hb0; clear hb0)
  | (go_at_call 53; refine (HCr.out _).mono ?_; rintro e w1 ⟨s1, d1, rfl, hm1, hb1⟩; have HM1 : Hid (Mt (w1.alloc (.cells #[.int .i64 (T : Int), .int .i64 (k : Int), .slice s1 Q d1] 24)) s1 Q d1 (crf k)) := hm1.later (qa1 _ _); have HB1 : Hid (Below w.heap.size w (w1.alloc (.cells #[.int .i64 (T : Int), .int .i64 (k : Int), .slice s1 Q d1] 24))) := qa0 (qa0 HB0.out hb1) (qa1 _ _); have HV1 : Hid (Vq (w1.alloc (.cells #[.int .i64 (T : Int), .int .i64 (k : Int), .slice s1 Q d1] 24)) w.heap.size 27 #[.int .i64 0, .int .i64 0, .slice none 0 0, .slice none 0 0]) := (HV0a.out.later hb1).later (qa1 _ _); have HC1 : Hid (Vq (w1.alloc (.cells #[.int .i64 (T : Int), .int .i64 (k : Int), .slice s1 Q d1] 24)) w1.heap.size 24 #[.int .i64 (T : Int), .int .i64 (k : Int), .slice s1 Q d1]) := Vq.new w1 _ _; have HBc : Hid (Below w0.heap.size w0 w1) := hb1; clear hm1 hb1)
  | fail)
 have HC2 : Hid (Vq (w1.alloc (.cells #[.int .i64 (T : Int), .int .i64 (k : Int), .slice s1 Q d1] 24)).drew w1.heap.size 24 #[.int .i64 (T : Int), .int .i64 (k : Int), .slice s1 Q d1]) := HC1.out.later (qbp _)
 have HX : Hid (((w1.alloc (.cells #[.int .i64 (T : Int), .int .i64 (k : Int), .slice s1 Q d1] 24)).drew.alloc (.cells #[.int .u8 1] 5)).cell? ⟨w1.heap.size + 1, 0, none⟩ = some (.int .u8 1)) := by
  have e1 : (w1.alloc (.cells #[.int .i64 (T : Int), .int .i64 (k : Int), .slice s1 Q d1] 24)).drew.heap.size = w1.heap.size + 1 := qal _ _
  have := (Vq.new (w1.alloc (.cells #[.int .i64 (T : Int), .int .i64 (k : Int), .slice s1 Q d1] 24)).drew 5 #[.int .u8 1]).cell 0 _ rfl
  rw [e1] at this
  exact this
 have HXB : Hid (Below (w1.alloc (.cells #[.int .i64 (T : Int), .int .i64 (k : Int), .slice s1 Q d1] 24)).heap.size (w1.alloc (.cells #[.int .i64 (T : Int), .int .i64 (k : Int), .slice s1 Q d1] 24)) ((w1.alloc (.cells #[.int .i64 (T : Int), .int .i64 (k : Int), .slice s1 Q d1] 24)).drew.alloc (.cells #[.int .u8 1] 5))) := qa0 (qbp _) (qa1 _ _)
 have HKa : Hid (((w1.alloc (.cells #[.int .i64 (T : Int), .int .i64 (k : Int), .slice s1 Q d1] 24)).drew.alloc (.cells #[.int .u8 1] 5)).cell? ⟨w1.heap.size, 0, none⟩ = some (.int .i64 (T : Int)) ∧ ((w1.alloc (.cells #[.int .i64 (T : Int), .int .i64 (k : Int), .slice s1 Q d1] 24)).drew.alloc (.cells #[.int .u8 1] 5)).cell? ⟨w1.heap.size, 1, none⟩ = some (.int .i64 (k : Int)) ∧ ((w1.alloc (.cells #[.int .i64 (T : Int), .int .i64 (k : Int), .slice s1 Q d1] 24)).drew.alloc (.cells #[.int .u8 1] 5)).cell? ⟨w1.heap.size, 2, none⟩ = some (.slice s1 Q d1)) := ⟨(HC1.out.later HXB.out).cell 0 _ rfl, (HC1.out.later HXB.out).cell 1 _ rfl, (HC1.out.later HXB.out).cell 2 _ rfl⟩
 have HD : Hid ((w1.alloc (.cells #[.int .i64 (T : Int), .int .i64 (k : Int), .slice s1 Q d1] 24)).drew.cell? ⟨w1.heap.size, 0, none⟩ = some (.int .i64 (T : Int)) ∧ (w1.alloc (.cells #[.int .i64 (T : Int), .int .i64 (k : Int), .slice s1 Q d1] 24)).drew.cell? ⟨w1.heap.size, 1, none⟩ = some (.int .i64 (k : Int)) ∧ (w1.alloc (.cells #[.int .i64 (T : Int), .int .i64 (k : Int), .slice s1 Q d1] 24)).drew.cell? ⟨w1.heap.size, 2, none⟩ = some (.slice s1 Q d1)) := ⟨HC2.out.cell 0 _ rfl, HC2.out.cell 1 _ rfl, HC2.out.cell 2 _ rfl⟩
 go_region_held3 (fun w' => w'.cell? ⟨w1.heap.size, 0, none⟩ = some (.int .i64 (T : Int)) ∧ w'.cell? ⟨w1.heap.size, 1, none⟩ = some (.int .i64 (k : Int)) ∧ w'.cell? ⟨w1.heap.size, 2, none⟩ = some (.slice s1 Q d1))
  (first
   | exact HK5.out
   | exact HK4.out
   | exact HK3.out
   | exact HK2.out
   | exact HKa.out
   | exact HD.out)
  (first
   | (go_at_call 55; refine (HRep.out _ _ _ HX.out).mono ?_; rintro e w2 ⟨g2, rfl, hm2, hg2, hb2⟩; have HM2 : Hid (Mt w2 (some ⟨g2, 0, none⟩) k k Wf) := hm2; have HB2a : Hid (Below (w1.alloc (.cells #[.int .i64 (T : Int), .int .i64 (k : Int), .slice s1 Q d1] 24)).heap.size (w1.alloc (.cells #[.int .i64 (T : Int), .int .i64 (k : Int), .slice s1 Q d1] 24)) w2) := qa0 HXB.out hb2; have HB2 : Hid (Below w.heap.size w w2) := qa0 HB1.out HB2a.out; have HV2 : Hid (Vq w2 w.heap.size 27 #[.int .i64 0, .int .i64 0, .slice none 0 0, .slice none 0 0]) := HV1.out.later HB2a.out; have HN2 : Hid (Mt w2 s1 Q d1 (crf k)) := HM1.out.later HB2a.out; have HC3 : Hid (Vq w2 w1.heap.size 24 #[.int .i64 (T : Int), .int .i64 (k : Int), .slice s1 Q d1]) := HC1.out.later HB2a.out; have HK2 : Hid (w2.cell? ⟨w1.heap.size, 0, none⟩ = some (.int .i64 (T : Int)) ∧ w2.cell? ⟨w1.heap.size, 1, none⟩ = some (.int .i64 (k : Int)) ∧ w2.cell? ⟨w1.heap.size, 2, none⟩ = some (.slice s1 Q d1)) := ⟨HC3.out.cell 0 _ rfl, HC3.out.cell 1 _ rfl, HC3.out.cell 2 _ rfl⟩; clear hm2 hg2 hb2)
   | (go_at_call 56; refine (HLa.out _ _ _ HN2.out).mono ?_; rintro e w3 ⟨g3, rfl, hr3, hg3, hb3⟩; have HM3 : Hid (Mt w3 (some ⟨g3, 0, none⟩) M M Xf) := hr3.mt HXlt.out; have HB3 : Hid (Below w.heap.size w w3) := qa0 HB2.out hb3; have HV3 : Hid (Vq w3 w.heap.size 27 #[.int .i64 0, .int .i64 0, .slice none 0 0, .slice none 0 0]) := HV2.out.later hb3; have HW3 : Hid (Mt w3 (some ⟨g2, 0, none⟩) k k Wf) := HM2.out.later hb3; have HC4 : Hid (Vq w3 w1.heap.size 24 #[.int .i64 (T : Int), .int .i64 (k : Int), .slice s1 Q d1]) := HC3.out.later hb3; have HK3 : Hid (w3.cell? ⟨w1.heap.size, 0, none⟩ = some (.int .i64 (T : Int)) ∧ w3.cell? ⟨w1.heap.size, 1, none⟩ = some (.int .i64 (k : Int)) ∧ w3.cell? ⟨w1.heap.size, 2, none⟩ = some (.slice s1 Q d1)) := ⟨HC4.out.cell 0 _ rfl, HC4.out.cell 1 _ rfl, HC4.out.cell 2 _ rfl⟩; clear hr3 hg3 hb3)
   | (go_at_call 54; refine (HPo.out _ _ _ _ _ HW3.out HM3.out).mono ?_; rintro e w4 ⟨gd, gg, rfl, hr4, hj4, hb4⟩; have HR4 : Hid (RowAt w4 gd 5 N (ptf k l s Wf Xf)) := hr4; have HJ4 : Hid (JAt w4 gg 52 .u64 l (gpf k s)) := hj4; have HB4 : Hid (Below w.heap.size w w4) := qa0 HB3.out hb4; have HV4 : Hid (Vq w4 w.heap.size 27 #[.int .i64 0, .int .i64 0, .slice none 0 0, .slice none 0 0]) := HV3.out.later hb4; have HC5 : Hid (Vq w4 w1.heap.size 24 #[.int .i64 (T : Int), .int .i64 (k : Int), .slice s1 Q d1]) := HC4.out.later hb4; have HK4 : Hid (w4.cell? ⟨w1.heap.size, 0, none⟩ = some (.int .i64 (T : Int)) ∧ w4.cell? ⟨w1.heap.size, 1, none⟩ = some (.int .i64 (k : Int)) ∧ w4.cell? ⟨w1.heap.size, 2, none⟩ = some (.slice s1 Q d1)) := ⟨HC5.out.cell 0 _ rfl, HC5.out.cell 1 _ rfl, HC5.out.cell 2 _ rfl⟩; obtain ⟨hv5, hg5⟩ := qba HV4.out (.int .i64 (R : Int)) (.int .i64 (k : Int)) (.slice (some ⟨gd, 0, none⟩) N N) (.slice (some ⟨gg, 0, none⟩) l l); have HV5 : Hid (Vq ((((w4.setCell ⟨w.heap.size, 0, none⟩ (.int .i64 (R : Int))).setCell ⟨w.heap.size, 1, none⟩ (.int .i64 (k : Int))).setCell ⟨w.heap.size, 2, none⟩ (.slice (some ⟨gd, 0, none⟩) N N)).setCell ⟨w.heap.size, 3, none⟩ (.slice (some ⟨gg, 0, none⟩) l l)) w.heap.size 27 #[.int .i64 (R : Int), .int .i64 (k : Int), .slice (some ⟨gd, 0, none⟩) N N, .slice (some ⟨gg, 0, none⟩) l l]) := hv5; have HG5 : Hid (w4.grownBy ((((w4.setCell ⟨w.heap.size, 0, none⟩ (.int .i64 (R : Int))).setCell ⟨w.heap.size, 1, none⟩ (.int .i64 (k : Int))).setCell ⟨w.heap.size, 2, none⟩ (.slice (some ⟨gd, 0, none⟩) N N)).setCell ⟨w.heap.size, 3, none⟩ (.slice (some ⟨gg, 0, none⟩) l l)) (some w.heap.size)) := hg5; have HC6 : Hid (Vq ((((w4.setCell ⟨w.heap.size, 0, none⟩ (.int .i64 (R : Int))).setCell ⟨w.heap.size, 1, none⟩ (.int .i64 (k : Int))).setCell ⟨w.heap.size, 2, none⟩ (.slice (some ⟨gd, 0, none⟩) N N)).setCell ⟨w.heap.size, 3, none⟩ (.slice (some ⟨gg, 0, none⟩) l l)) w1.heap.size 24 #[.int .i64 (T : Int), .int .i64 (k : Int), .slice s1 Q d1]) := HC5.out.kept hg5 (by have := HV0a.out.lt; have := HBc.out.size; omega); have HK5 : Hid (((((w4.setCell ⟨w.heap.size, 0, none⟩ (.int .i64 (R : Int))).setCell ⟨w.heap.size, 1, none⟩ (.int .i64 (k : Int))).setCell ⟨w.heap.size, 2, none⟩ (.slice (some ⟨gd, 0, none⟩) N N)).setCell ⟨w.heap.size, 3, none⟩ (.slice (some ⟨gg, 0, none⟩) l l)).cell? ⟨w1.heap.size, 0, none⟩ = some (.int .i64 (T : Int)) ∧ ((((w4.setCell ⟨w.heap.size, 0, none⟩ (.int .i64 (R : Int))).setCell ⟨w.heap.size, 1, none⟩ (.int .i64 (k : Int))).setCell ⟨w.heap.size, 2, none⟩ (.slice (some ⟨gd, 0, none⟩) N N)).setCell ⟨w.heap.size, 3, none⟩ (.slice (some ⟨gg, 0, none⟩) l l)).cell? ⟨w1.heap.size, 1, none⟩ = some (.int .i64 (k : Int)) ∧ ((((w4.setCell ⟨w.heap.size, 0, none⟩ (.int .i64 (R : Int))).setCell ⟨w.heap.size, 1, none⟩ (.int .i64 (k : Int))).setCell ⟨w.heap.size, 2, none⟩ (.slice (some ⟨gd, 0, none⟩) N N)).setCell ⟨w.heap.size, 3, none⟩ (.slice (some ⟨gg, 0, none⟩) l l)).cell? ⟨w1.heap.size, 2, none⟩ = some (.slice s1 Q d1)) := ⟨HC6.out.cell 0 _ rfl, HC6.out.cell 1 _ rfl, HC6.out.cell 2 _ rfl⟩; have r0 := HV4.out.cell 0 _ rfl; have r1 := HV4.out.cell 1 _ rfl; have r2 := HV4.out.cell 2 _ rfl; have r3 := HV4.out.cell 3 _ rfl; have f0 := HV4.out.free 0; have f1 := HV4.out.free 1; have f2 := HV4.out.free 2; have f3 := HV4.out.free 3; clear hv5 hg5 hr4 hj4 hb4))
 go_wp2
 have c0 := HV5.out.cell 0 _ rfl
 have c1 := HV5.out.cell 1 _ rfl
 have c2 := HV5.out.cell 2 _ rfl
 have c3 := HV5.out.cell 3 _ rfl
 refine bodyPost_ret (v := .tuple #[cv R k (some ⟨gd, 0, none⟩) N N (some ⟨gg, 0, none⟩) l l, .int .i64 0]) (by simp [results, Tryz.results21, go_sem, c0, c1, c2, c3, cv]) rfl ?_
 have e1 : gd ≠ w.heap.size := qhi HR4.out HV4.out
 have e2 : gg ≠ w.heap.size := jat_ne16 HJ4.out HV4.out
 exact ⟨_, _, _, _, rfl, (HR4.out.kept HG5.out e1).mt HRt.out, jat_jl16 (HJ4.out.kept HG5.out e2), qa3 HB4.out HG5.out (Nat.le_refl _)⟩
end Go.Proofs.YtmgfeepnkahkmaaGreat
