/-
  math/bits.Len at this program.
  slices.Sorted and slices.Compact of a list of one set.
  Codes of portions: Local.
  The document's answer: codes of portions.
  The document's answer: codes of portions, pyramids.
  The document's Local, Pyramid and Same; the law's like; what both sides answer, in pairs.
  A code with one group: allHang, isGenerator, May; the laws' anchor.
  The anchor of the laws of codes.
  What both sides answer: Reed, Cross, Local, Pyramid.
  Sums over the groups of a code of portions. No Go in sight, but for lists of numbers.
-/
import Derived.Test.YtnfbbddoaeofgabGreatQlles00
import Derived.Shelf.Small.Bits
import Derived.Shelf.Bits.Mul64
import Derived.Test.YtnfbbddoaeofgabGreatQlles46
import Derived.Test.YtnfbbddoaeofgabGreatQlles43
import Derived.Test.YtnfbbddoaeofgabGreatQlles45
import Derived.Test.YtnfbbddoaeofgabGreatQlles44
import Derived.Test.YtnfbbddoaeofgabGreatQlles47
import Derived.Test.YtnfbbddoaeofgabGreatQlles27
import Derived.Test.YtnfbbddoaeofgabGreatQlles09
set_option maxRecDepth 100000
set_option maxHeartbeats 16000000
namespace Go.Proofs.YtnfbbddoaeofgabGreat
open Go.RowKit Go.Shelf
def renLen : Go.Shelf.Ren := ⟨fun | 125 => 115 | 128 => 134 | 129 => 135 | n => n, fun | 46 => 43 | 3 => 3 | 51 => 125 | 53 => 39 | 4 => 4 | 5 => 5 | 9 => 9 | n => n, fun | n => n⟩
theorem layLen : Go.Proofs.Lays.n125 Tryz.prog renLen := {
 mixed := by kernel_rfl
 f125 := Tryz.func115.trans (congrArg some (by kernel_rfl))
 f128 := Tryz.func134.trans (congrArg some (by kernel_rfl))
 f129 := Tryz.func135.trans (congrArg some (by kernel_rfl))
 t3 := Tryz.underlying3
 a3 := Tryz.isAgg3
 z3 := Tryz.sizeOf3
 v3 := Tryz.zeroValue3
 t4 := Tryz.underlying4
 a4 := Tryz.isAgg4
 z4 := Tryz.sizeOf4
 v4 := Tryz.zeroValue4
 t5 := Tryz.underlying5
 a5 := Tryz.isAgg5
 z5 := Tryz.sizeOf5
 v5 := Tryz.zeroValue5
 t9 := Tryz.underlying9
 a9 := Tryz.isAgg9
 z9 := Tryz.sizeOf9
 v9 := Tryz.zeroValue9
 t46 := Tryz.underlying43
 a46 := Tryz.isAgg43
 z46 := Tryz.sizeOf43
 v46 := Tryz.zeroValue43
 t51 := Tryz.underlying125
 a51 := Tryz.isAgg125
 z51 := Tryz.sizeOf125
 v51 := Tryz.zeroValue125
 t53 := Tryz.underlying39
 a53 := Tryz.isAgg39
 z53 := Tryz.sizeOf39
 v53 := Tryz.zeroValue39 }
theorem len16 (w : World) (x : Int) (h0 : 0 ≤ x) (h1 : x ≤ 18446744073709551615) : ∃ L : Int, Calls Tryz.prog 115 #[.int .u64 x] w fun e w' => e = .returned (.int .i64 L) ∧ w = w' := ⟨_, (Any.bits_Len layLen x w h0 h1).mono (fun _ _ h => ⟨h.1, h.2.symm⟩)⟩
open Go.RowKit
theorem ins1 (w : World) (a : Option Addr) (n k : Nat) : Calls Tryz.prog 125 #[.slice a n k, .int .i64 0, .int .i64 1] w fun e w' => e = .returned (.tuple #[]) ∧ w = w' := by
 go_enter Tryz.func125, Tryz.ntmps125
 go_wp2
 go_loopw [6] (fun vi wr => vi = .int .i64 1 ∧ w = wr) (fun _ _ => 0)
 case atStart => exact ⟨rfl, rfl⟩
 case round =>
  obtain ⟨rfl, rfl⟩ := hrel
  go_wp2
  go_end0
  exact ⟨rfl, rfl⟩
theorem pdq1 (w : World) (a : Option Addr) (n k : Nat) (L : Int) : Calls Tryz.prog 114 #[.slice a n k, .int .i64 0, .int .i64 1, .int .i64 L] w fun e w' => e = .returned (.tuple #[]) ∧ w = w' := by
 go_enter Tryz.func114, Tryz.ntmps114
 go_wp2
 refine wp_loop_rounds 1 ?_
 rw [rounds_succ]
 go_wp2_with (go_at_call 125; refine (ins1 _ _ _ _).mono ?_; rintro e w' ⟨rfl, rfl⟩)
 refine bodyPost_ret (v := .tuple #[]) (by simp [results, Tryz.results114, go_sem]) rfl ?_
 exact ⟨rfl, rfl⟩
theorem sort1 (w : World) (a : Option Addr) (k : Nat) : Calls Tryz.prog 103 #[.slice a 1 k] w fun e w' => e = .returned (.tuple #[]) ∧ w = w' := by
 obtain ⟨L, hL⟩ := len16 w 1 (by omega) (by omega)
 have HL : Hid (Calls Tryz.prog 115 #[.int .u64 1] w fun e w' => e = .returned (.int .i64 L) ∧ w = w') := hL
 clear hL
 go_enter Tryz.func103, Tryz.ntmps103
 go_wp2_with (first
  | (go_at_call 115; refine HL.out.mono ?_; rintro e w' ⟨rfl, rfl⟩)
  | (go_at_call 114; refine (pdq1 _ _ _ _ _).mono ?_; rintro e w' ⟨rfl, rfl⟩))
 go_end0
 exact ⟨rfl, rfl⟩
theorem sorted1 (w : World) (a : Option Addr) (k bv q : Nat) (hv : w.cell? ⟨bv, 0, none⟩ = some (.slice a 1 k)) (hj : Jl w a .u64 1 (fun _ => (q : Int))) :
  Calls Tryz.prog 83 #[.func (.func 104) #[] #[.pointer (some ⟨bv, 0, none⟩)]] w fun e w' => ∃ s d, e = .returned (.slice s 1 d) ∧ Jo w' w.heap.size 40 .u64 (.slice s 1 d) 1 (fun _ => q) ∧ Below w.heap.size w w' := by
 have HC := jhidv (qk8 w a 1 k bv (fun _ => q) (by omega) hv hj)
 clear hv hj
 go_enter Tryz.func83, Tryz.ntmps83
 go_wp2_with (first
  | (go_at_call 102; refine HC.out.mono ?_; rintro e w1 ⟨s, d, rfl, ho, hb⟩; have HO : Hid (Jo w1 w.heap.size 40 .u64 (.slice s 1 d) 1 (fun _ => q)) := ho; have HB : Hid (Below w.heap.size w w1) := hb; clear ho hb)
  | (go_at_call 103; refine (sort1 _ _ _).mono ?_; rintro e w' ⟨rfl, rfl⟩))
 go_ret
 exact ⟨s, d, rfl, HO.out, HB.out⟩
theorem compact1 (w : World) (a : Option Addr) (k : Nat) : Calls Tryz.prog 82 #[.slice a 1 k] w fun e w' => e = .returned (.slice a 1 k) ∧ w = w' := by
 go_enter Tryz.func82, Tryz.ntmps82
 go_wp2
 go_ret
 exact ⟨rfl, rfl⟩
open Go.RowKit
theorem qcc (w : World) (k l s m R N : Nat) (hk : 1 ≤ k) (hl : 1 ≤ l) (hs : 1 ≤ s) (HK : Hid (l * s = k)) (HR : Hid (k + l + m = R)) (hR : R ≤ 64) (HN : Hid (R * k = N)) :
  Calls Tryz.prog 11 #[.int .i64 (k : Int), .int .i64 (l : Int), .int .i64 (m : Int)] w fun e w' => CAns w w' e R k N (ptf k l s (fun _ => 1) (fun q => crf k (k * k + q))) l (gpf k s) 0 := by
 have HV0 : Hid (Vq (w.alloc (.cells #[.int .i64 0, .int .i64 0, .slice none 0 0, .slice none 0 0] 27)) w.heap.size 27 #[.int .i64 0, .int .i64 0, .slice none 0 0, .slice none 0 0]) := Vq.new w _ _
 have hrr := HR.out
 have HPf : Hid (∀ w, Calls Tryz.prog 34 #[.int .i64 (k : Int), .int .i64 (l : Int), .int .i64 (m : Int)] w fun e w' => e = .returned (.int .i64 0) ∧ Below w.heap.size w w') := fun w => pfail w k l m 0 (by omega) (by omega) (by omega) (.inr (.inr ⟨⟨by omega, by omega, qh4 HK.out, by omega⟩, by omega, rfl⟩))
 obtain ⟨A, HA⟩ : ∃ A, Hid (k * k = A) := ⟨_, rfl⟩
 obtain ⟨B, HB⟩ : ∃ B, Hid ((m) * k = B) := ⟨_, rfl⟩
 obtain ⟨T, HT⟩ : ∃ T, Hid (k + (m) = T) := ⟨_, rfl⟩
 obtain ⟨Q, HQ⟩ : ∃ Q, Hid (A + B = Q) := ⟨_, rfl⟩
 obtain ⟨M, HM⟩ : ∃ M, Hid (m * k = M) := ⟨_, rfl⟩
 have htt := HT.out
 have HRT : Hid (Rt T k Q) := ⟨by omega, by omega, by rw [← HQ.out, ← HA.out, ← HB.out, ← HT.out, Nat.add_mul]⟩
 have HCr : Hid (∀ w, Calls Tryz.prog 35 #[.int .i64 (k : Int), .int .i64 ((m : Nat) : Int)] w fun e w' => ∃ s d, e = .returned (.tuple #[mv (T : Int) k s Q d, .int .i64 0]) ∧ Mt w' s Q d (crf k) ∧ Below w.heap.size w w') := fun w => by rw [← HT.out, ← HQ.out]; exact qfe w k (m) A B hk (by omega) HA HB
 obtain ⟨Wf, HWf⟩ : ∃ Wf : Nat → Nat, Hid ((fun _ => 1) = Wf) := ⟨_, rfl⟩
 obtain ⟨Xf, HXf⟩ : ∃ Xf : Nat → Nat, Hid ((fun q => crf k (k * k + q)) = Xf) := ⟨_, rfl⟩
 have hXf : ((fun q => crf k (k * k + q))) = Xf := HXf.out
 rw [HWf.out, hXf]
 have HRep : Hid (∀ (w : World) (b c : Nat), w.cell? ⟨b, 0, none⟩ = some (.int .u8 1) → Calls Tryz.prog 37 #[.slice (some ⟨b, 0, none⟩) 1 c, .int .i64 (k : Int)] w fun e w' => ∃ g, e = .returned (.slice (some ⟨g, 0, none⟩) k k) ∧ Mt w' (some ⟨g, 0, none⟩) k k Wf ∧ w.heap.size ≤ g ∧ Below w.heap.size w w') := fun w b c h => by rw [← HWf.out]; exact rep16 k hk (by omega) w b c h
 have HXlt : Hid (∀ q, q < M → Xf q < 256) := fun q hq => by rw [← HXf.out]; exact qbr k _
 have HLa : Hid (∀ (w : World) (a : Option Addr) (d : Nat), Mt w a Q d (crf k) → Calls Tryz.prog 38 #[mv T k a Q d, .int .i64 (m : Int)] w fun e w' => ∃ g, e = .returned (mv m k (some ⟨g, 0, none⟩) M M) ∧ RowAt w' g 5 M Xf ∧ w.heap.size ≤ g ∧ Below w.heap.size w w') := fun w a d h => by rw [← HXf.out]; exact last16 w T k Q d m k M a (crf k) h HRT.out (by omega) HM
 have HPo : Hid (∀ (w : World) (sw sf : Option Addr) (kw dM : Nat), Mt w sw k kw Wf → Mt w sf M dM Xf → Calls Tryz.prog 36 #[.int .i64 (l : Int), .slice sw k kw, mv m k sf M dM] w fun e w' => ∃ gd gg, e = .returned (cv R k (some ⟨gd, 0, none⟩) N N (some ⟨gg, 0, none⟩) l l) ∧ RowAt w' gd 5 N (ptf k l s Wf Xf) ∧ JAt w' gg 40 .u64 l (gpf k s) ∧ Below w.heap.size w w') := fun w sw sf kw dM h1 h2 => portd w l k s m R N M kw dM sw sf Wf Xf h1 h2 hl hs HK HR hR HN HM
 have HRt : Hid (∀ q, q < N → ptf k l s Wf Xf q < 256) := fun q hq => ptf_lt HK.out hl (fun j => by rw [← HWf.out]; show 1 < 256; omega) (fun j => by rw [← HXf.out]; exact qbr k _) q
 clear hrr htt HK HN HM HRT HA HB HQ HWf HXf hXf
 go_enter Tryz.func11, Tryz.ntmps11
 go_wp2_with (first
  | (go_at_call 34; refine (HPf.out _).mono ?_; rintro e w0 ⟨rfl, hb0⟩; have HB0 : Hid (Below w.heap.size w w0) := qa2 (qa1 _ _) hb0; have HV0a : Hid (Vq w0 w.heap.size 27 #[.int .i64 0, .int .i64 0, .slice none 0 0, .slice none 0 0]) := HV0.out.later hb0; clear hb0)
  | (go_at_call 35; refine (HCr.out _).mono ?_; rintro e w1 ⟨s1, d1, rfl, hm1, hb1⟩; have HM1 : Hid (Mt (w1.alloc (.cells #[.int .i64 (T : Int), .int .i64 (k : Int), .slice s1 Q d1] 24)) s1 Q d1 (crf k)) := hm1.later (qa1 _ _); have HB1 : Hid (Below w.heap.size w (w1.alloc (.cells #[.int .i64 (T : Int), .int .i64 (k : Int), .slice s1 Q d1] 24))) := qa2 (qa2 HB0.out hb1) (qa1 _ _); have HV1 : Hid (Vq (w1.alloc (.cells #[.int .i64 (T : Int), .int .i64 (k : Int), .slice s1 Q d1] 24)) w.heap.size 27 #[.int .i64 0, .int .i64 0, .slice none 0 0, .slice none 0 0]) := (HV0a.out.later hb1).later (qa1 _ _); have HC1 : Hid (Vq (w1.alloc (.cells #[.int .i64 (T : Int), .int .i64 (k : Int), .slice s1 Q d1] 24)) w1.heap.size 24 #[.int .i64 (T : Int), .int .i64 (k : Int), .slice s1 Q d1]) := Vq.new w1 _ _; have HBc : Hid (Below w0.heap.size w0 w1) := hb1; clear hm1 hb1)
  | fail)
 have HC2 : Hid (Vq (w1.alloc (.cells #[.int .i64 (T : Int), .int .i64 (k : Int), .slice s1 Q d1] 24)).drew w1.heap.size 24 #[.int .i64 (T : Int), .int .i64 (k : Int), .slice s1 Q d1]) := HC1.out.later (qb1 _)
 have HX : Hid (((w1.alloc (.cells #[.int .i64 (T : Int), .int .i64 (k : Int), .slice s1 Q d1] 24)).drew.alloc (.cells #[.int .u8 1] 5)).cell? ⟨w1.heap.size + 1, 0, none⟩ = some (.int .u8 1)) := by
  have e1 : (w1.alloc (.cells #[.int .i64 (T : Int), .int .i64 (k : Int), .slice s1 Q d1] 24)).drew.heap.size = w1.heap.size + 1 := qan _ _
  have := (Vq.new (w1.alloc (.cells #[.int .i64 (T : Int), .int .i64 (k : Int), .slice s1 Q d1] 24)).drew 5 #[.int .u8 1]).cell 0 _ rfl
  rw [e1] at this
  exact this
 have HXB : Hid (Below (w1.alloc (.cells #[.int .i64 (T : Int), .int .i64 (k : Int), .slice s1 Q d1] 24)).heap.size (w1.alloc (.cells #[.int .i64 (T : Int), .int .i64 (k : Int), .slice s1 Q d1] 24)) ((w1.alloc (.cells #[.int .i64 (T : Int), .int .i64 (k : Int), .slice s1 Q d1] 24)).drew.alloc (.cells #[.int .u8 1] 5))) := qa2 (qb1 _) (qa1 _ _)
 have HKa : Hid (((w1.alloc (.cells #[.int .i64 (T : Int), .int .i64 (k : Int), .slice s1 Q d1] 24)).drew.alloc (.cells #[.int .u8 1] 5)).cell? ⟨w1.heap.size, 0, none⟩ = some (.int .i64 (T : Int)) ∧ ((w1.alloc (.cells #[.int .i64 (T : Int), .int .i64 (k : Int), .slice s1 Q d1] 24)).drew.alloc (.cells #[.int .u8 1] 5)).cell? ⟨w1.heap.size, 1, none⟩ = some (.int .i64 (k : Int)) ∧ ((w1.alloc (.cells #[.int .i64 (T : Int), .int .i64 (k : Int), .slice s1 Q d1] 24)).drew.alloc (.cells #[.int .u8 1] 5)).cell? ⟨w1.heap.size, 2, none⟩ = some (.slice s1 Q d1)) := ⟨(HC1.out.later HXB.out).cell 0 _ rfl, (HC1.out.later HXB.out).cell 1 _ rfl, (HC1.out.later HXB.out).cell 2 _ rfl⟩
 have HD : Hid ((w1.alloc (.cells #[.int .i64 (T : Int), .int .i64 (k : Int), .slice s1 Q d1] 24)).drew.cell? ⟨w1.heap.size, 0, none⟩ = some (.int .i64 (T : Int)) ∧ (w1.alloc (.cells #[.int .i64 (T : Int), .int .i64 (k : Int), .slice s1 Q d1] 24)).drew.cell? ⟨w1.heap.size, 1, none⟩ = some (.int .i64 (k : Int)) ∧ (w1.alloc (.cells #[.int .i64 (T : Int), .int .i64 (k : Int), .slice s1 Q d1] 24)).drew.cell? ⟨w1.heap.size, 2, none⟩ = some (.slice s1 Q d1)) := ⟨HC2.out.cell 0 _ rfl, HC2.out.cell 1 _ rfl, HC2.out.cell 2 _ rfl⟩
 go_region_held3 (fun w' => w'.cell? ⟨w1.heap.size, 0, none⟩ = some (.int .i64 (T : Int)) ∧ w'.cell? ⟨w1.heap.size, 1, none⟩ = some (.int .i64 (k : Int)) ∧ w'.cell? ⟨w1.heap.size, 2, none⟩ = some (.slice s1 Q d1))
  (first
   | exact HK5.out
   | exact HK4.out
   | exact HK3.out
   | exact HK2.out
   | exact HKa.out
   | exact HD.out)
  (first
   | (go_at_call 37; refine (HRep.out _ _ _ HX.out).mono ?_; rintro e w2 ⟨g2, rfl, hm2, hg2, hb2⟩; have HM2 : Hid (Mt w2 (some ⟨g2, 0, none⟩) k k Wf) := hm2; have HB2a : Hid (Below (w1.alloc (.cells #[.int .i64 (T : Int), .int .i64 (k : Int), .slice s1 Q d1] 24)).heap.size (w1.alloc (.cells #[.int .i64 (T : Int), .int .i64 (k : Int), .slice s1 Q d1] 24)) w2) := qa2 HXB.out hb2; have HB2 : Hid (Below w.heap.size w w2) := qa2 HB1.out HB2a.out; have HV2 : Hid (Vq w2 w.heap.size 27 #[.int .i64 0, .int .i64 0, .slice none 0 0, .slice none 0 0]) := HV1.out.later HB2a.out; have HN2 : Hid (Mt w2 s1 Q d1 (crf k)) := HM1.out.later HB2a.out; have HC3 : Hid (Vq w2 w1.heap.size 24 #[.int .i64 (T : Int), .int .i64 (k : Int), .slice s1 Q d1]) := HC1.out.later HB2a.out; have HK2 : Hid (w2.cell? ⟨w1.heap.size, 0, none⟩ = some (.int .i64 (T : Int)) ∧ w2.cell? ⟨w1.heap.size, 1, none⟩ = some (.int .i64 (k : Int)) ∧ w2.cell? ⟨w1.heap.size, 2, none⟩ = some (.slice s1 Q d1)) := ⟨HC3.out.cell 0 _ rfl, HC3.out.cell 1 _ rfl, HC3.out.cell 2 _ rfl⟩; clear hm2 hg2 hb2)
   | (go_at_call 38; refine (HLa.out _ _ _ HN2.out).mono ?_; rintro e w3 ⟨g3, rfl, hr3, hg3, hb3⟩; have HM3 : Hid (Mt w3 (some ⟨g3, 0, none⟩) M M Xf) := hr3.mt HXlt.out; have HB3 : Hid (Below w.heap.size w w3) := qa2 HB2.out hb3; have HV3 : Hid (Vq w3 w.heap.size 27 #[.int .i64 0, .int .i64 0, .slice none 0 0, .slice none 0 0]) := HV2.out.later hb3; have HW3 : Hid (Mt w3 (some ⟨g2, 0, none⟩) k k Wf) := HM2.out.later hb3; have HC4 : Hid (Vq w3 w1.heap.size 24 #[.int .i64 (T : Int), .int .i64 (k : Int), .slice s1 Q d1]) := HC3.out.later hb3; have HK3 : Hid (w3.cell? ⟨w1.heap.size, 0, none⟩ = some (.int .i64 (T : Int)) ∧ w3.cell? ⟨w1.heap.size, 1, none⟩ = some (.int .i64 (k : Int)) ∧ w3.cell? ⟨w1.heap.size, 2, none⟩ = some (.slice s1 Q d1)) := ⟨HC4.out.cell 0 _ rfl, HC4.out.cell 1 _ rfl, HC4.out.cell 2 _ rfl⟩; clear hr3 hg3 hb3)
   | (go_at_call 36; refine (HPo.out _ _ _ _ _ HW3.out HM3.out).mono ?_; rintro e w4 ⟨gd, gg, rfl, hr4, hj4, hb4⟩; have HR4 : Hid (RowAt w4 gd 5 N (ptf k l s Wf Xf)) := hr4; have HJ4 : Hid (JAt w4 gg 40 .u64 l (gpf k s)) := hj4; have HB4 : Hid (Below w.heap.size w w4) := qa2 HB3.out hb4; have HV4 : Hid (Vq w4 w.heap.size 27 #[.int .i64 0, .int .i64 0, .slice none 0 0, .slice none 0 0]) := HV3.out.later hb4; have HC5 : Hid (Vq w4 w1.heap.size 24 #[.int .i64 (T : Int), .int .i64 (k : Int), .slice s1 Q d1]) := HC4.out.later hb4; have HK4 : Hid (w4.cell? ⟨w1.heap.size, 0, none⟩ = some (.int .i64 (T : Int)) ∧ w4.cell? ⟨w1.heap.size, 1, none⟩ = some (.int .i64 (k : Int)) ∧ w4.cell? ⟨w1.heap.size, 2, none⟩ = some (.slice s1 Q d1)) := ⟨HC5.out.cell 0 _ rfl, HC5.out.cell 1 _ rfl, HC5.out.cell 2 _ rfl⟩; obtain ⟨hv5, hg5⟩ := vq_put4 HV4.out (.int .i64 (R : Int)) (.int .i64 (k : Int)) (.slice (some ⟨gd, 0, none⟩) N N) (.slice (some ⟨gg, 0, none⟩) l l); have HV5 : Hid (Vq ((((w4.setCell ⟨w.heap.size, 0, none⟩ (.int .i64 (R : Int))).setCell ⟨w.heap.size, 1, none⟩ (.int .i64 (k : Int))).setCell ⟨w.heap.size, 2, none⟩ (.slice (some ⟨gd, 0, none⟩) N N)).setCell ⟨w.heap.size, 3, none⟩ (.slice (some ⟨gg, 0, none⟩) l l)) w.heap.size 27 #[.int .i64 (R : Int), .int .i64 (k : Int), .slice (some ⟨gd, 0, none⟩) N N, .slice (some ⟨gg, 0, none⟩) l l]) := hv5; have HG5 : Hid (w4.grownBy ((((w4.setCell ⟨w.heap.size, 0, none⟩ (.int .i64 (R : Int))).setCell ⟨w.heap.size, 1, none⟩ (.int .i64 (k : Int))).setCell ⟨w.heap.size, 2, none⟩ (.slice (some ⟨gd, 0, none⟩) N N)).setCell ⟨w.heap.size, 3, none⟩ (.slice (some ⟨gg, 0, none⟩) l l)) (some w.heap.size)) := hg5; have HC6 : Hid (Vq ((((w4.setCell ⟨w.heap.size, 0, none⟩ (.int .i64 (R : Int))).setCell ⟨w.heap.size, 1, none⟩ (.int .i64 (k : Int))).setCell ⟨w.heap.size, 2, none⟩ (.slice (some ⟨gd, 0, none⟩) N N)).setCell ⟨w.heap.size, 3, none⟩ (.slice (some ⟨gg, 0, none⟩) l l)) w1.heap.size 24 #[.int .i64 (T : Int), .int .i64 (k : Int), .slice s1 Q d1]) := HC5.out.kept hg5 (by have := HV0a.out.lt; have := HBc.out.size; omega); have HK5 : Hid (((((w4.setCell ⟨w.heap.size, 0, none⟩ (.int .i64 (R : Int))).setCell ⟨w.heap.size, 1, none⟩ (.int .i64 (k : Int))).setCell ⟨w.heap.size, 2, none⟩ (.slice (some ⟨gd, 0, none⟩) N N)).setCell ⟨w.heap.size, 3, none⟩ (.slice (some ⟨gg, 0, none⟩) l l)).cell? ⟨w1.heap.size, 0, none⟩ = some (.int .i64 (T : Int)) ∧ ((((w4.setCell ⟨w.heap.size, 0, none⟩ (.int .i64 (R : Int))).setCell ⟨w.heap.size, 1, none⟩ (.int .i64 (k : Int))).setCell ⟨w.heap.size, 2, none⟩ (.slice (some ⟨gd, 0, none⟩) N N)).setCell ⟨w.heap.size, 3, none⟩ (.slice (some ⟨gg, 0, none⟩) l l)).cell? ⟨w1.heap.size, 1, none⟩ = some (.int .i64 (k : Int)) ∧ ((((w4.setCell ⟨w.heap.size, 0, none⟩ (.int .i64 (R : Int))).setCell ⟨w.heap.size, 1, none⟩ (.int .i64 (k : Int))).setCell ⟨w.heap.size, 2, none⟩ (.slice (some ⟨gd, 0, none⟩) N N)).setCell ⟨w.heap.size, 3, none⟩ (.slice (some ⟨gg, 0, none⟩) l l)).cell? ⟨w1.heap.size, 2, none⟩ = some (.slice s1 Q d1)) := ⟨HC6.out.cell 0 _ rfl, HC6.out.cell 1 _ rfl, HC6.out.cell 2 _ rfl⟩; have r0 := HV4.out.cell 0 _ rfl; have r1 := HV4.out.cell 1 _ rfl; have r2 := HV4.out.cell 2 _ rfl; have r3 := HV4.out.cell 3 _ rfl; have f0 := HV4.out.free 0; have f1 := HV4.out.free 1; have f2 := HV4.out.free 2; have f3 := HV4.out.free 3; clear hv5 hg5 hr4 hj4 hb4))
 go_wp2
 have c0 := HV5.out.cell 0 _ rfl
 have c1 := HV5.out.cell 1 _ rfl
 have c2 := HV5.out.cell 2 _ rfl
 have c3 := HV5.out.cell 3 _ rfl
 refine bodyPost_ret (v := .tuple #[cv R k (some ⟨gd, 0, none⟩) N N (some ⟨gg, 0, none⟩) l l, .int .i64 0]) (by simp [results, Tryz.results11, go_sem, c0, c1, c2, c3, cv]) rfl ?_
 have e1 : gd ≠ w.heap.size := qh1 HR4.out HV4.out
 have e2 : gg ≠ w.heap.size := qh2 HJ4.out HV4.out
 exact ⟨_, _, _, _, rfl, (HR4.out.kept HG5.out e1).mt HRt.out, qh3 (HJ4.out.kept HG5.out e2), qa4 HB4.out HG5.out (Nat.le_refl _)⟩
open Go.RowKit
theorem qdx (w : World) (n : Nat) : Below w.heap.size w (w.drewN n) := ⟨rfl, rfl, rfl, Nat.le_refl _, fun _ _ => rfl⟩
/-- Two lists of sets are the same. -/
def gsB (q q' : Nat → Nat) : Nat → Bool
 | 0 => true
 | j + 1 => gsB q q' j && (q j == q' j)
theorem gsB_self (q : Nat → Nat) : ∀ j, gsB q q j = true := by
 intro j
 induction j with
 | zero => rfl
 | succ j ih => simp [gsB, ih]
theorem gsB_no {q q' : Nat → Nat} {m j : Nat} (hj : j < m) (h : q j ≠ q' j) : gsB q q' m = false := by
 induction m with
 | zero => omega
 | succ m ih =>
  by_cases e : j = m
  ·subst e; simp [gsB, h]
  ·simp [gsB, ih (by omega)]
theorem gsB_yes {q q' : Nat → Nat} : ∀ {m}, (∀ j, j < m → q j = q' j) → gsB q q' m = true := by
 intro m
 induction m with
 | zero => intro _; rfl
 | succ m ih => intro h; simp [gsB, ih (fun j hj => h j (by omega)), h m (by omega)]
theorem rsame16 (w : World) (r c r' c' : Int) (a b a' b' : Option Addr) (n k m d n' k' m' d' : Nat) (f f' q q' : Nat → Nat) (ha : Sl w a n f) (ha' : Sl w a' n' f') (hb : Jl w b .u64 m (fun i => (q i : Int))) (hb' : Jl w b' .u64 m' (fun i => (q' i : Int))) (hm : m ≤ 17592186044416) (s : Bool) (HS : Hid ((likeB r c r' c' n n' f f' && (decide (m = m') && gsB q q' m)) = s)) :
  Calls Tryz.prog 20 #[cv r c a n k b m d, cv r' c' a' n' k' b' m' d'] w fun e w' => e = .returned (.bool s) ∧ Below w.heap.size w w' := by
 obtain ⟨wb, HW⟩ : ∃ wb, Hid ((w.alloc (.cells #[.int .i64 r, .int .i64 c, .slice a n k, .slice b m d] 27)).alloc (.cells #[.int .i64 r', .int .i64 c', .slice a' n' k', .slice b' m' d'] 27) = wb) := ⟨_, rfl⟩
 have HB0 : Hid (Below w.heap.size w wb) := by rw [← HW.out]; exact qa2 (qa1 _ _) (qa1 _ _)
 have HA : Hid (Vq wb w.heap.size 27 #[.int .i64 r, .int .i64 c, .slice a n k, .slice b m d]) := by rw [← HW.out]; exact (Vq.new w _ _).later (qa1 _ _)
 have HC : Hid (Vq wb (w.heap.size + 1) 27 #[.int .i64 r', .int .i64 c', .slice a' n' k', .slice b' m' d']) := by rw [← HW.out]; exact Vq.new1 _ _ _ _
 have HSa : Hid (Sl wb a n f) := ha.later HB0.out
 have HSa' : Hid (Sl wb a' n' f') := ha'.later HB0.out
 have HJ : Hid (Jl wb b .u64 m (fun i => (q i : Int))) := hb.later HB0.out
 have HJ' : Hid (Jl wb b' .u64 m' (fun i => (q' i : Int))) := hb'.later HB0.out
 obtain ⟨lb, HLb⟩ : ∃ lb, Hid (likeB r c r' c' n n' f f' = lb) := ⟨_, rfl⟩
 rw [HLb.out] at HS
 have HLi : Hid (∀ w, Sl w a n f → Sl w a' n' f' → Calls Tryz.prog 52 #[mv r c a n k, mv r' c' a' n' k'] w fun e w' => e = .returned (.bool lb) ∧ Below w.heap.size w w') := fun w h1 h2 => by rw [← HLb.out]; exact qhq w r c r' c' a a' n n' k k' f f' h1 h2
 have a0 := HA.out.cell 0 _ rfl
 have a1 := HA.out.cell 1 _ rfl
 have a2 := HA.out.cell 2 _ rfl
 have b0 := HC.out.cell 0 _ rfl
 have b1 := HC.out.cell 1 _ rfl
 have b2 := HC.out.cell 2 _ rfl
 clear ha ha' hb hb' HLb
 rw [← HW.out] at a0 a1 a2 b0 b1 b2
 cases lb with
 | false =>
  obtain rfl : s = false := by rw [← HS.out]; rfl
  clear HS
  go_enter Tryz.func20, Tryz.ntmps20
  go_wp2_with (go_at_call 52; rw [HW.out]; refine (HLi.out _ HSa.out HSa'.out).mono ?_; rintro e w1 ⟨rfl, hb1⟩; have HB1 : Hid (Below wb.heap.size wb w1) := hb1; clear hb1)
  go_ret
  exact ⟨rfl, qa2 HB0.out HB1.out⟩
 | true =>
  by_cases hmm : m = m'
  ·subst hmm
   have HS2 : Hid (gsB q q' m = s) := by show _ = _; rw [← HS.out]; simp
   have gm : ((m : Int) != (m : Int)) = false := by simp
   clear HS
   go_enter Tryz.func20, Tryz.ntmps20
   go_wp2_with (go_at_call 52; rw [HW.out]; refine (HLi.out _ HSa.out HSa'.out).mono ?_; rintro e w1 ⟨rfl, hb1⟩; have HB1 : Hid (Below wb.heap.size wb w1) := hb1; have a3 := (HA.out.later hb1).cell 3 _ rfl; have b3 := (HC.out.later hb1).cell 3 _ rfl; clear hb1)
   go_loopw [5] (fun j wr => ∃ i : Nat, i ≤ m ∧ j = .int .i64 (i : Int) ∧ (∀ t, t < i → q t = q' t) ∧ Below wb.heap.size wb wr) (fun j _ => m - (intOf j).toNat)
   case atStart => exact ⟨0, by omega, rfl, fun t ht => by omega, HB1.out⟩
   case round =>
    clear a3 b3 HB1
    obtain ⟨i, hi, rfl, heq, hbr⟩ := hrel
    have HEq : Hid (∀ t, t < i → q t = q' t) := heq
    have HB1 : Hid (Below wb.heap.size wb wr) := hbr
    have a3 := (HA.out.later hbr).cell 3 _ rfl
    have b3 := (HC.out.later hbr).cell 3 _ rfl
    clear heq hbr
    by_cases hlt : i < m
    ·obtain ⟨x, o, eb, hci⟩ := HJ.out i hlt
     obtain ⟨x', o', eb', hci'⟩ := HJ'.out i hlt
     subst eb
     subst eb'
     have e1 : wr.cell? ⟨x, o + i, none⟩ = some (.int .u64 ((q i : Nat) : Int)) := keepc HB1.out hci
     have e2 : wr.cell? ⟨x', o' + i, none⟩ = some (.int .u64 ((q' i : Nat) : Int)) := keepc HB1.out hci'
     obtain ⟨y, HY⟩ : ∃ y, Hid (q i = y) := ⟨_, rfl⟩
     obtain ⟨y', HY'⟩ : ∃ y, Hid (q' i = y) := ⟨_, rfl⟩
     rw [HY.out] at e1
     rw [HY'.out] at e2
     have i0' : (0 : Int) ≤ (i : Int) := Int.natCast_nonneg _
     have i1' : (i : Int) < (m : Int) := by omega
     clear hci hci'
     by_cases hy : y = y'
     ·have gy : ((y : Int) != (y' : Int)) = false := by simp [hy]
      have HN : Hid (∀ t, t < i + 1 → q t = q' t) := fun t ht => by
       by_cases e : t = i
       ·subst e; rw [HY.out, HY'.out]; exact hy
       ·exact HEq.out t (by omega)
      clear hy
      go_wp2
      go_quiet (fail)
      go_wp2
      exact ⟨⟨i + 1, by omega, by go_num, HN.out, qa2 HB1.out (qdx _ _)⟩, by simp [intOf]; omega⟩
     ·have gy : ((y : Int) != (y' : Int)) = true := by simp; omega
      obtain rfl : s = false := by rw [← HS2.out]; exact gsB_no hlt (by rw [HY.out, HY'.out]; exact hy)
      clear hy HS2
      go_wp2
      go_quiet (fail)
      go_wp2
      go_ret
      exact ⟨rfl, qa2 HB0.out (qa2 HB1.out (qdx _ _))⟩
    ·obtain rfl : i = m := by omega
     obtain rfl : s = true := by rw [← HS2.out]; exact gsB_yes HEq.out
     clear HS2
     go_wp2
     go_ret
     exact ⟨rfl, qa2 HB0.out HB1.out⟩
  ·obtain rfl : s = false := by rw [← HS.out]; simp [hmm]
   have gm : ((m : Int) != (m' : Int)) = true := by simp; omega
   clear HS hmm
   go_enter Tryz.func20, Tryz.ntmps20
   go_wp2_with (go_at_call 52; rw [HW.out]; refine (HLi.out _ HSa.out HSa'.out).mono ?_; rintro e w1 ⟨rfl, hb1⟩; have HB1 : Hid (Below wb.heap.size wb w1) := hb1; have a3 := (HA.out.later hb1).cell 3 _ rfl; have b3 := (HC.out.later hb1).cell 3 _ rfl; clear hb1)
   go_ret
   exact ⟨rfl, qa2 HB0.out HB1.out⟩
open Go.RowKit
theorem allhang1 (w : World) (r c n k d q : Nat) (a b : Option Addr) (F : Nat → Nat) (ha : Mt w a n k F) (hb : Jl w b .u64 1 (fun _ => (q : Int))) (R : Rt r c n) (hq : q < 18446744073709551616) (h : HangP F r c q) :
  Calls Tryz.prog 53 #[mv r c a n k, .slice b 1 d] w fun e w' => e = .returned (.bool true) ∧ Below w.heap.size w w' := by
 obtain ⟨wb, HW⟩ : ∃ wb, Hid (w.alloc (.cells #[.int .i64 (r : Int), .int .i64 (c : Int), .slice a n k] 56) = wb) := ⟨_, rfl⟩
 have HB0 : Hid (Below w.heap.size w wb) := by rw [← HW.out]; exact qa1 _ _
 have HV : Hid (Vq wb w.heap.size 56 #[.int .i64 (r : Int), .int .i64 (c : Int), .slice a n k]) := by rw [← HW.out]; exact Vq.new w _ _
 have HA : Hid (Mt w a n k F) := ha
 have HJ : Hid (Jl wb b .u64 1 (fun _ => (q : Int))) := hb.later HB0.out
 have HHg : Hid (∀ w, Mt w a n k F → Calls Tryz.prog 85 #[mv r c a n k, .int .u64 (q : Int)] w fun e w' => e = .returned (.bool true) ∧ Below w.heap.size w w') := fun w hw => hang16 w r c n k q a F hw R hq true ⟨fun _ => h, fun _ => rfl⟩
 clear ha hb R h
 go_enter Tryz.func53, Tryz.ntmps53
 go_wp2_with (first
  | (go_at_call 84; rw [HW.out]; refine (values16 _ _ _ _).mono ?_; rintro e w1 ⟨rfl, hw1⟩; have HB1 : Hid (Below wb.heap.size wb w1) := (by rw [← hw1]; exact qa1 _ _); have hcv : w1.cell? ⟨wb.heap.size, 0, none⟩ = some (.slice b 1 d) := (by rw [← hw1]; exact (Vq.new wb _ _).cell 0 _ rfl); clear hw1)
  | (go_at_call 83; refine (sorted1 _ b d wb.heap.size q hcv (HJ.out.later HB1.out)).mono ?_; rintro e w2 ⟨s2, d2, rfl, ho2, hb2⟩; have HO2 : Hid (Jo w2 w1.heap.size 40 .u64 (.slice s2 1 d2) 1 (fun _ => q)) := ho2; have HB2 : Hid (Below wb.heap.size wb w2) := qa2 HB1.out hb2; clear ho2 hb2 hcv)
  | (go_at_call 82; refine (compact1 _ _ _).mono ?_; rintro e w' ⟨rfl, rfl⟩))
 obtain ⟨g, rfl, hgB, hgw⟩ := HO2.out.addr (by omega)
 have hc0 : w2.cell? ⟨g, 0, none⟩ = some (.int .u64 (q : Int)) := HO2.out.cell 0 (by omega)
 go_loopw [7, 14] (fun _ vi wr => ∃ i : Nat, i ≤ 1 ∧ vi = .int .i64 (i : Int) ∧ Below w2.heap.size w2 wr) (fun _ vi _ => 1 - (intOf vi).toNat)
 case atStart => exact ⟨0, by omega, rfl, Below.refl _ _⟩
 case round =>
  obtain ⟨i, hi, rfl, hbr⟩ := hrel
  have HB : Hid (Below w2.heap.size w2 wr) := hbr
  have v0 := ((HV.out.later HB2.out).later hbr).cell 0 _ rfl
  have v1 := ((HV.out.later HB2.out).later hbr).cell 1 _ rfl
  have v2 := ((HV.out.later HB2.out).later hbr).cell 2 _ rfl
  have hcr := keepc hbr hc0
  have HMr : Hid (Mt wr a n k F) := HA.out.later (qa2 (qa2 HB0.out HB2.out) hbr)
  clear hbr
  rcases (by omega : i = 0 ∨ i = 1) with rfl | rfl
  ·go_wp2_with (go_at_call 85; refine (HHg.out _ HMr.out).mono ?_; rintro e w3 ⟨rfl, hb3⟩; have HB3 : Hid (Below w2.heap.size w2 w3) := qa2 HB.out hb3; clear hb3)
   exact ⟨⟨1, by omega, by go_num, HB3.out⟩, by simp [intOf]⟩
  ·go_wp2
   go_ret
   exact ⟨rfl, qa2 (qa2 HB0.out HB2.out) HB.out⟩
theorem gen_yes (w : World) (r c n k : Nat) (a : Option Addr) (R : Rt r c n) (hc : 1 ≤ c) (hr : c ≤ r) :
  Calls Tryz.prog 48 #[mv r c a n k] w fun e w' => e = .returned (.bool true) ∧ Below w.heap.size w w' := by
 have HP : Hid (RightP r c n) := R.p
 obtain ⟨wb, HW⟩ : ∃ wb, Hid (w.alloc (.cells #[.int .i64 (r : Int), .int .i64 (c : Int), .slice a n k] 24) = wb) := ⟨_, rfl⟩
 have HB0 : Hid (Below w.heap.size w wb) := by rw [← HW.out]; exact qa1 _ _
 have HV : Hid (Vq wb w.heap.size 24 #[.int .i64 (r : Int), .int .i64 (c : Int), .slice a n k]) := by rw [← HW.out]; exact Vq.new w _ _
 have g1 : decide ((1 : Int) ≤ (c : Int)) = true := by simp; omega
 have g2 : decide ((c : Int) ≤ (r : Int)) = true := by simp; omega
 have g3 : decide (c ≤ r) = true := by simpa using hr
 clear R
 go_enter Tryz.func48, Tryz.ntmps48
 go_wp2_with (go_at_call 72; rw [HW.out]; refine (qaq _ _ _ _ _ _ HP.out).mono ?_; rintro e w1 ⟨rfl, hb1⟩; have HB1 : Hid (Below wb.heap.size wb w1) := hb1; have v0 := (HV.out.later hb1).cell 0 _ rfl; have v1 := (HV.out.later hb1).cell 1 _ rfl; clear hb1)
 go_ret
 exact ⟨rfl, qa2 HB0.out HB1.out⟩
theorem may1 (w : World) (r c n k d q : Nat) (a b : Option Addr) (F : Nat → Nat) (ha : Mt w a n k F) (hb : Jl w b .u64 1 (fun _ => (q : Int))) (R : Rt r c n) (hc : 1 ≤ c) (hr : c ≤ r) (hq : q < 18446744073709551616) (h : HangP F r c q) :
  Calls Tryz.prog 22 #[cv r c a n k b 1 d] w fun e w' => e = .returned (.bool true) ∧ Below w.heap.size w w' := by
 obtain ⟨wb, HW⟩ : ∃ wb, Hid (w.alloc (.cells #[.int .i64 (r : Int), .int .i64 (c : Int), .slice a n k, .slice b 1 d] 27) = wb) := ⟨_, rfl⟩
 have HB0 : Hid (Below w.heap.size w wb) := by rw [← HW.out]; exact qa1 _ _
 have HV : Hid (Vq wb w.heap.size 27 #[.int .i64 (r : Int), .int .i64 (c : Int), .slice a n k, .slice b 1 d]) := by rw [← HW.out]; exact Vq.new w _ _
 have HG : Hid (∀ w, Calls Tryz.prog 48 #[mv r c a n k] w fun e w' => e = .returned (.bool true) ∧ Below w.heap.size w w') := fun w => gen_yes w r c n k a R hc hr
 have HH : Hid (∀ w', Below w.heap.size w w' → Calls Tryz.prog 53 #[mv r c a n k, .slice b 1 d] w' fun e w'' => e = .returned (.bool true) ∧ Below w'.heap.size w' w'') := fun w' hw => allhang1 w' r c n k d q a b F (ha.later hw) (hb.later hw) R hq h
 clear ha hb R h
 go_enter Tryz.func22, Tryz.ntmps22
 go_wp2_with (first
  | (go_at_call 48; rw [HW.out]; refine (HG.out _).mono ?_; rintro e w1 ⟨rfl, hb1⟩; have HB1 : Hid (Below w.heap.size w w1) := qa2 HB0.out hb1; have v0 := (HV.out.later hb1).cell 0 _ rfl; have v1 := (HV.out.later hb1).cell 1 _ rfl; have v2 := (HV.out.later hb1).cell 2 _ rfl; have v3 := (HV.out.later hb1).cell 3 _ rfl; clear hb1)
  | (go_at_call 53; refine (HH.out _ HB1.out).mono ?_; rintro e w2 ⟨rfl, hb2⟩; have HB2 : Hid (Below w.heap.size w w2) := qa2 HB1.out hb2; clear hb2))
 go_ret
 exact ⟨rfl, HB2.out⟩
open Go.RowKit
/-- The anchor's code: 1 / 1 with the group of both blocks. -/
def anF (q : Nat) : Nat := ptf 1 1 1 (fun _ => 1) (fun q => crf 1 (1 * 1 + q)) q
theorem qey : ∀ q, q < 2 → anF q = 1 := fun q hq => by
 rcases (by omega : q = 0 ∨ q = 1) with rfl | rfl
 ·rfl
 ·rfl
theorem two_ones {w : World} {b : Nat} (h : Vq w b 5 #[.int .u8 1, .int .u8 1]) : Sl w (some ⟨b, 0, none⟩) 2 (fun _ => 1) := ⟨fun _ _ => by show 1 < 256; omega, fun i hi => ⟨b, 0, rfl, by
 rcases (by omega : i = 0 ∨ i = 1) with rfl | rfl
 ·exact h.cell 0 _ rfl
 ·exact h.cell 1 _ rfl⟩⟩
theorem one_set {w : World} {b : Nat} (h : Vq w b 40 #[.int .u64 3]) : Jl w (some ⟨b, 0, none⟩) .u64 1 (fun _ => ((3 : Nat) : Int)) := fun i hi => ⟨b, 0, rfl, by
 obtain rfl : i = 0 := by omega
 exact h.cell 0 _ rfl⟩
theorem an_hang : HangP anF 2 1 3 := by
 have R : Rt 2 1 2 := ⟨by omega, by omega, rfl⟩
 have hM : El2 (m2 anF 2 1) := qeo (fun i hi => by rw [qey i hi]; omega) R
 have e : m2 anF 2 1 0 = m2 anF 2 1 1 := by
  funext j
  by_cases hj : j < 1
  ·rw [qbj _ (by omega) hj, qbj _ (by omega) hj, qey _ (by omega), qey _ (by omega)]
  ·rw [qat anF (by omega), qat anF (by omega)]
 refine ⟨by decide, fun i hi hb => ?_⟩
 rcases (by omega : i = 0 ∨ i = 1) with rfl | rfl
 ·rw [e]; exact qh7 hM (by omega) (by rfl)
 ·rw [← e]; exact qh7 hM (by omega) (by rfl)
theorem an_local (w : World) : Calls Tryz.prog 11 #[.int .i64 1, .int .i64 1, .int .i64 0] w fun e w' => ∃ s d t e2, e = .returned (.tuple #[cv 2 1 s 2 d t 1 e2, .int .i64 0]) ∧ Mt w' s 2 d anF ∧ Jl w' t .u64 1 (fun _ => ((3 : Nat) : Int)) ∧ Below w.heap.size w w' := by
 have h := qcc w 1 1 1 0 2 2 (by omega) (by omega) (by omega) (qc7 rfl) (qc7 rfl) (by omega) (qc7 rfl)
 refine h.mono (fun e w' h => ?_)
 obtain ⟨s, d, t, e2, h1, h2, h3, h4⟩ := h
 exact ⟨s, d, t, e2, h1, h2, fun i hi => by
  obtain rfl : i = 0 := by omega
  obtain ⟨x, o, ex, hc⟩ := h3 0 (by omega)
  exact ⟨x, o, ex, by rw [hc]; rfl⟩, h4⟩
theorem qh9 (w : World) : Calls Tryz.prog 7 #[] w fun e w' => e = .returned (.bool true) ∧ Below w.heap.size w w' := by
 have HLo := jhidv an_local
 go_enter Tryz.func7, Tryz.ntmps7
 go_wp2_with (first
  | (go_at_call 11; refine (HLo.out _).mono ?_; rintro e w1 ⟨s1, d1, t1, e1, rfl, hm1, hj1, hb1⟩; have HV : Hid (Vq (w1.alloc (.cells #[.int .i64 2, .int .i64 1, .slice s1 2 d1, .slice t1 1 e1] 27)) w1.heap.size 27 #[.int .i64 2, .int .i64 1, .slice s1 2 d1, .slice t1 1 e1]) := Vq.new w1 _ _; have HBd : Hid (Below w.heap.size w (((w1.alloc (.cells #[.int .i64 2, .int .i64 1, .slice s1 2 d1, .slice t1 1 e1] 27)).alloc (.cells #[.int .u8 1, .int .u8 1] 5)).alloc (.cells #[.int .u64 3] 40))) := qa2 (qa2 (qa2 hb1 (qa1 _ _)) (qa1 _ _)) (qa1 _ _); have HMd : Hid (Mt (((w1.alloc (.cells #[.int .i64 2, .int .i64 1, .slice s1 2 d1, .slice t1 1 e1] 27)).alloc (.cells #[.int .u8 1, .int .u8 1] 5)).alloc (.cells #[.int .u64 3] 40)) s1 2 d1 anF) := ((hm1.later (qa1 _ _)).later (qa1 _ _)).later (qa1 _ _); have HJd : Hid (Jl (((w1.alloc (.cells #[.int .i64 2, .int .i64 1, .slice s1 2 d1, .slice t1 1 e1] 27)).alloc (.cells #[.int .u8 1, .int .u8 1] 5)).alloc (.cells #[.int .u64 3] 40)) t1 .u64 1 (fun _ => ((3 : Nat) : Int))) := ((hj1.later (qa1 _ _)).later (qa1 _ _)).later (qa1 _ _); have HVd : Hid (Vq (((w1.alloc (.cells #[.int .i64 2, .int .i64 1, .slice s1 2 d1, .slice t1 1 e1] 27)).alloc (.cells #[.int .u8 1, .int .u8 1] 5)).alloc (.cells #[.int .u64 3] 40)) w1.heap.size 27 #[.int .i64 2, .int .i64 1, .slice s1 2 d1, .slice t1 1 e1]) := (HV.out.later (qa1 _ _)).later (qa1 _ _); have HLb : Hid (Vq (((w1.alloc (.cells #[.int .i64 2, .int .i64 1, .slice s1 2 d1, .slice t1 1 e1] 27)).alloc (.cells #[.int .u8 1, .int .u8 1] 5)).alloc (.cells #[.int .u64 3] 40)) (w1.heap.size + 1) 5 #[.int .u8 1, .int .u8 1]) := (Vq.new1 w1 _ _ _).later (qa1 _ _); have HLs : Hid (Vq (((w1.alloc (.cells #[.int .i64 2, .int .i64 1, .slice s1 2 d1, .slice t1 1 e1] 27)).alloc (.cells #[.int .u8 1, .int .u8 1] 5)).alloc (.cells #[.int .u64 3] 40)) (w1.heap.size + 1 + 1) 40 #[.int .u64 3]) := Vq.new2 w1 _ _ _ _; have c0 := HV.out.cell 0 _ rfl; have c1 := HV.out.cell 1 _ rfl; have c2 := HV.out.cell 2 _ rfl; have c3 := HV.out.cell 3 _ rfl; clear hm1 hj1 hb1)
  | (go_at_call 20; refine (rsame16 _ 2 1 2 1 s1 t1 (some ⟨w1.heap.size + 1, 0, none⟩) (some ⟨w1.heap.size + 1 + 1, 0, none⟩) 2 d1 1 e1 2 2 1 1 anF (fun _ => 1) (fun _ => 3) (fun _ => 3) HMd.out.sl (two_ones HLb.out) HJd.out (one_set HLs.out) (by omega) true (qc7 (by rw [qhs (fun i hi => qey i hi), gsB_self]; rfl))).mono ?_; rintro e w2 ⟨rfl, hb2⟩; have HB2 : Hid (Below w.heap.size w w2) := qa2 HBd.out hb2; have HM2 : Hid (Mt w2 s1 2 d1 anF) := HMd.out.later hb2; have HJ2 : Hid (Jl w2 t1 .u64 1 (fun _ => ((3 : Nat) : Int))) := HJd.out.later hb2; have k0 := (HVd.out.later hb2).cell 0 _ rfl; have k1 := (HVd.out.later hb2).cell 1 _ rfl; have k2 := (HVd.out.later hb2).cell 2 _ rfl; have k3 := (HVd.out.later hb2).cell 3 _ rfl; clear hb2)
  | (go_at_call 22; refine (may1 _ 2 1 2 d1 e1 3 s1 t1 anF HM2.out HJ2.out ⟨by omega, by omega, rfl⟩ (by omega) (by omega) (by omega) an_hang).mono ?_; rintro e w3 ⟨rfl, hb3⟩; have HB3 : Hid (Below w.heap.size w w3) := qa2 HB2.out hb3; clear hb3))
 go_ret
 exact ⟨rfl, HB3.out⟩
open Go.RowKit
/-- Numbers of a code of portions, as naturals. -/
theorem port_nat {k l m : Int} (h : PortP k l m) (hs : k + l + m ≤ 64) : ∃ a b c s : Nat, k = a ∧ l = b ∧ m = c ∧ 1 ≤ a ∧ 1 ≤ b ∧ 1 ≤ s ∧ b * s = a ∧ a + b + c ≤ 64 := by
 obtain ⟨h1, h2, h3, h4⟩ := h
 obtain ⟨a, rfl⟩ := Int.eq_ofNat_of_zero_le (show 0 ≤ k by omega)
 obtain ⟨b, rfl⟩ := Int.eq_ofNat_of_zero_le (show 0 ≤ l by omega)
 obtain ⟨c, rfl⟩ := Int.eq_ofNat_of_zero_le h4
 have hm : a % b = 0 := by
  rw [← Int.natCast_emod] at h3
  omega
 have e := Nat.div_add_mod a b
 rw [hm, Nat.add_zero] at e
 refine ⟨a, b, c, a / b, rfl, rfl, rfl, by omega, by omega, ?_, e, by omega⟩
 exact Nat.div_pos (by
  rcases Nat.lt_or_ge a b with h | h
  ·rw [Nat.div_eq_of_lt h, Nat.mul_zero] at e; omega
  ·exact h) (by omega)
open Go.RowKit
theorem qdy (s i : Nat) : bt s i = 1 ↔ s.testBit i = true := by
 rw [Nat.testBit_eq_decide_div_mod_eq]
 simp [bt]
theorem qkc {S a : Nat} : ∀ d, (∀ x, a ≤ x → x < a + d → bt S x = 0) → cn S (a + d) = cn S a := by
 intro d
 induction d with
 | zero => intro _; rfl
 | succ d ih => intro h; rw [← Nat.add_assoc, qau, ih (fun x h1 h2 => h x h1 (by omega)), h (a + d) (by omega) (by omega)]; rfl
/-- The list of a set of rising numbers. -/
theorem inc_list {q : Nat → Nat} {n : Nat} (hinc : ∀ i j, i < j → j < n → q i < q j) (h64 : ∀ i, i < n → q i < 64) : cn (ofs q n) 64 = n ∧ ∀ t, t < n → lf (ofs q n) 64 t = q t := by
 have hbit : ∀ x, bt (ofs q n) x = 1 ↔ ∃ t, t < n ∧ q t = x := fun x => by rw [qdy, qfx]
 have hzero : ∀ x, (∀ t, t < n → q t ≠ x) → bt (ofs q n) x = 0 := fun x h => by
  have h1 := qeq (ofs q n) x
  have h2 : ¬ bt (ofs q n) x = 1 := fun e => by
   obtain ⟨t, ht, e2⟩ := (hbit x).1 e
   exact h t ht e2
  omega
 have hmono : ∀ i j, i ≤ j → j < n → q i ≤ q j := fun i j h1 h2 => by
  rcases Nat.lt_or_ge i j with h | h
  ·exact Nat.le_of_lt (hinc i j h h2)
  ·rw [show i = j by omega]; exact Nat.le_refl _
 have hcn : ∀ t, t < n → cn (ofs q n) (q t) = t := by
  intro t
  induction t with
  | zero =>
   intro ht
   have := qkc (S := ofs q n) (a := 0) (q 0) (fun x _ hx => hzero x (fun u hu e => by have := hmono 0 u (by omega) hu; omega))
   rw [Nat.zero_add] at this
   rw [this]; rfl
  | succ t ih =>
   intro ht
   have h1 := hinc t (t + 1) (by omega) ht
   have := qkc (S := ofs q n) (a := q t + 1) (q (t + 1) - (q t + 1)) (fun x hx1 hx2 => hzero x (fun u hu e => by
    rcases Nat.lt_or_ge t u with h | h
    ·have := hmono (t + 1) u (by omega) hu; omega
    ·have := hmono u t h (by omega); omega))
   rw [show q t + 1 + (q (t + 1) - (q t + 1)) = q (t + 1) by omega] at this
   rw [this, qau, ih (by omega), (hbit (q t)).2 ⟨t, by omega, rfl⟩]
 have hall : cn (ofs q n) 64 = n := by
  rcases Nat.eq_zero_or_pos n with rfl | hn
  ·rw [show ofs q 0 = 0 from rfl, qfu]
  ·have h1 := h64 (n - 1) (by omega)
   have := qkc (S := ofs q n) (a := q (n - 1) + 1) (64 - (q (n - 1) + 1)) (fun x hx1 _ => hzero x (fun u hu e => by have := hmono u (n - 1) (by omega) (by omega); omega))
   rw [show q (n - 1) + 1 + (64 - (q (n - 1) + 1)) = 64 by omega] at this
   rw [this, qau, hcn (n - 1) (by omega), (hbit (q (n - 1))).2 ⟨n - 1, by omega, rfl⟩]
   omega
 refine ⟨hall, fun t ht => ?_⟩
 obtain ⟨a1, a2, a3⟩ := qb8 (s := ofs q n) (i := 64) (t := t) (by omega)
 obtain ⟨u, hu, e⟩ := (hbit _).1 a2
 rw [← e, hcn u hu] at a3
 rw [← e, a3]
theorem gpq_list {k l s p : Nat} (hK : l * s = k) (hp : p < l) (hk : k + l ≤ 64) : cn (gpf k s p) 64 = s + 1 ∧ ∀ t, t < s + 1 → lf (gpf k s p) 64 t = gpq k s p t := by
 have hf := qbq hK hp
 refine inc_list (fun i j h1 h2 => ?_) (fun i hi => qe7 hK hp hk hi)
 unfold gpq
 rw [if_neg (by omega)]
 split <;> omega
end Go.Proofs.YtnfbbddoaeofgabGreat
