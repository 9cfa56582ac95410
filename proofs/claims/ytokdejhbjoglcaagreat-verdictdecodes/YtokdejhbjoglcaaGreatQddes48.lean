/-
  The reference's Rebuild.
-/
import Derived.Test.YtokdejhbjoglcaaGreatQddes00
import Derived.Test.YtokdejhbjoglcaaGreatQddes46
import Derived.Test.YtokdejhbjoglcaaGreatQddes47
import Derived.OrdersHeld
set_option maxRecDepth 100000
set_option maxHeartbeats 16000000
namespace Go.Proofs.YtokdejhbjoglcaaGreat
open Go.RowKit Go.Shelf
theorem joinB {G : Nat → World → Nat → Option Addr → Nat → Option Addr → Prop} {R : Prop} (P : Nat → World → Nat → Option Addr → Nat → Option Addr → Prop) (hr : (∀ x w g y d s, P x w g y d s → G x w g y d s) → R) (hg : ∀ x w g y d s, P x w g y d s → G x w g y d s) : R := hr hg
theorem qgx (w : World) (r c E : Int) (n k s : Nat) (a : Option Addr)
  (HS : Hid (∀ w' : World, Below w.heap.size w w' → Calls Tryz.prog 6 #[mv r c a n k, .int .u64 (s : Int)] w' fun e w'' => e = .returned (.tuple #[mv 0 0 none 0 0, .bool false, .int .i64 E]) ∧ Below w'.heap.size w' w'')) :
  Calls Tryz.prog 8 #[mv r c a n k, .int .u64 (s : Int)] w fun e w' => e = .returned (.tuple #[mv 0 0 none 0 0, .bool false, .int .i64 E]) ∧ Below w.heap.size w w' := by
 obtain ⟨wb, HW, HX⟩ : ∃ wb, Hid (wb = (w.alloc (.cells #[.int .i64 r, .int .i64 c, .slice a n k] 24)).alloc (.cells #[.int .i64 0, .int .i64 0, .slice none 0 0] 24)) ∧ Hid (Box2 w wb r c n k a) := ⟨_, rfl, box2 w r c n k a⟩
 go_enter Tryz.func8, Tryz.ntmps8
 go_wp2_with (first
  | (go_at_call 6; rw [← HW.out]; refine (HS.out _ HX.out.below).mono ?_; rintro e w1 ⟨rfl, hb⟩; have HB1 : Hid (Below wb.heap.size wb (w1.alloc (.cells #[.int .i64 0, .int .i64 0, .slice none 0 0] 24))) := qa0 hb (qa1 _ _); clear hb)
  | (refine qa2 rfl _ _ rfl (w.heap.size + 1) _ _ _ (.int .i64 0) (.int .i64 0) (.slice none 0 0) rfl rfl (HX.out.vr.later HB1.out) rfl rfl rfl ?_; intro w7 HV7 HG7))
 have d0 := HV7.out.c0
 have d1 := HV7.out.c1
 have d2 := HV7.out.c2
 refine bodyPost_ret (v := .tuple #[mv 0 0 none 0 0, .bool false, .int .i64 E]) (by simp [results, Tryz.results8, go_sem, d0, d1, d2, mv]) rfl ?_
 exact ⟨rfl, qa4 (qa0 HX.out.below HB1.out) HG7.out (by omega)⟩
theorem qj4 (w : World) (r c n k s p L K Q : Nat) (a : Option Addr) (F z : Nat → Nat) (ha : Mt w a n k F) (R : Rt r c n) (hK : K ≤ 64) (HL : Hid (c * r = L)) (HQ : Hid (K * r = Q))
  (HLs : Hid (∀ w' : World, Calls Tryz.prog 17 #[.int .u64 (s : Int)] w' fun e w'' => ∃ x d, e = .returned (.slice x K d) ∧ Il w'' x K (fun i => (z i : Int)) ∧ Below w'.heap.size w' w'')) (Hz : Hid (∀ i, i < K → z i < r))
  (HDe : Hid (∀ w' : World, Below w.heap.size w w' → Calls Tryz.prog 6 #[mv r c a n k, .int .u64 (s : Int)] w' fun e w'' => ∃ g O, e = .returned (.tuple #[mv c r (some ⟨g, 0, none⟩) L L, .bool true, .int .i64 0]) ∧ RowAt w'' g 5 L O ∧ w'.heap.size ≤ g ∧ DecP F O p r c ∧ Below w'.heap.size w' w'')) :
  Calls Tryz.prog 8 #[mv r c a n k, .int .u64 (s : Int)] w fun e w' => ∃ g X, e = .returned (.tuple #[mv K r (some ⟨g, 0, none⟩) Q Q, .bool true, .int .i64 0]) ∧ RowAt w' g 5 Q X ∧ (∃ O, DecP F O p r c ∧ ∀ q, q < Q → X q = prk (pkf F z c) O c r c q) ∧ Below w.heap.size w w' := by
 obtain ⟨wb, HW, HX⟩ : ∃ wb, Hid (wb = (w.alloc (.cells #[.int .i64 (r : Int), .int .i64 (c : Int), .slice a n k] 24)).alloc (.cells #[.int .i64 0, .int .i64 0, .slice none 0 0] 24)) ∧ Hid (Box2 w wb r c n k a) := ⟨_, rfl, box2 w r c n k a⟩
 have HA : Hid (Mt w a n k F) := ha
 have HR : Hid (Rt r c n) := R
 obtain ⟨N, HN⟩ : ∃ N, Hid (K * c = N) := ⟨_, rfl⟩
 have RN : Hid (Rt K c N) := ⟨hK, R.c64, HN.out⟩
 have RL : Hid (Rt c r L) := ⟨R.c64, R.r64, HL.out⟩
 have RQ : Hid (Rt K r Q) := ⟨hK, R.r64, HQ.out⟩
 have HPe : Hid (∀ i, i < N → pkf F z c i < 256) := fun i hi => qcx ha.sl.1 R Hz.out i (by rw [HN.out]; exact hi)
 clear ha R
 go_enter Tryz.func8, Tryz.ntmps8
 go_wp2_with (go_at_call 6; rw [← HW.out]; refine (HDe.out _ HX.out.below).mono ?_; rintro e w1 ⟨gd, O, rfl, hr1, _, hd1, hb⟩; have HB1 : Hid (Below wb.heap.size wb w1) := hb; have HR1 : Hid (RowAt w1 gd 5 L O) := hr1; have HDp := qan hd1; have HOe := qan hd1.el; clear hr1 hd1 hb)
 obtain ⟨wd, HWd⟩ : ∃ x, Hid (x = w1.alloc (.cells #[.int .i64 (c : Int), .int .i64 (r : Int), .slice (some ⟨gd, 0, none⟩) L L] 24)) := ⟨_, rfl⟩
 obtain ⟨bd, Hbd⟩ : ∃ x, Hid (x = w1.heap.size) := ⟨_, rfl⟩
 have HB2 : Hid (Below wb.heap.size wb wd) := by rw [HWd.out]; exact qa0 HB1.out (qa1 _ _)
 have HBd : Hid (Below w.heap.size w wd) := qa0 HX.out.below HB2.out
 have HVg_wd : Hid (Vr wd w.heap.size (.int .i64 (r : Int)) (.int .i64 (c : Int)) (.slice a n k)) := HX.out.va.later HB2.out
 have HVz_wd : Hid (Vr wd (w.heap.size + 1) (.int .i64 0) (.int .i64 0) (.slice none 0 0)) := HX.out.vr.later HB2.out
 have HVd_wd : Hid (Vr wd bd (.int .i64 (c : Int)) (.int .i64 (r : Int)) (.slice (some ⟨gd, 0, none⟩) L L)) := by rw [HWd.out, Hbd.out]; exact Vr.new _ _ _ _
 have HRd_wd : Hid (RowAt wd gd 5 L O) := by rw [HWd.out]; exact HR1.out.later (qa1 _ _)
 have HB_wd : Hid (Below wd.heap.size wd wd) := Below.refl _ _
 rw [← HWd.out, ← Hbd.out]
 have hzw := HVz_wd.out.lt
 clear HB1 HR1 HB2 HWd Hbd HW HX HDe
 apply joinB (fun bt y4 d2 xs d s2 => Vr y4 bt (.int .i64 (K : Int)) (.int .i64 (c : Int)) (.slice s2 N d2) ∧ Mt y4 s2 N d2 (pkf F z c) ∧ Vr y4 (w.heap.size + 1) (.int .i64 0) (.int .i64 0) (.slice none 0 0) ∧ Vr y4 bd (.int .i64 (c : Int)) (.int .i64 (r : Int)) (.slice (some ⟨gd, 0, none⟩) L L) ∧ RowAt y4 gd 5 L O ∧ Below wd.heap.size wd y4)
 ·intro hG
  refine wp_region_held (S := fun w' => w'.cell? ⟨w.heap.size, 0, none⟩ = some (.int .i64 (r : Int)) ∧ w'.cell? ⟨w.heap.size, 1, none⟩ = some (.int .i64 (c : Int)) ∧ w'.cell? ⟨w.heap.size, 2, none⟩ = some (.slice a n k)) (by kernel_rfl) ?_
  change wpAnyH _ _ _ _ _ _ _ _ (World.drew _)
  obtain ⟨x0, HX0⟩ : ∃ x, Hid (x = wd.drew) := ⟨_, rfl⟩
  rw [← HX0.out]
  have hb : Below wd.heap.size wd x0 := by rw [HX0.out]; exact (Below.refl _ _).drew
  have HB_x0 : Hid (Below wd.heap.size wd x0) := qa0 HB_wd.out hb
  have HVg_x0 : Hid (Vr x0 w.heap.size (.int .i64 (r : Int)) (.int .i64 (c : Int)) (.slice a n k)) := HVg_wd.out.later hb
  have HVz_x0 : Hid (Vr x0 (w.heap.size + 1) (.int .i64 0) (.int .i64 0) (.slice none 0 0)) := HVz_wd.out.later hb
  have HVd_x0 : Hid (Vr x0 bd (.int .i64 (c : Int)) (.int .i64 (r : Int)) (.slice (some ⟨gd, 0, none⟩) L L)) := HVd_wd.out.later hb
  have HRd_x0 : Hid (RowAt x0 gd 5 L O) := HRd_wd.out.later hb
  have HD_x0 : Hid (x0.cell? ⟨w.heap.size, 0, none⟩ = some (.int .i64 (r : Int)) ∧ x0.cell? ⟨w.heap.size, 1, none⟩ = some (.int .i64 (c : Int)) ∧ x0.cell? ⟨w.heap.size, 2, none⟩ = some (.slice a n k)) := ⟨HVg_x0.out.c0, HVg_x0.out.c1, HVg_x0.out.c2⟩
  clear hb
  refine wtkq 0 ?vq1 rfl (by kernel_rfl) (fun _ _ _ h => h) (by rfl) ?yq1 HD_x0.out ?zq1
  case yq1 => (intro w hSw; (try dsimp only at hSw); go_simp; try with_reducible rfl)
  try simp only [mz1, mz3, Act.put, mz4, mz5, mz6]
  refine wtkq 1 ?vq2 rfl (by kernel_rfl) (fun _ _ _ h => h) (by rfl) ?yq2 HD_x0.out ?zq2
  case yq2 => (intro w hSw; (try dsimp only at hSw); go_simp; try with_reducible rfl)
  try simp only [mz1, mz2, mz3, Act.put, mz4, mz5, mz6]
  refine wpAnyH_ready (rs := [2, 7]) (by kernel_rfl) (by simp) ?_
  refine AllReadyH.cons rfl (fun KK hKK => ?_) (AllReadyH.cons rfl (fun KK hKK => ?_) AllReadyH.nil)
  ·go_simp
   refine (HLs.out _).mono ?_
   rintro e x1 ⟨xs, d, rfl, hi, hb⟩
   have HI_x1 : Hid (Il x1 xs K (fun i => (z i : Int))) := hi
   clear hi
   have HB_x1 : Hid (Below wd.heap.size wd x1) := qa0 HB_x0.out hb
   have HVg_x1 : Hid (Vr x1 w.heap.size (.int .i64 (r : Int)) (.int .i64 (c : Int)) (.slice a n k)) := HVg_x0.out.later hb
   have HVz_x1 : Hid (Vr x1 (w.heap.size + 1) (.int .i64 0) (.int .i64 0) (.slice none 0 0)) := HVz_x0.out.later hb
   have HVd_x1 : Hid (Vr x1 bd (.int .i64 (c : Int)) (.int .i64 (r : Int)) (.slice (some ⟨gd, 0, none⟩) L L)) := HVd_x0.out.later hb
   have HRd_x1 : Hid (RowAt x1 gd 5 L O) := HRd_x0.out.later hb
   have HD_x1 : Hid (x1.cell? ⟨w.heap.size, 0, none⟩ = some (.int .i64 (r : Int)) ∧ x1.cell? ⟨w.heap.size, 1, none⟩ = some (.int .i64 (c : Int)) ∧ x1.cell? ⟨w.heap.size, 2, none⟩ = some (.slice a n k)) := ⟨HVg_x1.out.c0, HVg_x1.out.c1, HVg_x1.out.c2⟩
   clear hb
   refine hKK.out _ _ HD_x1.out (fun _ => ?_)
   clear hKK KK
   try simp only [mz1, mz2, mz3, Act.put, mz4, mz5, mz6]
   refine wpAnyH_ready (rs := [3, 7]) (by kernel_rfl) (by simp) ?_
   refine AllReadyH.cons rfl (fun KK hKK => ?_) (AllReadyH.cons rfl (fun KK hKK => ?_) AllReadyH.nil)
   ·go_simp
    refine (qay _ r c n k K d N a xs F z (HA.out.later (qa0 HBd.out HB_x1.out)).sl HR.out HI_x1.out Hz.out hK HN).mono ?_
    rintro e x2 ⟨s2, d2, rfl, ho, hb⟩
    have HO_x2 : Hid (x2.ownsRow x1.heap.size 5 1 (.slice s2 N d2) N (row N (pkf F z c)).toList) := ho
    clear ho
    have HB_x2 : Hid (Below wd.heap.size wd x2) := qa0 HB_x1.out hb
    have HVg_x2 : Hid (Vr x2 w.heap.size (.int .i64 (r : Int)) (.int .i64 (c : Int)) (.slice a n k)) := HVg_x1.out.later hb
    have HVz_x2 : Hid (Vr x2 (w.heap.size + 1) (.int .i64 0) (.int .i64 0) (.slice none 0 0)) := HVz_x1.out.later hb
    have HVd_x2 : Hid (Vr x2 bd (.int .i64 (c : Int)) (.int .i64 (r : Int)) (.slice (some ⟨gd, 0, none⟩) L L)) := HVd_x1.out.later hb
    have HRd_x2 : Hid (RowAt x2 gd 5 L O) := HRd_x1.out.later hb
    have HD_x2 : Hid (x2.cell? ⟨w.heap.size, 0, none⟩ = some (.int .i64 (r : Int)) ∧ x2.cell? ⟨w.heap.size, 1, none⟩ = some (.int .i64 (c : Int)) ∧ x2.cell? ⟨w.heap.size, 2, none⟩ = some (.slice a n k)) := ⟨HVg_x2.out.c0, HVg_x2.out.c1, HVg_x2.out.c2⟩
    clear hb
    refine hKK.out _ _ HD_x2.out (fun _ => ?_)
    clear hKK KK
    try simp only [mz1, mz2, mz3, Act.put, mz4, mz5, mz6]
    refine wtkq 4 ?vq3 rfl (by kernel_rfl) (fun _ _ _ h => h) (by rfl) ?yq3 HD_x2.out ?zq3
    case yq3 => (intro w hSw; (try dsimp only at hSw); go_simp; try with_reducible rfl)
    try simp only [mz1, mz2, mz3, Act.put, mz4, mz5, mz6]
    refine wtkq 5 ?vq4 rfl (by kernel_rfl) (fun _ _ _ h => h) (by rfl) ?yq4 HD_x2.out ?zq4
    case yq4 => (intro w hSw; (try dsimp only at hSw); go_simp; try with_reducible rfl)
    try simp only [mz1, mz2, mz3, Act.put, mz4, mz5, mz6]
    refine wtkq 6 ?vq5 rfl (by kernel_rfl) (fun _ _ _ h => h) (by rfl) ?yq5 HD_x2.out ?zq5
    case yq5 => (intro w hSw; (try dsimp only at hSw); go_simp; try with_reducible rfl)
    try simp only [mz1, mz2, mz3, Act.put, mz4, mz5, mz6]
    refine wpAnyH_ready (rs := [7]) (by kernel_rfl) (by simp) ?_
    refine AllReadyH.cons rfl (fun KK hKK => ?_) AllReadyH.nil
    go_simp
    obtain ⟨x3, HWx3⟩ : ∃ x, Hid (x = x2.alloc (.cells #[.int .i64 0, .int .i64 0, .slice none 0 0] 24)) := ⟨_, rfl⟩
    rw [← HWx3.out]
    have hb : Below x2.heap.size x2 x3 := by rw [HWx3.out]; exact qa1 _ _
    have HT_x3 : Hid (Vr x3 x2.heap.size (.int .i64 0) (.int .i64 0) (.slice none 0 0)) := by rw [HWx3.out]; exact Vr.new x2 _ _ _
    have HB_x3 : Hid (Below wd.heap.size wd x3) := qa0 HB_x2.out hb
    have HVg_x3 : Hid (Vr x3 w.heap.size (.int .i64 (r : Int)) (.int .i64 (c : Int)) (.slice a n k)) := HVg_x2.out.later hb
    have HVz_x3 : Hid (Vr x3 (w.heap.size + 1) (.int .i64 0) (.int .i64 0) (.slice none 0 0)) := HVz_x2.out.later hb
    have HVd_x3 : Hid (Vr x3 bd (.int .i64 (c : Int)) (.int .i64 (r : Int)) (.slice (some ⟨gd, 0, none⟩) L L)) := HVd_x2.out.later hb
    have HRd_x3 : Hid (RowAt x3 gd 5 L O) := HRd_x2.out.later hb
    have HD_x3 : Hid (x3.cell? ⟨w.heap.size, 0, none⟩ = some (.int .i64 (r : Int)) ∧ x3.cell? ⟨w.heap.size, 1, none⟩ = some (.int .i64 (c : Int)) ∧ x3.cell? ⟨w.heap.size, 2, none⟩ = some (.slice a n k)) := ⟨HVg_x3.out.c0, HVg_x3.out.c1, HVg_x3.out.c2⟩
    have HO_x3 : Hid (x3.ownsRow x1.heap.size 5 1 (.slice s2 N d2) N (row N (pkf F z c)).toList) := by rw [HWx3.out]; exact World.ownsRow.alloc HO_x2.out _
    clear hb
    refine hKK.out _ _ HD_x3.out (fun _ => ?_)
    clear hKK KK
    try simp only [mz1, mz2, mz3, Act.put, mz4, mz5, mz6]
    refine wpAnyH_ready (rs := [8]) (by kernel_rfl) (by simp) ?_
    refine AllReadyH.cons rfl (fun KK hKK => ?_) AllReadyH.nil
    refine qa9 rfl _ _ rfl x2.heap.size _ _ _ (.int .i64 (K : Int)) (.int .i64 (c : Int)) (.slice s2 N d2) rfl rfl HT_x3.out rfl rfl rfl ?_
    intro x4 HV_x4 HG
    have hbB := HB_x2.out.size
    have HB_x4 : Hid (Below wd.heap.size wd x4) := qa4 HB_x3.out HG.out hbB
    have HVg_x4 : Hid (Vr x4 w.heap.size (.int .i64 (r : Int)) (.int .i64 (c : Int)) (.slice a n k)) := HVg_x3.out.kept HG.out (by have := HVg_x2.out.lt; omega)
    have HVz_x4 : Hid (Vr x4 (w.heap.size + 1) (.int .i64 0) (.int .i64 0) (.slice none 0 0)) := HVz_x3.out.kept HG.out (by have := HVz_x2.out.lt; omega)
    have HVd_x4 : Hid (Vr x4 bd (.int .i64 (c : Int)) (.int .i64 (r : Int)) (.slice (some ⟨gd, 0, none⟩) L L)) := HVd_x3.out.kept HG.out (by have := HVd_x2.out.lt; omega)
    have HRd_x4 : Hid (RowAt x4 gd 5 L O) := HRd_x3.out.kept HG.out (by have := HRd_x2.out.lt; omega)
    have HD_x4 : Hid (x4.cell? ⟨w.heap.size, 0, none⟩ = some (.int .i64 (r : Int)) ∧ x4.cell? ⟨w.heap.size, 1, none⟩ = some (.int .i64 (c : Int)) ∧ x4.cell? ⟨w.heap.size, 2, none⟩ = some (.slice a n k)) := ⟨HVg_x4.out.c0, HVg_x4.out.c1, HVg_x4.out.c2⟩
    have HO_x4 : Hid (x4.ownsRow x1.heap.size 5 1 (.slice s2 N d2) N (row N (pkf F z c)).toList) := qcd HO_x3.out HG.out (own_lt HO_x2.out)
    refine hKK.out _ _ HD_x4.out (fun _ => ?_)
    clear hKK KK
    try simp only [mz1, mz2, mz3, Act.put]
    refine wtkq 9 ?vq6 rfl (by kernel_rfl) (fun _ _ _ h => h) (by rfl) ?yq6 HD_x4.out ?zq6
    case yq6 => (intro w hSw; (try dsimp only at hSw); go_simp; try with_reducible rfl)
    try simp only [mz1, mz2, mz3, Act.put, mz4, mz5, mz6]
    refine wpAnyH_done (by kernel_rfl) ?_ _
    obtain ⟨bt, Hbt⟩ : ∃ bt, Hid (bt = x2.heap.size) := ⟨_, rfl⟩
    have hVt := HV_x4.out
    rw [← Hbt.out] at hVt
    rw [← Hbt.out]
    exact hG bt x4 d2 xs d s2 ⟨hVt, qfn HO_x4.out HPe.out, HVz_x4.out, HVd_x4.out, HRd_x4.out, HB_x4.out⟩
   ·go_simp
    obtain ⟨x2, HWx2⟩ : ∃ x, Hid (x = x1.alloc (.cells #[.int .i64 0, .int .i64 0, .slice none 0 0] 24)) := ⟨_, rfl⟩
    rw [← HWx2.out]
    have hb : Below x1.heap.size x1 x2 := by rw [HWx2.out]; exact qa1 _ _
    have HT_x2 : Hid (Vr x2 x1.heap.size (.int .i64 0) (.int .i64 0) (.slice none 0 0)) := by rw [HWx2.out]; exact Vr.new x1 _ _ _
    have HB_x2 : Hid (Below wd.heap.size wd x2) := qa0 HB_x1.out hb
    have HVg_x2 : Hid (Vr x2 w.heap.size (.int .i64 (r : Int)) (.int .i64 (c : Int)) (.slice a n k)) := HVg_x1.out.later hb
    have HVz_x2 : Hid (Vr x2 (w.heap.size + 1) (.int .i64 0) (.int .i64 0) (.slice none 0 0)) := HVz_x1.out.later hb
    have HVd_x2 : Hid (Vr x2 bd (.int .i64 (c : Int)) (.int .i64 (r : Int)) (.slice (some ⟨gd, 0, none⟩) L L)) := HVd_x1.out.later hb
    have HRd_x2 : Hid (RowAt x2 gd 5 L O) := HRd_x1.out.later hb
    have HD_x2 : Hid (x2.cell? ⟨w.heap.size, 0, none⟩ = some (.int .i64 (r : Int)) ∧ x2.cell? ⟨w.heap.size, 1, none⟩ = some (.int .i64 (c : Int)) ∧ x2.cell? ⟨w.heap.size, 2, none⟩ = some (.slice a n k)) := ⟨HVg_x2.out.c0, HVg_x2.out.c1, HVg_x2.out.c2⟩
    have HI_x2 : Hid (Il x2 xs K (fun i => (z i : Int))) := HI_x1.out.later hb
    clear hb
    refine hKK.out _ _ HD_x2.out (fun _ => ?_)
    clear hKK KK
    try simp only [mz1, mz2, mz3, Act.put, mz4, mz5, mz6]
    refine wpAnyH_ready (rs := [3]) (by kernel_rfl) (by simp) ?_
    refine AllReadyH.cons rfl (fun KK hKK => ?_) AllReadyH.nil
    go_simp
    refine (qay _ r c n k K d N a xs F z (HA.out.later (qa0 HBd.out HB_x2.out)).sl HR.out HI_x2.out Hz.out hK HN).mono ?_
    rintro e x3 ⟨s2, d2, rfl, ho, hb⟩
    have HO_x3 : Hid (x3.ownsRow x2.heap.size 5 1 (.slice s2 N d2) N (row N (pkf F z c)).toList) := ho
    clear ho
    have HB_x3 : Hid (Below wd.heap.size wd x3) := qa0 HB_x2.out hb
    have HVg_x3 : Hid (Vr x3 w.heap.size (.int .i64 (r : Int)) (.int .i64 (c : Int)) (.slice a n k)) := HVg_x2.out.later hb
    have HVz_x3 : Hid (Vr x3 (w.heap.size + 1) (.int .i64 0) (.int .i64 0) (.slice none 0 0)) := HVz_x2.out.later hb
    have HVd_x3 : Hid (Vr x3 bd (.int .i64 (c : Int)) (.int .i64 (r : Int)) (.slice (some ⟨gd, 0, none⟩) L L)) := HVd_x2.out.later hb
    have HRd_x3 : Hid (RowAt x3 gd 5 L O) := HRd_x2.out.later hb
    have HD_x3 : Hid (x3.cell? ⟨w.heap.size, 0, none⟩ = some (.int .i64 (r : Int)) ∧ x3.cell? ⟨w.heap.size, 1, none⟩ = some (.int .i64 (c : Int)) ∧ x3.cell? ⟨w.heap.size, 2, none⟩ = some (.slice a n k)) := ⟨HVg_x3.out.c0, HVg_x3.out.c1, HVg_x3.out.c2⟩
    have HT_x3 : Hid (Vr x3 x1.heap.size (.int .i64 0) (.int .i64 0) (.slice none 0 0)) := HT_x2.out.later hb
    clear hb
    refine hKK.out _ _ HD_x3.out (fun _ => ?_)
    clear hKK KK
    try simp only [mz1, mz2, mz3, Act.put, mz4, mz5, mz6]
    refine wtkq 4 ?vq7 rfl (by kernel_rfl) (fun _ _ _ h => h) (by rfl) ?yq7 HD_x3.out ?zq7
    case yq7 => (intro w hSw; (try dsimp only at hSw); go_simp; try with_reducible rfl)
    try simp only [mz1, mz2, mz3, Act.put, mz4, mz5, mz6]
    refine wtkq 5 ?vq8 rfl (by kernel_rfl) (fun _ _ _ h => h) (by rfl) ?yq8 HD_x3.out ?zq8
    case yq8 => (intro w hSw; (try dsimp only at hSw); go_simp; try with_reducible rfl)
    try simp only [mz1, mz2, mz3, Act.put, mz4, mz5, mz6]
    refine wtkq 6 ?vq9 rfl (by kernel_rfl) (fun _ _ _ h => h) (by rfl) ?yq9 HD_x3.out ?zq9
    case yq9 => (intro w hSw; (try dsimp only at hSw); go_simp; try with_reducible rfl)
    try simp only [mz1, mz2, mz3, Act.put, mz4, mz5, mz6]
    refine wpAnyH_ready (rs := [8]) (by kernel_rfl) (by simp) ?_
    refine AllReadyH.cons rfl (fun KK hKK => ?_) AllReadyH.nil
    refine qa9 rfl _ _ rfl x1.heap.size _ _ _ (.int .i64 (K : Int)) (.int .i64 (c : Int)) (.slice s2 N d2) rfl rfl HT_x3.out rfl rfl rfl ?_
    intro x4 HV_x4 HG
    have hbB := HB_x1.out.size
    have HB_x4 : Hid (Below wd.heap.size wd x4) := qa4 HB_x3.out HG.out hbB
    have HVg_x4 : Hid (Vr x4 w.heap.size (.int .i64 (r : Int)) (.int .i64 (c : Int)) (.slice a n k)) := HVg_x3.out.kept HG.out (by have := HVg_x1.out.lt; omega)
    have HVz_x4 : Hid (Vr x4 (w.heap.size + 1) (.int .i64 0) (.int .i64 0) (.slice none 0 0)) := HVz_x3.out.kept HG.out (by have := HVz_x1.out.lt; omega)
    have HVd_x4 : Hid (Vr x4 bd (.int .i64 (c : Int)) (.int .i64 (r : Int)) (.slice (some ⟨gd, 0, none⟩) L L)) := HVd_x3.out.kept HG.out (by have := HVd_x1.out.lt; omega)
    have HRd_x4 : Hid (RowAt x4 gd 5 L O) := HRd_x3.out.kept HG.out (by have := HRd_x1.out.lt; omega)
    have HD_x4 : Hid (x4.cell? ⟨w.heap.size, 0, none⟩ = some (.int .i64 (r : Int)) ∧ x4.cell? ⟨w.heap.size, 1, none⟩ = some (.int .i64 (c : Int)) ∧ x4.cell? ⟨w.heap.size, 2, none⟩ = some (.slice a n k)) := ⟨HVg_x4.out.c0, HVg_x4.out.c1, HVg_x4.out.c2⟩
    have HO_x4 : Hid (x4.ownsRow x2.heap.size 5 1 (.slice s2 N d2) N (row N (pkf F z c)).toList) := qcd HO_x3.out HG.out (fun e => by have h1 := qaa HO_x3.out _ e; have h2 := HT_x2.out.lt; omega)
    refine hKK.out _ _ HD_x4.out (fun _ => ?_)
    clear hKK KK
    try simp only [mz1, mz2, mz3, Act.put]
    refine wtkq 9 ?vq10 rfl (by kernel_rfl) (fun _ _ _ h => h) (by rfl) ?yq10 HD_x4.out ?zq10
    case yq10 => (intro w hSw; (try dsimp only at hSw); go_simp; try with_reducible rfl)
    try simp only [mz1, mz2, mz3, Act.put, mz4, mz5, mz6]
    refine wpAnyH_done (by kernel_rfl) ?_ _
    obtain ⟨bt, Hbt⟩ : ∃ bt, Hid (bt = x1.heap.size) := ⟨_, rfl⟩
    have hVt := HV_x4.out
    rw [← Hbt.out] at hVt
    rw [← Hbt.out]
    exact hG bt x4 d2 xs d s2 ⟨hVt, qfn HO_x4.out HPe.out, HVz_x4.out, HVd_x4.out, HRd_x4.out, HB_x4.out⟩
  ·go_simp
   obtain ⟨x1, HWx1⟩ : ∃ x, Hid (x = x0.alloc (.cells #[.int .i64 0, .int .i64 0, .slice none 0 0] 24)) := ⟨_, rfl⟩
   rw [← HWx1.out]
   have hb : Below x0.heap.size x0 x1 := by rw [HWx1.out]; exact qa1 _ _
   have HT_x1 : Hid (Vr x1 x0.heap.size (.int .i64 0) (.int .i64 0) (.slice none 0 0)) := by rw [HWx1.out]; exact Vr.new x0 _ _ _
   have HB_x1 : Hid (Below wd.heap.size wd x1) := qa0 HB_x0.out hb
   have HVg_x1 : Hid (Vr x1 w.heap.size (.int .i64 (r : Int)) (.int .i64 (c : Int)) (.slice a n k)) := HVg_x0.out.later hb
   have HVz_x1 : Hid (Vr x1 (w.heap.size + 1) (.int .i64 0) (.int .i64 0) (.slice none 0 0)) := HVz_x0.out.later hb
   have HVd_x1 : Hid (Vr x1 bd (.int .i64 (c : Int)) (.int .i64 (r : Int)) (.slice (some ⟨gd, 0, none⟩) L L)) := HVd_x0.out.later hb
   have HRd_x1 : Hid (RowAt x1 gd 5 L O) := HRd_x0.out.later hb
   have HD_x1 : Hid (x1.cell? ⟨w.heap.size, 0, none⟩ = some (.int .i64 (r : Int)) ∧ x1.cell? ⟨w.heap.size, 1, none⟩ = some (.int .i64 (c : Int)) ∧ x1.cell? ⟨w.heap.size, 2, none⟩ = some (.slice a n k)) := ⟨HVg_x1.out.c0, HVg_x1.out.c1, HVg_x1.out.c2⟩
   clear hb
   refine hKK.out _ _ HD_x1.out (fun _ => ?_)
   clear hKK KK
   try simp only [mz1, mz2, mz3, Act.put, mz4, mz5, mz6]
   refine wpAnyH_ready (rs := [2]) (by kernel_rfl) (by simp) ?_
   refine AllReadyH.cons rfl (fun KK hKK => ?_) AllReadyH.nil
   go_simp
   refine (HLs.out _).mono ?_
   rintro e x2 ⟨xs, d, rfl, hi, hb⟩
   have HI_x2 : Hid (Il x2 xs K (fun i => (z i : Int))) := hi
   clear hi
   have HB_x2 : Hid (Below wd.heap.size wd x2) := qa0 HB_x1.out hb
   have HVg_x2 : Hid (Vr x2 w.heap.size (.int .i64 (r : Int)) (.int .i64 (c : Int)) (.slice a n k)) := HVg_x1.out.later hb
   have HVz_x2 : Hid (Vr x2 (w.heap.size + 1) (.int .i64 0) (.int .i64 0) (.slice none 0 0)) := HVz_x1.out.later hb
   have HVd_x2 : Hid (Vr x2 bd (.int .i64 (c : Int)) (.int .i64 (r : Int)) (.slice (some ⟨gd, 0, none⟩) L L)) := HVd_x1.out.later hb
   have HRd_x2 : Hid (RowAt x2 gd 5 L O) := HRd_x1.out.later hb
   have HD_x2 : Hid (x2.cell? ⟨w.heap.size, 0, none⟩ = some (.int .i64 (r : Int)) ∧ x2.cell? ⟨w.heap.size, 1, none⟩ = some (.int .i64 (c : Int)) ∧ x2.cell? ⟨w.heap.size, 2, none⟩ = some (.slice a n k)) := ⟨HVg_x2.out.c0, HVg_x2.out.c1, HVg_x2.out.c2⟩
   have HT_x2 : Hid (Vr x2 x0.heap.size (.int .i64 0) (.int .i64 0) (.slice none 0 0)) := HT_x1.out.later hb
   clear hb
   refine hKK.out _ _ HD_x2.out (fun _ => ?_)
   clear hKK KK
   try simp only [mz1, mz2, mz3, Act.put, mz4, mz5, mz6]
   refine wpAnyH_ready (rs := [3]) (by kernel_rfl) (by simp) ?_
   refine AllReadyH.cons rfl (fun KK hKK => ?_) AllReadyH.nil
   go_simp
   refine (qay _ r c n k K d N a xs F z (HA.out.later (qa0 HBd.out HB_x2.out)).sl HR.out HI_x2.out Hz.out hK HN).mono ?_
   rintro e x3 ⟨s2, d2, rfl, ho, hb⟩
   have HO_x3 : Hid (x3.ownsRow x2.heap.size 5 1 (.slice s2 N d2) N (row N (pkf F z c)).toList) := ho
   clear ho
   have HB_x3 : Hid (Below wd.heap.size wd x3) := qa0 HB_x2.out hb
   have HVg_x3 : Hid (Vr x3 w.heap.size (.int .i64 (r : Int)) (.int .i64 (c : Int)) (.slice a n k)) := HVg_x2.out.later hb
   have HVz_x3 : Hid (Vr x3 (w.heap.size + 1) (.int .i64 0) (.int .i64 0) (.slice none 0 0)) := HVz_x2.out.later hb
   have HVd_x3 : Hid (Vr x3 bd (.int .i64 (c : Int)) (.int .i64 (r : Int)) (.slice (some ⟨gd, 0, none⟩) L L)) := HVd_x2.out.later hb
   have HRd_x3 : Hid (RowAt x3 gd 5 L O) := HRd_x2.out.later hb
   have HD_x3 : Hid (x3.cell? ⟨w.heap.size, 0, none⟩ = some (.int .i64 (r : Int)) ∧ x3.cell? ⟨w.heap.size, 1, none⟩ = some (.int .i64 (c : Int)) ∧ x3.cell? ⟨w.heap.size, 2, none⟩ = some (.slice a n k)) := ⟨HVg_x3.out.c0, HVg_x3.out.c1, HVg_x3.out.c2⟩
   have HT_x3 : Hid (Vr x3 x0.heap.size (.int .i64 0) (.int .i64 0) (.slice none 0 0)) := HT_x2.out.later hb
   clear hb
   refine hKK.out _ _ HD_x3.out (fun _ => ?_)
   clear hKK KK
   try simp only [mz1, mz2, mz3, Act.put, mz4, mz5, mz6]
   refine wtkq 4 ?vq11 rfl (by kernel_rfl) (fun _ _ _ h => h) (by rfl) ?yq11 HD_x3.out ?zq11
   case yq11 => (intro w hSw; (try dsimp only at hSw); go_simp; try with_reducible rfl)
   try simp only [mz1, mz2, mz3, Act.put, mz4, mz5, mz6]
   refine wtkq 5 ?vq12 rfl (by kernel_rfl) (fun _ _ _ h => h) (by rfl) ?yq12 HD_x3.out ?zq12
   case yq12 => (intro w hSw; (try dsimp only at hSw); go_simp; try with_reducible rfl)
   try simp only [mz1, mz2, mz3, Act.put, mz4, mz5, mz6]
   refine wtkq 6 ?vq13 rfl (by kernel_rfl) (fun _ _ _ h => h) (by rfl) ?yq13 HD_x3.out ?zq13
   case yq13 => (intro w hSw; (try dsimp only at hSw); go_simp; try with_reducible rfl)
   try simp only [mz1, mz2, mz3, Act.put, mz4, mz5, mz6]
   refine wpAnyH_ready (rs := [8]) (by kernel_rfl) (by simp) ?_
   refine AllReadyH.cons rfl (fun KK hKK => ?_) AllReadyH.nil
   refine qa9 rfl _ _ rfl x0.heap.size _ _ _ (.int .i64 (K : Int)) (.int .i64 (c : Int)) (.slice s2 N d2) rfl rfl HT_x3.out rfl rfl rfl ?_
   intro x4 HV_x4 HG
   have hbB := HB_x0.out.size
   have HB_x4 : Hid (Below wd.heap.size wd x4) := qa4 HB_x3.out HG.out hbB
   have HVg_x4 : Hid (Vr x4 w.heap.size (.int .i64 (r : Int)) (.int .i64 (c : Int)) (.slice a n k)) := HVg_x3.out.kept HG.out (by have := HVg_x0.out.lt; omega)
   have HVz_x4 : Hid (Vr x4 (w.heap.size + 1) (.int .i64 0) (.int .i64 0) (.slice none 0 0)) := HVz_x3.out.kept HG.out (by have := HVz_x0.out.lt; omega)
   have HVd_x4 : Hid (Vr x4 bd (.int .i64 (c : Int)) (.int .i64 (r : Int)) (.slice (some ⟨gd, 0, none⟩) L L)) := HVd_x3.out.kept HG.out (by have := HVd_x0.out.lt; omega)
   have HRd_x4 : Hid (RowAt x4 gd 5 L O) := HRd_x3.out.kept HG.out (by have := HRd_x0.out.lt; omega)
   have HD_x4 : Hid (x4.cell? ⟨w.heap.size, 0, none⟩ = some (.int .i64 (r : Int)) ∧ x4.cell? ⟨w.heap.size, 1, none⟩ = some (.int .i64 (c : Int)) ∧ x4.cell? ⟨w.heap.size, 2, none⟩ = some (.slice a n k)) := ⟨HVg_x4.out.c0, HVg_x4.out.c1, HVg_x4.out.c2⟩
   have HO_x4 : Hid (x4.ownsRow x2.heap.size 5 1 (.slice s2 N d2) N (row N (pkf F z c)).toList) := qcd HO_x3.out HG.out (fun e => by have h1 := qaa HO_x3.out _ e; have h2 := HT_x2.out.lt; omega)
   refine hKK.out _ _ HD_x4.out (fun _ => ?_)
   clear hKK KK
   try simp only [mz1, mz2, mz3, Act.put]
   refine wtkq 9 ?vq14 rfl (by kernel_rfl) (fun _ _ _ h => h) (by rfl) ?yq14 HD_x4.out ?zq14
   case yq14 => (intro w hSw; (try dsimp only at hSw); go_simp; try with_reducible rfl)
   try simp only [mz1, mz2, mz3, Act.put, mz4, mz5, mz6]
   refine wpAnyH_done (by kernel_rfl) ?_ _
   obtain ⟨bt, Hbt⟩ : ∃ bt, Hid (bt = x0.heap.size) := ⟨_, rfl⟩
   have hVt := HV_x4.out
   rw [← Hbt.out] at hVt
   rw [← Hbt.out]
   exact hG bt x4 d2 xs d s2 ⟨hVt, qfn HO_x4.out HPe.out, HVz_x4.out, HVd_x4.out, HRd_x4.out, HB_x4.out⟩
 ·rintro bt y4 d2 xs d s2 ⟨hVt, hM, hVz, hVd, hRd, hB⟩
  have HM4 := qan hM
  have HVz4 := qan hVz
  have HRd4 := qan hRd
  have HB4 : Hid (Below wd.heap.size wd y4) := hB
  have t0 := hVt.c0
  have t1 := hVt.c1
  have t2 := hVt.c2
  have u0 := hVd.c0
  have u1 := hVd.c1
  have u2 := hVd.c2
  clear hVt hM hVz hVd hRd hB
  go_wp2_with (first
   | (go_at_call 25; refine (rmmul_ok _ K c r N L Q d2 L s2 (some ⟨gd, 0, none⟩) (pkf F z c) O HM4.out.sl (HRd4.out.sl (by rw [← HL.out]; exact HOe.out)) RN.out RL.out RQ.out).mono ?_; rintro e w6 ⟨g6, rfl, hr6, hg6, hb⟩; have HB6 : Hid (Below y4.heap.size y4 (w6.alloc (.cells #[.int .i64 (K : Int), .int .i64 (r : Int), .slice (some ⟨g6, 0, none⟩) Q Q] 24))) := qa0 hb (qa1 _ _); have HR6 : Hid (RowAt (w6.alloc (.cells #[.int .i64 (K : Int), .int .i64 (r : Int), .slice (some ⟨g6, 0, none⟩) Q Q] 24)) g6 5 Q (prk (pkf F z c) O c r c)) := hr6.later (qa1 _ _); have hg6' := hg6; clear hr6 hg6 hb)
   | (refine qa2 rfl _ _ rfl (w.heap.size + 1) _ _ _ (.int .i64 (K : Int)) (.int .i64 (r : Int)) (.slice (some ⟨g6, 0, none⟩) Q Q) rfl rfl (HVz4.out.later HB6.out) rfl rfl rfl ?_; intro w9 HV9 HG9))
  have d0 := HV9.out.c0
  have d1 := HV9.out.c1
  have d2' := HV9.out.c2
  refine bodyPost_ret (v := .tuple #[mv K r (some ⟨g6, 0, none⟩) Q Q, .bool true, .int .i64 0]) (by simp [results, Tryz.results8, go_sem, d0, d1, d2', mv]) rfl ?_
  have hy := HB4.out.size
  exact ⟨g6, _, rfl, HR6.out.kept HG9.out (by omega), ⟨O, HDp.out, fun _ _ => rfl⟩, qa4 (qa0 HBd.out (qa0 HB4.out HB6.out)) HG9.out (by omega)⟩
end Go.Proofs.YtokdejhbjoglcaaGreat
