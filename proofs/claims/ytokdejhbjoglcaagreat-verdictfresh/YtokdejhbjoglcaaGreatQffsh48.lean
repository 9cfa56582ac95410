/-
  The program's verdict.Rebuild: its closure.
-/
import Derived.Test.YtokdejhbjoglcaaGreatQffsh00
import Derived.Test.YtokdejhbjoglcaaGreatQffsh45
import Derived.OrdersHeld
set_option maxRecDepth 100000
set_option maxHeartbeats 16000000
namespace Go.Proofs.YtokdejhbjoglcaaGreat
open Go.RowKit Go.Shelf
attribute [local go_sem] Oper.semAt_some
/-- X is the product of the lost rows with a decoding matrix. -/
def RebP (F X : Nat → Nat) (s p r c : Nat) : Prop := ∃ O, DecP F O p r c ∧ ∀ q, q < cn s r * r → X q = prk (pkf F (lf s r) c) O c r c q
theorem joinR {G : Nat → World → Nat → Option Addr → Nat → Prop} {R : Prop} (P : Nat → World → Nat → Option Addr → Nat → Prop) (hr : (∀ x w g y d, P x w g y d → G x w g y d) → R) (hg : ∀ x w g y d, P x w g y d → G x w g y d) : R := hr hg
theorem vreb1_x (w : World) (b1 b2 r c n k p s L K Q : Nat) (a : Option Addr) (F z : Nat → Nat) (hv : Vr w b1 (.int .i64 (r : Int)) (.int .i64 (c : Int)) (.slice a n k)) (hl : Cl w b2 (.int .u64 (s : Int)) 26) (ha : Mt w a n k F) (R : Rt r c n) (hK : K ≤ 64) (HL : Hid (c * r = L)) (HQ : Hid (K * r = Q))
  (HLs : Hid (∀ w' : World, Calls Tryz.prog 23 #[.int .u64 (s : Int)] w' fun e w'' => ∃ x d, e = .returned (.slice x K d) ∧ Il w'' x K (fun i => (z i : Int)) ∧ Below w'.heap.size w' w'')) (Hz : Hid (∀ i, i < K → z i < r))
  (HDe : Hid (∀ w' : World, Below w.heap.size w w' → Calls Tryz.prog 15 #[mv r c a n k, .int .u64 (p : Int)] w' fun e w'' => ∃ g O, e = .returned (mv c r (some ⟨g, 0, none⟩) L L) ∧ RowAt w'' g 5 L O ∧ w'.heap.size ≤ g ∧ DecP F O p r c ∧ Below w'.heap.size w' w'')) :
  Calls Tryz.prog 21 #[.int .u64 (p : Int), .pointer (some ⟨b1, 0, none⟩), .pointer (some ⟨b2, 0, none⟩)] w fun e w' => MadeP w w' e K r Q (fun X => ∃ O, DecP F O p r c ∧ ∀ q, q < Q → X q = prk (pkf F z c) O c r c q) := by
 obtain ⟨wb, HW⟩ : ∃ wb, Hid (wb = w.alloc (.cells #[.int .i64 0, .int .i64 0, .slice none 0 0] 24)) := ⟨_, rfl⟩
 have HVz : Hid (Vr wb w.heap.size (.int .i64 0) (.int .i64 0) (.slice none 0 0)) := by rw [HW.out]; exact Vr.new w _ _ _
 have HBb : Hid (Below w.heap.size w wb) := by rw [HW.out]; exact qa1 _ _
 have HVg : Hid (Vr wb b1 (.int .i64 (r : Int)) (.int .i64 (c : Int)) (.slice a n k)) := hv.later HBb.out
 have HC : Hid (Cl wb b2 (.int .u64 (s : Int)) 26) := hl.later HBb.out
 have HA : Hid (Mt w a n k F) := ha
 have HR : Hid (Rt r c n) := R
 obtain ⟨N, HN⟩ : ∃ N, Hid (K * c = N) := ⟨_, rfl⟩
 have RN : Hid (Rt K c N) := ⟨hK, R.c64, HN.out⟩
 have RL : Hid (Rt c r L) := ⟨R.c64, R.r64, HL.out⟩
 have RQ : Hid (Rt K r Q) := ⟨hK, R.r64, HQ.out⟩
 have HPe : Hid (∀ i, i < N → pkf F z c i < 256) := fun i hi => qe3 ha.sl.1 R Hz.out i (by rw [HN.out]; exact hi)
 have hb1w : b1 < w.heap.size := hv.lt
 have hb2w : b2 < w.heap.size := hl.lt
 clear hv hl ha R
 go_enter Tryz.func21, Tryz.ntmps21
 go_wp2
 rw [← HW.out]
 apply joinR (fun bt y4 g2 xs d => Vr y4 bt (.int .i64 (K : Int)) (.int .i64 (c : Int)) (.slice (some ⟨g2, 0, none⟩) N N) ∧ RowAt y4 g2 5 N (pkf F z c) ∧ Vr y4 b1 (.int .i64 (r : Int)) (.int .i64 (c : Int)) (.slice a n k) ∧ Vr y4 w.heap.size (.int .i64 0) (.int .i64 0) (.slice none 0 0) ∧ Below wb.heap.size wb y4 ∧ wb.heap.size ≤ bt)
 ·intro hG
  refine wp_region_held (S := fun w' => w'.cell? ⟨b1, 0, none⟩ = some (.int .i64 (r : Int)) ∧ w'.cell? ⟨b1, 1, none⟩ = some (.int .i64 (c : Int)) ∧ w'.cell? ⟨b1, 2, none⟩ = some (.slice a n k) ∧ w'.cell? ⟨b2, 0, none⟩ = some (.int .u64 (s : Int))) (by kernel_rfl) ?_
  change wpAnyH _ _ _ _ _ _ _ _ (World.drew _)
  obtain ⟨x0, HX0⟩ : ∃ x, Hid (x = wb.drew) := ⟨_, rfl⟩
  rw [← HX0.out]
  have HB_x0 : Hid (Below wb.heap.size wb x0) := by rw [HX0.out]; exact (Below.refl _ _).drew
  have HVg_x0 : Hid (Vr x0 b1 (.int .i64 (r : Int)) (.int .i64 (c : Int)) (.slice a n k)) := HVg.out.later HB_x0.out
  have HC_x0 : Hid (Cl x0 b2 (.int .u64 (s : Int)) 26) := HC.out.later HB_x0.out
  have HVz_x0 : Hid (Vr x0 w.heap.size (.int .i64 0) (.int .i64 0) (.slice none 0 0)) := HVz.out.later HB_x0.out
  have HD_x0 : Hid (x0.cell? ⟨b1, 0, none⟩ = some (.int .i64 (r : Int)) ∧ x0.cell? ⟨b1, 1, none⟩ = some (.int .i64 (c : Int)) ∧ x0.cell? ⟨b1, 2, none⟩ = some (.slice a n k) ∧ x0.cell? ⟨b2, 0, none⟩ = some (.int .u64 (s : Int))) := ⟨HVg_x0.out.c0, HVg_x0.out.c1, HVg_x0.out.c2, HC_x0.out.cell⟩
  refine wtkq 0 ?vq1 rfl (by kernel_rfl) (fun _ _ _ h => h) (by rfl) ?yq1 HD_x0.out ?zq1
  case yq1 => (intro w hSw; (try dsimp only at hSw); go_simp; try with_reducible rfl)
  try simp only [mz1, mz3, Act.put, mz4, mz5, mz6]
  refine wtkq 1 ?vq2 rfl (by kernel_rfl) (fun _ _ _ h => h) (by rfl) ?yq2 HD_x0.out ?zq2
  case yq2 => (intro w hSw; (try dsimp only at hSw); go_simp; try with_reducible rfl)
  try simp only [mz1, mz2, mz3, Act.put, mz4, mz5, mz6]
  refine wpAnyH_ready (rs := [2, 7]) (by kernel_rfl) (by simp) ?_
  refine AllReadyH.cons rfl (fun KK hKK => ?_) (AllReadyH.cons rfl (fun KK hKK => ?_) AllReadyH.nil)
  ·go_simp
   refine (HLs.out _).mono ?_
   rintro e x1 ⟨xs, d, rfl, hi, hb⟩
   have HI_x1 : Hid (Il x1 xs K (fun i => (z i : Int))) := hi
   clear hi
   have HB_x1 : Hid (Below wb.heap.size wb x1) := qa0 HB_x0.out hb
   have HVg_x1 : Hid (Vr x1 b1 (.int .i64 (r : Int)) (.int .i64 (c : Int)) (.slice a n k)) := HVg_x0.out.later hb
   have HC_x1 : Hid (Cl x1 b2 (.int .u64 (s : Int)) 26) := HC_x0.out.later hb
   have HVz_x1 : Hid (Vr x1 w.heap.size (.int .i64 0) (.int .i64 0) (.slice none 0 0)) := HVz_x0.out.later hb
   have HD_x1 : Hid (x1.cell? ⟨b1, 0, none⟩ = some (.int .i64 (r : Int)) ∧ x1.cell? ⟨b1, 1, none⟩ = some (.int .i64 (c : Int)) ∧ x1.cell? ⟨b1, 2, none⟩ = some (.slice a n k) ∧ x1.cell? ⟨b2, 0, none⟩ = some (.int .u64 (s : Int))) := ⟨HVg_x1.out.c0, HVg_x1.out.c1, HVg_x1.out.c2, HC_x1.out.cell⟩
   clear hb
   refine hKK.out _ _ HD_x1.out (fun _ => ?_)
   clear hKK KK
   try simp only [mz1, mz2, mz3, Act.put, mz4, mz5, mz6]
   refine wpAnyH_ready (rs := [3, 7]) (by kernel_rfl) (by simp) ?_
   refine AllReadyH.cons rfl (fun KK hKK => ?_) (AllReadyH.cons rfl (fun KK hKK => ?_) AllReadyH.nil)
   ·go_simp
    refine (qcf _ r c n k K d N a xs F z (HA.out.later (qa0 HBb.out HB_x1.out)) HR.out HI_x1.out Hz.out hK HN).mono ?_
    rintro e x2 ⟨g2, rfl, hr2, hg2, hb⟩
    have HO_x2 : Hid (RowAt x2 g2 5 N (pkf F z c)) := hr2
    have HL2 : Hid (x1.heap.size ≤ g2) := hg2
    clear hr2 hg2
    have HB_x2 : Hid (Below wb.heap.size wb x2) := qa0 HB_x1.out hb
    have HVg_x2 : Hid (Vr x2 b1 (.int .i64 (r : Int)) (.int .i64 (c : Int)) (.slice a n k)) := HVg_x1.out.later hb
    have HC_x2 : Hid (Cl x2 b2 (.int .u64 (s : Int)) 26) := HC_x1.out.later hb
    have HVz_x2 : Hid (Vr x2 w.heap.size (.int .i64 0) (.int .i64 0) (.slice none 0 0)) := HVz_x1.out.later hb
    have HD_x2 : Hid (x2.cell? ⟨b1, 0, none⟩ = some (.int .i64 (r : Int)) ∧ x2.cell? ⟨b1, 1, none⟩ = some (.int .i64 (c : Int)) ∧ x2.cell? ⟨b1, 2, none⟩ = some (.slice a n k) ∧ x2.cell? ⟨b2, 0, none⟩ = some (.int .u64 (s : Int))) := ⟨HVg_x2.out.c0, HVg_x2.out.c1, HVg_x2.out.c2, HC_x2.out.cell⟩
    clear hb
    refine hKK.out _ _ HD_x2.out (fun _ => ?_)
    clear hKK KK
    try simp only [mz1, mz2, mz3, Act.put, mz4, mz5, mz6]
    refine wtkq 4 ?vq3 rfl (by kernel_rfl) (fun _ _ _ h => h) (by rfl) ?yq3 HD_x2.out ?zq3
    case yq3 => (intro w hSw; (try dsimp only at hSw); go_simp; try with_reducible rfl)
    try simp only [mz1, mz2, mz3, Act.put, mz4, mz5, mz6]
    refine wtkq 5 ?vq4 rfl (by kernel_rfl) (fun _ _ _ h => h) (by rfl) ?yq4 HD_x2.out ?zq4
    case yq4 => (intro w hSw; (try dsimp only at hSw); go_simp; try with_reducible rfl)
    try simp only [mz1, mz2, mz3, Act.put, mz4, mz5, mz6]
    refine wtkq 6 ?vq5 rfl (by kernel_rfl) (fun _ _ _ h => h) (by rfl) ?yq5 HD_x2.out ?zq5
    case yq5 => (intro w hSw; (try dsimp only at hSw); go_simp; try with_reducible rfl)
    try simp only [mz1, mz2, mz3, Act.put, mz4, mz5, mz6]
    refine wpAnyH_ready (rs := [7]) (by kernel_rfl) (by simp) ?_
    refine AllReadyH.cons rfl (fun KK hKK => ?_) AllReadyH.nil
    go_simp
    obtain ⟨x3, HWx3⟩ : ∃ x, Hid (x = x2.alloc (.cells #[.int .i64 0, .int .i64 0, .slice none 0 0] 24)) := ⟨_, rfl⟩
    rw [← HWx3.out]
    have hb : Below x2.heap.size x2 x3 := by rw [HWx3.out]; exact qa1 _ _
    have HT_x3 : Hid (Vr x3 x2.heap.size (.int .i64 0) (.int .i64 0) (.slice none 0 0)) := by rw [HWx3.out]; exact Vr.new x2 _ _ _
    have HB_x3 : Hid (Below wb.heap.size wb x3) := qa0 HB_x2.out hb
    have HVg_x3 : Hid (Vr x3 b1 (.int .i64 (r : Int)) (.int .i64 (c : Int)) (.slice a n k)) := HVg_x2.out.later hb
    have HC_x3 : Hid (Cl x3 b2 (.int .u64 (s : Int)) 26) := HC_x2.out.later hb
    have HVz_x3 : Hid (Vr x3 w.heap.size (.int .i64 0) (.int .i64 0) (.slice none 0 0)) := HVz_x2.out.later hb
    have HD_x3 : Hid (x3.cell? ⟨b1, 0, none⟩ = some (.int .i64 (r : Int)) ∧ x3.cell? ⟨b1, 1, none⟩ = some (.int .i64 (c : Int)) ∧ x3.cell? ⟨b1, 2, none⟩ = some (.slice a n k) ∧ x3.cell? ⟨b2, 0, none⟩ = some (.int .u64 (s : Int))) := ⟨HVg_x3.out.c0, HVg_x3.out.c1, HVg_x3.out.c2, HC_x3.out.cell⟩
    have HO_x3 : Hid (RowAt x3 g2 5 N (pkf F z c)) := HO_x2.out.later hb
    clear hb
    refine hKK.out _ _ HD_x3.out (fun _ => ?_)
    clear hKK KK
    try simp only [mz1, mz2, mz3, Act.put, mz4, mz5, mz6]
    refine wpAnyH_ready (rs := [8]) (by kernel_rfl) (by simp) ?_
    refine AllReadyH.cons rfl (fun KK hKK => ?_) AllReadyH.nil
    refine qab rfl _ _ rfl x2.heap.size _ _ _ (.int .i64 (K : Int)) (.int .i64 (c : Int)) (.slice (some ⟨g2, 0, none⟩) N N) rfl rfl HT_x3.out rfl rfl rfl ?_
    intro x4 HV_x4 HG
    have hbB := HB_x2.out.size
    have hbB0 := HBb.out.size
    have HB_x4 : Hid (Below wb.heap.size wb x4) := qa4 HB_x3.out HG.out hbB
    have HVg_x4 : Hid (Vr x4 b1 (.int .i64 (r : Int)) (.int .i64 (c : Int)) (.slice a n k)) := HVg_x3.out.kept HG.out (by have := HVg_x2.out.lt; omega)
    have HC_x4 : Hid (Cl x4 b2 (.int .u64 (s : Int)) 26) := HC_x3.out.kept HG.out (fun e => by have h := Option.some.inj e; have := HC_x2.out.lt; omega)
    have HVz_x4 : Hid (Vr x4 w.heap.size (.int .i64 0) (.int .i64 0) (.slice none 0 0)) := HVz_x3.out.kept HG.out (by have := HVz_x2.out.lt; omega)
    have HD_x4 : Hid (x4.cell? ⟨b1, 0, none⟩ = some (.int .i64 (r : Int)) ∧ x4.cell? ⟨b1, 1, none⟩ = some (.int .i64 (c : Int)) ∧ x4.cell? ⟨b1, 2, none⟩ = some (.slice a n k) ∧ x4.cell? ⟨b2, 0, none⟩ = some (.int .u64 (s : Int))) := ⟨HVg_x4.out.c0, HVg_x4.out.c1, HVg_x4.out.c2, HC_x4.out.cell⟩
    have HO_x4 : Hid (RowAt x4 g2 5 N (pkf F z c)) := HO_x3.out.kept HG.out (by have := HO_x2.out.lt; omega)
    refine hKK.out _ _ HD_x4.out (fun _ => ?_)
    clear hKK KK
    try simp only [mz1, mz2, mz3, Act.put]
    refine wtkq 9 ?vq6 rfl (by kernel_rfl) (fun _ _ _ h => h) (by rfl) ?yq6 HD_x4.out ?zq6
    case yq6 => (intro w hSw; (try dsimp only at hSw); go_simp; try with_reducible rfl)
    try simp only [mz1, mz2, mz3, Act.put, mz4, mz5, mz6]
    refine wpAnyH_done (by kernel_rfl) ?_ _
    obtain ⟨bt, Hbt⟩ : ∃ bt, Hid (bt = x2.heap.size) := ⟨_, rfl⟩
    have hVt := HV_x4.out
    rw [← Hbt.out] at hVt
    rw [← Hbt.out]
    exact hG bt x4 g2 xs d ⟨hVt, HO_x4.out, HVg_x4.out, HVz_x4.out, HB_x4.out, by rw [Hbt.out]; exact hbB⟩
   ·go_simp
    obtain ⟨x2, HWx2⟩ : ∃ x, Hid (x = x1.alloc (.cells #[.int .i64 0, .int .i64 0, .slice none 0 0] 24)) := ⟨_, rfl⟩
    rw [← HWx2.out]
    have hb : Below x1.heap.size x1 x2 := by rw [HWx2.out]; exact qa1 _ _
    have HT_x2 : Hid (Vr x2 x1.heap.size (.int .i64 0) (.int .i64 0) (.slice none 0 0)) := by rw [HWx2.out]; exact Vr.new x1 _ _ _
    have HB_x2 : Hid (Below wb.heap.size wb x2) := qa0 HB_x1.out hb
    have HVg_x2 : Hid (Vr x2 b1 (.int .i64 (r : Int)) (.int .i64 (c : Int)) (.slice a n k)) := HVg_x1.out.later hb
    have HC_x2 : Hid (Cl x2 b2 (.int .u64 (s : Int)) 26) := HC_x1.out.later hb
    have HVz_x2 : Hid (Vr x2 w.heap.size (.int .i64 0) (.int .i64 0) (.slice none 0 0)) := HVz_x1.out.later hb
    have HD_x2 : Hid (x2.cell? ⟨b1, 0, none⟩ = some (.int .i64 (r : Int)) ∧ x2.cell? ⟨b1, 1, none⟩ = some (.int .i64 (c : Int)) ∧ x2.cell? ⟨b1, 2, none⟩ = some (.slice a n k) ∧ x2.cell? ⟨b2, 0, none⟩ = some (.int .u64 (s : Int))) := ⟨HVg_x2.out.c0, HVg_x2.out.c1, HVg_x2.out.c2, HC_x2.out.cell⟩
    have HI_x2 : Hid (Il x2 xs K (fun i => (z i : Int))) := HI_x1.out.later hb
    clear hb
    refine hKK.out _ _ HD_x2.out (fun _ => ?_)
    clear hKK KK
    try simp only [mz1, mz2, mz3, Act.put, mz4, mz5, mz6]
    refine wpAnyH_ready (rs := [3]) (by kernel_rfl) (by simp) ?_
    refine AllReadyH.cons rfl (fun KK hKK => ?_) AllReadyH.nil
    go_simp
    refine (qcf _ r c n k K d N a xs F z (HA.out.later (qa0 HBb.out HB_x2.out)) HR.out HI_x2.out Hz.out hK HN).mono ?_
    rintro e x3 ⟨g2, rfl, hr2, hg2, hb⟩
    have HO_x3 : Hid (RowAt x3 g2 5 N (pkf F z c)) := hr2
    have HL2 : Hid (x2.heap.size ≤ g2) := hg2
    clear hr2 hg2
    have HB_x3 : Hid (Below wb.heap.size wb x3) := qa0 HB_x2.out hb
    have HVg_x3 : Hid (Vr x3 b1 (.int .i64 (r : Int)) (.int .i64 (c : Int)) (.slice a n k)) := HVg_x2.out.later hb
    have HC_x3 : Hid (Cl x3 b2 (.int .u64 (s : Int)) 26) := HC_x2.out.later hb
    have HVz_x3 : Hid (Vr x3 w.heap.size (.int .i64 0) (.int .i64 0) (.slice none 0 0)) := HVz_x2.out.later hb
    have HD_x3 : Hid (x3.cell? ⟨b1, 0, none⟩ = some (.int .i64 (r : Int)) ∧ x3.cell? ⟨b1, 1, none⟩ = some (.int .i64 (c : Int)) ∧ x3.cell? ⟨b1, 2, none⟩ = some (.slice a n k) ∧ x3.cell? ⟨b2, 0, none⟩ = some (.int .u64 (s : Int))) := ⟨HVg_x3.out.c0, HVg_x3.out.c1, HVg_x3.out.c2, HC_x3.out.cell⟩
    have HT_x3 : Hid (Vr x3 x1.heap.size (.int .i64 0) (.int .i64 0) (.slice none 0 0)) := HT_x2.out.later hb
    clear hb
    refine hKK.out _ _ HD_x3.out (fun _ => ?_)
    clear hKK KK
    try simp only [mz1, mz2, mz3, Act.put, mz4, mz5, mz6]
    refine wtkq 4 ?vq7 rfl (by kernel_rfl) (fun _ _ _ h => h) (by rfl) ?yq7 HD_x3.out ?zq7
    case yq7 => (intro w hSw; (try dsimp only at hSw); go_simp; try with_reducible rfl)
    try simp only [mz1, mz2, mz3, Act.put, mz4, mz5, mz6]
    refine wtkq 5 ?vq8 rfl (by kernel_rfl) (fun _ _ _ h => h) (by rfl) ?yq8 HD_x3.out ?zq8
    case yq8 => (intro w hSw; (try dsimp only at hSw); go_simp; try with_reducible rfl)
    try simp only [mz1, mz2, mz3, Act.put, mz4, mz5, mz6]
    refine wtkq 6 ?vq9 rfl (by kernel_rfl) (fun _ _ _ h => h) (by rfl) ?yq9 HD_x3.out ?zq9
    case yq9 => (intro w hSw; (try dsimp only at hSw); go_simp; try with_reducible rfl)
    try simp only [mz1, mz2, mz3, Act.put, mz4, mz5, mz6]
    refine wpAnyH_ready (rs := [8]) (by kernel_rfl) (by simp) ?_
    refine AllReadyH.cons rfl (fun KK hKK => ?_) AllReadyH.nil
    refine qab rfl _ _ rfl x1.heap.size _ _ _ (.int .i64 (K : Int)) (.int .i64 (c : Int)) (.slice (some ⟨g2, 0, none⟩) N N) rfl rfl HT_x3.out rfl rfl rfl ?_
    intro x4 HV_x4 HG
    have hbB := HB_x1.out.size
    have hbB0 := HBb.out.size
    have HB_x4 : Hid (Below wb.heap.size wb x4) := qa4 HB_x3.out HG.out hbB
    have HVg_x4 : Hid (Vr x4 b1 (.int .i64 (r : Int)) (.int .i64 (c : Int)) (.slice a n k)) := HVg_x3.out.kept HG.out (by have := HVg_x1.out.lt; omega)
    have HC_x4 : Hid (Cl x4 b2 (.int .u64 (s : Int)) 26) := HC_x3.out.kept HG.out (fun e => by have h := Option.some.inj e; have := HC_x1.out.lt; omega)
    have HVz_x4 : Hid (Vr x4 w.heap.size (.int .i64 0) (.int .i64 0) (.slice none 0 0)) := HVz_x3.out.kept HG.out (by have := HVz_x1.out.lt; omega)
    have HD_x4 : Hid (x4.cell? ⟨b1, 0, none⟩ = some (.int .i64 (r : Int)) ∧ x4.cell? ⟨b1, 1, none⟩ = some (.int .i64 (c : Int)) ∧ x4.cell? ⟨b1, 2, none⟩ = some (.slice a n k) ∧ x4.cell? ⟨b2, 0, none⟩ = some (.int .u64 (s : Int))) := ⟨HVg_x4.out.c0, HVg_x4.out.c1, HVg_x4.out.c2, HC_x4.out.cell⟩
    have HO_x4 : Hid (RowAt x4 g2 5 N (pkf F z c)) := HO_x3.out.kept HG.out (by have h1 := HL2.out; have h2 := HT_x2.out.lt; omega)
    refine hKK.out _ _ HD_x4.out (fun _ => ?_)
    clear hKK KK
    try simp only [mz1, mz2, mz3, Act.put]
    refine wtkq 9 ?vq10 rfl (by kernel_rfl) (fun _ _ _ h => h) (by rfl) ?yq10 HD_x4.out ?zq10
    case yq10 => (intro w hSw; (try dsimp only at hSw); go_simp; try with_reducible rfl)
    try simp only [mz1, mz2, mz3, Act.put, mz4, mz5, mz6]
    refine wpAnyH_done (by kernel_rfl) ?_ _
    obtain ⟨bt, Hbt⟩ : ∃ bt, Hid (bt = x1.heap.size) := ⟨_, rfl⟩
    have hVt := HV_x4.out
    rw [← Hbt.out] at hVt
    rw [← Hbt.out]
    exact hG bt x4 g2 xs d ⟨hVt, HO_x4.out, HVg_x4.out, HVz_x4.out, HB_x4.out, by rw [Hbt.out]; exact hbB⟩
  ·go_simp
   obtain ⟨x1, HWx1⟩ : ∃ x, Hid (x = x0.alloc (.cells #[.int .i64 0, .int .i64 0, .slice none 0 0] 24)) := ⟨_, rfl⟩
   rw [← HWx1.out]
   have hb : Below x0.heap.size x0 x1 := by rw [HWx1.out]; exact qa1 _ _
   have HT_x1 : Hid (Vr x1 x0.heap.size (.int .i64 0) (.int .i64 0) (.slice none 0 0)) := by rw [HWx1.out]; exact Vr.new x0 _ _ _
   have HB_x1 : Hid (Below wb.heap.size wb x1) := qa0 HB_x0.out hb
   have HVg_x1 : Hid (Vr x1 b1 (.int .i64 (r : Int)) (.int .i64 (c : Int)) (.slice a n k)) := HVg_x0.out.later hb
   have HC_x1 : Hid (Cl x1 b2 (.int .u64 (s : Int)) 26) := HC_x0.out.later hb
   have HVz_x1 : Hid (Vr x1 w.heap.size (.int .i64 0) (.int .i64 0) (.slice none 0 0)) := HVz_x0.out.later hb
   have HD_x1 : Hid (x1.cell? ⟨b1, 0, none⟩ = some (.int .i64 (r : Int)) ∧ x1.cell? ⟨b1, 1, none⟩ = some (.int .i64 (c : Int)) ∧ x1.cell? ⟨b1, 2, none⟩ = some (.slice a n k) ∧ x1.cell? ⟨b2, 0, none⟩ = some (.int .u64 (s : Int))) := ⟨HVg_x1.out.c0, HVg_x1.out.c1, HVg_x1.out.c2, HC_x1.out.cell⟩
   clear hb
   refine hKK.out _ _ HD_x1.out (fun _ => ?_)
   clear hKK KK
   try simp only [mz1, mz2, mz3, Act.put, mz4, mz5, mz6]
   refine wpAnyH_ready (rs := [2]) (by kernel_rfl) (by simp) ?_
   refine AllReadyH.cons rfl (fun KK hKK => ?_) AllReadyH.nil
   go_simp
   refine (HLs.out _).mono ?_
   rintro e x2 ⟨xs, d, rfl, hi, hb⟩
   have HI_x2 : Hid (Il x2 xs K (fun i => (z i : Int))) := hi
   clear hi
   have HB_x2 : Hid (Below wb.heap.size wb x2) := qa0 HB_x1.out hb
   have HVg_x2 : Hid (Vr x2 b1 (.int .i64 (r : Int)) (.int .i64 (c : Int)) (.slice a n k)) := HVg_x1.out.later hb
   have HC_x2 : Hid (Cl x2 b2 (.int .u64 (s : Int)) 26) := HC_x1.out.later hb
   have HVz_x2 : Hid (Vr x2 w.heap.size (.int .i64 0) (.int .i64 0) (.slice none 0 0)) := HVz_x1.out.later hb
   have HD_x2 : Hid (x2.cell? ⟨b1, 0, none⟩ = some (.int .i64 (r : Int)) ∧ x2.cell? ⟨b1, 1, none⟩ = some (.int .i64 (c : Int)) ∧ x2.cell? ⟨b1, 2, none⟩ = some (.slice a n k) ∧ x2.cell? ⟨b2, 0, none⟩ = some (.int .u64 (s : Int))) := ⟨HVg_x2.out.c0, HVg_x2.out.c1, HVg_x2.out.c2, HC_x2.out.cell⟩
   have HT_x2 : Hid (Vr x2 x0.heap.size (.int .i64 0) (.int .i64 0) (.slice none 0 0)) := HT_x1.out.later hb
   clear hb
   refine hKK.out _ _ HD_x2.out (fun _ => ?_)
   clear hKK KK
   try simp only [mz1, mz2, mz3, Act.put, mz4, mz5, mz6]
   refine wpAnyH_ready (rs := [3]) (by kernel_rfl) (by simp) ?_
   refine AllReadyH.cons rfl (fun KK hKK => ?_) AllReadyH.nil
   go_simp
   refine (qcf _ r c n k K d N a xs F z (HA.out.later (qa0 HBb.out HB_x2.out)) HR.out HI_x2.out Hz.out hK HN).mono ?_
   rintro e x3 ⟨g2, rfl, hr2, hg2, hb⟩
   have HO_x3 : Hid (RowAt x3 g2 5 N (pkf F z c)) := hr2
   have HL2 : Hid (x2.heap.size ≤ g2) := hg2
   clear hr2 hg2
   have HB_x3 : Hid (Below wb.heap.size wb x3) := qa0 HB_x2.out hb
   have HVg_x3 : Hid (Vr x3 b1 (.int .i64 (r : Int)) (.int .i64 (c : Int)) (.slice a n k)) := HVg_x2.out.later hb
   have HC_x3 : Hid (Cl x3 b2 (.int .u64 (s : Int)) 26) := HC_x2.out.later hb
   have HVz_x3 : Hid (Vr x3 w.heap.size (.int .i64 0) (.int .i64 0) (.slice none 0 0)) := HVz_x2.out.later hb
   have HD_x3 : Hid (x3.cell? ⟨b1, 0, none⟩ = some (.int .i64 (r : Int)) ∧ x3.cell? ⟨b1, 1, none⟩ = some (.int .i64 (c : Int)) ∧ x3.cell? ⟨b1, 2, none⟩ = some (.slice a n k) ∧ x3.cell? ⟨b2, 0, none⟩ = some (.int .u64 (s : Int))) := ⟨HVg_x3.out.c0, HVg_x3.out.c1, HVg_x3.out.c2, HC_x3.out.cell⟩
   have HT_x3 : Hid (Vr x3 x0.heap.size (.int .i64 0) (.int .i64 0) (.slice none 0 0)) := HT_x2.out.later hb
   clear hb
   refine hKK.out _ _ HD_x3.out (fun _ => ?_)
   clear hKK KK
   try simp only [mz1, mz2, mz3, Act.put, mz4, mz5, mz6]
   refine wtkq 4 ?vq11 rfl (by kernel_rfl) (fun _ _ _ h => h) (by rfl) ?yq11 HD_x3.out ?zq11
   case yq11 => (intro w hSw; (try dsimp only at hSw); go_simp; try with_reducible rfl)
   try simp only [mz1, mz2, mz3, Act.put, mz4, mz5, mz6]
   refine wtkq 5 ?vq12 rfl (by kernel_rfl) (fun _ _ _ h => h) (by rfl) ?yq12 HD_x3.out ?zq12
   case yq12 => (intro w hSw; (try dsimp only at hSw); go_simp; try with_reducible rfl)
   try simp only [mz1, mz2, mz3, Act.put, mz4, mz5, mz6]
   refine wtkq 6 ?vq13 rfl (by kernel_rfl) (fun _ _ _ h => h) (by rfl) ?yq13 HD_x3.out ?zq13
   case yq13 => (intro w hSw; (try dsimp only at hSw); go_simp; try with_reducible rfl)
   try simp only [mz1, mz2, mz3, Act.put, mz4, mz5, mz6]
   refine wpAnyH_ready (rs := [8]) (by kernel_rfl) (by simp) ?_
   refine AllReadyH.cons rfl (fun KK hKK => ?_) AllReadyH.nil
   refine qab rfl _ _ rfl x0.heap.size _ _ _ (.int .i64 (K : Int)) (.int .i64 (c : Int)) (.slice (some ⟨g2, 0, none⟩) N N) rfl rfl HT_x3.out rfl rfl rfl ?_
   intro x4 HV_x4 HG
   have hbB := HB_x0.out.size
   have hbB0 := HBb.out.size
   have HB_x4 : Hid (Below wb.heap.size wb x4) := qa4 HB_x3.out HG.out hbB
   have HVg_x4 : Hid (Vr x4 b1 (.int .i64 (r : Int)) (.int .i64 (c : Int)) (.slice a n k)) := HVg_x3.out.kept HG.out (by have := HVg_x0.out.lt; omega)
   have HC_x4 : Hid (Cl x4 b2 (.int .u64 (s : Int)) 26) := HC_x3.out.kept HG.out (fun e => by have h := Option.some.inj e; have := HC_x0.out.lt; omega)
   have HVz_x4 : Hid (Vr x4 w.heap.size (.int .i64 0) (.int .i64 0) (.slice none 0 0)) := HVz_x3.out.kept HG.out (by have := HVz_x0.out.lt; omega)
   have HD_x4 : Hid (x4.cell? ⟨b1, 0, none⟩ = some (.int .i64 (r : Int)) ∧ x4.cell? ⟨b1, 1, none⟩ = some (.int .i64 (c : Int)) ∧ x4.cell? ⟨b1, 2, none⟩ = some (.slice a n k) ∧ x4.cell? ⟨b2, 0, none⟩ = some (.int .u64 (s : Int))) := ⟨HVg_x4.out.c0, HVg_x4.out.c1, HVg_x4.out.c2, HC_x4.out.cell⟩
   have HO_x4 : Hid (RowAt x4 g2 5 N (pkf F z c)) := HO_x3.out.kept HG.out (by have h1 := HL2.out; have h2 := HT_x2.out.lt; omega)
   refine hKK.out _ _ HD_x4.out (fun _ => ?_)
   clear hKK KK
   try simp only [mz1, mz2, mz3, Act.put]
   refine wtkq 9 ?vq14 rfl (by kernel_rfl) (fun _ _ _ h => h) (by rfl) ?yq14 HD_x4.out ?zq14
   case yq14 => (intro w hSw; (try dsimp only at hSw); go_simp; try with_reducible rfl)
   try simp only [mz1, mz2, mz3, Act.put, mz4, mz5, mz6]
   refine wpAnyH_done (by kernel_rfl) ?_ _
   obtain ⟨bt, Hbt⟩ : ∃ bt, Hid (bt = x0.heap.size) := ⟨_, rfl⟩
   have hVt := HV_x4.out
   rw [← Hbt.out] at hVt
   rw [← Hbt.out]
   exact hG bt x4 g2 xs d ⟨hVt, HO_x4.out, HVg_x4.out, HVz_x4.out, HB_x4.out, by rw [Hbt.out]; exact hbB⟩
 ·rintro bt y4 g2 xs d ⟨hVt, hO, hVg, hVz, hB, hbt⟩
  have HVt_y4 := qal hVt
  have HO_y4 := qal hO
  have HVg_y4 := qal hVg
  have HVz_y4 := qal hVz
  have HB_y4 := qal hB
  clear hVt hO hVg hVz hB
  go_wp2
  refine wp_region_held (S := fun w' => w'.cell? ⟨b1, 0, none⟩ = some (.int .i64 (r : Int)) ∧ w'.cell? ⟨b1, 1, none⟩ = some (.int .i64 (c : Int)) ∧ w'.cell? ⟨b1, 2, none⟩ = some (.slice a n k) ∧ w'.cell? ⟨bt, 0, none⟩ = some (.int .i64 (K : Int)) ∧ w'.cell? ⟨bt, 1, none⟩ = some (.int .i64 (c : Int)) ∧ w'.cell? ⟨bt, 2, none⟩ = some (.slice (some ⟨g2, 0, none⟩) N N)) (by kernel_rfl) ?_
  change wpAnyH _ _ _ _ _ _ _ _ (World.drew _)
  obtain ⟨x0, HX0⟩ : ∃ x, Hid (x = y4.drew) := ⟨_, rfl⟩
  rw [← HX0.out]
  have hb : Below y4.heap.size y4 x0 := by rw [HX0.out]; exact (Below.refl _ _).drew
  have HB_x0 : Hid (Below wb.heap.size wb x0) := qa0 HB_y4.out hb
  have HVg_x0 : Hid (Vr x0 b1 (.int .i64 (r : Int)) (.int .i64 (c : Int)) (.slice a n k)) := HVg_y4.out.later hb
  have HVt_x0 : Hid (Vr x0 bt (.int .i64 (K : Int)) (.int .i64 (c : Int)) (.slice (some ⟨g2, 0, none⟩) N N)) := HVt_y4.out.later hb
  have HVz_x0 : Hid (Vr x0 w.heap.size (.int .i64 0) (.int .i64 0) (.slice none 0 0)) := HVz_y4.out.later hb
  have HO_x0 : Hid (RowAt x0 g2 5 N (pkf F z c)) := HO_y4.out.later hb
  have HD_x0 : Hid (x0.cell? ⟨b1, 0, none⟩ = some (.int .i64 (r : Int)) ∧ x0.cell? ⟨b1, 1, none⟩ = some (.int .i64 (c : Int)) ∧ x0.cell? ⟨b1, 2, none⟩ = some (.slice a n k) ∧ x0.cell? ⟨bt, 0, none⟩ = some (.int .i64 (K : Int)) ∧ x0.cell? ⟨bt, 1, none⟩ = some (.int .i64 (c : Int)) ∧ x0.cell? ⟨bt, 2, none⟩ = some (.slice (some ⟨g2, 0, none⟩) N N)) := ⟨HVg_x0.out.c0, HVg_x0.out.c1, HVg_x0.out.c2, HVt_x0.out.c0, HVt_x0.out.c1, HVt_x0.out.c2⟩
  clear hb
  refine wtkq 0 ?vr1 rfl (by kernel_rfl) (fun _ _ _ h => h) (by rfl) ?yr1 HD_x0.out ?zr1
  case yr1 => (intro w hSw; (try dsimp only at hSw); go_simp; try with_reducible rfl)
  try simp only [mz1, mz3, Act.put, mz4, mz5, mz6]
  refine wtkq 1 ?vr2 rfl (by kernel_rfl) (fun _ _ _ h => h) (by rfl) ?yr2 HD_x0.out ?zr2
  case yr2 => (intro w hSw; (try dsimp only at hSw); go_simp; try with_reducible rfl)
  try simp only [mz1, mz2, mz3, Act.put, mz4, mz5, mz6]
  refine wtkq 2 ?vr3 rfl (by kernel_rfl) (fun _ _ _ h => h) (by rfl) ?yr3 HD_x0.out ?zr3
  case yr3 => (intro w hSw; (try dsimp only at hSw); go_simp; try with_reducible rfl)
  try simp only [mz1, mz2, mz3, Act.put, mz4, mz5, mz6]
  refine wpAnyH_ready (rs := [3, 8]) (by kernel_rfl) (by simp) ?_
  refine AllReadyH.cons rfl (fun KK hKK => ?_) (AllReadyH.cons rfl (fun KK hKK => ?_) AllReadyH.nil)
  ·go_simp
   refine (HDe.out _ (qa0 HBb.out HB_x0.out)).mono ?_
   rintro e x1 ⟨gd, O, rfl, hr, _, hd, hb⟩
   have HI_x1 : Hid (RowAt x1 gd 5 L O) := hr
   have HDp := qal hd
   have HOe := qal hd.el
   clear hr hd
   have HB_x1 : Hid (Below wb.heap.size wb x1) := qa0 HB_x0.out hb
   have HVg_x1 : Hid (Vr x1 b1 (.int .i64 (r : Int)) (.int .i64 (c : Int)) (.slice a n k)) := HVg_x0.out.later hb
   have HVt_x1 : Hid (Vr x1 bt (.int .i64 (K : Int)) (.int .i64 (c : Int)) (.slice (some ⟨g2, 0, none⟩) N N)) := HVt_x0.out.later hb
   have HVz_x1 : Hid (Vr x1 w.heap.size (.int .i64 0) (.int .i64 0) (.slice none 0 0)) := HVz_x0.out.later hb
   have HO_x1 : Hid (RowAt x1 g2 5 N (pkf F z c)) := HO_x0.out.later hb
   have HD_x1 : Hid (x1.cell? ⟨b1, 0, none⟩ = some (.int .i64 (r : Int)) ∧ x1.cell? ⟨b1, 1, none⟩ = some (.int .i64 (c : Int)) ∧ x1.cell? ⟨b1, 2, none⟩ = some (.slice a n k) ∧ x1.cell? ⟨bt, 0, none⟩ = some (.int .i64 (K : Int)) ∧ x1.cell? ⟨bt, 1, none⟩ = some (.int .i64 (c : Int)) ∧ x1.cell? ⟨bt, 2, none⟩ = some (.slice (some ⟨g2, 0, none⟩) N N)) := ⟨HVg_x1.out.c0, HVg_x1.out.c1, HVg_x1.out.c2, HVt_x1.out.c0, HVt_x1.out.c1, HVt_x1.out.c2⟩
   clear hb
   refine hKK.out _ _ HD_x1.out (fun _ => ?_)
   clear hKK KK
   try simp only [mz1, mz2, mz3, Act.put, mz4, mz5, mz6]
   refine wpAnyH_ready (rs := [4, 8]) (by kernel_rfl) (by simp) ?_
   refine AllReadyH.cons rfl (fun KK hKK => ?_) (AllReadyH.cons rfl (fun KK hKK => ?_) AllReadyH.nil)
   ·go_simp
    refine (qfb _ K c r N L Q N L (some ⟨g2, 0, none⟩) (some ⟨gd, 0, none⟩) (pkf F z c) O (HO_x1.out.mt HPe.out) (HI_x1.out.mt (by rw [← HL.out]; exact HOe.out)) RN.out RL.out RQ.out).mono ?_
    rintro e x2 ⟨g6, rfl, hr6, hg6, hb⟩
    have HM_x2 : Hid (RowAt x2 g6 5 Q (prk (pkf F z c) O c r c)) := hr6
    have HL6 : Hid (x1.heap.size ≤ g6) := hg6
    clear hr6 hg6
    have HB_x2 : Hid (Below wb.heap.size wb x2) := qa0 HB_x1.out hb
    have HVg_x2 : Hid (Vr x2 b1 (.int .i64 (r : Int)) (.int .i64 (c : Int)) (.slice a n k)) := HVg_x1.out.later hb
    have HVt_x2 : Hid (Vr x2 bt (.int .i64 (K : Int)) (.int .i64 (c : Int)) (.slice (some ⟨g2, 0, none⟩) N N)) := HVt_x1.out.later hb
    have HVz_x2 : Hid (Vr x2 w.heap.size (.int .i64 0) (.int .i64 0) (.slice none 0 0)) := HVz_x1.out.later hb
    have HO_x2 : Hid (RowAt x2 g2 5 N (pkf F z c)) := HO_x1.out.later hb
    have HD_x2 : Hid (x2.cell? ⟨b1, 0, none⟩ = some (.int .i64 (r : Int)) ∧ x2.cell? ⟨b1, 1, none⟩ = some (.int .i64 (c : Int)) ∧ x2.cell? ⟨b1, 2, none⟩ = some (.slice a n k) ∧ x2.cell? ⟨bt, 0, none⟩ = some (.int .i64 (K : Int)) ∧ x2.cell? ⟨bt, 1, none⟩ = some (.int .i64 (c : Int)) ∧ x2.cell? ⟨bt, 2, none⟩ = some (.slice (some ⟨g2, 0, none⟩) N N)) := ⟨HVg_x2.out.c0, HVg_x2.out.c1, HVg_x2.out.c2, HVt_x2.out.c0, HVt_x2.out.c1, HVt_x2.out.c2⟩
    clear hb
    refine hKK.out _ _ HD_x2.out (fun _ => ?_)
    clear hKK KK
    try simp only [mz1, mz2, mz3, Act.put, mz4, mz5, mz6]
    refine wtkq 5 ?vr4 rfl (by kernel_rfl) (fun _ _ _ h => h) (by rfl) ?yr4 HD_x2.out ?zr4
    case yr4 => (intro w hSw; (try dsimp only at hSw); go_simp; try with_reducible rfl)
    try simp only [mz1, mz2, mz3, Act.put, mz4, mz5, mz6]
    refine wtkq 6 ?vr5 rfl (by kernel_rfl) (fun _ _ _ h => h) (by rfl) ?yr5 HD_x2.out ?zr5
    case yr5 => (intro w hSw; (try dsimp only at hSw); go_simp; try with_reducible rfl)
    try simp only [mz1, mz2, mz3, Act.put, mz4, mz5, mz6]
    refine wtkq 7 ?vr6 rfl (by kernel_rfl) (fun _ _ _ h => h) (by rfl) ?yr6 HD_x2.out ?zr6
    case yr6 => (intro w hSw; (try dsimp only at hSw); go_simp; try with_reducible rfl)
    try simp only [mz1, mz2, mz3, Act.put, mz4, mz5, mz6]
    refine wpAnyH_ready (rs := [8]) (by kernel_rfl) (by simp) ?_
    refine AllReadyH.cons rfl (fun KK hKK => ?_) AllReadyH.nil
    go_simp
    obtain ⟨x3, HWx3⟩ : ∃ x, Hid (x = x2.alloc (.cells #[.int .i64 0, .int .i64 0, .slice none 0 0] 24)) := ⟨_, rfl⟩
    rw [← HWx3.out]
    have hb : Below x2.heap.size x2 x3 := by rw [HWx3.out]; exact qa1 _ _
    have HT_x3 : Hid (Vr x3 x2.heap.size (.int .i64 0) (.int .i64 0) (.slice none 0 0)) := by rw [HWx3.out]; exact Vr.new x2 _ _ _
    have HB_x3 : Hid (Below wb.heap.size wb x3) := qa0 HB_x2.out hb
    have HVg_x3 : Hid (Vr x3 b1 (.int .i64 (r : Int)) (.int .i64 (c : Int)) (.slice a n k)) := HVg_x2.out.later hb
    have HVt_x3 : Hid (Vr x3 bt (.int .i64 (K : Int)) (.int .i64 (c : Int)) (.slice (some ⟨g2, 0, none⟩) N N)) := HVt_x2.out.later hb
    have HVz_x3 : Hid (Vr x3 w.heap.size (.int .i64 0) (.int .i64 0) (.slice none 0 0)) := HVz_x2.out.later hb
    have HO_x3 : Hid (RowAt x3 g2 5 N (pkf F z c)) := HO_x2.out.later hb
    have HD_x3 : Hid (x3.cell? ⟨b1, 0, none⟩ = some (.int .i64 (r : Int)) ∧ x3.cell? ⟨b1, 1, none⟩ = some (.int .i64 (c : Int)) ∧ x3.cell? ⟨b1, 2, none⟩ = some (.slice a n k) ∧ x3.cell? ⟨bt, 0, none⟩ = some (.int .i64 (K : Int)) ∧ x3.cell? ⟨bt, 1, none⟩ = some (.int .i64 (c : Int)) ∧ x3.cell? ⟨bt, 2, none⟩ = some (.slice (some ⟨g2, 0, none⟩) N N)) := ⟨HVg_x3.out.c0, HVg_x3.out.c1, HVg_x3.out.c2, HVt_x3.out.c0, HVt_x3.out.c1, HVt_x3.out.c2⟩
    have HM_x3 : Hid (RowAt x3 g6 5 Q (prk (pkf F z c) O c r c)) := HM_x2.out.later hb
    clear hb
    refine hKK.out _ _ HD_x3.out (fun _ => ?_)
    clear hKK KK
    try simp only [mz1, mz2, mz3, Act.put, mz4, mz5, mz6]
    refine wpAnyH_ready (rs := [9]) (by kernel_rfl) (by simp) ?_
    refine AllReadyH.cons rfl (fun KK hKK => ?_) AllReadyH.nil
    refine qab rfl _ _ rfl x2.heap.size _ _ _ (.int .i64 (K : Int)) (.int .i64 (r : Int)) (.slice (some ⟨g6, 0, none⟩) Q Q) rfl rfl HT_x3.out rfl rfl rfl ?_
    intro x4 HV_x4 HG
    have hbB := HB_x2.out.size
    have HB_x4 : Hid (Below wb.heap.size wb x4) := qa4 HB_x3.out HG.out hbB
    have HVg_x4 : Hid (Vr x4 b1 (.int .i64 (r : Int)) (.int .i64 (c : Int)) (.slice a n k)) := HVg_x3.out.kept HG.out (by have := HVg_x2.out.lt; omega)
    have HVt_x4 : Hid (Vr x4 bt (.int .i64 (K : Int)) (.int .i64 (c : Int)) (.slice (some ⟨g2, 0, none⟩) N N)) := HVt_x3.out.kept HG.out (by have := HVt_x2.out.lt; omega)
    have HVz_x4 : Hid (Vr x4 w.heap.size (.int .i64 0) (.int .i64 0) (.slice none 0 0)) := HVz_x3.out.kept HG.out (by have := HVz_x2.out.lt; omega)
    have HD_x4 : Hid (x4.cell? ⟨b1, 0, none⟩ = some (.int .i64 (r : Int)) ∧ x4.cell? ⟨b1, 1, none⟩ = some (.int .i64 (c : Int)) ∧ x4.cell? ⟨b1, 2, none⟩ = some (.slice a n k) ∧ x4.cell? ⟨bt, 0, none⟩ = some (.int .i64 (K : Int)) ∧ x4.cell? ⟨bt, 1, none⟩ = some (.int .i64 (c : Int)) ∧ x4.cell? ⟨bt, 2, none⟩ = some (.slice (some ⟨g2, 0, none⟩) N N)) := ⟨HVg_x4.out.c0, HVg_x4.out.c1, HVg_x4.out.c2, HVt_x4.out.c0, HVt_x4.out.c1, HVt_x4.out.c2⟩
    have HM_x4 : Hid (RowAt x4 g6 5 Q (prk (pkf F z c) O c r c)) := HM_x3.out.kept HG.out (by have := HM_x2.out.lt; omega)
    refine hKK.out _ _ HD_x4.out (fun _ => ?_)
    clear hKK KK
    try simp only [mz1, mz2, mz3, Act.put]
    refine wtkq 10 ?vr7 rfl (by kernel_rfl) (fun _ _ _ h => h) (by rfl) ?yr7 HD_x4.out ?zr7
    case yr7 => (intro w hSw; (try dsimp only at hSw); go_simp; try with_reducible rfl)
    try simp only [mz1, mz2, mz3, Act.put, mz4, mz5, mz6]
    refine wpAnyH_done (by kernel_rfl) ?_ _
    have t0 := HV_x4.out.c0
    have t1 := HV_x4.out.c1
    have t2 := HV_x4.out.c2
    have hgw : wb.heap.size ≤ g6 := by have h1 := HL6.out; have h2 := HB_x1.out.size; omega
    go_wp2_with (refine qa2 rfl _ _ rfl w.heap.size _ _ _ (.int .i64 (K : Int)) (.int .i64 (r : Int)) (.slice (some ⟨g6, 0, none⟩) Q Q) rfl rfl HVz_x4.out rfl rfl rfl ?_; intro w9 HV9 HG9)
    have d0 := HV9.out.c0
    have d1 := HV9.out.c1
    have d2 := HV9.out.c2
    refine bodyPost_ret (v := mv K r (some ⟨g6, 0, none⟩) Q Q) (by simp [results, Tryz.results21, go_sem, d0, d1, d2, mv]) rfl ?_
    have hbz := HBb.out.size
    have hzl := HVz.out.lt
    exact ⟨g6, _, rfl, HM_x4.out.kept HG9.out (by omega), by omega, ⟨O, HDp.out, fun _ _ => rfl⟩, qa4 (qa0 HBb.out HB_x4.out) HG9.out (by omega)⟩
   ·go_simp
    obtain ⟨x2, HWx2⟩ : ∃ x, Hid (x = x1.alloc (.cells #[.int .i64 0, .int .i64 0, .slice none 0 0] 24)) := ⟨_, rfl⟩
    rw [← HWx2.out]
    have hb : Below x1.heap.size x1 x2 := by rw [HWx2.out]; exact qa1 _ _
    have HT_x2 : Hid (Vr x2 x1.heap.size (.int .i64 0) (.int .i64 0) (.slice none 0 0)) := by rw [HWx2.out]; exact Vr.new x1 _ _ _
    have HB_x2 : Hid (Below wb.heap.size wb x2) := qa0 HB_x1.out hb
    have HVg_x2 : Hid (Vr x2 b1 (.int .i64 (r : Int)) (.int .i64 (c : Int)) (.slice a n k)) := HVg_x1.out.later hb
    have HVt_x2 : Hid (Vr x2 bt (.int .i64 (K : Int)) (.int .i64 (c : Int)) (.slice (some ⟨g2, 0, none⟩) N N)) := HVt_x1.out.later hb
    have HVz_x2 : Hid (Vr x2 w.heap.size (.int .i64 0) (.int .i64 0) (.slice none 0 0)) := HVz_x1.out.later hb
    have HO_x2 : Hid (RowAt x2 g2 5 N (pkf F z c)) := HO_x1.out.later hb
    have HD_x2 : Hid (x2.cell? ⟨b1, 0, none⟩ = some (.int .i64 (r : Int)) ∧ x2.cell? ⟨b1, 1, none⟩ = some (.int .i64 (c : Int)) ∧ x2.cell? ⟨b1, 2, none⟩ = some (.slice a n k) ∧ x2.cell? ⟨bt, 0, none⟩ = some (.int .i64 (K : Int)) ∧ x2.cell? ⟨bt, 1, none⟩ = some (.int .i64 (c : Int)) ∧ x2.cell? ⟨bt, 2, none⟩ = some (.slice (some ⟨g2, 0, none⟩) N N)) := ⟨HVg_x2.out.c0, HVg_x2.out.c1, HVg_x2.out.c2, HVt_x2.out.c0, HVt_x2.out.c1, HVt_x2.out.c2⟩
    have HI_x2 : Hid (RowAt x2 gd 5 L O) := HI_x1.out.later hb
    clear hb
    refine hKK.out _ _ HD_x2.out (fun _ => ?_)
    clear hKK KK
    try simp only [mz1, mz2, mz3, Act.put, mz4, mz5, mz6]
    refine wpAnyH_ready (rs := [4]) (by kernel_rfl) (by simp) ?_
    refine AllReadyH.cons rfl (fun KK hKK => ?_) AllReadyH.nil
    go_simp
    refine (qfb _ K c r N L Q N L (some ⟨g2, 0, none⟩) (some ⟨gd, 0, none⟩) (pkf F z c) O (HO_x2.out.mt HPe.out) (HI_x2.out.mt (by rw [← HL.out]; exact HOe.out)) RN.out RL.out RQ.out).mono ?_
    rintro e x3 ⟨g6, rfl, hr6, hg6, hb⟩
    have HM_x3 : Hid (RowAt x3 g6 5 Q (prk (pkf F z c) O c r c)) := hr6
    have HL6 : Hid (x2.heap.size ≤ g6) := hg6
    clear hr6 hg6
    have HB_x3 : Hid (Below wb.heap.size wb x3) := qa0 HB_x2.out hb
    have HVg_x3 : Hid (Vr x3 b1 (.int .i64 (r : Int)) (.int .i64 (c : Int)) (.slice a n k)) := HVg_x2.out.later hb
    have HVt_x3 : Hid (Vr x3 bt (.int .i64 (K : Int)) (.int .i64 (c : Int)) (.slice (some ⟨g2, 0, none⟩) N N)) := HVt_x2.out.later hb
    have HVz_x3 : Hid (Vr x3 w.heap.size (.int .i64 0) (.int .i64 0) (.slice none 0 0)) := HVz_x2.out.later hb
    have HO_x3 : Hid (RowAt x3 g2 5 N (pkf F z c)) := HO_x2.out.later hb
    have HD_x3 : Hid (x3.cell? ⟨b1, 0, none⟩ = some (.int .i64 (r : Int)) ∧ x3.cell? ⟨b1, 1, none⟩ = some (.int .i64 (c : Int)) ∧ x3.cell? ⟨b1, 2, none⟩ = some (.slice a n k) ∧ x3.cell? ⟨bt, 0, none⟩ = some (.int .i64 (K : Int)) ∧ x3.cell? ⟨bt, 1, none⟩ = some (.int .i64 (c : Int)) ∧ x3.cell? ⟨bt, 2, none⟩ = some (.slice (some ⟨g2, 0, none⟩) N N)) := ⟨HVg_x3.out.c0, HVg_x3.out.c1, HVg_x3.out.c2, HVt_x3.out.c0, HVt_x3.out.c1, HVt_x3.out.c2⟩
    have HT_x3 : Hid (Vr x3 x1.heap.size (.int .i64 0) (.int .i64 0) (.slice none 0 0)) := HT_x2.out.later hb
    clear hb
    refine hKK.out _ _ HD_x3.out (fun _ => ?_)
    clear hKK KK
    try simp only [mz1, mz2, mz3, Act.put, mz4, mz5, mz6]
    refine wtkq 5 ?vr8 rfl (by kernel_rfl) (fun _ _ _ h => h) (by rfl) ?yr8 HD_x3.out ?zr8
    case yr8 => (intro w hSw; (try dsimp only at hSw); go_simp; try with_reducible rfl)
    try simp only [mz1, mz2, mz3, Act.put, mz4, mz5, mz6]
    refine wtkq 6 ?vr9 rfl (by kernel_rfl) (fun _ _ _ h => h) (by rfl) ?yr9 HD_x3.out ?zr9
    case yr9 => (intro w hSw; (try dsimp only at hSw); go_simp; try with_reducible rfl)
    try simp only [mz1, mz2, mz3, Act.put, mz4, mz5, mz6]
    refine wtkq 7 ?vr10 rfl (by kernel_rfl) (fun _ _ _ h => h) (by rfl) ?yr10 HD_x3.out ?zr10
    case yr10 => (intro w hSw; (try dsimp only at hSw); go_simp; try with_reducible rfl)
    try simp only [mz1, mz2, mz3, Act.put, mz4, mz5, mz6]
    refine wpAnyH_ready (rs := [9]) (by kernel_rfl) (by simp) ?_
    refine AllReadyH.cons rfl (fun KK hKK => ?_) AllReadyH.nil
    refine qab rfl _ _ rfl x1.heap.size _ _ _ (.int .i64 (K : Int)) (.int .i64 (r : Int)) (.slice (some ⟨g6, 0, none⟩) Q Q) rfl rfl HT_x3.out rfl rfl rfl ?_
    intro x4 HV_x4 HG
    have hbB := HB_x1.out.size
    have HB_x4 : Hid (Below wb.heap.size wb x4) := qa4 HB_x3.out HG.out hbB
    have HVg_x4 : Hid (Vr x4 b1 (.int .i64 (r : Int)) (.int .i64 (c : Int)) (.slice a n k)) := HVg_x3.out.kept HG.out (by have := HVg_x1.out.lt; omega)
    have HVt_x4 : Hid (Vr x4 bt (.int .i64 (K : Int)) (.int .i64 (c : Int)) (.slice (some ⟨g2, 0, none⟩) N N)) := HVt_x3.out.kept HG.out (by have := HVt_x1.out.lt; omega)
    have HVz_x4 : Hid (Vr x4 w.heap.size (.int .i64 0) (.int .i64 0) (.slice none 0 0)) := HVz_x3.out.kept HG.out (by have := HVz_x1.out.lt; omega)
    have HD_x4 : Hid (x4.cell? ⟨b1, 0, none⟩ = some (.int .i64 (r : Int)) ∧ x4.cell? ⟨b1, 1, none⟩ = some (.int .i64 (c : Int)) ∧ x4.cell? ⟨b1, 2, none⟩ = some (.slice a n k) ∧ x4.cell? ⟨bt, 0, none⟩ = some (.int .i64 (K : Int)) ∧ x4.cell? ⟨bt, 1, none⟩ = some (.int .i64 (c : Int)) ∧ x4.cell? ⟨bt, 2, none⟩ = some (.slice (some ⟨g2, 0, none⟩) N N)) := ⟨HVg_x4.out.c0, HVg_x4.out.c1, HVg_x4.out.c2, HVt_x4.out.c0, HVt_x4.out.c1, HVt_x4.out.c2⟩
    have HM_x4 : Hid (RowAt x4 g6 5 Q (prk (pkf F z c) O c r c)) := HM_x3.out.kept HG.out (by have h1 := HL6.out; have h2 := HT_x2.out.lt; omega)
    refine hKK.out _ _ HD_x4.out (fun _ => ?_)
    clear hKK KK
    try simp only [mz1, mz2, mz3, Act.put]
    refine wtkq 10 ?vr11 rfl (by kernel_rfl) (fun _ _ _ h => h) (by rfl) ?yr11 HD_x4.out ?zr11
    case yr11 => (intro w hSw; (try dsimp only at hSw); go_simp; try with_reducible rfl)
    try simp only [mz1, mz2, mz3, Act.put, mz4, mz5, mz6]
    refine wpAnyH_done (by kernel_rfl) ?_ _
    have t0 := HV_x4.out.c0
    have t1 := HV_x4.out.c1
    have t2 := HV_x4.out.c2
    have hgw : wb.heap.size ≤ g6 := by have h1 := HL6.out; have h2 := HB_x2.out.size; omega
    go_wp2_with (refine qa2 rfl _ _ rfl w.heap.size _ _ _ (.int .i64 (K : Int)) (.int .i64 (r : Int)) (.slice (some ⟨g6, 0, none⟩) Q Q) rfl rfl HVz_x4.out rfl rfl rfl ?_; intro w9 HV9 HG9)
    have d0 := HV9.out.c0
    have d1 := HV9.out.c1
    have d2 := HV9.out.c2
    refine bodyPost_ret (v := mv K r (some ⟨g6, 0, none⟩) Q Q) (by simp [results, Tryz.results21, go_sem, d0, d1, d2, mv]) rfl ?_
    have hbz := HBb.out.size
    have hzl := HVz.out.lt
    exact ⟨g6, _, rfl, HM_x4.out.kept HG9.out (by omega), by omega, ⟨O, HDp.out, fun _ _ => rfl⟩, qa4 (qa0 HBb.out HB_x4.out) HG9.out (by omega)⟩
  ·go_simp
   obtain ⟨x1, HWx1⟩ : ∃ x, Hid (x = x0.alloc (.cells #[.int .i64 0, .int .i64 0, .slice none 0 0] 24)) := ⟨_, rfl⟩
   rw [← HWx1.out]
   have hb : Below x0.heap.size x0 x1 := by rw [HWx1.out]; exact qa1 _ _
   have HT_x1 : Hid (Vr x1 x0.heap.size (.int .i64 0) (.int .i64 0) (.slice none 0 0)) := by rw [HWx1.out]; exact Vr.new x0 _ _ _
   have HB_x1 : Hid (Below wb.heap.size wb x1) := qa0 HB_x0.out hb
   have HVg_x1 : Hid (Vr x1 b1 (.int .i64 (r : Int)) (.int .i64 (c : Int)) (.slice a n k)) := HVg_x0.out.later hb
   have HVt_x1 : Hid (Vr x1 bt (.int .i64 (K : Int)) (.int .i64 (c : Int)) (.slice (some ⟨g2, 0, none⟩) N N)) := HVt_x0.out.later hb
   have HVz_x1 : Hid (Vr x1 w.heap.size (.int .i64 0) (.int .i64 0) (.slice none 0 0)) := HVz_x0.out.later hb
   have HO_x1 : Hid (RowAt x1 g2 5 N (pkf F z c)) := HO_x0.out.later hb
   have HD_x1 : Hid (x1.cell? ⟨b1, 0, none⟩ = some (.int .i64 (r : Int)) ∧ x1.cell? ⟨b1, 1, none⟩ = some (.int .i64 (c : Int)) ∧ x1.cell? ⟨b1, 2, none⟩ = some (.slice a n k) ∧ x1.cell? ⟨bt, 0, none⟩ = some (.int .i64 (K : Int)) ∧ x1.cell? ⟨bt, 1, none⟩ = some (.int .i64 (c : Int)) ∧ x1.cell? ⟨bt, 2, none⟩ = some (.slice (some ⟨g2, 0, none⟩) N N)) := ⟨HVg_x1.out.c0, HVg_x1.out.c1, HVg_x1.out.c2, HVt_x1.out.c0, HVt_x1.out.c1, HVt_x1.out.c2⟩
   clear hb
   refine hKK.out _ _ HD_x1.out (fun _ => ?_)
   clear hKK KK
   try simp only [mz1, mz2, mz3, Act.put, mz4, mz5, mz6]
   refine wpAnyH_ready (rs := [3]) (by kernel_rfl) (by simp) ?_
   refine AllReadyH.cons rfl (fun KK hKK => ?_) AllReadyH.nil
   go_simp
   refine (HDe.out _ (qa0 HBb.out HB_x1.out)).mono ?_
   rintro e x2 ⟨gd, O, rfl, hr, _, hd, hb⟩
   have HI_x2 : Hid (RowAt x2 gd 5 L O) := hr
   have HDp := qal hd
   have HOe := qal hd.el
   clear hr hd
   have HB_x2 : Hid (Below wb.heap.size wb x2) := qa0 HB_x1.out hb
   have HVg_x2 : Hid (Vr x2 b1 (.int .i64 (r : Int)) (.int .i64 (c : Int)) (.slice a n k)) := HVg_x1.out.later hb
   have HVt_x2 : Hid (Vr x2 bt (.int .i64 (K : Int)) (.int .i64 (c : Int)) (.slice (some ⟨g2, 0, none⟩) N N)) := HVt_x1.out.later hb
   have HVz_x2 : Hid (Vr x2 w.heap.size (.int .i64 0) (.int .i64 0) (.slice none 0 0)) := HVz_x1.out.later hb
   have HO_x2 : Hid (RowAt x2 g2 5 N (pkf F z c)) := HO_x1.out.later hb
   have HD_x2 : Hid (x2.cell? ⟨b1, 0, none⟩ = some (.int .i64 (r : Int)) ∧ x2.cell? ⟨b1, 1, none⟩ = some (.int .i64 (c : Int)) ∧ x2.cell? ⟨b1, 2, none⟩ = some (.slice a n k) ∧ x2.cell? ⟨bt, 0, none⟩ = some (.int .i64 (K : Int)) ∧ x2.cell? ⟨bt, 1, none⟩ = some (.int .i64 (c : Int)) ∧ x2.cell? ⟨bt, 2, none⟩ = some (.slice (some ⟨g2, 0, none⟩) N N)) := ⟨HVg_x2.out.c0, HVg_x2.out.c1, HVg_x2.out.c2, HVt_x2.out.c0, HVt_x2.out.c1, HVt_x2.out.c2⟩
   have HT_x2 : Hid (Vr x2 x0.heap.size (.int .i64 0) (.int .i64 0) (.slice none 0 0)) := HT_x1.out.later hb
   clear hb
   refine hKK.out _ _ HD_x2.out (fun _ => ?_)
   clear hKK KK
   try simp only [mz1, mz2, mz3, Act.put, mz4, mz5, mz6]
   refine wpAnyH_ready (rs := [4]) (by kernel_rfl) (by simp) ?_
   refine AllReadyH.cons rfl (fun KK hKK => ?_) AllReadyH.nil
   go_simp
   refine (qfb _ K c r N L Q N L (some ⟨g2, 0, none⟩) (some ⟨gd, 0, none⟩) (pkf F z c) O (HO_x2.out.mt HPe.out) (HI_x2.out.mt (by rw [← HL.out]; exact HOe.out)) RN.out RL.out RQ.out).mono ?_
   rintro e x3 ⟨g6, rfl, hr6, hg6, hb⟩
   have HM_x3 : Hid (RowAt x3 g6 5 Q (prk (pkf F z c) O c r c)) := hr6
   have HL6 : Hid (x2.heap.size ≤ g6) := hg6
   clear hr6 hg6
   have HB_x3 : Hid (Below wb.heap.size wb x3) := qa0 HB_x2.out hb
   have HVg_x3 : Hid (Vr x3 b1 (.int .i64 (r : Int)) (.int .i64 (c : Int)) (.slice a n k)) := HVg_x2.out.later hb
   have HVt_x3 : Hid (Vr x3 bt (.int .i64 (K : Int)) (.int .i64 (c : Int)) (.slice (some ⟨g2, 0, none⟩) N N)) := HVt_x2.out.later hb
   have HVz_x3 : Hid (Vr x3 w.heap.size (.int .i64 0) (.int .i64 0) (.slice none 0 0)) := HVz_x2.out.later hb
   have HO_x3 : Hid (RowAt x3 g2 5 N (pkf F z c)) := HO_x2.out.later hb
   have HD_x3 : Hid (x3.cell? ⟨b1, 0, none⟩ = some (.int .i64 (r : Int)) ∧ x3.cell? ⟨b1, 1, none⟩ = some (.int .i64 (c : Int)) ∧ x3.cell? ⟨b1, 2, none⟩ = some (.slice a n k) ∧ x3.cell? ⟨bt, 0, none⟩ = some (.int .i64 (K : Int)) ∧ x3.cell? ⟨bt, 1, none⟩ = some (.int .i64 (c : Int)) ∧ x3.cell? ⟨bt, 2, none⟩ = some (.slice (some ⟨g2, 0, none⟩) N N)) := ⟨HVg_x3.out.c0, HVg_x3.out.c1, HVg_x3.out.c2, HVt_x3.out.c0, HVt_x3.out.c1, HVt_x3.out.c2⟩
   have HT_x3 : Hid (Vr x3 x0.heap.size (.int .i64 0) (.int .i64 0) (.slice none 0 0)) := HT_x2.out.later hb
   clear hb
   refine hKK.out _ _ HD_x3.out (fun _ => ?_)
   clear hKK KK
   try simp only [mz1, mz2, mz3, Act.put, mz4, mz5, mz6]
   refine wtkq 5 ?vr12 rfl (by kernel_rfl) (fun _ _ _ h => h) (by rfl) ?yr12 HD_x3.out ?zr12
   case yr12 => (intro w hSw; (try dsimp only at hSw); go_simp; try with_reducible rfl)
   try simp only [mz1, mz2, mz3, Act.put, mz4, mz5, mz6]
   refine wtkq 6 ?vr13 rfl (by kernel_rfl) (fun _ _ _ h => h) (by rfl) ?yr13 HD_x3.out ?zr13
   case yr13 => (intro w hSw; (try dsimp only at hSw); go_simp; try with_reducible rfl)
   try simp only [mz1, mz2, mz3, Act.put, mz4, mz5, mz6]
   refine wtkq 7 ?vr14 rfl (by kernel_rfl) (fun _ _ _ h => h) (by rfl) ?yr14 HD_x3.out ?zr14
   case yr14 => (intro w hSw; (try dsimp only at hSw); go_simp; try with_reducible rfl)
   try simp only [mz1, mz2, mz3, Act.put, mz4, mz5, mz6]
   refine wpAnyH_ready (rs := [9]) (by kernel_rfl) (by simp) ?_
   refine AllReadyH.cons rfl (fun KK hKK => ?_) AllReadyH.nil
   refine qab rfl _ _ rfl x0.heap.size _ _ _ (.int .i64 (K : Int)) (.int .i64 (r : Int)) (.slice (some ⟨g6, 0, none⟩) Q Q) rfl rfl HT_x3.out rfl rfl rfl ?_
   intro x4 HV_x4 HG
   have hbB := HB_x0.out.size
   have HB_x4 : Hid (Below wb.heap.size wb x4) := qa4 HB_x3.out HG.out hbB
   have HVg_x4 : Hid (Vr x4 b1 (.int .i64 (r : Int)) (.int .i64 (c : Int)) (.slice a n k)) := HVg_x3.out.kept HG.out (by have := HVg_x0.out.lt; omega)
   have HVt_x4 : Hid (Vr x4 bt (.int .i64 (K : Int)) (.int .i64 (c : Int)) (.slice (some ⟨g2, 0, none⟩) N N)) := HVt_x3.out.kept HG.out (by have := HVt_x0.out.lt; omega)
   have HVz_x4 : Hid (Vr x4 w.heap.size (.int .i64 0) (.int .i64 0) (.slice none 0 0)) := HVz_x3.out.kept HG.out (by have := HVz_x0.out.lt; omega)
   have HD_x4 : Hid (x4.cell? ⟨b1, 0, none⟩ = some (.int .i64 (r : Int)) ∧ x4.cell? ⟨b1, 1, none⟩ = some (.int .i64 (c : Int)) ∧ x4.cell? ⟨b1, 2, none⟩ = some (.slice a n k) ∧ x4.cell? ⟨bt, 0, none⟩ = some (.int .i64 (K : Int)) ∧ x4.cell? ⟨bt, 1, none⟩ = some (.int .i64 (c : Int)) ∧ x4.cell? ⟨bt, 2, none⟩ = some (.slice (some ⟨g2, 0, none⟩) N N)) := ⟨HVg_x4.out.c0, HVg_x4.out.c1, HVg_x4.out.c2, HVt_x4.out.c0, HVt_x4.out.c1, HVt_x4.out.c2⟩
   have HM_x4 : Hid (RowAt x4 g6 5 Q (prk (pkf F z c) O c r c)) := HM_x3.out.kept HG.out (by have h1 := HL6.out; have h2 := HT_x2.out.lt; omega)
   refine hKK.out _ _ HD_x4.out (fun _ => ?_)
   clear hKK KK
   try simp only [mz1, mz2, mz3, Act.put]
   refine wtkq 10 ?vr15 rfl (by kernel_rfl) (fun _ _ _ h => h) (by rfl) ?yr15 HD_x4.out ?zr15
   case yr15 => (intro w hSw; (try dsimp only at hSw); go_simp; try with_reducible rfl)
   try simp only [mz1, mz2, mz3, Act.put, mz4, mz5, mz6]
   refine wpAnyH_done (by kernel_rfl) ?_ _
   have t0 := HV_x4.out.c0
   have t1 := HV_x4.out.c1
   have t2 := HV_x4.out.c2
   have hgw : wb.heap.size ≤ g6 := by have h1 := HL6.out; have h2 := HB_x2.out.size; omega
   go_wp2_with (refine qa2 rfl _ _ rfl w.heap.size _ _ _ (.int .i64 (K : Int)) (.int .i64 (r : Int)) (.slice (some ⟨g6, 0, none⟩) Q Q) rfl rfl HVz_x4.out rfl rfl rfl ?_; intro w9 HV9 HG9)
   have d0 := HV9.out.c0
   have d1 := HV9.out.c1
   have d2 := HV9.out.c2
   refine bodyPost_ret (v := mv K r (some ⟨g6, 0, none⟩) Q Q) (by simp [results, Tryz.results21, go_sem, d0, d1, d2, mv]) rfl ?_
   have hbz := HBb.out.size
   have hzl := HVz.out.lt
   exact ⟨g6, _, rfl, HM_x4.out.kept HG9.out (by omega), by omega, ⟨O, HDp.out, fun _ _ => rfl⟩, qa4 (qa0 HBb.out HB_x4.out) HG9.out (by omega)⟩
theorem vreb1_ok (w : World) (b1 b2 r c n k p s Q : Nat) (a : Option Addr) (F : Nat → Nat) (hv : Vr w b1 (.int .i64 (r : Int)) (.int .i64 (c : Int)) (.slice a n k)) (hl : Cl w b2 (.int .u64 (s : Int)) 26) (ha : Mt w a n k F) (R : Rt r c n) (hp6 : p < 2 ^ r) (hcn : cn p r = c) (hf : FreeS (m2 F r c) r p) (hs : s < 2 ^ r) (HQ : Hid (cn s r * r = Q)) :
  Calls Tryz.prog 21 #[.int .u64 (p : Int), .pointer (some ⟨b1, 0, none⟩), .pointer (some ⟨b2, 0, none⟩)] w fun e w' => MadeP w w' e (cn s r) r Q (fun X => RebP F X s p r c) := by
 have hr := R.r64
 refine (vreb1_x w b1 b2 r c n k p s (c * r) (cn s r) Q a F (lf s r) hv hl ha R (Nat.le_trans (qbd r s) hr) rfl HQ (qfl (qb5 hr hs) (qc0 hr hs) (fun i _ => qep hr hs i)) (fun i hi => (qah hi).1) (fun w' hb => qeg w' r c n k p (c * r) a F (ha.later hb) R hp6 hcn hf rfl)).mono (fun e w' h => ?_)
 obtain ⟨g, X, h1, h2, h3, ⟨O, h4, h5⟩, h6⟩ := h
 exact ⟨g, X, h1, h2, h3, ⟨O, h4, by rw [HQ.out]; exact h5⟩, h6⟩
end Go.Proofs.YtokdejhbjoglcaaGreat
