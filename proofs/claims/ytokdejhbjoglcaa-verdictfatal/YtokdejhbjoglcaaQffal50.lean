/-
  VerdictFatal: where it is not recovered, something that is not nothing leaves all left blocks 0.
-/
import Derived.Test.YtokdejhbjoglcaaQffal00
import Derived.Test.YtokdejhbjoglcaaQffal49
import Derived.Test.YtokdejhbjoglcaaQffal23
import Derived.OrdersHeld
set_option maxRecDepth 100000
set_option maxHeartbeats 16000000
namespace Go.Proofs.Ytokdejhbjoglcaa
open Go.RowKit Go.Shelf
attribute [local go_sem] Oper.semAt_some
theorem qjs (w : World) (r c E : Int) (n k s q : Nat) (a : Option Addr) (hE : (E == 0) = false) (C : SayC w r c n k s a false q E) :
  Calls Try.prog 6 #[mv r c a n k, .int .u64 (s : Int)] w fun e w' => e = .returned (.bool true) ∧ Below w.heap.size w w' := by
 have hE3 : (E != 0) = true := by simp only [bne, hE]; rfl
 have HR := qbp C.vr
 have HG : Hid (∀ w' : World, Below w.heap.size w w' → Calls Try.prog 13 #[mv r c a n k, .int .u64 (s : Int)] w' fun e w'' => e = .returned (.bool false) ∧ Below w'.heap.size w' w'') := fun w' hb => lgen18 w' r c E n k s a false false hE (fun w'' hb2 => C.rr w'' (qa0 hb hb2))
 clear C
 go_enter Try.func6, Try.ntmps6
 go_wp2_with (first
  | (go_at_call 7; refine (HR.out _ (qa1 _ _)).mono ?_; rintro e w1 ⟨rfl, hb⟩; have HV1 : Hid (Vr w1 w.heap.size (.int .i64 r) (.int .i64 c) (.slice a n k)) := (Vr.new w _ _ _).later hb; have v0 := HV1.out.c0; have v1 := HV1.out.c1; have v2 := HV1.out.c2; have HB1 : Hid (Below w.heap.size w w1) := qa0 (qa1 _ _) hb; clear hb)
  | (go_at_call 13; refine (HG.out _ HB1.out).mono ?_; rintro e w2 ⟨rfl, hb⟩; have HB2 : Hid (Below w.heap.size w w2) := qa0 HB1.out hb; clear hb)
  | (go_at_call 14; refine (qh1 _).mono ?_; rintro e w3 ⟨rfl, hb⟩; have HB3 : Hid (Below w.heap.size w w3) := qa0 HB2.out hb; clear hb))
 go_ret
 exact ⟨rfl, HB3.out⟩
/-- How many rows the kernel of the left rows has. -/
theorem qjt {F G z p : Nat → Nat} {K c n r t top kr rk : Nat} (hF : ∀ i, i < n → F i < 256) (R : Rt r c n) (hK : cn t r = K) (hz : z = lf t r) (hk : RS (m2 F r c) r t rk)
  (hR : Rdf (m2 G K c) K top p) (hG : El2 (m2 G K c)) (hE : El2 (m2 (pkf F z c) K c)) (hS : SpEq (m2 G K c) K (m2 (pkf F z c) K c) K) (hp : ∀ i, i < top → p i < c) (hkr : kr = cnt (fre p top) c) : rk + kr = c := by
 subst hz
 have hM := qan hF R
 have h1 : Rk (m2 (pkf F (lf t r) c) K c) K rk := by
  have h := (qem hM).2 hk
  rw [hK] at h
  refine h.at (fun i j hi => ?_)
  by_cases hj : j < c
  ·rw [qap _ hi hj, qch F _ c i j hj, qap F (qad (by omega)).1 hj]
  ·rw [qah _ (by omega), qah _ (by omega)]
 have h2 : Rk (m2 (pkf F (lf t r) c) K c) K top := (hR.rk hG).span hS
 have h3 : rk = top := by
  exact h1.unique h2 (SpEq.refl hE K)
 subst h3
 rw [hkr]
 exact cnt_free hR.up hp
theorem fatal_ok (w : World) (r c n k s t q K : Nat) (a : Option Addr) (F z : Nat → Nat) (b : Bool) (ha : Mt w a n k F) (R : Rt r c n) (G : GenP r c n) (hta : bits .andNot .u64 ((2 ^ r - 1 : Nat) : Int) (s : Int) = (t : Int)) (hK : K ≤ 64) (C : SayC w r c n k s a b q 0)
  (HLs : Hid (∀ w' : World, Calls Try.prog 18 #[.int .u64 (t : Int)] w' fun e w'' => ∃ x d, e = .returned (.slice x K d) ∧ Il w'' x K (fun i => (z i : Int)) ∧ Below w'.heap.size w' w'')) (Hz : Hid (∀ i, i < K → z i < r))
  (HKk : ∀ (N : Nat) (w' : World) (s2 : Option Addr) (d2 : Nat), K * c = N → Mt w' s2 N d2 (pkf F z c) → Calls Try.prog 21 #[mv K c s2 N d2] w' fun e w'' => ∃ s5 d5 kr, e = .returned (.tuple #[mv (kr : Nat) c s5 (kr * c) d5, .int .i64 0]) ∧ (((kr : Int) == 0) = b) ∧ Below w'.heap.size w' w'') :
  Calls Try.prog 6 #[mv r c a n k, .int .u64 (s : Int)] w fun e w' => e = .returned (.bool true) ∧ Below w.heap.size w w' := by
 have HR := qbp C.vr
 have HG : Hid (∀ w' : World, Below w.heap.size w w' → Calls Try.prog 13 #[mv r c a n k, .int .u64 (s : Int)] w' fun e w'' => e = .returned (.bool true) ∧ Below w'.heap.size w' w'') := fun w' hb => lgen18 w' r c 0 n k s a b true rfl (fun w'' hb2 => C.rr w'' (qa0 hb hb2))
 have HGn : Hid (∀ w' : World, Calls Try.prog 22 #[mv r c a n k] w' fun e w'' => e = .returned (.bool true) ∧ Below w'.heap.size w' w'') := fun w' => qgw w' r c n k a true (by simp [G])
 obtain ⟨N, HN⟩ : ∃ N, Hid (K * c = N) := ⟨_, rfl⟩
 have HKer : Hid (∀ (w' : World) (s2 : Option Addr) (d2 : Nat), Mt w' s2 N d2 (pkf F z c) → Calls Try.prog 21 #[mv K c s2 N d2] w' fun e w'' => ∃ s5 d5 kr, e = .returned (.tuple #[mv (kr : Nat) c s5 (kr * c) d5, .int .i64 0]) ∧ (((kr : Int) == 0) = b) ∧ Below w'.heap.size w' w'') := fun w' s2 d2 h => HKk N w' s2 d2 HN.out h
 have HPe : Hid (∀ i, i < N → pkf F z c i < 256) := fun i hi => qex ha.sl.1 R Hz.out i (by rw [HN.out]; exact hi)
 have HA : Hid (Sl w a n F) := ha.sl
 have HRt : Hid (Rt r c n) := R
 have hr := R.r64
 obtain ⟨A, HAA⟩ : ∃ A : Nat, Hid ((2 ^ r - 1 : Nat) = A) := ⟨_, rfl⟩
 rw [HAA.out] at hta
 clear C ha R G HKk
 go_enter Try.func6, Try.ntmps6
 go_wp2_with (first
  | (go_at_call 7; refine (HR.out _ (qa1 _ _)).mono ?_; rintro e w1 ⟨rfl, hb⟩; have HV1 : Hid (Vr w1 w.heap.size (.int .i64 (r : Int)) (.int .i64 (c : Int)) (.slice a n k)) := (Vr.new w _ _ _).later hb; have v0 := HV1.out.c0; have v1 := HV1.out.c1; have v2 := HV1.out.c2; have HB1 : Hid (Below w.heap.size w w1) := qa0 (qa1 _ _) hb; clear hb)
  | (go_at_call 13; refine (HG.out _ HB1.out).mono ?_; rintro e w2 ⟨rfl, hb⟩; have HV2 : Hid (Vr w2 w.heap.size (.int .i64 (r : Int)) (.int .i64 (c : Int)) (.slice a n k)) := HV1.out.later hb; have u0 := HV2.out.c0; have u1 := HV2.out.c1; have u2 := HV2.out.c2; have HB2 : Hid (Below w.heap.size w w2) := qa0 HB1.out hb; clear hb)
  | (go_at_call 19; refine (qd8 r _ hr).mono ?_; rintro e w' ⟨rfl, rfl⟩; rw [HAA.out]))
 refine wp_region_held (S := fun w' => w'.cell? ⟨w.heap.size, 0, none⟩ = some (.int .i64 (r : Int)) ∧ w'.cell? ⟨w.heap.size, 1, none⟩ = some (.int .i64 (c : Int)) ∧ w'.cell? ⟨w.heap.size, 2, none⟩ = some (.slice a n k)) (by kernel_rfl) ?_
 change wpAnyH _ _ _ _ _ _ _ _ (World.drew _)
 obtain ⟨x0, HX0⟩ : ∃ x, Hid (x = w2.drew) := ⟨_, rfl⟩
 rw [← HX0.out]
 have HB_x0 : Hid (Below w.heap.size w x0) := by rw [HX0.out]; exact HB2.out.drew
 have HV_gx0 : Hid (Vr x0 w.heap.size (.int .i64 (r : Int)) (.int .i64 (c : Int)) (.slice a n k)) := by rw [HX0.out]; exact HV2.out.later (Below.refl _ _).drew
 have HD_x0 : Hid (x0.cell? ⟨w.heap.size, 0, none⟩ = some (.int .i64 (r : Int)) ∧ x0.cell? ⟨w.heap.size, 1, none⟩ = some (.int .i64 (c : Int)) ∧ x0.cell? ⟨w.heap.size, 2, none⟩ = some (.slice a n k)) := ⟨HV_gx0.out.c0, HV_gx0.out.c1, HV_gx0.out.c2⟩
 refine wtkq 0 ?vq1 rfl (by kernel_rfl) (fun _ _ _ h => h) (by rfl) ?yq1 HD_x0.out ?zq1
 case yq1 => (intro w hSw; (try dsimp only at hSw); go_simp; try with_reducible rfl)
 try simp only [mz1, mz3, Act.put, mz4, mz5, mz6]
 refine wtkq 1 ?vq2 rfl (by kernel_rfl) (fun _ _ _ h => h) (by rfl) ?yq2 HD_x0.out ?zq2
 case yq2 => (intro w hSw; (try dsimp only at hSw); go_simp; try with_reducible rfl)
 try simp only [mz1, mz2, mz3, Act.put, mz4, mz5, mz6]
 refine wtkq 2 ?vq3 rfl (by kernel_rfl) (fun _ _ _ h => h) (by rfl) ?yq3 HD_x0.out ?zq3
 case yq3 => (intro w hSw; (try dsimp only at hSw); go_simp; try with_reducible rfl)
 try simp only [mz1, mz2, mz3, Act.put, mz4, mz5, mz6]
 refine wtkq 3 ?vq4 rfl (by kernel_rfl) (fun _ _ _ h => h) (by rfl) ?yq4 HD_x0.out ?zq4
 case yq4 => (intro w hSw; (try dsimp only at hSw); go_simp; try with_reducible rfl)
 try simp only [mz1, mz2, mz3, Act.put, mz4, mz5, mz6]
 refine wpAnyH_ready (rs := [4, 9]) (by kernel_rfl) (by simp) ?_
 refine AllReadyH.cons rfl (fun KK hKK => ?_) (AllReadyH.cons rfl (fun KK hKK => ?_) AllReadyH.nil)
 ·go_simp
  refine (HLs.out _).mono ?_
  rintro e x1 ⟨xs, d, rfl, hi, hb⟩
  have HI_x1 : Hid (Il x1 xs K (fun i => (z i : Int))) := hi
  clear hi
  have HB_x1 : Hid (Below w.heap.size w x1) := qa0 HB_x0.out hb
  have HV_gx1 : Hid (Vr x1 w.heap.size (.int .i64 (r : Int)) (.int .i64 (c : Int)) (.slice a n k)) := HV_gx0.out.later hb
  have HD_x1 : Hid (x1.cell? ⟨w.heap.size, 0, none⟩ = some (.int .i64 (r : Int)) ∧ x1.cell? ⟨w.heap.size, 1, none⟩ = some (.int .i64 (c : Int)) ∧ x1.cell? ⟨w.heap.size, 2, none⟩ = some (.slice a n k)) := ⟨HV_gx1.out.c0, HV_gx1.out.c1, HV_gx1.out.c2⟩
  clear hb
  refine hKK.out _ _ HD_x1.out (fun _ => ?_)
  clear hKK KK
  try simp only [mz1, mz2, mz3, Act.put, mz4, mz5, mz6]
  refine wpAnyH_ready (rs := [5, 9]) (by kernel_rfl) (by simp) ?_
  refine AllReadyH.cons rfl (fun KK hKK => ?_) (AllReadyH.cons rfl (fun KK hKK => ?_) AllReadyH.nil)
  ·go_simp
   refine (qbj _ r c n k K d N a xs F z (HA.out.later HB_x1.out) HRt.out HI_x1.out Hz.out hK HN).mono ?_
   rintro e x2 ⟨s2, d2, rfl, ho, hb⟩
   have HO_x2 : Hid (x2.ownsRow x1.heap.size 5 1 (.slice s2 N d2) N (row N (pkf F z c)).toList) := ho
   clear ho
   have HB_x2 : Hid (Below w.heap.size w x2) := qa0 HB_x1.out hb
   have HV_gx2 : Hid (Vr x2 w.heap.size (.int .i64 (r : Int)) (.int .i64 (c : Int)) (.slice a n k)) := HV_gx1.out.later hb
   have HD_x2 : Hid (x2.cell? ⟨w.heap.size, 0, none⟩ = some (.int .i64 (r : Int)) ∧ x2.cell? ⟨w.heap.size, 1, none⟩ = some (.int .i64 (c : Int)) ∧ x2.cell? ⟨w.heap.size, 2, none⟩ = some (.slice a n k)) := ⟨HV_gx2.out.c0, HV_gx2.out.c1, HV_gx2.out.c2⟩
   clear hb
   refine hKK.out _ _ HD_x2.out (fun _ => ?_)
   clear hKK KK
   try simp only [mz1, mz2, mz3, Act.put, mz4, mz5, mz6]
   refine wtkq 6 ?vq5 rfl (by kernel_rfl) (fun _ _ _ h => h) (by rfl) ?yq5 HD_x2.out ?zq5
   case yq5 => (intro w hSw; (try dsimp only at hSw); go_simp; try with_reducible rfl)
   try simp only [mz1, mz2, mz3, Act.put, mz4, mz5, mz6]
   refine wtkq 7 ?vq6 rfl (by kernel_rfl) (fun _ _ _ h => h) (by rfl) ?yq6 HD_x2.out ?zq6
   case yq6 => (intro w hSw; (try dsimp only at hSw); go_simp; try with_reducible rfl)
   try simp only [mz1, mz2, mz3, Act.put, mz4, mz5, mz6]
   refine wtkq 8 ?vq7 rfl (by kernel_rfl) (fun _ _ _ h => h) (by rfl) ?yq7 HD_x2.out ?zq7
   case yq7 => (intro w hSw; (try dsimp only at hSw); go_simp; try with_reducible rfl)
   try simp only [mz1, mz2, mz3, Act.put, mz4, mz5, mz6]
   refine wpAnyH_ready (rs := [9]) (by kernel_rfl) (by simp) ?_
   refine AllReadyH.cons rfl (fun KK hKK => ?_) AllReadyH.nil
   go_simp
   obtain ⟨x3, HWx3⟩ : ∃ x, Hid (x = x2.alloc (.cells #[.int .i64 0, .int .i64 0, .slice none 0 0] 24)) := ⟨_, rfl⟩
   rw [← HWx3.out]
   have hb : Below x2.heap.size x2 x3 := by rw [HWx3.out]; exact qa1 _ _
   have HT_x3 : Hid (Vr x3 x2.heap.size (.int .i64 0) (.int .i64 0) (.slice none 0 0)) := by rw [HWx3.out]; exact Vr.new x2 _ _ _
   have HB_x3 : Hid (Below w.heap.size w x3) := qa0 HB_x2.out hb
   have HV_gx3 : Hid (Vr x3 w.heap.size (.int .i64 (r : Int)) (.int .i64 (c : Int)) (.slice a n k)) := HV_gx2.out.later hb
   have HD_x3 : Hid (x3.cell? ⟨w.heap.size, 0, none⟩ = some (.int .i64 (r : Int)) ∧ x3.cell? ⟨w.heap.size, 1, none⟩ = some (.int .i64 (c : Int)) ∧ x3.cell? ⟨w.heap.size, 2, none⟩ = some (.slice a n k)) := ⟨HV_gx3.out.c0, HV_gx3.out.c1, HV_gx3.out.c2⟩
   have HO_x3 : Hid (x3.ownsRow x1.heap.size 5 1 (.slice s2 N d2) N (row N (pkf F z c)).toList) := by rw [HWx3.out]; exact World.ownsRow.alloc HO_x2.out _
   clear hb
   refine hKK.out _ _ HD_x3.out (fun _ => ?_)
   clear hKK KK
   try simp only [mz1, mz2, mz3, Act.put, mz4, mz5, mz6]
   refine wpAnyH_ready (rs := [10]) (by kernel_rfl) (by simp) ?_
   refine AllReadyH.cons rfl (fun KK hKK => ?_) AllReadyH.nil
   refine qac rfl _ _ rfl x2.heap.size _ _ _ (.int .i64 (K : Int)) (.int .i64 (c : Int)) (.slice s2 N d2) rfl rfl HT_x3.out rfl rfl rfl ?_
   intro x4 HV_x4 HG
   have hbB := HB_x2.out.size
   have HB_x4 : Hid (Below w.heap.size w x4) := qa5 HB_x3.out HG.out hbB
   have HV_gx4 : Hid (Vr x4 w.heap.size (.int .i64 (r : Int)) (.int .i64 (c : Int)) (.slice a n k)) := HV_gx3.out.kept HG.out (by have := HV_gx2.out.lt; omega)
   have HD_x4 : Hid (x4.cell? ⟨w.heap.size, 0, none⟩ = some (.int .i64 (r : Int)) ∧ x4.cell? ⟨w.heap.size, 1, none⟩ = some (.int .i64 (c : Int)) ∧ x4.cell? ⟨w.heap.size, 2, none⟩ = some (.slice a n k)) := ⟨HV_gx4.out.c0, HV_gx4.out.c1, HV_gx4.out.c2⟩
   have HO_x4 : Hid (x4.ownsRow x1.heap.size 5 1 (.slice s2 N d2) N (row N (pkf F z c)).toList) := qbw HO_x3.out HG.out (own_lt HO_x2.out)
   refine hKK.out _ _ HD_x4.out (fun _ => ?_)
   clear hKK KK
   try simp only [mz1, mz2, mz3, Act.put]
   refine wtkq 11 ?vq8 rfl (by kernel_rfl) (fun _ _ _ h => h) (by rfl) ?yq8 HD_x4.out ?zq8
   case yq8 => (intro w hSw; (try dsimp only at hSw); go_simp; try with_reducible rfl)
   try simp only [mz1, mz2, mz3, Act.put, mz4, mz5, mz6]
   refine wpAnyH_done (by kernel_rfl) ?_ _
   have HM : Hid (Mt x4 s2 N d2 (pkf F z c)) := qfp HO_x4.out HPe.out
   have q0 := HV_x4.out.c0
   have q1 := HV_x4.out.c1
   have q2 := HV_x4.out.c2
   go_wp2_with (first
    | (go_at_call 21; refine (HKer.out _ _ _ HM.out).mono ?_; rintro e w5 ⟨s5, d5, kr, rfl, hkr, hb⟩; have HB5 : Hid (Below w.heap.size w (w5.alloc (.cells #[.int .i64 (kr : Int), .int .i64 (c : Int), .slice s5 (kr * c) d5] 24))) := qa0 (qa0 HB_x4.out hb) (qa1 _ _); have HV5 : Hid (Vr (w5.alloc (.cells #[.int .i64 (kr : Int), .int .i64 (c : Int), .slice s5 (kr * c) d5] 24)) w5.heap.size (.int .i64 (kr : Int)) (.int .i64 (c : Int)) (.slice s5 (kr * c) d5)) := Vr.new _ _ _ _; have HG5 : Hid (Vr (w5.alloc (.cells #[.int .i64 (kr : Int), .int .i64 (c : Int), .slice s5 (kr * c) d5] 24)) w.heap.size (.int .i64 (r : Int)) (.int .i64 (c : Int)) (.slice a n k)) := (HV_gx4.out.later hb).later (qa1 _ _); have HKR := qbp hkr; clear hb hkr)
    | (go_at_call 14; refine (qh1 _).mono ?_; rintro e w6 ⟨rfl, hb⟩; have HB6 : Hid (Below w.heap.size w w6) := qa0 HB5.out hb; have y0 := (HV5.out.later hb).c0; have HG6 := HG5.out.later hb; have t0 := HG6.c0; have t1 := HG6.c1; have t2 := HG6.c2; have hkr0 : ((kr : Int) == 0) = b := HKR.out; clear HG6 hb)
    | (go_at_call 22; refine (HGn.out _).mono ?_; rintro e w7 ⟨rfl, hb⟩; have HB7 : Hid (Below w.heap.size w w7) := qa0 HB6.out hb; clear hb))
   go_ret
   exact ⟨by simp, HB7.out⟩
  ·go_simp
   obtain ⟨x2, HWx2⟩ : ∃ x, Hid (x = x1.alloc (.cells #[.int .i64 0, .int .i64 0, .slice none 0 0] 24)) := ⟨_, rfl⟩
   rw [← HWx2.out]
   have hb : Below x1.heap.size x1 x2 := by rw [HWx2.out]; exact qa1 _ _
   have HT_x2 : Hid (Vr x2 x1.heap.size (.int .i64 0) (.int .i64 0) (.slice none 0 0)) := by rw [HWx2.out]; exact Vr.new x1 _ _ _
   have HB_x2 : Hid (Below w.heap.size w x2) := qa0 HB_x1.out hb
   have HV_gx2 : Hid (Vr x2 w.heap.size (.int .i64 (r : Int)) (.int .i64 (c : Int)) (.slice a n k)) := HV_gx1.out.later hb
   have HD_x2 : Hid (x2.cell? ⟨w.heap.size, 0, none⟩ = some (.int .i64 (r : Int)) ∧ x2.cell? ⟨w.heap.size, 1, none⟩ = some (.int .i64 (c : Int)) ∧ x2.cell? ⟨w.heap.size, 2, none⟩ = some (.slice a n k)) := ⟨HV_gx2.out.c0, HV_gx2.out.c1, HV_gx2.out.c2⟩
   have HI_x2 : Hid (Il x2 xs K (fun i => (z i : Int))) := HI_x1.out.later hb
   clear hb
   refine hKK.out _ _ HD_x2.out (fun _ => ?_)
   clear hKK KK
   try simp only [mz1, mz2, mz3, Act.put, mz4, mz5, mz6]
   refine wpAnyH_ready (rs := [5]) (by kernel_rfl) (by simp) ?_
   refine AllReadyH.cons rfl (fun KK hKK => ?_) AllReadyH.nil
   go_simp
   refine (qbj _ r c n k K d N a xs F z (HA.out.later HB_x2.out) HRt.out HI_x2.out Hz.out hK HN).mono ?_
   rintro e x3 ⟨s2, d2, rfl, ho, hb⟩
   have HO_x3 : Hid (x3.ownsRow x2.heap.size 5 1 (.slice s2 N d2) N (row N (pkf F z c)).toList) := ho
   clear ho
   have HB_x3 : Hid (Below w.heap.size w x3) := qa0 HB_x2.out hb
   have HV_gx3 : Hid (Vr x3 w.heap.size (.int .i64 (r : Int)) (.int .i64 (c : Int)) (.slice a n k)) := HV_gx2.out.later hb
   have HD_x3 : Hid (x3.cell? ⟨w.heap.size, 0, none⟩ = some (.int .i64 (r : Int)) ∧ x3.cell? ⟨w.heap.size, 1, none⟩ = some (.int .i64 (c : Int)) ∧ x3.cell? ⟨w.heap.size, 2, none⟩ = some (.slice a n k)) := ⟨HV_gx3.out.c0, HV_gx3.out.c1, HV_gx3.out.c2⟩
   have HT_x3 : Hid (Vr x3 x1.heap.size (.int .i64 0) (.int .i64 0) (.slice none 0 0)) := HT_x2.out.later hb
   clear hb
   refine hKK.out _ _ HD_x3.out (fun _ => ?_)
   clear hKK KK
   try simp only [mz1, mz2, mz3, Act.put, mz4, mz5, mz6]
   refine wtkq 6 ?vq9 rfl (by kernel_rfl) (fun _ _ _ h => h) (by rfl) ?yq9 HD_x3.out ?zq9
   case yq9 => (intro w hSw; (try dsimp only at hSw); go_simp; try with_reducible rfl)
   try simp only [mz1, mz2, mz3, Act.put, mz4, mz5, mz6]
   refine wtkq 7 ?vq10 rfl (by kernel_rfl) (fun _ _ _ h => h) (by rfl) ?yq10 HD_x3.out ?zq10
   case yq10 => (intro w hSw; (try dsimp only at hSw); go_simp; try with_reducible rfl)
   try simp only [mz1, mz2, mz3, Act.put, mz4, mz5, mz6]
   refine wtkq 8 ?vq11 rfl (by kernel_rfl) (fun _ _ _ h => h) (by rfl) ?yq11 HD_x3.out ?zq11
   case yq11 => (intro w hSw; (try dsimp only at hSw); go_simp; try with_reducible rfl)
   try simp only [mz1, mz2, mz3, Act.put, mz4, mz5, mz6]
   refine wpAnyH_ready (rs := [10]) (by kernel_rfl) (by simp) ?_
   refine AllReadyH.cons rfl (fun KK hKK => ?_) AllReadyH.nil
   refine qac rfl _ _ rfl x1.heap.size _ _ _ (.int .i64 (K : Int)) (.int .i64 (c : Int)) (.slice s2 N d2) rfl rfl HT_x3.out rfl rfl rfl ?_
   intro x4 HV_x4 HG
   have hbB := HB_x1.out.size
   have HB_x4 : Hid (Below w.heap.size w x4) := qa5 HB_x3.out HG.out hbB
   have HV_gx4 : Hid (Vr x4 w.heap.size (.int .i64 (r : Int)) (.int .i64 (c : Int)) (.slice a n k)) := HV_gx3.out.kept HG.out (by have := HV_gx1.out.lt; omega)
   have HD_x4 : Hid (x4.cell? ⟨w.heap.size, 0, none⟩ = some (.int .i64 (r : Int)) ∧ x4.cell? ⟨w.heap.size, 1, none⟩ = some (.int .i64 (c : Int)) ∧ x4.cell? ⟨w.heap.size, 2, none⟩ = some (.slice a n k)) := ⟨HV_gx4.out.c0, HV_gx4.out.c1, HV_gx4.out.c2⟩
   have HO_x4 : Hid (x4.ownsRow x2.heap.size 5 1 (.slice s2 N d2) N (row N (pkf F z c)).toList) := qbw HO_x3.out HG.out (fun e => by have h1 := qae HO_x3.out _ e; have h2 := HT_x2.out.lt; omega)
   refine hKK.out _ _ HD_x4.out (fun _ => ?_)
   clear hKK KK
   try simp only [mz1, mz2, mz3, Act.put]
   refine wtkq 11 ?vq12 rfl (by kernel_rfl) (fun _ _ _ h => h) (by rfl) ?yq12 HD_x4.out ?zq12
   case yq12 => (intro w hSw; (try dsimp only at hSw); go_simp; try with_reducible rfl)
   try simp only [mz1, mz2, mz3, Act.put, mz4, mz5, mz6]
   refine wpAnyH_done (by kernel_rfl) ?_ _
   have HM : Hid (Mt x4 s2 N d2 (pkf F z c)) := qfp HO_x4.out HPe.out
   have q0 := HV_x4.out.c0
   have q1 := HV_x4.out.c1
   have q2 := HV_x4.out.c2
   go_wp2_with (first
    | (go_at_call 21; refine (HKer.out _ _ _ HM.out).mono ?_; rintro e w5 ⟨s5, d5, kr, rfl, hkr, hb⟩; have HB5 : Hid (Below w.heap.size w (w5.alloc (.cells #[.int .i64 (kr : Int), .int .i64 (c : Int), .slice s5 (kr * c) d5] 24))) := qa0 (qa0 HB_x4.out hb) (qa1 _ _); have HV5 : Hid (Vr (w5.alloc (.cells #[.int .i64 (kr : Int), .int .i64 (c : Int), .slice s5 (kr * c) d5] 24)) w5.heap.size (.int .i64 (kr : Int)) (.int .i64 (c : Int)) (.slice s5 (kr * c) d5)) := Vr.new _ _ _ _; have HG5 : Hid (Vr (w5.alloc (.cells #[.int .i64 (kr : Int), .int .i64 (c : Int), .slice s5 (kr * c) d5] 24)) w.heap.size (.int .i64 (r : Int)) (.int .i64 (c : Int)) (.slice a n k)) := (HV_gx4.out.later hb).later (qa1 _ _); have HKR := qbp hkr; clear hb hkr)
    | (go_at_call 14; refine (qh1 _).mono ?_; rintro e w6 ⟨rfl, hb⟩; have HB6 : Hid (Below w.heap.size w w6) := qa0 HB5.out hb; have y0 := (HV5.out.later hb).c0; have HG6 := HG5.out.later hb; have t0 := HG6.c0; have t1 := HG6.c1; have t2 := HG6.c2; have hkr0 : ((kr : Int) == 0) = b := HKR.out; clear HG6 hb)
    | (go_at_call 22; refine (HGn.out _).mono ?_; rintro e w7 ⟨rfl, hb⟩; have HB7 : Hid (Below w.heap.size w w7) := qa0 HB6.out hb; clear hb))
   go_ret
   exact ⟨by simp, HB7.out⟩
 ·go_simp
  obtain ⟨x1, HWx1⟩ : ∃ x, Hid (x = x0.alloc (.cells #[.int .i64 0, .int .i64 0, .slice none 0 0] 24)) := ⟨_, rfl⟩
  rw [← HWx1.out]
  have hb : Below x0.heap.size x0 x1 := by rw [HWx1.out]; exact qa1 _ _
  have HT_x1 : Hid (Vr x1 x0.heap.size (.int .i64 0) (.int .i64 0) (.slice none 0 0)) := by rw [HWx1.out]; exact Vr.new x0 _ _ _
  have HB_x1 : Hid (Below w.heap.size w x1) := qa0 HB_x0.out hb
  have HV_gx1 : Hid (Vr x1 w.heap.size (.int .i64 (r : Int)) (.int .i64 (c : Int)) (.slice a n k)) := HV_gx0.out.later hb
  have HD_x1 : Hid (x1.cell? ⟨w.heap.size, 0, none⟩ = some (.int .i64 (r : Int)) ∧ x1.cell? ⟨w.heap.size, 1, none⟩ = some (.int .i64 (c : Int)) ∧ x1.cell? ⟨w.heap.size, 2, none⟩ = some (.slice a n k)) := ⟨HV_gx1.out.c0, HV_gx1.out.c1, HV_gx1.out.c2⟩
  clear hb
  refine hKK.out _ _ HD_x1.out (fun _ => ?_)
  clear hKK KK
  try simp only [mz1, mz2, mz3, Act.put, mz4, mz5, mz6]
  refine wpAnyH_ready (rs := [4]) (by kernel_rfl) (by simp) ?_
  refine AllReadyH.cons rfl (fun KK hKK => ?_) AllReadyH.nil
  go_simp
  refine (HLs.out _).mono ?_
  rintro e x2 ⟨xs, d, rfl, hi, hb⟩
  have HI_x2 : Hid (Il x2 xs K (fun i => (z i : Int))) := hi
  clear hi
  have HB_x2 : Hid (Below w.heap.size w x2) := qa0 HB_x1.out hb
  have HV_gx2 : Hid (Vr x2 w.heap.size (.int .i64 (r : Int)) (.int .i64 (c : Int)) (.slice a n k)) := HV_gx1.out.later hb
  have HD_x2 : Hid (x2.cell? ⟨w.heap.size, 0, none⟩ = some (.int .i64 (r : Int)) ∧ x2.cell? ⟨w.heap.size, 1, none⟩ = some (.int .i64 (c : Int)) ∧ x2.cell? ⟨w.heap.size, 2, none⟩ = some (.slice a n k)) := ⟨HV_gx2.out.c0, HV_gx2.out.c1, HV_gx2.out.c2⟩
  have HT_x2 : Hid (Vr x2 x0.heap.size (.int .i64 0) (.int .i64 0) (.slice none 0 0)) := HT_x1.out.later hb
  clear hb
  refine hKK.out _ _ HD_x2.out (fun _ => ?_)
  clear hKK KK
  try simp only [mz1, mz2, mz3, Act.put, mz4, mz5, mz6]
  refine wpAnyH_ready (rs := [5]) (by kernel_rfl) (by simp) ?_
  refine AllReadyH.cons rfl (fun KK hKK => ?_) AllReadyH.nil
  go_simp
  refine (qbj _ r c n k K d N a xs F z (HA.out.later HB_x2.out) HRt.out HI_x2.out Hz.out hK HN).mono ?_
  rintro e x3 ⟨s2, d2, rfl, ho, hb⟩
  have HO_x3 : Hid (x3.ownsRow x2.heap.size 5 1 (.slice s2 N d2) N (row N (pkf F z c)).toList) := ho
  clear ho
  have HB_x3 : Hid (Below w.heap.size w x3) := qa0 HB_x2.out hb
  have HV_gx3 : Hid (Vr x3 w.heap.size (.int .i64 (r : Int)) (.int .i64 (c : Int)) (.slice a n k)) := HV_gx2.out.later hb
  have HD_x3 : Hid (x3.cell? ⟨w.heap.size, 0, none⟩ = some (.int .i64 (r : Int)) ∧ x3.cell? ⟨w.heap.size, 1, none⟩ = some (.int .i64 (c : Int)) ∧ x3.cell? ⟨w.heap.size, 2, none⟩ = some (.slice a n k)) := ⟨HV_gx3.out.c0, HV_gx3.out.c1, HV_gx3.out.c2⟩
  have HT_x3 : Hid (Vr x3 x0.heap.size (.int .i64 0) (.int .i64 0) (.slice none 0 0)) := HT_x2.out.later hb
  clear hb
  refine hKK.out _ _ HD_x3.out (fun _ => ?_)
  clear hKK KK
  try simp only [mz1, mz2, mz3, Act.put, mz4, mz5, mz6]
  refine wtkq 6 ?vq13 rfl (by kernel_rfl) (fun _ _ _ h => h) (by rfl) ?yq13 HD_x3.out ?zq13
  case yq13 => (intro w hSw; (try dsimp only at hSw); go_simp; try with_reducible rfl)
  try simp only [mz1, mz2, mz3, Act.put, mz4, mz5, mz6]
  refine wtkq 7 ?vq14 rfl (by kernel_rfl) (fun _ _ _ h => h) (by rfl) ?yq14 HD_x3.out ?zq14
  case yq14 => (intro w hSw; (try dsimp only at hSw); go_simp; try with_reducible rfl)
  try simp only [mz1, mz2, mz3, Act.put, mz4, mz5, mz6]
  refine wtkq 8 ?vq15 rfl (by kernel_rfl) (fun _ _ _ h => h) (by rfl) ?yq15 HD_x3.out ?zq15
  case yq15 => (intro w hSw; (try dsimp only at hSw); go_simp; try with_reducible rfl)
  try simp only [mz1, mz2, mz3, Act.put, mz4, mz5, mz6]
  refine wpAnyH_ready (rs := [10]) (by kernel_rfl) (by simp) ?_
  refine AllReadyH.cons rfl (fun KK hKK => ?_) AllReadyH.nil
  refine qac rfl _ _ rfl x0.heap.size _ _ _ (.int .i64 (K : Int)) (.int .i64 (c : Int)) (.slice s2 N d2) rfl rfl HT_x3.out rfl rfl rfl ?_
  intro x4 HV_x4 HG
  have hbB := HB_x0.out.size
  have HB_x4 : Hid (Below w.heap.size w x4) := qa5 HB_x3.out HG.out hbB
  have HV_gx4 : Hid (Vr x4 w.heap.size (.int .i64 (r : Int)) (.int .i64 (c : Int)) (.slice a n k)) := HV_gx3.out.kept HG.out (by have := HV_gx0.out.lt; omega)
  have HD_x4 : Hid (x4.cell? ⟨w.heap.size, 0, none⟩ = some (.int .i64 (r : Int)) ∧ x4.cell? ⟨w.heap.size, 1, none⟩ = some (.int .i64 (c : Int)) ∧ x4.cell? ⟨w.heap.size, 2, none⟩ = some (.slice a n k)) := ⟨HV_gx4.out.c0, HV_gx4.out.c1, HV_gx4.out.c2⟩
  have HO_x4 : Hid (x4.ownsRow x2.heap.size 5 1 (.slice s2 N d2) N (row N (pkf F z c)).toList) := qbw HO_x3.out HG.out (fun e => by have h1 := qae HO_x3.out _ e; have h2 := HT_x2.out.lt; omega)
  refine hKK.out _ _ HD_x4.out (fun _ => ?_)
  clear hKK KK
  try simp only [mz1, mz2, mz3, Act.put]
  refine wtkq 11 ?vq16 rfl (by kernel_rfl) (fun _ _ _ h => h) (by rfl) ?yq16 HD_x4.out ?zq16
  case yq16 => (intro w hSw; (try dsimp only at hSw); go_simp; try with_reducible rfl)
  try simp only [mz1, mz2, mz3, Act.put, mz4, mz5, mz6]
  refine wpAnyH_done (by kernel_rfl) ?_ _
  have HM : Hid (Mt x4 s2 N d2 (pkf F z c)) := qfp HO_x4.out HPe.out
  have q0 := HV_x4.out.c0
  have q1 := HV_x4.out.c1
  have q2 := HV_x4.out.c2
  go_wp2_with (first
   | (go_at_call 21; refine (HKer.out _ _ _ HM.out).mono ?_; rintro e w5 ⟨s5, d5, kr, rfl, hkr, hb⟩; have HB5 : Hid (Below w.heap.size w (w5.alloc (.cells #[.int .i64 (kr : Int), .int .i64 (c : Int), .slice s5 (kr * c) d5] 24))) := qa0 (qa0 HB_x4.out hb) (qa1 _ _); have HV5 : Hid (Vr (w5.alloc (.cells #[.int .i64 (kr : Int), .int .i64 (c : Int), .slice s5 (kr * c) d5] 24)) w5.heap.size (.int .i64 (kr : Int)) (.int .i64 (c : Int)) (.slice s5 (kr * c) d5)) := Vr.new _ _ _ _; have HG5 : Hid (Vr (w5.alloc (.cells #[.int .i64 (kr : Int), .int .i64 (c : Int), .slice s5 (kr * c) d5] 24)) w.heap.size (.int .i64 (r : Int)) (.int .i64 (c : Int)) (.slice a n k)) := (HV_gx4.out.later hb).later (qa1 _ _); have HKR := qbp hkr; clear hb hkr)
   | (go_at_call 14; refine (qh1 _).mono ?_; rintro e w6 ⟨rfl, hb⟩; have HB6 : Hid (Below w.heap.size w w6) := qa0 HB5.out hb; have y0 := (HV5.out.later hb).c0; have HG6 := HG5.out.later hb; have t0 := HG6.c0; have t1 := HG6.c1; have t2 := HG6.c2; have hkr0 : ((kr : Int) == 0) = b := HKR.out; clear HG6 hb)
   | (go_at_call 22; refine (HGn.out _).mono ?_; rintro e w7 ⟨rfl, hb⟩; have HB7 : Hid (Below w.heap.size w w7) := qa0 HB6.out hb; clear hb))
  go_ret
  exact ⟨by simp, HB7.out⟩
theorem qhw (w : World) (r c : Int) (n k s : Nat) (a : Option Addr) (F : Nat → Nat) (ha : Mt w a n k F) (hs6 : s < 18446744073709551616) :
  Calls Try.prog 6 #[mv r c a n k, .int .u64 (s : Int)] w fun e w' => e = .returned (.bool true) ∧ Below w.heap.size w w' := by
 obtain ⟨b, q, E, h, C⟩ := say_ex w r c n k s a F ha hs6
 by_cases hE : E = 0
 ·subst hE
  obtain ⟨r', c', t, p, rfl, rfl, G, R, hc1, hcr, hs, ht, hta, htb, hp, hk, hle, hb, hq⟩ := h.fine
  have hM := qan ha.sl.1 R
  refine fatal_ok w r' c' n k s t q (cn t r') a F (lf t r') b ha R G hta (Nat.le_trans (qb2 r' t) R.r64) C ?_ (fun i hi => (qad hi).1) ?_
  ·intro w'
   refine (qgo t w' (qbt R.r64 ht)).mono (fun e w'' hh => ?_)
   obtain ⟨v, he, ho, hbl⟩ := hh
   rw [qdr R.r64 ht] at ho
   have ho2 := ho.congr (fun i _ => qf3 R.r64 ht i)
   obtain ⟨x, d, rfl, _⟩ := ho2.form
   exact ⟨x, d, he, qen ho2.jl, hbl⟩
  ·intro N w' s2 d2 hN hm
   have RK : Rt (cn t r') c' N := ⟨Nat.le_trans (qb2 r' t) R.r64, R.c64, hN⟩
   refine (rker_ok w' (cn t r') c' N d2 s2 _ hm RK).mono (fun e w'' hh => ?_)
   obtain ⟨s5, d5, kr, top, pp, G', H', he, _, hG, hRd, hSp, hpp, hkr, _, _, hbl⟩ := hh
   refine ⟨s5, d5, kr, he, ?_, hbl⟩
   have hcount := qjt ha.sl.1 R rfl rfl hk hRd (qan hG RK) (qan hm.sl.1 RK) hSp hpp hkr
   cases b with
   | true =>
    have := hb.1 rfl
    obtain rfl : kr = 0 := by omega
    rfl
   | false =>
    have hne : ¬ cn p r' = c' := fun e => by have := hb.2 e; cases this
    rw [beq_eq_false_iff_ne]
    omega
 ·obtain ⟨rfl, hE2⟩ := h.err hE
  exact qjs w r c E n k s q a hE2 C
end Go.Proofs.Ytokdejhbjoglcaa
