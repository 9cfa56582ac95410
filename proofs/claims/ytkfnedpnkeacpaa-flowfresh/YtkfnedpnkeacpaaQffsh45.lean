/-
  Stage 21: Of, of the program: what it answers is the call's own (made by gen36f.py).
-/
import Derived.Test.YtkfnedpnkeacpaaQffsh00
import Derived.Test.YtkfnedpnkeacpaaQffsh20
import Derived.Test.YtkfnedpnkeacpaaQffsh44
set_option maxRecDepth 100000
set_option maxHeartbeats 16000000
namespace Go.Proofs.Ytkfnedpnkeacpaa
open Go.RowKit
theorem fof_own (w : World) (r c n k : Nat) (a : Option Addr) (F : Nat → Nat) (ha : Mt w a n k F) (R : Rt r c n) :
  Calls Try.prog 9 #[mv r c a n k] w fun e w' => ∃ x p y q z s m f, e = .returned (.tuple #[flv x m p y r q z r s, .int .i64 0]) ∧ FlR w' x y z (ofF r c F m f) ∧ En (UsP r c F) c m f ∧ (∃ xs, w'.ownsRow w.heap.size 3 1 (.slice x m p) m xs) ∧ Below w.heap.size w w' := by
 obtain ⟨s0, hs0, hy0, hy1, hy2⟩ := info_parts jsli
 obtain ⟨i0, hi0, hz0, hz1, hz2⟩ := info_parts ji64
 have HM := qa0 ha
 have HRt := qa0 R
 have hr := R.r64
 have hc := R.c64
 obtain ⟨wb, HW⟩ : ∃ wb, Hid ((w.alloc (.cells #[.int .i64 (r : Int), .int .i64 (c : Int), .slice a n k] 24)).alloc (.cells #[.slice none 0 0, .slice none 0 0, .slice none 0 0] 28) = wb) := ⟨_, rfl⟩
 have HB0 : Hid (Below w.heap.size w wb) := by rw [← HW.out]; exact jtwo (jlow _ _) (jlow _ _)
 have HVM : Hid (Vf wb w.heap.size 24 #[.int .i64 (r : Int), .int .i64 (c : Int), .slice a n k]) := by rw [← HW.out]; exact (Vf.new w _ _).later (jlow _ _)
 have HVR : Hid (Vf wb (w.heap.size + 1) 28 #[.slice none 0 0, .slice none 0 0, .slice none 0 0]) := by rw [← HW.out]; exact Vf.new1 _ _ _ _
 have x0 := HVM.out.cell 0 (.int .i64 (r : Int)) rfl
 have x1 := HVM.out.cell 1 (.int .i64 (c : Int)) rfl
 have x2 := HVM.out.cell 2 (.slice a n k) rfl
 clear ha R
 go_enter Try.func9, Try.ntmps9
 go_wp2_with (first
  | (go_at_call 29; rw [HW.out]; refine (qbg _ _ _ _ _ _ HRt.out.p).mono ?_; rintro e w1 ⟨rfl, hb1⟩; have HB1 := qa0 (jtwo HB0.out hb1); have HVM1 := qa0 (HVM.out.later hb1); have HVR1 := qa0 (HVR.out.later hb1); have y0 := keepc hb1 x0; have y1 := keepc hb1 x1; have y2 := keepc hb1 x2; clear hb1)
  | (go_at_call 30; refine (qcw _ r c n k a F (HM.out.later HB1.out) HRt.out).mono ?_; rintro e w2 ⟨v2, m, f, rfl, hj2, he2, hb2⟩; obtain ⟨ps, pd, rfl, hp2⟩ := hj2.form; have HB2 := qa0 (jtwo HB1.out hb2); have HVM2 := qa0 (HVM1.out.later hb2); have HVR2 := qa0 (HVR1.out.later hb2); have HJ2 := qa0 (hj2.mono (B' := w.heap.size + 1) (by have := HVR1.out.lt; omega)); have HE2 := qa0 he2; have hm6 := he2.le; have u0 := keepc (jlow w2 (.cells #[.slice ps m pd, .slice none 0 0, .slice none 0 0] 28)) (HVM2.out.cell 0 (.int .i64 (r : Int)) rfl); clear hj2 he2 hb2 hp2))
 obtain ⟨w3, HW3⟩ : ∃ w3, Hid (w2.alloc (.cells #[.slice ps m pd, .slice none 0 0, .slice none 0 0] 28) = w3) := ⟨_, rfl⟩
 obtain ⟨V, HVV⟩ : ∃ V, Hid (w2.heap.size = V) := ⟨_, rfl⟩
 have hVl : w.heap.size + 1 < V := by have := HVR2.out.lt; have := HVV.out; omega
 have HI0 : Hid (FoI w w3 r c n k V a ps m pd 0 F f (.slice none 0 0) (.slice none 0 0)) := by
  have hl : Below w2.heap.size w2 w3 := by rw [← HW3.out]; exact jlow _ _
  refine ⟨HVM2.out.later hl, HVR2.out.later hl, by rw [← HW3.out, ← HVV.out]; exact Vf.new _ _ _, hVl, HJ2.out.later hl, fun g hg => by rw [← HVV.out]; exact (HJ2.out.base hg).2, Nw.nil _ _, Jo.nil _ _ _ _ _, jtwo HB2.out hl⟩
 rw [HW3.out, HVV.out]
 have z0 := HI0.out.vm.cell 0 (.int .i64 (r : Int)) rfl
 clear HW3 HVV HVM2 HVR2 HJ2 HB2 HVM1 HVR1 HB1 HVM HVR HB0 HW x0 x1 x2 y0 y1 y2
 have HFit := qa0 HE2.out.lt
 clear u0
 go_loopw [17] (fun vi wr => ∃ (i : Nat) (vn vo : Value), i ≤ r ∧ vi = .int .i64 (i : Int) ∧ FoI w wr r c n k V a ps m pd i F f vn vo) (fun vi _ => r - (intOf vi).toNat)
 case atStart => exact ⟨0, _, _, by omega, rfl, HI0.out⟩
 case round =>
  clear HI0 z0
  obtain ⟨i, vn, vo, hi, rfl, hI⟩ := hrel
  have HI := qa0 hI
  have x0 := hI.vm.cell 0 (.int .i64 (r : Int)) rfl
  have x1 := hI.vm.cell 1 (.int .i64 (c : Int)) rfl
  have x2 := hI.vm.cell 2 (.slice a n k) rfl
  by_cases hlt : i < r
  ·have p0 : (0 : Int) ≤ (i : Int) := by omega
   have p1 : (i : Int) < (r : Int) := by omega
   have HRow := qa0 (fun w2 (hb : Below w.heap.size w w2) => (qf9 w2 r c n k i a F (HM.out.later hb) HRt.out hlt).mono (fun _ _ h => qc8 HM.out.sl.1 HRt.out hlt h))
   clear hI
   go_wp2_with (go_at_call 31; refine (HRow.out _ HI.out.below).mono ?_; rintro e w5 ⟨s5, c5, rfl, hs5, hb5⟩; have HS5 := qa0 hs5; have HI5 := qa0 (HI.out.later hb5); clear hs5 hb5)
   have HD : Hid ((fun w' => w'.cell? ⟨V, 0, none⟩ = some (.slice ps m pd) ∧ w'.cell? ⟨V, 1, none⟩ = some vn ∧ w'.frozen? ⟨V, 1, none⟩ = false) w5.drew) := ⟨HI5.out.vf.cell 0 (.slice ps m pd) rfl, HI5.out.vf.cell 1 vn rfl, HI5.out.vf.free 1⟩
   have HTor := qa0 (fun w2 (hb : Below w5.heap.size w5 w2) => qdt w2 s5 ps c c5 m pd (fun j => F (i * c + j)) f (HS5.out.later hb) (HI5.out.inp.jl.later hb) HFit.out (by omega))
   obtain ⟨T, HT⟩ : ∃ T, Hid (tof (fun j => F (i * c + j)) f m = T) := ⟨_, rfl⟩
   rw [HT.out] at HTor
   obtain ⟨tl, HTL⟩ : ∃ tl, Hid (T.length = tl) := ⟨_, rfl⟩
   have hml : i + 1 ≤ maxLen := by unfold maxLen; omega
   have hV5 := HI5.out.vf.lt
   clear HI HRow x0 x1 x2
   refine qa7 (k := 9) (n := 9) (fun w' => w'.cell? ⟨V, 0, none⟩ = some (.slice ps m pd) ∧ w'.cell? ⟨V, 1, none⟩ = some vn ∧ w'.frozen? ⟨V, 1, none⟩ = false) (by kernel_rfl) (by kernel_rfl) (by decide) (by rfl) ?_
   refine wtkq 0 ?vt0_1 rfl (by kernel_rfl) (fun _ _ _ h => h) (by rfl) ?yt0_1 HD.out ?zt0_1
   case yt0_1 => (intro w hSw; (try dsimp only at hSw); go_simp; try with_reducible rfl)
   try simp only [mz1, mz3, Act.put, mz4, mz5, mz6]
   refine wtkq 1 ?vt1_2 rfl (by kernel_rfl) (fun _ _ _ h => h) (by rfl) ?yt1_2 HD.out ?zt1_2
   case yt1_2 => (intro w hSw; (try dsimp only at hSw); go_simp; try with_reducible rfl)
   try simp only [mz1, mz2, mz3, Act.put, mz4, mz5, mz6]
   refine wtkq 2 ?vt2_3 rfl (by kernel_rfl) (fun _ _ _ h => h) (by rfl) ?yt2_3 HD.out ?zt2_3
   case yt2_3 => (intro w hSw; (try dsimp only at hSw); go_simp; try with_reducible rfl)
   try simp only [mz1, mz2, mz3, Act.put, mz4, mz5, mz6]
   refine wtkq 3 ?vt3_4 rfl (by kernel_rfl) (fun _ _ _ h => h) (by rfl) ?yt3_4 HD.out ?zt3_4
   case yt3_4 => (intro w hSw; (try dsimp only at hSw); go_simp; try with_reducible rfl)
   try simp only [mz1, mz2, mz3, Act.put, mz4, mz5, mz6]
   refine wtkq 4 ?vt4_5 rfl (by kernel_rfl) (fun _ _ _ h => h) (by rfl) ?yt4_5 HD.out ?zt4_5
   case yt4_5 => (intro w hSw; (try dsimp only at hSw); go_simp; try with_reducible rfl)
   try simp only [mz1, mz2, mz3, Act.put, mz4, mz5, mz6]
   refine wpAnyH_ready (rs := [5]) (by kernel_rfl) (by simp) ?_
   refine AllReadyH.cons rfl (fun KK hKK => ?_) AllReadyH.nil
   go_simp
   refine (HTor.out _ (qal _)).mono ?_
   rintro e w6 ⟨_, rfl, hu6, hb6⟩
   obtain ⟨tu, du, rfl, -⟩ := hu6.form
   rw [HTL.out] at hu6 ⊢
   have HU6 := qa0 hu6
   have HB6 := qa0 ((qal w5).trans hb6)
   clear hu6 hb6
   have HI6 := qa0 (HI5.out.later HB6.out)
   have hs6 := HB6.out.size
   refine hKK.out _ _ ⟨HI6.out.vf.cell 0 (.slice ps m pd) rfl, HI6.out.vf.cell 1 vn rfl, HI6.out.vf.free 1⟩ (fun _ => ?_)
   clear hKK KK
   try simp only [mz1, mz2, mz3, Act.put, mz4, mz5, mz6]
   refine wpAnyH_ready (rs := [6]) (by kernel_rfl) (by simp) ?_
   refine AllReadyH.cons rfl (fun KK hKK => ?_) AllReadyH.nil
   go_simp
   refine hKK.out _ _ ⟨(HI6.out.later (jlow w6 (.cells #[.slice tu tl du] 59))).vf.cell 0 (.slice ps m pd) rfl, (HI6.out.later (jlow w6 (.cells #[.slice tu tl du] 59))).vf.cell 1 vn rfl, (HI6.out.later (jlow w6 (.cells #[.slice tu tl du] 59))).vf.free 1⟩ (fun _ => ?_)
   clear hKK KK
   try simp only [mz1, mz2, mz3, Act.put, mz4, mz5, mz6]
   refine wpAnyH_ready (rs := [7]) (by kernel_rfl) (by simp) ?_
   refine AllReadyH.cons rfl (fun KK hKK => ?_) AllReadyH.nil
   obtain ⟨vs, HVS⟩ : ∃ vs, Hid (((w6.alloc (.cells #[.slice tu tl du] 59)).ownsRow (V + 1) 59 1 vn i vs)) := by { have h7 := (HI6.out.later (jlow w6 (.cells #[.slice tu tl du] 59))).nodes; obtain ⟨vs, q1, _⟩ := h7; rw [qb0] at q1; exact ⟨vs, q1⟩ }
   refine qah rfl _ _ 26 rfl (V + 1) 59 s0 (.slice none 0 0) 1 24 Try.underlying26 hs0 hy0 hy1 hy2 rfl (by decide) vn i vs rfl HVS.out ⟨w6.heap.size, 0, none⟩ 1 1 [.slice tu tl du] rfl rfl (qap _ _ _) (by intro x hx; rw [List.mem_singleton.1 hx]; rfl) hml (by omega) (by have := HI6.out.vf.lt; simp; omega) ?_
   intro v8 w8 hown8 hgrow8
   obtain ⟨g8, d8, rfl⟩ := qaf hown8
   have HO8 := qa0 hown8
   have HG8 := qa0 hgrow8
   have HVn : Hid (vn.ownBlock ≠ some V) := fun e => by { have := (qac HVS.out) V e; omega }
   have f8 : Vf w8 V 28 #[.slice ps m pd, vn, vo] := (HI6.out.later (jlow w6 (.cells #[.slice tu tl du] 59))).vf.kept hgrow8 HVn.out
   have HF8 := qa0 f8
   clear hown8 hgrow8 f8
   refine hKK.out _ _ ⟨HF8.out.cell 0 (.slice ps m pd) rfl, HF8.out.cell 1 vn rfl, HF8.out.free 1⟩ (fun _ => ?_)
   clear hKK KK
   try simp only [mz1, mz2, mz3, Act.put, mz4, mz5, mz6]
   refine wtkq 8 ?vt8_6 rfl (by kernel_rfl) (fun _ _ _ h => h) (by rfl) ?yt8_6 ⟨HF8.out.cell 0 (.slice ps m pd) rfl, HF8.out.cell 1 vn rfl, HF8.out.free 1⟩ ?zt8_6
   case yt8_6 => (intro w hSw; (try dsimp only at hSw); go_simp; try with_reducible rfl)
   try simp only [mz1, mz2, mz3, Act.put, mz4, mz5, mz6]
   refine wpAnyH_done (by kernel_rfl) ?_ _
   have q1 := HF8.out.cell 1 vn rfl
   have q2 := HF8.out.free 1
   refine qa3 rfl (fun KK hKK => ?_)
   go_simp
   refine hKK.out _ _ ?_
   clear hKK KK
   try simp only [mz1, mz2, mz3, Act.put, mz4, mz5, mz6]
   obtain ⟨W9, HW9⟩ : ∃ W9, Hid (w8.setCell ⟨V, 1, none⟩ (.slice g8 (i + 1) d8) = W9) := ⟨_, rfl⟩
   have HTw := qa0 ((HU6.out.mono (B' := V + 1) (show V + 1 ≤ w5.heap.size by omega)).later (jlow w6 (.cells #[.slice tu tl du] 59)))
   have HP := HI6.out.put1 (w8 := w8) (v' := .slice g8 (i + 1) d8) (jlow w6 (.cells #[.slice tu tl du] 59)) HT.out.symm HTw.out (fun ws q => by
    rw [qb0] at q ⊢
    obtain rfl := qbr q HVS.out
    exact ⟨HO8.out, HG8.out⟩)
   rw [HW9.out] at HP ⊢
   obtain ⟨P1, P2, P3, P4, P5, P6, P7⟩ := HP
   have HP1 := qa0 P1
   have HP2 := qa0 P2
   have HP3 := qa0 P3
   have HP4 := qa0 P4
   have HP5 := qa0 P5
   have HP6 := qa0 P6
   have HP7 := qa0 P7
   have HOld := qa0 HI6.out.old
   have u0 := P1.cell 0 (.slice ps m pd) rfl
   have u1 := P1.cell 2 vo rfl
   have u2 := P1.free 2
   have hV9 := P1.lt
   have w1' : IntKind.i64.wrap ((m : Int) + (i : Int)) = (m : Int) + (i : Int) := by rw [IntKind.wrap_i64]; omega
   have w2' : ((m : Int) + (i : Int)) = ((m + i : Nat) : Int) := by rw [Int.natCast_add]
   obtain ⟨mi, HMI⟩ : ∃ mi, Hid (m + i = mi) := ⟨_, rfl⟩
   rw [HMI.out] at w2'
   rw [w2'] at w1'
   have HLo : Hid (∀ (w2 : World) (u : Value), w2.ownsRow (V + 1) 3 1 u (i + 1) ((jrow .i64 i (fun t => m + t)).toList ++ [.int .i64 (mi : Int)]) → w2.ownsRow (V + 1) 3 1 u (i + 1) ((jrow .i64 i (fun t => m + t)).toList ++ [.int .i64 ((m + i : Nat) : Int)])) := fun w2 u h => by rw [HMI.out]; exact h
   clear P1 P2 P3 P4 P5 P6 P7 HW9 HTw HI6 HB6 HU6 HO8 HG8 HVS HVn HF8 q1 q2 HD HTor HS5 HI5 HT HTL HMI
   go_wp2_with (at_builtin; refine wpList_append_own _ rfl _ _ 25 rfl (V + 1) 3 i0 (.int .i64 0) 1 8 Try.underlying25 hi0 hz0 hz1 hz2 rfl (by decide) _ i _ rfl (World.ownsRow.alloc HP6.out _) ⟨W9.heap.size, 0, none⟩ 1 1 [.int .i64 (mi : Int)] rfl rfl (qb9 _ _ _ _) (qba _ _) hml (by omega) (by simp; omega) ?_; intro v10 w10 hown10 hgrow10 _; obtain ⟨g9, d9, rfl⟩ := qaf hown10; have HO10 := qa0 (HLo.out _ _ hown10); have HG10 := qa0 hgrow10; have f10 := (HP1.out.later (jlow W9 (.cells #[.int .i64 (mi : Int)] 3))).kept hgrow10 (fun e => by { have := (HP6.out.base e).1; omega }); have q3 := f10.cell 2 vo rfl; have q4 := f10.free 2; clear f10 hown10 hgrow10)
   exact ⟨⟨i + 1, _, _, by omega, by go_num, FoI.put2 HP2.out HP3.out HP1.out hVl HP4.out HOld.out HP5.out HP6.out HP7.out HO10.out HG10.out⟩, by simp [intOf]; omega⟩
  ·obtain rfl : i = r := by omega
   have h1 := hI.nodes.form
   rw [qb0] at h1
   obtain ⟨y, q, rfl, -⟩ := h1
   obtain ⟨z, s, rfl, -⟩ := hI.outs.form
   have y0 := hI.vf.cell 0 (.slice ps m pd) rfl
   have y1 := hI.vf.cell 1 (.slice y i q) rfl
   have y2 := hI.vf.cell 2 (.slice z i s) rfl
   clear hI
   go_wp2_with (refine qae rfl 28 _ _ rfl (w.heap.size + 1) _ #[.slice ps m pd, .slice y i q, .slice z i s] rfl rfl HI.out.vr sizeFl rfl (qan _ _ _ _ _ _ _ _ _) ?_; intro w9 HV9 HG9)
   have d0 := HV9.out.cell 0 (.slice ps m pd) rfl
   have d1 := HV9.out.cell 1 (.slice y i q) rfl
   have d2 := HV9.out.cell 2 (.slice z i s) rfl
   refine bodyPost_ret (v := .tuple #[flv ps m pd y i q z i s, .int .i64 0]) (by simp [results, Try.results9, go_sem, d0, d1, d2]) rfl ?_
   exact ⟨ps, pd, y, q, z, s, m, f, rfl, of_flr HI.out HG9.out HRt.out HM.out.sl.1 (by omega) HFit.out, HE2.out, ⟨_, qav (World.ownsRow.kept HI.out.inp HG9.out (qab HI.out.inp HI.out.vr (by decide))) (by omega)⟩, qaj HI.out.below HG9.out (by omega)⟩
end Go.Proofs.Ytkfnedpnkeacpaa
