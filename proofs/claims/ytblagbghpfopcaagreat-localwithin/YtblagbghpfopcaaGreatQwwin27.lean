/-
  Contracts of the program's matrices: Pick.
-/
import Derived.Test.YtblagbghpfopcaaGreatQwwin00
import Derived.Test.YtblagbghpfopcaaGreatQwwin26
set_option maxRecDepth 100000
set_option maxHeartbeats 16000000
namespace Go.Proofs.YtblagbghpfopcaaGreat
open Go.RowKit
theorem qg6 (w : World) (r c n k m d N : Nat) (a b : Option Addr) (F z : Nat → Nat) (ha : Mt w a n k F) (R : Rt r c n) (hb : Il w b m (fun i => (z i : Int))) (hz : ∀ i, i < m → z i < r) (hm : m ≤ 64) (HN : Hid (m * c = N)) :
  Calls Tryz.prog 29 #[mv r c a n k, .slice b m d] w fun e w' => ∃ g, e = .returned (.tuple #[mv m c (some ⟨g, 0, none⟩) N N, .int .i64 0]) ∧ RowAt w' g 5 N (pkf F z c) ∧ w.heap.size ≤ g ∧ Below w.heap.size w w' := by
 have HRt : Hid (Rt r c n) := R
 have HRu : Hid (Rt m c N) := ⟨hm, R.c64, HN.out⟩
 have hn := R.le
 have hN := HRu.out.le
 have hr64 := R.r64
 have hc64 := R.c64
 have HA : Hid (Mt w a n k F) := ha
 have HIb : Hid (Il w b m (fun i => (z i : Int))) := hb
 have HZ : Hid (∀ i, i < m → z i < r) := hz
 obtain ⟨q, HQ⟩ : ∃ q : Nat → Int, Hid (∀ i, q i = (z i : Int)) := ⟨fun i => (z i : Int), fun _ => rfl⟩
 have HIn : Hid (∀ i, i < m → 0 ≤ q i ∧ q i < r) := fun i hi => by rw [HQ.out]; have := hz i hi; omega
 obtain ⟨fn, HFn⟩ : ∃ fn : Nat → Nat, Hid (pkf F z c = fn) := ⟨_, rfl⟩
 rw [HFn.out]
 obtain ⟨wb, HW, HX⟩ : ∃ wb, Hid (wb = (w.alloc (.cells #[.int .i64 (r : Int), .int .i64 (c : Int), .slice a n k] 24)).alloc (.cells #[.int .i64 0, .int .i64 0, .slice none 0 0] 24)) ∧ Hid (Box2 w wb r c n k a) := ⟨_, rfl, box2 w r c n k a⟩
 have hIq : Il w b m q := fun i hi => by obtain ⟨x, o, e, hc⟩ := hb i hi; exact ⟨x, o, e, by rw [HQ.out]; exact hc⟩
 clear HIb
 have HIb : Hid (Il w b m q) := hIq
 clear ha R hb hz hIq
 go_enter Tryz.func29, Tryz.ntmps29
 go_wp2_with (first
  | (go_at_call 60; rw [← HW.out]; refine (qaj _ _ _ _ _ _ HRt.out.p).mono ?_; rintro e w2 ⟨rfl, hb2⟩; have HB2 : Hid (Below wb.heap.size wb w2) := hb2; clear hb2))
 go_loopw [7, 16] (fun _ j wr => ∃ t' : Nat, t' ≤ m ∧ j = .int .i64 (t' : Int) ∧ Below wb.heap.size wb wr) (fun _ j _ => m - (intOf j).toNat)
 case atStart => exact ⟨0, by omega, rfl, HB2.out⟩
 case round =>
  clear HB2
  obtain ⟨i, hi, rfl, hbr⟩ := hrel
  have HB2 : Hid (Below wb.heap.size wb wr) := hbr
  have a0 := (HX.out.va.later hbr).c0
  have a1 := (HX.out.va.later hbr).c1
  have a2 := (HX.out.va.later hbr).c2
  clear hbr
  by_cases hlt : i < m
  ·obtain ⟨x, o, eb, hci⟩ := HIb.out i (by omega)
   have hcw : wr.cell? ⟨x, o + i, none⟩ = some (.int .i64 (q i)) := keepc (qa0 HX.out.below HB2.out) hci
   obtain ⟨y, HY⟩ : ∃ y, Hid (q i = y) := ⟨_, rfl⟩
   rw [HY.out] at hcw
   have HH : Hid (0 ≤ y ∧ y < r) := by have := HIn.out i hlt; rw [HY.out] at this; exact this
   have i1 : (i : Int) < (m : Int) := by omega
   clear hci
   subst eb
   go_wp2_with (go_at_call 61; refine (qdi _ _ _ _ _ _ _ HH.out).mono ?_; rintro e w3 ⟨rfl, hb3⟩; have HB3 : Hid (Below wb.heap.size wb w3) := qa0 HB2.out hb3; clear hb3)
   exact ⟨⟨i + 1, by omega, by go_num, HB3.out⟩, by simp [intOf]; omega⟩
  ·obtain rfl : m = i := by omega
   go_wp2_with (first
    | (go_at_call 62; refine (side_yes _ _ ⟨by omega, by omega⟩).mono ?_; rintro e w' ⟨rfl, rfl⟩)
    | (go_at_call 63; refine (qfb _ m c N hm hc64 HN).mono ?_; rintro e w3 ⟨gd, rfl, hr3, hg3, hb3⟩; have HR3 : Hid (RowAt w3 gd 5 N (fun _ => 0)) := hr3; have HB3 : Hid (Below wb.heap.size wb w3) := qa0 HB2.out hb3; have l2 := HB2.out.size; have hg4 : wr.heap.size ≤ gd := hg3; have m0' := (Vr.new w3 (.int .i64 (m : Int)) (.int .i64 (c : Int)) (.slice (some ⟨gd, 0, none⟩) N N)).c0; clear hr3 hb3 hg3))
   have HI0 : Hid (NInv w (w3.alloc (.cells #[.int .i64 (m : Int), .int .i64 (c : Int), .slice (some ⟨gd, 0, none⟩) N N] 24)) gd w3.heap.size r c m c n k N a (fun _ => 0)) := by
    have l0 := HX.out.vr.lt
    have l3 := HR3.out.lt
    exact ⟨(HX.out.va.later HB3.out).later (qa1 _ _), (HX.out.vr.later HB3.out).later (qa1 _ _), Vr.new w3 _ _ _, HR3.out.later (qa1 _ _), qa0 (qa0 HX.out.below HB3.out) (qa1 _ _), by omega, by omega⟩
   clear HW HX HB2 HR3 HB3 a0 a1 a2 m0' hlt hi
   go_loopw [9, 38] (fun _ j wr => ∃ i : Nat, i ≤ m ∧ j = .int .i64 (i : Int) ∧ NInv w wr gd w3.heap.size r c m c n k N a (upf fn (i * c))) (fun _ j _ => m - (intOf j).toNat)
   case atStart => exact ⟨0, by omega, rfl, HI0.out.congr (fun p _ => by rw [Nat.zero_mul, qii])⟩
   case round =>
    clear HI0
    obtain ⟨i, hi, rfl, I⟩ := hrel
    have HI : Hid (NInv w wr gd w3.heap.size r c m c n k N a (upf fn (i * c))) := I
    clear I
    by_cases hlt : i < m
    ·obtain ⟨x, o, eb, hci⟩ := HIb.out i hlt
     rw [HQ.out] at hci
     obtain ⟨y, HY⟩ : ∃ y, Hid (z i = y) := ⟨_, rfl⟩
     rw [HY.out] at hci
     have hyr : y < r := by rw [← HY.out]; exact HZ.out i hlt
     obtain ⟨p, HP⟩ : ∃ p, Hid (i * c = p) := ⟨_, rfl⟩
     obtain ⟨pa, HPa⟩ : ∃ p, Hid (y * c = p) := ⟨_, rfl⟩
     obtain ⟨sp, HSp⟩ : ∃ s, Hid (pc (some ⟨gd, 0, none⟩) p c = s) := ⟨_, rfl⟩
     obtain ⟨sa, HSa⟩ : ∃ s, Hid (pc a pa c = s) := ⟨_, rfl⟩
     rw [HP.out] at HI
     have HFi : Hid (p + c ≤ N) := by have := HRu.out.fit hlt; rw [HP.out] at this; exact this
     have HFa : Hid (pa + c ≤ n) := by have := HRt.out.fit hyr; rw [HPa.out] at this; exact this
     obtain ⟨hh, HHh⟩ : ∃ hh : Nat → Nat, Hid ((fun j => F (pa + j)) = hh) := ⟨_, rfl⟩
     have HSl : Hid (Sl w sa c hh) := by have := HA.out.piece HFa.out; rw [HSa.out, HHh.out] at this; exact this
     have HNext : Hid (∀ q, cpf (upf fn p) hh p c q = upf fn ((i + 1) * c) q) := fun q => by
      rw [cpf_next fn _ p c (fun j hj => by rw [← HFn.out, ← HP.out, qf9 F z c i j hj, HY.out, HPa.out, ← HHh.out]) q, ← HP.out, Nat.add_mul, Nat.one_mul]
     have HD : Hid (wr.drew.cell? ⟨w3.heap.size, 0, none⟩ = some (.int .i64 (m : Int)) ∧ wr.drew.cell? ⟨w3.heap.size, 1, none⟩ = some (.int .i64 (c : Int)) ∧ wr.drew.cell? ⟨w3.heap.size, 2, none⟩ = some (.slice (some ⟨gd, 0, none⟩) N N) ∧ wr.drew.cell? ⟨w.heap.size, 0, none⟩ = some (.int .i64 (r : Int)) ∧ wr.drew.cell? ⟨w.heap.size, 1, none⟩ = some (.int .i64 (c : Int)) ∧ wr.drew.cell? ⟨w.heap.size, 2, none⟩ = some (.slice a n k) ∧ wr.drew.cell? ⟨x, o + i, none⟩ = some (.int .i64 (y : Int))) := ⟨HI.out.vm.c0, HI.out.vm.c1, HI.out.vm.c2, HI.out.va.c0, HI.out.va.c1, HI.out.va.c2, keepc HI.out.drew.below hci⟩
     have i0 : (0 : Int) ≤ (i : Int) := Int.natCast_nonneg _
     have i1 : (i : Int) < (m : Int) := by omega
     subst eb
     go_wp2
     go_region_held3 (fun w' => w'.cell? ⟨w3.heap.size, 0, none⟩ = some (.int .i64 (m : Int)) ∧ w'.cell? ⟨w3.heap.size, 1, none⟩ = some (.int .i64 (c : Int)) ∧ w'.cell? ⟨w3.heap.size, 2, none⟩ = some (.slice (some ⟨gd, 0, none⟩) N N) ∧ w'.cell? ⟨w.heap.size, 0, none⟩ = some (.int .i64 (r : Int)) ∧ w'.cell? ⟨w.heap.size, 1, none⟩ = some (.int .i64 (c : Int)) ∧ w'.cell? ⟨w.heap.size, 2, none⟩ = some (.slice a n k) ∧ w'.cell? ⟨x, o + i, none⟩ = some (.int .i64 (y : Int)))
      (first
       | exact HK4.out
       | exact HK2.out
       | exact HK1.out
       | exact HD.out)
      (first
       | (go_at_call 64; have _x := HK1; refine (qcd _ _ c n k y pa a sa HA.out.nil HA.out.room HFa.out hn (by omega) HPa HSa).mono ?_; rintro e w5 ⟨rfl, hb5⟩; have HI5 : Hid (NInv w w5 gd w3.heap.size r c m c n k N a (upf fn p)) := HI4.out.later hb5; have HK2 : Hid (w5.cell? ⟨w3.heap.size, 0, none⟩ = some (.int .i64 (m : Int)) ∧ w5.cell? ⟨w3.heap.size, 1, none⟩ = some (.int .i64 (c : Int)) ∧ w5.cell? ⟨w3.heap.size, 2, none⟩ = some (.slice (some ⟨gd, 0, none⟩) N N) ∧ w5.cell? ⟨w.heap.size, 0, none⟩ = some (.int .i64 (r : Int)) ∧ w5.cell? ⟨w.heap.size, 1, none⟩ = some (.int .i64 (c : Int)) ∧ w5.cell? ⟨w.heap.size, 2, none⟩ = some (.slice a n k) ∧ w5.cell? ⟨x, o + i, none⟩ = some (.int .i64 (y : Int))) := ⟨HI5.out.vm.c0, HI5.out.vm.c1, HI5.out.vm.c2, HI5.out.va.c0, HI5.out.va.c1, HI5.out.va.c2, keepc HI5.out.below hci⟩; clear hb5)
       | (go_at_call 64; refine (qcd _ _ c N N i p (some ⟨gd, 0, none⟩) sp (fun e => by cases e) (Nat.le_refl _) HFi.out hN (by omega) HP HSp).mono ?_; rintro e w4 ⟨rfl, hb4⟩; have HI4 : Hid (NInv w w4 gd w3.heap.size r c m c n k N a (upf fn p)) := (HI.out.drew).later hb4; have HK1 : Hid (w4.cell? ⟨w3.heap.size, 0, none⟩ = some (.int .i64 (m : Int)) ∧ w4.cell? ⟨w3.heap.size, 1, none⟩ = some (.int .i64 (c : Int)) ∧ w4.cell? ⟨w3.heap.size, 2, none⟩ = some (.slice (some ⟨gd, 0, none⟩) N N) ∧ w4.cell? ⟨w.heap.size, 0, none⟩ = some (.int .i64 (r : Int)) ∧ w4.cell? ⟨w.heap.size, 1, none⟩ = some (.int .i64 (c : Int)) ∧ w4.cell? ⟨w.heap.size, 2, none⟩ = some (.slice a n k) ∧ w4.cell? ⟨x, o + i, none⟩ = some (.int .i64 (y : Int))) := ⟨HI4.out.vm.c0, HI4.out.vm.c1, HI4.out.vm.c2, HI4.out.va.c0, HI4.out.va.c1, HI4.out.va.c2, keepc HI4.out.below hci⟩; clear hb4)
       | (refine qgq rfl _ _ rfl gd p N c c c sp sa (upf fn p) hh rfl rfl HI5.out.data (fun h => by rw [← HSp.out]; exact qia gd p c h) (HSl.out.later HI5.out.below) HFi.out ?_; intro w7 HR7 HG7; have HI7 : Hid (NInv w w7 gd w3.heap.size r c m c n k N a (upf fn ((i + 1) * c))) := (HI5.out.copy HR7.out HG7.out).congr (fun q _ => HNext.out q); have HK4 : Hid (w7.cell? ⟨w3.heap.size, 0, none⟩ = some (.int .i64 (m : Int)) ∧ w7.cell? ⟨w3.heap.size, 1, none⟩ = some (.int .i64 (c : Int)) ∧ w7.cell? ⟨w3.heap.size, 2, none⟩ = some (.slice (some ⟨gd, 0, none⟩) N N) ∧ w7.cell? ⟨w.heap.size, 0, none⟩ = some (.int .i64 (r : Int)) ∧ w7.cell? ⟨w.heap.size, 1, none⟩ = some (.int .i64 (c : Int)) ∧ w7.cell? ⟨w.heap.size, 2, none⟩ = some (.slice a n k) ∧ w7.cell? ⟨x, o + i, none⟩ = some (.int .i64 (y : Int))) := ⟨HI7.out.vm.c0, HI7.out.vm.c1, HI7.out.vm.c2, HI7.out.va.c0, HI7.out.va.c1, HI7.out.va.c2, keepc HI7.out.below hci⟩; clear HR7 HG7))
     go_wp2
     exact ⟨⟨i + 1, by omega, by go_num, HI7.out⟩, by simp [intOf]; omega⟩
    ·obtain rfl : i = m := by omega
     have HR : Hid (RowAt wr gd 5 N (upf fn (i * c))) := HI.out.data
     have c0 := HI.out.vm.c0
     have c1 := HI.out.vm.c1
     have c2 := HI.out.vm.c2
     have hlow := HI.out.dlow
     go_wp2_with (refine qa6 rfl _ _ rfl (w.heap.size + 1) _ _ _ (.int .i64 (i : Int)) (.int .i64 (c : Int)) (.slice (some ⟨gd, 0, none⟩) N N) rfl rfl HI.out.vr rfl rfl rfl ?_; intro w8 HV8 HG8)
     have d0 := HV8.out.c0
     have d1 := HV8.out.c1
     have d2 := HV8.out.c2
     refine bodyPost_ret (v := .tuple #[mv i c (some ⟨gd, 0, none⟩) N N, .int .i64 0]) (by simp [results, Tryz.results29, go_sem, d0, d1, d2, mv]) rfl ?_
     exact ⟨gd, rfl, (HR.out.kept HG8.out (by omega)).congr (qls fn (by rw [HRu.out.len]; exact Nat.le_refl _)), by omega, qa9 HI.out.below HG8.out (by omega)⟩
theorem qlt (w : World) (r c n k m d t : Nat) (a b : Option Addr) (q : Nat → Int) (R : Rt r c n) (hm : m ≤ 140737488351232) (hb : Il w b m q) (ht : t < m) (hin : ∀ i, i < t → 0 ≤ q i ∧ q i < r) (hbad : ¬ (0 ≤ q t ∧ q t < r)) :
  Calls Tryz.prog 29 #[mv r c a n k, .slice b m d] w fun e w' => e = .returned (.tuple #[mv 0 0 none 0 0, .int .i64 2]) ∧ Below w.heap.size w w' := by
 have HRt : Hid (Rt r c n) := R
 have HIb : Hid (Il w b m q) := hb
 have HIn : Hid (∀ i, i < t → 0 ≤ q i ∧ q i < r) := hin
 have HBad : Hid (¬ (0 ≤ q t ∧ q t < r)) := hbad
 obtain ⟨wb, HW, HX⟩ : ∃ wb, Hid (wb = (w.alloc (.cells #[.int .i64 (r : Int), .int .i64 (c : Int), .slice a n k] 24)).alloc (.cells #[.int .i64 0, .int .i64 0, .slice none 0 0] 24)) ∧ Hid (Box2 w wb r c n k a) := ⟨_, rfl, box2 w r c n k a⟩
 clear R hb hin hbad
 go_enter Tryz.func29, Tryz.ntmps29
 go_wp2_with (first
  | (go_at_call 60; rw [← HW.out]; refine (qaj _ _ _ _ _ _ HRt.out.p).mono ?_; rintro e w2 ⟨rfl, hb2⟩; have HB2 : Hid (Below wb.heap.size wb w2) := hb2; clear hb2))
 go_loopw [7, 16] (fun _ j wr => ∃ t' : Nat, t' ≤ t ∧ j = .int .i64 (t' : Int) ∧ Below wb.heap.size wb wr) (fun _ j _ => m - (intOf j).toNat)
 case atStart => exact ⟨0, by omega, rfl, HB2.out⟩
 case round =>
  clear HB2
  obtain ⟨i, hi, rfl, hbr⟩ := hrel
  have HB2 : Hid (Below wb.heap.size wb wr) := hbr
  have a0 := (HX.out.va.later hbr).c0
  have a1 := (HX.out.va.later hbr).c1
  have a2 := (HX.out.va.later hbr).c2
  clear hbr
  by_cases hlt : i < t
  ·obtain ⟨x, o, eb, hci⟩ := HIb.out i (by omega)
   have hcw : wr.cell? ⟨x, o + i, none⟩ = some (.int .i64 (q i)) := keepc (qa0 HX.out.below HB2.out) hci
   obtain ⟨y, HY⟩ : ∃ y, Hid (q i = y) := ⟨_, rfl⟩
   rw [HY.out] at hcw
   have HH : Hid (0 ≤ y ∧ y < r) := by have := HIn.out i hlt; rw [HY.out] at this; exact this
   have i1 : (i : Int) < (m : Int) := by omega
   clear hci
   subst eb
   go_wp2_with (go_at_call 61; refine (qdi _ _ _ _ _ _ _ HH.out).mono ?_; rintro e w3 ⟨rfl, hb3⟩; have HB3 : Hid (Below wb.heap.size wb w3) := qa0 HB2.out hb3; clear hb3)
   exact ⟨⟨i + 1, by omega, by go_num, HB3.out⟩, by simp [intOf]; omega⟩
  ·obtain rfl : i = t := by omega
   obtain ⟨x, o, eb, hci⟩ := HIb.out i (by omega)
   have hcw : wr.cell? ⟨x, o + i, none⟩ = some (.int .i64 (q i)) := keepc (qa0 HX.out.below HB2.out) hci
   obtain ⟨y, HY⟩ : ∃ y, Hid (q i = y) := ⟨_, rfl⟩
   rw [HY.out] at hcw
   have HH : Hid (¬ (0 ≤ y ∧ y < r)) := by have := HBad.out; rw [HY.out] at this; exact this
   have i1 : (i : Int) < (m : Int) := by omega
   clear hci hlt
   subst eb
   go_wp2_with (first
    | (go_at_call 61; refine (ql8 _ _ _ _ _ _ _ HH.out).mono ?_; rintro e w3 ⟨rfl, hb3⟩; have HBw : Hid (Below w.heap.size w w3) := qa0 (qa0 HX.out.below HB2.out) hb3; have HV2 : Hid (Vr w3 (w.heap.size + 1) (.int .i64 0) (.int .i64 0) (.slice none 0 0)) := HX.out.vr.later (qa0 HB2.out hb3); clear hb3)
    | (refine qa6 rfl _ _ rfl (w.heap.size + 1) _ _ _ (.int .i64 0) (.int .i64 0) (.slice none 0 0) rfl rfl HV2.out rfl rfl rfl ?_; intro w8 HV8 HG8))
   have d0 := HV8.out.c0
   have d1 := HV8.out.c1
   have d2 := HV8.out.c2
   refine bodyPost_ret (v := .tuple #[mv 0 0 none 0 0, .int .i64 2]) (by simp [results, Tryz.results29, go_sem, d0, d1, d2, mv]) rfl ?_
   exact ⟨rfl, qa9 HBw.out HG8.out (by omega)⟩
end Go.Proofs.YtblagbghpfopcaaGreat
