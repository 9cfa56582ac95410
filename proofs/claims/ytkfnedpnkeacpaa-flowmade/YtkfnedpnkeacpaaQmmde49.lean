/-
  Stage 21: the reference's Of, of a matrix that is right.
-/
import Derived.Test.YtkfnedpnkeacpaaQmmde00
import Derived.Test.YtkfnedpnkeacpaaQmmde48
set_option maxRecDepth 100000
set_option maxHeartbeats 16000000
namespace Go.Proofs.Ytkfnedpnkeacpaa
open Go.RowKit
theorem rof_ok (w : World) (r c n k : Nat) (a : Option Addr) (F : Nat → Nat) (ha : Mt w a n k F) (R : Rt r c n) :
  Calls Try.prog 10 #[mv r c a n k] w fun e w' => OfG r c F w' e ∧ Below w.heap.size w w' := by
 obtain ⟨s0, hs0, hy0, hy1, hy2⟩ := info_parts jsli
 obtain ⟨i0, hi0, hz0, hz1, hz2⟩ := info_parts ji64
 obtain ⟨t0, ht0, htz0, htz1, htz2⟩ := info_parts jtrm
 have HM := qa0 ha
 have HRt := qa0 R
 have hr := R.r64
 have hc := R.c64
 have hn4 := R.le
 have hml : c ≤ maxLen := by unfold maxLen; omega
 obtain ⟨wb, HW⟩ : ∃ wb, Hid ((w.alloc (.cells #[.int .i64 (r : Int), .int .i64 (c : Int), .slice a n k] 24)).alloc (.cells #[.slice none 0 0, .slice none 0 0, .slice none 0 0] 28) = wb) := ⟨_, rfl⟩
 have HB0 : Hid (Below w.heap.size w wb) := by rw [← HW.out]; exact jtwo (jlow _ _) (jlow _ _)
 have HVM : Hid (Vf wb w.heap.size 24 #[.int .i64 (r : Int), .int .i64 (c : Int), .slice a n k]) := by rw [← HW.out]; exact (Vf.new w _ _).later (jlow _ _)
 have HVR : Hid (Vf wb (w.heap.size + 1) 28 #[.slice none 0 0, .slice none 0 0, .slice none 0 0]) := by rw [← HW.out]; exact Vf.new1 _ _ _ _
 have HAt := qa0 (fun (w2 : World) (hb : Below w.heap.size w w2) (i j : Nat) (hi : i < r) (hj : j < c) => at3_any w2 r c i j n k (F (i * c + j)) a F (ha.later hb).sl (R.at hi hj) hn4 (qa0 rfl))
 have x0 := HVM.out.cell 0 (.int .i64 (r : Int)) rfl
 have x1 := HVM.out.cell 1 (.int .i64 (c : Int)) rfl
 have x2 := HVM.out.cell 2 (.slice a n k) rfl
 rw [← HW.out] at x0 x1 x2
 clear ha R
 go_enter Try.func10, Try.ntmps10
 go_wp2_with (first
  | (go_at_call 19; rw [HW.out]; refine (qer _ _ _ _ _ _ HRt.out.p).mono ?_; rintro e w1 ⟨rfl, hb1⟩; have hl1 := jlow w1 (.cells #[.slice none 0 0, .slice none 0 0, .slice none 0 0] 28); have HB1 := qa0 (jtwo HB0.out (jtwo hb1 hl1)); have HVM1 := qa0 (HVM.out.later (jtwo hb1 hl1)); have HVR1 := qa0 (HVR.out.later (jtwo hb1 hl1)); have HVF1 := qa0 (Vf.new w1 28 #[.slice none 0 0, .slice none 0 0, .slice none 0 0]); have hR1 : w.heap.size + 1 < w1.heap.size := Nat.lt_of_lt_of_le HVR.out.lt hb1.size; have y1 := HVM1.out.cell 1 (.int .i64 (c : Int)) rfl; clear hb1 hl1 x0 x1 x2)
  | (at_make; refine wpList_make_full _ rfl _ _ 25 rfl (w1.alloc (.cells #[.slice none 0 0, .slice none 0 0, .slice none 0 0] 28)).heap.size 3 i0 (.int .i64 0) 1 Try.underlying25 hi0 hz0 hz1 .i64 .i64 _ _ c rfl rfl rfl rfl (by rw [hz2]; omega) hml (Nat.le_refl _) ?_; intro w2 hown hgrow; have HG2 : Hid (Ga w2 (w1.alloc (.cells #[.slice none 0 0, .slice none 0 0, .slice none 0 0] 28)).heap.size 3 c (fun _ => .int .i64 0)) := qaq rfl hown; have hb2 : Below (w1.alloc (.cells #[.slice none 0 0, .slice none 0 0, .slice none 0 0] 28)).heap.size (w1.alloc (.cells #[.slice none 0 0, .slice none 0 0, .slice none 0 0] 28)) w2 := qa7.mp hgrow; have HB2 := qa0 (jtwo HB1.out hb2); have HVM2 := qa0 (HVM1.out.later hb2); have HVR2 := qa0 (HVR1.out.later hb2); have HVF2 := qa0 (HVF1.out.later hb2); clear hown hgrow hb2))
 have es : (w1.alloc (.cells #[.slice none 0 0, .slice none 0 0, .slice none 0 0] 28)).heap.size = w1.heap.size + 1 := by simp
 rw [es] at HG2
 obtain ⟨V, HVV⟩ : ∃ V, Hid (w1.heap.size = V) := ⟨_, rfl⟩
 rw [HVV.out] at HG2 HVF2 hR1 ⊢
 clear HB0 HB1 HVM HVR HVM1 HVR1 HVF1 HVV HW es y1
 go_loopw [6] (fun vi wr => ∃ (j m : Nat) (f av : Nat → Nat) (vv : Value), j ≤ c ∧ vi = .int .i64 (j : Int) ∧ En (UsP r c F) j m f ∧ (∀ i, i < m → av (f i) = i) ∧ Ga wr (V + 1) 3 c (fun x => .int .i64 (av x : Nat)) ∧ Jo wr (V + 2) 3 .i64 vv m f ∧ Vf wr V 28 #[vv, .slice none 0 0, .slice none 0 0] ∧ Vf wr w.heap.size 24 #[.int .i64 (r : Int), .int .i64 (c : Int), .slice a n k] ∧ Vf wr (w.heap.size + 1) 28 #[.slice none 0 0, .slice none 0 0, .slice none 0 0] ∧ Below w.heap.size w wr) (fun vi _ => c - (intOf vi).toNat)
 case atStart => exact ⟨0, 0, _, fun _ => 0, _, by omega, rfl, En.nil _ (fun _ => 0), fun i hi => by omega, HG2.out.congr (fun _ _ => rfl), Jo.nil _ _ _ _ _, HVF2.out, HVM2.out, HVR2.out, HB2.out⟩
 case round =>
  clear HG2 HVF2 HVM2 HVR2 HB2
  obtain ⟨j, m, f, av, vv, hj, rfl, hE, hav, hg3, hj3, hf3, hm3, hr3, hb3⟩ := hrel
  have HE := qa0 hE
  have HAv := qa0 hav
  have HG3 := qa0 hg3
  have HJ3 := qa0 hj3
  have HF3 := qa0 hf3
  have HM3 := qa0 hm3
  have HR3 := qa0 hr3
  have HB3 := qa0 hb3
  have m0 := hm3.cell 0 (.int .i64 (r : Int)) rfl
  have m1 := hm3.cell 1 (.int .i64 (c : Int)) rfl
  clear hE hav hg3 hj3 hf3 hm3 hr3
  by_cases hlt : j < c
  ·have p0 : (0 : Int) ≤ (j : Int) := by omega
   have p1 : (j : Int) < (c : Int) := by omega
   clear hb3
   go_wp2
   go_loopw [7, 8] (fun vu vi w5 => ∃ (i : Nat) (u : Bool), i ≤ r ∧ vi = .int .i64 (i : Int) ∧ vu = .bool u ∧ (u = true ↔ ∃ l, l < i ∧ F (l * c + j) ≠ 0) ∧ Below wr.heap.size wr w5) (fun _ vi _ => r - (intOf vi).toNat)
   case atStart => exact ⟨0, false, by omega, rfl, rfl, ⟨fun h => Bool.noConfusion h, fun ⟨l, h, _⟩ => by omega⟩, Below.refl _ _⟩
   case round =>
    obtain ⟨i, u, hi, rfl, rfl, hu, hb5⟩ := hrel
    have HU := qa0 hu
    have HB5 := qa0 hb5
    have m0 := (HM3.out.later hb5).cell 0 (.int .i64 (r : Int)) rfl
    have m1 := (HM3.out.later hb5).cell 1 (.int .i64 (c : Int)) rfl
    have m2 := (HM3.out.later hb5).cell 2 (.slice a n k) rfl
    clear hu
    by_cases hli : i < r
    ·have q0 : (0 : Int) ≤ (i : Int) := by omega
     have q1 : (i : Int) < (r : Int) := by omega
     cases hu2 : u with
     | true =>
      have HU2 := qa0 hu2
      subst hu2
      clear hb5
      go_wp2
      exact ⟨⟨i + 1, true, by omega, by go_num, rfl, ⟨fun _ => by obtain ⟨l, h1, h2⟩ := HU.out.1 rfl; exact ⟨l, by omega, h2⟩, fun _ => rfl⟩, HB5.out⟩, by simp [intOf]; omega⟩
     | false =>
      subst hu2
      have HC := qa0 (HAt.out _ (jtwo HB3.out hb5) i j hli hlt)
      obtain ⟨z, HZ⟩ : ∃ z, Hid (F (i * c + j) = z) := ⟨_, rfl⟩
      rw [HZ.out] at HC
      clear hb5
      by_cases hz : z = 0
      ·have HZ0 := qa0 hz
       have e1 : ((z : Int) != 0) = false := by simp; omega
       have e2 : (z : Int) = 0 := by omega
       clear hz
       go_wp2_with (go_at_call 33; refine HC.out.mono ?_; rintro e w6 ⟨rfl, hb6⟩; have HB6 := qa0 (jtwo HB5.out hb6); clear hb6)
       exact ⟨⟨i + 1, false, by omega, by go_num, rfl, ⟨fun h => Bool.noConfusion h, fun ⟨l, h1, h2⟩ => by
        by_cases e : l = i
        ·rw [e, HZ.out] at h2; exact absurd HZ0.out h2
        ·exact HU.out.2 ⟨l, by omega, h2⟩⟩, HB6.out⟩, by simp [intOf]; omega⟩
      ·have HZ0 := qa0 hz
       have e1 : ((z : Int) != 0) = true := by simp; omega
       have e2 : ¬ (z : Int) = 0 := by omega
       clear hz
       go_wp2_with (go_at_call 33; refine HC.out.mono ?_; rintro e w6 ⟨rfl, hb6⟩; have HB6 := qa0 (jtwo HB5.out hb6); clear hb6)
       exact ⟨⟨i + 1, true, by omega, by go_num, rfl, ⟨fun _ => ⟨i, by omega, by rw [HZ.out]; exact HZ0.out⟩, fun _ => rfl⟩, HB6.out⟩, by simp [intOf]; omega⟩
    ·obtain rfl : i = r := by omega
     have HG5 := qa0 (HG3.out.later hb5)
     have HJ5 := qa0 (HJ3.out.later hb5)
     have HF5 := qa0 (HF3.out.later hb5)
     have HM5 := qa0 (HM3.out.later hb5)
     have HR5 := qa0 (HR3.out.later hb5)
     have HBw := qa0 (jtwo HB3.out hb5)
     clear HG3 HJ3 HF3 HM3 HR3 hb5 m2
     cases hu2 : u with
     | false =>
      subst hu2
      have HNo : Hid (¬ UsP i c F j) := fun ⟨l, h1, h2⟩ => Bool.noConfusion (HU.out.2 ⟨l, h1, h2⟩)
      go_wp2
      exact ⟨⟨j + 1, m, f, av, vv, by omega, by go_num, HE.out.no HNo.out, HAv.out, HG5.out, HJ5.out, HF5.out, HM5.out, HR5.out, HBw.out⟩, by simp [intOf]; omega⟩
     | true =>
      subst hu2
      have HYes : Hid (UsP i c F j) := by obtain ⟨l, h1, h2⟩ := HU.out.1 rfl; exact ⟨l, h1, h2⟩
      have hmj : m ≤ j := HE.out.le
      obtain ⟨ps, pd, rfl, _⟩ := HJ5.out.form
      have g0 := HG5.out.cell j hlt
      have gf := HG5.out.free j
      have f0 := HF5.out.cell 0 (.slice ps m pd) rfl
      obtain ⟨W6, HW6⟩ : ∃ W6, Hid (wr.setCell ⟨V + 1, j, none⟩ (.int .i64 (m : Int)) = W6) := ⟨_, rfl⟩
      have HG6 : Hid (Ga W6 (V + 1) 3 c (fun x => .int .i64 ((if x = j then m else av x : Nat)))) := by
       rw [← HW6.out]
       exact (HG5.out.set j _).congr fun x _ => by by_cases e : x = j <;> simp [e]
      have hg6 : wr.grownBy W6 (some (V + 1)) := by rw [← HW6.out]; exact qa1 _ _ _ _
      have HJ6 := qa0 (HJ5.out.kept hg6 (qaa HJ5.out (by omega)))
      have HF6 := qa0 (HF5.out.kept hg6 (fun e => by have := Option.some.inj e; omega))
      have HM6 := qa0 (HM5.out.kept hg6 (fun e => by have := Option.some.inj e; omega))
      have HR6 := qa0 (HR5.out.kept hg6 (fun e => by have := Option.some.inj e; omega))
      have HB6 : Hid (Below w.heap.size w W6) := by rw [← HW6.out]; exact HBw.out.setCell (by show w.heap.size ≤ V + 1; omega) _
      have f06 := HF6.out.cell 0 (.slice ps m pd) rfl
      have hV6 := HG6.out.lt
      have HE6 : Hid (W6.heap.size = wr.heap.size) := by rw [← HW6.out]; exact qb5 _ _ _ _
      rw [← HW6.out] at f06
      have hml2 : m + 1 ≤ maxLen := by unfold maxLen; omega
      clear hg6 HG5 HJ5 HF5 HM5 HR5
      go_wp2_with (at_builtin; have _x := HW6; rw [HW6.out]; refine wpList_append_own _ rfl _ _ 25 rfl (V + 2) 3 i0 (.int .i64 0) 1 8 Try.underlying25 hi0 hz0 hz1 hz2 rfl (by decide) _ m _ rfl (World.ownsRow.alloc HJ6.out _) ⟨wr.heap.size, 0, none⟩ 1 1 [.int .i64 (j : Int)] rfl rfl (by rw [← HE6.out]; exact qbk _ _ _ _) (qbl _ _) hml2 (by omega) (by simp; omega) ?_; intro v7 w7 hown7 hgrow7 _; obtain ⟨p7, d7, rfl⟩ := qa8 hown7; have HO7 := qci HJ6.out (by omega) hown7 hgrow7; have hal := jlow W6 (.cells #[.int .i64 (j : Int)] 3); have HG7 := qa0 ((HG6.out.later hal).kept hgrow7 (qae HJ6.out (by omega))); have HF7 := qa0 ((HF6.out.later hal).kept hgrow7 (qae HJ6.out (by omega))); have HM7 := qa0 ((HM6.out.later hal).kept hgrow7 (qae HJ6.out (by omega))); have HR7 := qa0 ((HR6.out.later hal).kept hgrow7 (qae HJ6.out (by omega))); have HB7 := qa0 (HB6.out.trans (HO7.2.mono (by omega))); have k0 := HF7.out.cell 0 (.slice ps m pd) rfl; have k1 := HF7.out.free 0; clear hown7 hgrow7 hal)
      exact ⟨⟨j + 1, m + 1, _, _, _, by omega, by go_num, HE.out.yes HYes.out, fun i hi => by
       by_cases e : i = m
       ·rw [if_pos e, if_pos rfl, e]
       ·rw [if_neg e]
        have := HE.out.lt i (by omega)
        rw [if_neg (by omega)]
        exact HAv.out i (by omega), HG7.out.kept (qa1 _ _ _ _) (fun e => by have := Option.some.inj e; omega), HO7.1.kept (qa1 _ _ _ _) (qaa HO7.1 (by omega)), HF7.out.put 0 _, HM7.out.kept (qa1 _ _ _ _) (fun e => by have := Option.some.inj e; omega), HR7.out.kept (qa1 _ _ _ _) (fun e => by have := Option.some.inj e; omega), HB7.out.setCell (by show w.heap.size ≤ V; omega) _⟩, by simp [intOf]; omega⟩
  ·obtain rfl : j = c := by omega
   obtain ⟨ps, pd, rfl, _⟩ := HJ3.out.form
   obtain ⟨D, HD⟩ : ∃ D, Hid (wr.heap.size = D) := ⟨_, rfl⟩
   have hVD : V + 1 < D := by rw [← HD.out]; exact HG3.out.lt
   have hm : m ≤ j := HE.out.le
   have HLt := qa0 HE.out.lt
   have HW : Hid (wr.grownBy wr (some V)) := qbg _ _
   clear hb3
   go_wp2
   go_loopw [9] (fun vi w5 => ∃ (i : Nat) (vn vo : Value), i ≤ r ∧ vi = .int .i64 (i : Int) ∧ Vf w5 V 28 #[.slice ps m pd, vn, vo] ∧ Nw w5 D vn (rnds F j av i) ∧ Jo w5 D 3 .i64 vo i (fun t => m + t) ∧ wr.grownBy w5 (some V)) (fun vi _ => r - (intOf vi).toNat)
   case atStart => exact ⟨0, _, _, by omega, rfl, HF3.out, Nw.nil _ _, Jo.nil _ _ _ _ _, HW.out⟩
   case round =>
    clear HF3 HW
    obtain ⟨i, vn, vo, hi, rfl, hf5, hn5, ho5, hg5⟩ := hrel
    have HF5 := qa0 hf5
    have HN5 := qa0 hn5
    have HO5 := qa0 ho5
    have HGr := qa0 hg5
    have hm5 := HM3.out.kept hg5 (fun e => by have := Option.some.inj e; omega)
    have HB5 := qa0 (HB3.out.grown hg5 HB3.out.size (fun k e => by have := Option.some.inj e; omega))
    have m0 := hm5.cell 0 (.int .i64 (r : Int)) rfl
    have m1 := hm5.cell 1 (.int .i64 (j : Int)) rfl
    have hD5 : D ≤ wr.heap.size := by have := hg5.size; have := HD.out; omega
    clear hf5 hn5 ho5 hm5
    by_cases hli : i < r
    ·have q0 : (0 : Int) ≤ (i : Int) := by omega
     have q1 : (i : Int) < (r : Int) := by omega
     obtain ⟨E, HEe⟩ : ∃ E, Hid (wr.heap.size = E) := ⟨_, rfl⟩
     rw [HEe.out] at hD5
     have HGa := qa0 (HG3.out.kept hg5 (fun e => by have := Option.some.inj e; omega))
     have HMa := qa0 (HM3.out.kept hg5 (fun e => by have := Option.some.inj e; omega))
     have hVE : V + 1 < E := by omega
     clear hg5
     go_wp2
     have HRefl := qa0 (Below.refl wr.heap.size wr)
     go_loopw [10, 11] (fun vl vi w6 => ∃ t : Nat, t ≤ j ∧ vi = .int .i64 (t : Int) ∧ Tw w6 E vl (rof (fun x => F (i * j + x)) av t) ∧ (rof (fun x => F (i * j + x)) av t).length ≤ t ∧ Below wr.heap.size wr w6) (fun _ vi _ => j - (intOf vi).toNat)
     case atStart => exact ⟨0, by omega, rfl, Tw.nil _ _, Nat.le_refl _, HRefl.out⟩
     case round =>
      clear HRefl
      obtain ⟨t, ht, rfl, htw, htl, hb6⟩ := hrel
      have HTw := qa0 htw
      have HB6 := qa0 hb6
      have HBw6 := qa0 (jtwo HB5.out hb6)
      have m0 := (HMa.out.later hb6).cell 0 (.int .i64 (r : Int)) rfl
      have m1 := (HMa.out.later hb6).cell 1 (.int .i64 (j : Int)) rfl
      have m2 := (HMa.out.later hb6).cell 2 (.slice a n k) rfl
      have hE6 : E ≤ wr.heap.size := by have := hb6.size; have := HEe.out; omega
      clear htw
      by_cases hlt2 : t < j
      ·have s0' : (0 : Int) ≤ (t : Int) := by omega
       have s1' : (t : Int) < (j : Int) := by omega
       have HC := qa0 (HAt.out _ HBw6.out i t hli hlt2)
       obtain ⟨z, HZ⟩ : ∃ z, Hid (F (i * j + t) = z) := ⟨_, rfl⟩
       rw [HZ.out] at HC
       have c0 := (HGa.out.later hb6).cell t hlt2
       have HC0 := qa0 c0
       have hz8 : z < 256 := by rw [← HZ.out]; exact HM.out.sl.1 _ (HRt.out.at hli hlt2)
       obtain ⟨L, HL⟩ : ∃ L, Hid (rof (fun x => F (i * j + x)) av t = L) := ⟨_, rfl⟩
       rw [HL.out] at HTw htl
       obtain ⟨la, ld, rfl, _⟩ := HTw.out.form
       clear hb6 c0
       by_cases hz : z = 0
       ·have HZ0 := qa0 hz
        have e1 : ((z : Int) != 0) = false := by simp; omega
        have e2 : (z : Int) = 0 := by omega
        have HL2 : Hid (rof (fun x => F (i * j + x)) av (t + 1) = L) := by
         show rof (fun x => F (i * j + x)) av t ++ (if F (i * j + t) = 0 then [] else _) = L
         rw [HL.out, HZ.out, if_pos HZ0.out, List.append_nil]
        clear hz
        go_wp2_with (go_at_call 33; refine HC.out.mono ?_; rintro e w7 ⟨rfl, hb7⟩; have HB7 := qa0 (jtwo HB6.out hb7); have HTw7 := qa0 (HTw.out.later hb7); clear hb7)
        exact ⟨⟨t + 1, by omega, by go_num, by rw [HL2.out]; exact HTw7.out, by rw [HL2.out]; omega, HB7.out⟩, by simp [intOf]; omega⟩
       ·have e1 : ((z : Int) != 0) = true := by simp; omega
        have e2 : ¬ (z : Int) = 0 := by omega
        obtain ⟨q, HQ⟩ : ∃ q, Hid (av t = q) := ⟨_, rfl⟩
        have HL2 : Hid (rof (fun x => F (i * j + x)) av (t + 1) = L ++ [((q : Int), z)]) := by
         show rof (fun x => F (i * j + x)) av t ++ (if F (i * j + t) = 0 then [] else [(((av t : Nat) : Int), F (i * j + t))]) = _
         rw [HL.out, HZ.out, if_neg hz, HQ.out]
        rw [HQ.out] at HC0
        have hml3 : L.length + 1 ≤ maxLen := by unfold maxLen; omega
        clear hz
        go_wp2_with (first
         | (go_at_call 33; refine HC.out.mono ?_; rintro e w7 ⟨rfl, hb7⟩; have HB7 := qa0 (jtwo HB6.out hb7); have HTw7 := qa0 (HTw.out.later hb7); have c1 := keepc hb7 HC0.out; have hs7 := hb7.size; clear hb7)
         | (at_builtin; refine wpList_append_own _ rfl _ _ 59 rfl E 61 t0 (.agg #[.int .i64 0, .int .u8 0]) 2 16 Try.underlying59 ht0 htz0 htz1 htz2 rfl (by decide) _ L.length _ rfl (HTw7.out.later (jlow _ _)) ⟨w7.heap.size, 0, none⟩ 1 1 [.int .i64 (q : Int), .int .u8 (z : Int)] rfl rfl (qf5 _ _ _ _) (by intro u hu; simp at hu; rcases hu with rfl | rfl <;> rfl) hml3 (by omega) (by simp; omega) ?_; intro v8 w8 hown8 hgrow8 _; have HT8 : Hid (Tw w8 E v8 (L ++ [((q : Int), z)])) := Tw.push hown8; have HB8 := qa0 (HB7.out.trans (((jlow w7 (.cells #[.int .i64 (q : Int), .int .u8 (z : Int)] 61)).mono HB7.out.size).trans (jbelow hgrow8 (by have := HB7.out.size; simp; omega) (fun g hg => by have := (HTw7.out.base hg).1; have := HEe.out; omega)))); clear hown8 hgrow8))
        exact ⟨⟨t + 1, by omega, by go_num, by rw [HL2.out]; exact HT8.out, by rw [HL2.out, List.length_append]; show _ + 1 ≤ _; omega, HB8.out⟩, by simp [intOf]; omega⟩
      ·obtain rfl : t = j := by omega
       obtain ⟨L, HL⟩ : ∃ L, Hid (rof (fun x => F (i * t + x)) av t = L) := ⟨_, rfl⟩
       rw [HL.out] at HTw
       obtain ⟨la, ld, rfl, _⟩ := HTw.out.form
       have HF9 := qa0 (HF5.out.later hb6)
       have HN9 := qa0 (HN5.out.later hb6)
       have HO9 := qa0 (HO5.out.later hb6)
       have HG9 := qa0 (qal HGr.out (jgrown.mpr hb6) (fun x e => by cases e))
       obtain ⟨vs9, hvs9, _⟩ := HN9.out
       rw [qbo] at hvs9
       have HNf : Hid (∃ q d, vn = .slice q i d) := qa8 hvs9
       obtain ⟨vnb, HVnb⟩ : ∃ b, Hid (vn.ownBlock = b) := ⟨_, rfl⟩
       have f0 := HF9.out.cell 0 (.slice ps m pd) rfl
       have f2 := HF9.out.cell 2 vo rfl
       have w1' : IntKind.i64.wrap ((m : Int) + (i : Int)) = (m : Int) + (i : Int) := by rw [IntKind.wrap_i64]; omega
       have w2' : ((m : Int) + (i : Int)) = ((m + i : Nat) : Int) := by rw [Int.natCast_add]
       obtain ⟨mi, HMI⟩ : ∃ mi, Hid (m + i = mi) := ⟨_, rfl⟩
       rw [HMI.out] at w2'
       rw [w2'] at w1'
       have hml4 : i + 1 ≤ maxLen := by unfold maxLen; omega
       have hVl : V < wr.heap.size := HF9.out.lt
       have hDl : D ≤ wr.heap.size := by omega
       clear hb6 hvs9 HF5 HN5 HO5 HGr
       go_wp2_with (first
        | (at_builtin; refine wpList_append_own _ rfl _ _ 25 rfl D 3 i0 (.int .i64 0) 1 8 Try.underlying25 hi0 hz0 hz1 hz2 rfl (by decide) _ i _ rfl (World.ownsRow.alloc HO9.out _) ⟨wr.heap.size, 0, none⟩ 1 1 [.int .i64 (mi : Int)] rfl rfl (qbk _ _ _ _) (qbl _ _) hml4 (by omega) (by simp; omega) ?_; intro v10 w10 hown10 hgrow10 _; obtain ⟨g9, d9, rfl⟩ := qa8 hown10; have hal := jlow wr (.cells #[.int .i64 (mi : Int)] 3); have HO10 := qa0 (qci HO9.out hDl hown10 hgrow10).1; have HF10 := qa0 ((HF9.out.later hal).kept hgrow10 (qae HO9.out (by omega))); have HN10 := qa0 ((HN9.out.later hal).kept (qad HO9.out hal) hgrow10 (by decide) (by decide)); have HT10 := qa0 ((HTw.out.later hal).kept hgrow10 (qao (HTw.out.later hal) (qad HO9.out hal) (by decide))); have HG10 := qa0 (qal (qal HG9.out (jgrown.mpr hal) (fun x e => by cases e)) hgrow10 (fun x e => by have := qa6 HO9.out x e; have := HD.out; omega)); have q1 := HF10.out.cell 2 vo rfl; have q2 := HF10.out.free 2; have HF11 := qa0 (HF10.out.put 2 (.slice g9 (i + 1) d9)); have q3 := HF11.out.cell 1 vn rfl; have hs10 : D ≤ w10.heap.size := (by have := HG10.out.size; have := HD.out; omega); clear hown10 hgrow10 hal)
        | (at_builtin; have _x := HF11; obtain ⟨vs12, hvs12, hel12⟩ := (HN10.out.store (V := V) (i := 2) (x := .slice g9 (i + 1) d9) (by omega)); rw [qbo] at hvs12; have HVs12 := qa0 hvs12; clear hvs12 hel12; refine wpList_append_own _ rfl _ _ 26 rfl D 59 s0 (.slice none 0 0) 1 24 Try.underlying26 hs0 hy0 hy1 hy2 rfl (by decide) _ i vs12 rfl (World.ownsRow.alloc HVs12.out _) ⟨w10.heap.size, 0, none⟩ 1 1 [.slice la L.length ld] rfl rfl (by rw [← qb5 w10 V 2 (.slice g9 (i + 1) d9)]; exact qak _ _ _) (by intro x hx; rw [List.mem_singleton.1 hx]; rfl) hml4 (by omega) (by simp; omega) ?_; intro v12 w12 hown12 hgrow12 _; obtain ⟨g12, d12, rfl⟩ := qa8 hown12; have HO12 := qa0 hown12; have HG12 := qa0 hgrow12; have hF12 := (HF11.out.later (jlow (w10.setCell ⟨V, 2, none⟩ (.slice g9 (i + 1) d9)) (.cells #[.slice la L.length ld] 59))).kept hgrow12 (qae HVs12.out (by omega)); have HF12 := qa0 hF12; have q5 := hF12.cell 1 vn rfl; have q6 := hF12.free 1; clear hown12 hgrow12 hF12))
       have hal := jlow (w10.setCell ⟨V, 2, none⟩ (.slice g9 (i + 1) d9)) (.cells #[.slice la L.length ld] 59)
       have hJ1 := (HO10.out.kept (qa1 w10 V 2 (.slice g9 (i + 1) d9)) (qaa HO10.out (by omega))).later hal
       have hV1 := qad HVs12.out hal
       have hJ2 := hJ1.kept HG12.out (qao hJ1 hV1 (by decide))
       have hJ3 := (hJ2.kept (qa1 w12 V 1 (.slice g12 (i + 1) d12)) (qaa hJ2 (by omega))).congr (f' := fun t => m + t) (fun x _ => by
        by_cases e : x = i
        ·rw [if_pos e, e, HMI.out]
        ·rw [if_neg e])
       have hT1 := ((HT10.out.mono (B' := D) hD5).kept (qa1 w10 V 2 (.slice g9 (i + 1) d9)) (qaa (HT10.out.mono (B' := D) hD5) (by omega))).later hal
       have hN1 := Nw.push (w' := w12) (v' := .slice g12 (i + 1) d12) ((HN10.out.store (V := V) (i := 2) (x := .slice g9 (i + 1) d9) (by omega)).later hal) hT1 (fun ws q => by
        rw [qbo] at q ⊢
        obtain rfl := qdp q hV1
        exact ⟨HO12.out, HG12.out⟩)
       rw [← HL.out, ← qfh] at hN1
       have hN2 := hN1.store (V := V) (i := 1) (x := .slice g12 (i + 1) d12) (by omega)
       have hG1 := qac HG10.out (qa1 w10 V 2 (.slice g9 (i + 1) d9))
       have hG2 := qal (qal hG1 (jgrown.mpr hal) (fun x e => by cases e)) HG12.out (fun x e => by have := qa6 hV1 x e; have := HD.out; omega)
       have hG3 := qac hG2 (qa1 w12 V 1 (.slice g12 (i + 1) d12))
       exact ⟨⟨i + 1, _, _, by omega, by go_num, HF12.out.put 1 _, hN2, hJ3, hG3⟩, by simp [intOf]; omega⟩
    ·obtain rfl : i = r := by omega
     obtain ⟨vs9, hvs9, hel9⟩ := HN5.out
     rw [qbo] at hvs9
     obtain ⟨y, q, rfl⟩ := qa8 hvs9
     obtain ⟨z, s, rfl, _⟩ := HO5.out.form
     have f0 := HF5.out.cell 0 (.slice ps m pd) rfl
     have f1 := HF5.out.cell 1 (.slice y i q) rfl
     have f2 := HF5.out.cell 2 (.slice z i s) rfl
     have HRs := qa0 (HR3.out.kept hg5 (fun e => by have := Option.some.inj e; omega))
     have HJs := qa0 (HJ3.out.kept hg5 (qaa HJ3.out (by omega)))
     clear hg5 hvs9 hel9
     go_wp2_with (refine qa4 rfl 28 _ _ rfl (w.heap.size + 1) _ #[.slice ps m pd, .slice y i q, .slice z i s] rfl rfl HRs.out sizeFl rfl (all3s _ _ _ _ _ _ _ _ _) ?_; intro w9 HV9 HG9)
     have d0 := HV9.out.cell 0 (.slice ps m pd) rfl
     have d1 := HV9.out.cell 1 (.slice y i q) rfl
     have d2 := HV9.out.cell 2 (.slice z i s) rfl
     refine bodyPost_ret (v := .tuple #[flv ps m pd y i q z i s, .int .i64 0]) (by simp [results, Try.results10, go_sem, d0, d1, d2]) rfl ?_
     have hN9 : Nw w9 D (.slice y i q) (nds F j m f i) := by
      rw [← rnds_nds HE.out HAv.out]
      obtain ⟨ws, q1, q2⟩ := HN5.out
      exact ⟨ws, World.ownsRow.kept q1 HG9.out (qaa q1 (by omega)), fun l L hl => by
       obtain ⟨x, hx, ht⟩ := q2 l L hl
       exact ⟨x, hx, ht.kept HG9.out (qaa ht (by omega))⟩⟩
     have hI9 := HJs.out.kept HG9.out (qaa HJs.out (by omega))
     have hO9 := HO5.out.kept HG9.out (qaa HO5.out (by omega))
     have h1 := (hN9.ndl (qf6 HRt.out HM.out.sl.1 (by omega) HLt.out)).2
     rw [qbh] at h1
     have hfl : FlR w9 ps y z (ofF i j F m f) := ⟨by show m ≤ _; omega, by show i ≤ _; omega, by show i ≤ _; omega, hI9.jl, h1.congr (fun t ht => by rw [qar _ _ _ _ _ _ ht]; rfl) (fun t ht => by funext l; rw [qar _ _ _ _ _ _ ht]; rfl) (fun t ht => by funext l; rw [qar _ _ _ _ _ _ ht]; rfl), fun l hl => by
      obtain ⟨x, o, ee, hc⟩ := hO9.jl l hl
      exact ⟨x, o, ee, by rw [hc]; show some (Value.int .i64 ((m + l : Nat) : Int)) = some (Value.int .i64 ((m : Int) + (l : Int))); rw [Int.natCast_add]⟩⟩
     exact ⟨⟨ps, pd, y, q, z, s, ofF i j F m f, rfl, hfl, m, f, rfl, HE.out⟩, HB5.out.grown HG9.out HB5.out.size (fun k e => by have := Option.some.inj e; omega)⟩
end Go.Proofs.Ytkfnedpnkeacpaa
