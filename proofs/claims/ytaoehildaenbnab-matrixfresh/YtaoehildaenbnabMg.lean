/-
  Contracts of the program's matrices: Mul's errors, Apply, Transpose.
-/
import Derived.Test.YtaoehildaenbnabMf
namespace Go.Proofs.Ytaoehildaenbnab
open Go.RowKit
set_option maxRecDepth 20000 in
set_option maxHeartbeats 2000000 in
theorem mmul_bad (w : World) (r c r' c' : Int) (n k m d : Nat) (a b : Option Addr) (h : ¬ FitP r c n r' c' m) :
    Calls Try.prog 8 #[mv r c a n k, mv r' c' b m d] w fun e w' => e = .returned (.tuple #[mv 0 0 none 0 0, .int .i64 3]) ∧ Below w.heap.size w w' := by
  obtain ⟨wb, HW, HX⟩ : ∃ wb, Hid (wb = (((w.alloc (.cells #[.int .i64 r, .int .i64 c, .slice a n k] 24)).alloc (.cells #[.int .i64 r', .int .i64 c', .slice b m d] 24)).alloc (.cells #[.int .i64 0, .int .i64 0, .slice none 0 0] 24)).alloc (.cells #[.int .i64 r, .int .i64 c, .slice a n k, .int .i64 r', .int .i64 c', .slice b m d] 24)) ∧ Hid (Box3s w wb r c r' c' n k m d a b) := ⟨_, rfl, box3s w r c r' c' n k m d a b⟩
  by_cases h1 : RightP r c n ∧ RightP r' c' m
  · have H1 : Hid (RightP r c n ∧ RightP r' c' m) := h1
    have g1 : (c == r') = false := by simpa using (fun e => h ⟨h1.1, h1.2, e⟩ : ¬ c = r')
    clear h h1
    go_enter Try.func8, Try.ntmps8
    go_wp2_with (first
      | (go_at_call 25; rw [← HW.out]; refine (all_yes _ _ _ _ _ _ _ _ _ _ _ _ HX.out.tw H1.out.1 H1.out.2).mono ?_; rintro e w2 ⟨rfl, hb2⟩; have HB2 : Hid (Below w.heap.size w w2) := two_below HX.out.below hb2; have HV2 : Hid (Vr w2 (w.heap.size + 1 + 1) (.int .i64 0) (.int .i64 0) (.slice none 0 0)) := HX.out.vr.later hb2; have a1 := (HX.out.va.later hb2).c1; have b0 := (HX.out.vb.later hb2).c0; clear hb2)
      | (refine wpList_store_var rfl _ _ rfl (w.heap.size + 1 + 1) _ _ _ (.int .i64 0) (.int .i64 0) (.slice none 0 0) rfl rfl HV2.out rfl rfl rfl ?_; intro w3 HV3 HG3))
    have d0 := HV3.out.c0
    have d1 := HV3.out.c1
    have d2 := HV3.out.c2
    refine bodyPost_ret (v := .tuple #[mv 0 0 none 0 0, .int .i64 3]) (by simp [results, Try.results8, go_sem, d0, d1, d2, mv]) rfl ?_
    exact ⟨rfl, below_row HB2.out HG3.out (by omega)⟩
  · have H1 : Hid (¬ (RightP r c n ∧ RightP r' c' m)) := h1
    clear h h1
    go_enter Try.func8, Try.ntmps8
    go_wp2_with (first
      | (go_at_call 25; rw [← HW.out]; refine (all_no _ _ _ _ _ _ _ _ _ _ _ _ HX.out.tw H1.out).mono ?_; rintro e w2 ⟨rfl, hb2⟩; have HB2 : Hid (Below w.heap.size w w2) := two_below HX.out.below hb2; have HV2 : Hid (Vr w2 (w.heap.size + 1 + 1) (.int .i64 0) (.int .i64 0) (.slice none 0 0)) := HX.out.vr.later hb2; clear hb2)
      | (refine wpList_store_var rfl _ _ rfl (w.heap.size + 1 + 1) _ _ _ (.int .i64 0) (.int .i64 0) (.slice none 0 0) rfl rfl HV2.out rfl rfl rfl ?_; intro w3 HV3 HG3))
    have d0 := HV3.out.c0
    have d1 := HV3.out.c1
    have d2 := HV3.out.c2
    refine bodyPost_ret (v := .tuple #[mv 0 0 none 0 0, .int .i64 3]) (by simp [results, Try.results8, go_sem, d0, d1, d2, mv]) rfl ?_
    exact ⟨rfl, below_row HB2.out HG3.out (by omega)⟩
theorem dot_xs (f h : Nat → Nat) (n : Nat) : dot f h n = xs (fun t => fm (f t) (h t)) n := by
  induction n with
  | zero => rfl
  | succ n ih => show dot f h n ^^^ _ = xs _ n ^^^ _; rw [ih]
set_option maxRecDepth 20000 in
set_option maxHeartbeats 2000000 in
theorem mapply_ok (w : World) (r c n k d : Nat) (a b : Option Addr) (F X : Nat → Nat) (ha : Mt w a n k F) (hb : Sl w b c X) (R : Rt r c n) :
    Calls Try.prog 13 #[mv r c a n k, .slice b c d] w fun e w' => ∃ g, e = .returned (.tuple #[.slice (some ⟨g, 0, none⟩) r r, .int .i64 0]) ∧ RowAt w' g 5 r (apf F X c) ∧ w.heap.size ≤ g ∧ Below w.heap.size w w' := by
  obtain ⟨i0, hi0, hz0, hz1, hz2⟩ := info_parts info8
  have HRt : Hid (Rt r c n) := R
  have hn := R.le
  have hr64 := R.r64
  have hc64 := R.c64
  have HA : Hid (Mt w a n k F) := ha
  have HSb : Hid (Sl w b c X) := hb
  have hml : r ≤ maxLen := by unfold maxLen; omega
  obtain ⟨fn, HFn⟩ : ∃ fn : Nat → Nat, Hid (apf F X c = fn) := ⟨_, rfl⟩
  rw [HFn.out]
  obtain ⟨wb, HW⟩ : ∃ wb, Hid (wb = w.alloc (.cells #[.int .i64 (r : Int), .int .i64 (c : Int), .slice a n k] 24)) := ⟨_, rfl⟩
  have HV0 : Hid (Vr wb w.heap.size (.int .i64 (r : Int)) (.int .i64 (c : Int)) (.slice a n k)) := by rw [HW.out]; exact Vr.new w _ _ _
  have HB0 : Hid (Below w.heap.size w wb) := by rw [HW.out]; exact alloc_low _ _
  clear ha hb R
  go_enter Try.func13, Try.ntmps13
  go_wp2_with (first
    | (go_at_call 22; rw [← HW.out]; refine (mright_yes _ _ _ _ _ _ HRt.out.p).mono ?_; rintro e w1 ⟨rfl, hb1⟩; have HB1 : Hid (Below w.heap.size w w1) := two_below HB0.out hb1; have HV1 : Hid (Vr w1 w.heap.size (.int .i64 (r : Int)) (.int .i64 (c : Int)) (.slice a n k)) := HV0.out.later hb1; have c0 := HV1.out.c0; have c1 := HV1.out.c1; clear hb1)
    | (at_make; refine wpList_make_full _ rfl _ _ 22 rfl w1.heap.size 5 i0 (.int .u8 0) 1 Try.underlying22 hi0 hz0 hz1 .i64 .i64 _ _ r rfl rfl rfl rfl (by rw [hz2]; omega) hml (by simp) ?_; intro w2 hown hgrow; have HR2 : Hid (RowAt w2 w1.heap.size 5 r (fun _ => 0)) := made_at hown; have HB2 : Hid (Below w.heap.size w w2) := two_below HB1.out (grown_none.mp hgrow); have HV2 : Hid (Vr w2 w.heap.size (.int .i64 (r : Int)) (.int .i64 (c : Int)) (.slice a n k)) := HV1.out.later (grown_none.mp hgrow); have d0 := HV2.out.c0; clear hown hgrow))
  have vlt := HV1.out.lt
  clear c0 c1 d0 HW HV0 HB0 HB1 HV1
  go_loopw [7, 23] (fun _ i wr => ∃ t : Nat, t ≤ r ∧ i = .int .i64 (t : Int) ∧ RowAt wr w1.heap.size 5 r (upf fn t) ∧ Vr wr w.heap.size (.int .i64 (r : Int)) (.int .i64 (c : Int)) (.slice a n k) ∧ Below w.heap.size w wr) (fun _ i _ => r - (intOf i).toNat)
  case atStart => exact ⟨0, by omega, rfl, HR2.out.congr (fun p _ => (upf_zero fn p).symm), HV2.out, HB2.out⟩
  case round =>
    clear HR2 HV2 HB2
    obtain ⟨t, ht, rfl, hr, hv, hbr⟩ := hrel
    have HR : Hid (RowAt wr w1.heap.size 5 r (upf fn t)) := hr
    have HV : Hid (Vr wr w.heap.size (.int .i64 (r : Int)) (.int .i64 (c : Int)) (.slice a n k)) := hv
    have HB : Hid (Below w.heap.size w wr) := hbr
    clear hr hv hbr
    by_cases hlt : t < r
    · obtain ⟨p, HP⟩ : ∃ p, Hid (t * c = p) := ⟨_, rfl⟩
      obtain ⟨sa, HSa⟩ : ∃ s, Hid (pc a p c = s) := ⟨_, rfl⟩
      have HFi : Hid (p + c ≤ n) := by have := HRt.out.fit hlt; rw [HP.out] at this; exact this
      have HSl : Hid (Sl w sa c (fun j => F (p + j))) := by have := HA.out.piece HFi.out; rw [HSa.out] at this; exact this
      obtain ⟨x, HX⟩ : ∃ x, Hid (dot (fun j => F (p + j)) X c = x) := ⟨_, rfl⟩
      have HXf : Hid (x = fn t) := by show _ = _; rw [← HX.out, ← HFn.out, dot_xs, ← HP.out]; rfl
      have c0 := HV.out.c0
      have c1 := HV.out.c1
      have c2 := HV.out.c2
      have t1 : (t : Int) < (r : Int) := by omega
      go_wp2_with (first
        | (go_at_call 24; refine (rowof_any _ _ c n k t p a sa HA.out.nil HA.out.room HFi.out hn (by omega) HP HSa).mono ?_; rintro e w4 ⟨rfl, hb4⟩; have HB4 : Hid (Below wr.heap.size wr w4) := hb4; clear hb4)
        | (go_at_call 29; refine (dot_at _ sa b c c d (fun j => F (p + j)) X (HSl.out.later (two_below HB.out HB4.out)) (HSb.out.later (two_below HB.out HB4.out)) (by omega)).mono ?_; rw [HX.out]; rintro e w5 ⟨rfl, rfl⟩; have hc := (HR.out.later HB4.out).cell t hlt; have hf := (HR.out.later HB4.out).free t; have RR : Hid (RowAt (w4.setCell ⟨w1.heap.size, t, none⟩ (.int .u8 (x : Int))) w1.heap.size 5 r (upf fn (t + 1)) ∧ Vr (w4.setCell ⟨w1.heap.size, t, none⟩ (.int .u8 (x : Int))) w.heap.size (.int .i64 (r : Int)) (.int .i64 (c : Int)) (.slice a n k) ∧ Below w.heap.size w (w4.setCell ⟨w1.heap.size, t, none⟩ (.int .u8 (x : Int)))) := ⟨((HR.out.later HB4.out).set t x).congr (fun j _ => by { rw [HXf.out]; unfold upf; by_cases h : j = t; { subst h; rw [if_pos rfl, if_pos (by omega)] }; { rw [if_neg h]; by_cases h2 : j < t; { rw [if_pos h2, if_pos (by omega)] }; { rw [if_neg h2, if_neg (by omega)] } } }), (HV.out.later HB4.out).kept (grown_setCell _ _ _ _) (by omega), (two_below HB.out HB4.out).setCell (by show w.heap.size ≤ w1.heap.size; omega) _⟩))
      exact ⟨⟨t + 1, by omega, by go_num, RR.out.1, RR.out.2.1, RR.out.2.2⟩, by simp [intOf]; omega⟩
    · obtain rfl : t = r := by omega
      go_wp2
      go_ret2
      exact ⟨_, rfl, HR.out.congr (upf_all fn (Nat.le_refl _)), by omega, HB.out⟩
set_option maxHeartbeats 1000000 in
theorem mapply_bad (w : World) (r c : Int) (n k m d : Nat) (a b : Option Addr) (h : ¬ (RightP r c n ∧ (m : Int) = c)) :
    Calls Try.prog 13 #[mv r c a n k, .slice b m d] w fun e w' => e = .returned (.tuple #[.slice none 0 0, .int .i64 3]) ∧ Below w.heap.size w w' := by
  obtain ⟨wb, HW⟩ : ∃ wb, Hid (wb = w.alloc (.cells #[.int .i64 r, .int .i64 c, .slice a n k] 24)) := ⟨_, rfl⟩
  have HV0 : Hid (Vr wb w.heap.size (.int .i64 r) (.int .i64 c) (.slice a n k)) := by rw [HW.out]; exact Vr.new w _ _ _
  have HB0 : Hid (Below w.heap.size w wb) := by rw [HW.out]; exact alloc_low _ _
  by_cases h1 : RightP r c n
  · have H1 : Hid (RightP r c n) := h1
    have g1 : ((m : Int) == c) = false := by simpa using (fun e => h ⟨h1, e⟩ : ¬ (m : Int) = c)
    clear h h1
    go_enter Try.func13, Try.ntmps13
    go_wp2_with (go_at_call 22; rw [← HW.out]; refine (mright_yes _ _ _ _ _ _ H1.out).mono ?_; rintro e w1 ⟨rfl, hb1⟩; have HB1 : Hid (Below w.heap.size w w1) := two_below HB0.out hb1; have c1 := (HV0.out.later hb1).c1; clear hb1)
    go_ret2
    exact ⟨rfl, HB1.out⟩
  · have H1 : Hid (¬ RightP r c n) := h1
    clear h h1
    go_enter Try.func13, Try.ntmps13
    go_wp2_with (go_at_call 22; rw [← HW.out]; refine (mright_no _ _ _ _ _ _ H1.out).mono ?_; rintro e w1 ⟨rfl, hb1⟩; have HB1 : Hid (Below w.heap.size w w1) := two_below HB0.out hb1; clear hb1)
    go_ret2
    exact ⟨rfl, HB1.out⟩
end Go.Proofs.Ytaoehildaenbnab
