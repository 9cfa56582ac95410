/-
  Contracts of the program's matrices: Row, Same.
-/
import Derived.Test.YtaoehildaenbnabMd
import Derived.Laws.OwnMore
namespace Go.Proofs.Ytaoehildaenbnab
open Go.RowKit
set_option maxHeartbeats 400000 in
theorem clone_any (w : World) (s : Option Addr) (c d : Nat) (f : Nat → Nat) (hs : Sl w s c f) (hc : c ≤ 4096) (h0 : s = none → c = 0 ∧ d = 0) :
    Calls Try.prog 34 #[.slice s c d] w fun e w' => ∃ v, e = .returned v ∧ w'.ownsRow w.heap.size 5 1 v c (row c f).toList ∧ Below w.heap.size w w' := by
  cases s with
  | none =>
    obtain ⟨rfl, rfl⟩ := h0 rfl
    have hnil : (binOp .eql 22 (.slice none 0 0) (.slice none 0 0)).run Try.prog w = .ok (.bool true) w := Go.Lib.run_eql_slice_nil w 22 5 none 0 0 0 0 Try.underlying22
    clear hs h0
    go_enter Try.func34, Try.ntmps34
    go_wp2
    go_ret
    exact ⟨_, rfl, by rw [row_empty]; exact World.ownsRow_nil _ _ _ _, Below.refl _ _⟩
  | some x =>
    have HS : Hid (Sl w (some x) c f) := hs
    have HO : Hid ((w.alloc (.cells #[] 5)).ownsRow w.heap.size 5 1 (.slice (some ⟨w.heap.size, 0, none⟩) 0 0) 0 []) := World.ownsRow_lit w #[] 0 (Nat.le_refl _) (by decide) rfl
    have hnil : (binOp .eql 22 (.slice (some x) c d) (.slice none 0 0)).run Try.prog w = .ok (.bool false) w := Go.Lib.run_eql_slice_nil w 22 5 (some x) c d 0 0 Try.underlying22
    clear hs h0
    go_enter Try.func34, Try.ntmps34
    go_wp2_with (first
      | (at_builtin; refine wpList_append_list rfl _ _ rfl w.heap.size 0 (.slice (some ⟨w.heap.size, 0, none⟩) 0 0) [] rfl HO.out (some x) c d f rfl (HS.out.later (alloc_low _ _)) (fun e => by cases e) (by omega) (by simp) ?_; intro v w2 ho2 hg2; have HO2 : Hid (w2.ownsRow w.heap.size 5 1 v c (row c f).toList) := by { show World.ownsRow _ _ _ _ _ _ _; simpa using ho2 }; have HB2 : Hid (Below w.heap.size w w2) := below_row (alloc_low _ _) hg2 (Nat.le_refl _); clear ho2 hg2))
    go_ret
    exact ⟨_, rfl, HO2.out, HB2.out⟩
theorem pc_none {a : Option Addr} {n k p c : Nat} (h0 : a = none → n = 0 ∧ k = 0) (hf : p + c ≤ n) : pc a p c = none → c = 0 := by
  intro e
  unfold pc at e
  by_cases hc : c = 0
  · exact hc
  · rw [if_neg hc] at e
    cases a with
    | none => have := h0 rfl; omega
    | some x => cases e
set_option maxHeartbeats 1000000 in
theorem mrow_ok (w : World) (r c n k i : Nat) (a : Option Addr) (F : Nat → Nat) (ha : Mt w a n k F) (R : Rt r c n) (hi : i < r) :
    Calls Try.prog 18 #[mv r c a n k, .int .i64 (i : Int)] w fun e w' => ∃ v, e = .returned (.tuple #[v, .int .i64 0]) ∧ w'.ownsRow w.heap.size 5 1 v c (row c (fun j => F (i * c + j))).toList ∧ Below w.heap.size w w' := by
  have HRt : Hid (Rt r c n) := R
  have hc := R.c64
  have hn := R.le
  have hr := R.r64
  have HA : Hid (Mt w a n k F) := ha
  obtain ⟨p, HP⟩ : ∃ p, Hid (i * c = p) := ⟨_, rfl⟩
  rw [HP.out]
  obtain ⟨s, HS⟩ : ∃ s, Hid (pc a p c = s) := ⟨_, rfl⟩
  have HF : Hid (p + c ≤ n) := by have := R.fit hi; rw [HP.out] at this; exact this
  have HSl : Hid (Sl w s c (fun j => F (p + j))) := by have := ha.piece HF.out; rw [HS.out] at this; exact this
  have H0 : Hid (s = none → c = 0 ∧ c = 0) := fun e => by have := pc_none ha.nil HF.out (by rw [HS.out]; exact e); exact ⟨this, this⟩
  obtain ⟨G, HG⟩ : ∃ G : Nat → Nat, Hid ((fun j => F (p + j)) = G) := ⟨_, rfl⟩
  rw [HG.out]
  rw [HG.out] at HSl
  obtain ⟨wb, HW⟩ : ∃ wb, Hid (wb = w.alloc (.cells #[.int .i64 (r : Int), .int .i64 (c : Int), .slice a n k] 24)) := ⟨_, rfl⟩
  have HV0 : Hid (Vr wb w.heap.size (.int .i64 (r : Int)) (.int .i64 (c : Int)) (.slice a n k)) := by rw [HW.out]; exact Vr.new w _ _ _
  have HB0 : Hid (Below w.heap.size w wb) := by rw [HW.out]; exact alloc_low _ _
  clear ha R
  go_enter Try.func18, Try.ntmps18
  go_wp2_with (first
    | (go_at_call 22; rw [← HW.out]; refine (mright_yes _ _ _ _ _ _ HRt.out.p).mono ?_; rintro e w1 ⟨rfl, hb1⟩; have HB1 : Hid (Below wb.heap.size wb w1) := hb1; have c0 := (HV0.out.later hb1).c0; have c1 := (HV0.out.later hb1).c1; have c2 := (HV0.out.later hb1).c2; clear hb1)
    | (go_at_call 33; refine (hasrow_yes _ _ _ _ _ _ _ ⟨by omega, by omega⟩).mono ?_; rintro e w2 ⟨rfl, hb2⟩; have HB2 : Hid (Below wb.heap.size wb w2) := two_below HB1.out hb2; have d0 := (HV0.out.later HB2.out).c0; have d1 := (HV0.out.later HB2.out).c1; have d2 := (HV0.out.later HB2.out).c2; clear hb2)
    | (go_at_call 24; refine (rowof_any _ _ c n k i p a s HA.out.nil HA.out.room HF.out hn (by omega) HP HS).mono ?_; rintro e w3 ⟨rfl, hb3⟩; have HB3 : Hid (Below w.heap.size w w3) := two_below (two_below HB0.out HB2.out) hb3; clear hb3)
    | (go_at_call 34; refine (clone_any _ s c c G (HSl.out.later HB3.out) (by omega) H0.out).mono ?_; rintro e w4 ⟨v, rfl, ho4, hb4⟩; have HO4 : Hid (w4.ownsRow w3.heap.size 5 1 v c (row c G).toList) := ho4; have HB4 : Hid (Below w3.heap.size w3 w4) := hb4; clear ho4 hb4))
  go_ret2
  exact ⟨v, rfl, own_mono HO4.out HB3.out.size, two_below HB3.out HB4.out⟩
set_option maxHeartbeats 400000 in
theorem mrow_shape (w : World) (r c i : Int) (n k : Nat) (a : Option Addr) (h : ¬ RightP r c n) :
    Calls Try.prog 18 #[mv r c a n k, .int .i64 i] w fun e w' => e = .returned (.tuple #[.slice none 0 0, .int .i64 3]) ∧ Below w.heap.size w w' := by
  have HH : Hid (¬ RightP r c n) := h
  clear h
  go_enter Try.func18, Try.ntmps18
  go_wp2_with (go_at_call 22; refine (mright_no _ _ _ _ _ _ HH.out).mono ?_; rintro e w1 ⟨rfl, hb1⟩; have HB1 : Hid (Below w.heap.size w w1) := two_below (alloc_low _ _) hb1; clear hb1)
  go_ret2
  exact ⟨rfl, HB1.out⟩
set_option maxHeartbeats 1000000 in
theorem mrow_arg (w : World) (r c n k : Nat) (i : Int) (a : Option Addr) (R : Rt r c n) (hi : ¬ (0 ≤ i ∧ i < r)) :
    Calls Try.prog 18 #[mv r c a n k, .int .i64 i] w fun e w' => e = .returned (.tuple #[.slice none 0 0, .int .i64 2]) ∧ Below w.heap.size w w' := by
  have HRt : Hid (Rt r c n) := R
  have HI : Hid (¬ (0 ≤ i ∧ i < r)) := hi
  obtain ⟨wb, HW⟩ : ∃ wb, Hid (wb = w.alloc (.cells #[.int .i64 (r : Int), .int .i64 (c : Int), .slice a n k] 24)) := ⟨_, rfl⟩
  have HV0 : Hid (Vr wb w.heap.size (.int .i64 (r : Int)) (.int .i64 (c : Int)) (.slice a n k)) := by rw [HW.out]; exact Vr.new w _ _ _
  have HB0 : Hid (Below w.heap.size w wb) := by rw [HW.out]; exact alloc_low _ _
  clear R hi
  go_enter Try.func18, Try.ntmps18
  go_wp2_with (first
    | (go_at_call 22; rw [← HW.out]; refine (mright_yes _ _ _ _ _ _ HRt.out.p).mono ?_; rintro e w1 ⟨rfl, hb1⟩; have HB1 : Hid (Below wb.heap.size wb w1) := hb1; have c0 := (HV0.out.later hb1).c0; have c1 := (HV0.out.later hb1).c1; have c2 := (HV0.out.later hb1).c2; clear hb1)
    | (go_at_call 33; refine (hasrow_no _ _ _ _ _ _ _ HI.out).mono ?_; rintro e w2 ⟨rfl, hb2⟩; have HB2 : Hid (Below wb.heap.size wb w2) := two_below HB1.out hb2; clear hb2))
  go_ret2
  exact ⟨rfl, two_below HB0.out HB2.out⟩
/-- The variables of a call with two matrices, and both in a row. -/
structure Box2s (w wb : World) (r c r' c' : Int) (n k m d : Nat) (a b : Option Addr) : Prop where
  va : Vr wb w.heap.size (.int .i64 r) (.int .i64 c) (.slice a n k)
  vb : Vr wb (w.heap.size + 1) (.int .i64 r') (.int .i64 c') (.slice b m d)
  tw : Two wb (w.heap.size + 1 + 1) r c a n k r' c' b m d
  below : Below w.heap.size w wb
theorem box2s (w : World) (r c r' c' : Int) (n k m d : Nat) (a b : Option Addr) : Box2s w (((w.alloc (.cells #[.int .i64 r, .int .i64 c, .slice a n k] 24)).alloc (.cells #[.int .i64 r', .int .i64 c', .slice b m d] 24)).alloc (.cells #[.int .i64 r, .int .i64 c, .slice a n k, .int .i64 r', .int .i64 c', .slice b m d] 24)) r c r' c' n k m d a b := by
  have h := box2m w r c r' c' n k m d a b
  refine ⟨h.va.later (alloc_low _ _), h.vb.later (alloc_low _ _), ?_, two_below h.below (alloc_low _ _)⟩
  have := new_at ((w.alloc (.cells #[.int .i64 r, .int .i64 c, .slice a n k] 24)).alloc (.cells #[.int .i64 r', .int .i64 c', .slice b m d] 24)) (.cells #[.int .i64 r, .int .i64 c, .slice a n k, .int .i64 r', .int .i64 c', .slice b m d] 24)
  unfold Two
  simpa using this
end Go.Proofs.Ytaoehildaenbnab
