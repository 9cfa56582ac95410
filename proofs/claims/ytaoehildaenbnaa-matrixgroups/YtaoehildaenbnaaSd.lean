/-
  Contracts of the matrices' reference: Row, Same.
-/
import Derived.Test.YtaoehildaenbnaaSc
namespace Go.Proofs.Ytaoehildaenbnaa
open Go.RowKit
/-- Numbers of a matrix that is right. -/
structure Rt (r c n : Nat) : Prop where
  r64 : r ≤ 64
  c64 : c ≤ 64
  len : r * c = n
theorem Rt.p {r c n : Nat} (h : Rt r c n) : RightP r c n := ⟨by omega, by have := h.r64; omega, by omega, by have := h.c64; omega, by rw [← h.len]; simp⟩
theorem Rt.le {r c n : Nat} (h : Rt r c n) : n ≤ 4096 := by rw [← h.len]; exact Nat.mul_le_mul h.r64 h.c64
theorem Rt.at {r c n i j : Nat} (h : Rt r c n) (hi : i < r) (hj : j < c) : i * c + j < n := by
  rw [← h.len]
  exact Nat.lt_of_lt_of_le (show i * c + j < (i + 1) * c by rw [Nat.add_mul, Nat.one_mul]; omega) (Nat.mul_le_mul_right c hi)
theorem right_rt {r c : Int} {n : Nat} (h : RightP r c n) : ∃ r' c' : Nat, r = r' ∧ c = c' ∧ Rt r' c' n := by
  obtain ⟨h1, h2, h3, h4, h5⟩ := h
  obtain ⟨r', rfl⟩ := Int.eq_ofNat_of_zero_le h1
  obtain ⟨c', rfl⟩ := Int.eq_ofNat_of_zero_le h3
  exact ⟨r', c', rfl, rfl, by omega, by omega, by rw [← Int.natCast_mul] at h5; omega⟩
set_option maxRecDepth 20000 in
set_option maxHeartbeats 1000000 in
theorem rrow_ok (w : World) (r c n k i : Nat) (a : Option Addr) (F : Nat → Nat) (ha : Sl w a n F) (R : Rt r c n) (hi : i < r) :
    Calls Try.prog 19 #[mv r c a n k, .int .i64 (i : Int)] w fun e w' => ∃ v, e = .returned (.tuple #[v, .int .i64 0]) ∧ w'.ownsRow w.heap.size 5 1 v c (row c (fun j => F (i * c + j))).toList ∧ Below w.heap.size w w' := by
  obtain ⟨i0, hi0, hz0, hz1, hz2⟩ := info_parts info8
  have hc := R.c64
  have hn := R.le
  have hr := R.r64
  have HRt : Hid (Rt r c n) := R
  obtain ⟨p, HP⟩ : ∃ p : Nat → Nat, Hid ((fun j => F (i * c + j)) = p) := ⟨_, rfl⟩
  rw [HP.out]
  obtain ⟨wb, HW⟩ : ∃ wb, Hid (wb = w.alloc (.cells #[.int .i64 (r : Int), .int .i64 (c : Int), .slice a n k] 24)) := ⟨_, rfl⟩
  have HV0 : Hid (Vr wb w.heap.size (.int .i64 (r : Int)) (.int .i64 (c : Int)) (.slice a n k)) := by rw [HW.out]; exact Vr.new w _ _ _
  have HS0 : Hid (Sl wb a n F) := by rw [HW.out]; exact ha.later (alloc_low _ _)
  have HB0 : Hid (Below w.heap.size w wb) := by rw [HW.out]; exact alloc_low _ _
  have g1 : decide ((i : Int) < 0) = false := by simp
  have g2 : decide (r ≤ i) = false := by simp; omega
  clear ha R
  go_enter Try.func19, Try.ntmps19
  go_wp2_with (go_at_call 14; rw [← HW.out]; refine (right_yes _ _ _ _ _ _ HRt.out.p).mono ?_; rintro e w1 ⟨rfl, hb1⟩; have HV1 : Hid (Vr w1 w.heap.size (.int .i64 (r : Int)) (.int .i64 (c : Int)) (.slice a n k)) := HV0.out.later hb1; have HS1 : Hid (Sl w1 a n F) := HS0.out.later hb1; have HB1 : Hid (Below w.heap.size w w1) := two_below HB0.out hb1; have vc0 := HV1.out.c0; clear hb1)
  clear HW HV0 HS0 HB0 vc0
  go_loopw [6, 7] (fun v j wr => ∃ m : Nat, m ≤ c ∧ j = .int .i64 (m : Int) ∧ wr.ownsRow w1.heap.size 5 1 v m (row m p).toList ∧ Vr wr w.heap.size (.int .i64 (r : Int)) (.int .i64 (c : Int)) (.slice a n k) ∧ Below w1.heap.size w1 wr) (fun _ j _ => c - (intOf j).toNat)
  case atStart => exact ⟨0, by omega, rfl, by rw [row_empty]; exact World.ownsRow_nil _ _ _ _, HV1.out, Below.refl _ _⟩
  case round =>
    obtain ⟨m, hm, rfl, hown, hv, hbr⟩ := hrel
    have c0 := hv.c0
    have c1 := hv.c1
    have c2 := hv.c2
    have HO : Hid (wr.ownsRow w1.heap.size 5 1 u6 m (row m p).toList) := hown
    have HB : Hid (Below w1.heap.size w1 wr) := hbr
    have HV : Hid (Vr wr w.heap.size (.int .i64 (r : Int)) (.int .i64 (c : Int)) (.slice a n k)) := hv
    by_cases hlt : m < c
    · have HS : Hid (Sl wr a n F) := HS1.out.later hbr
      obtain ⟨x, HX⟩ : ∃ x, Hid (F (i * c + m) = x) := ⟨_, rfl⟩
      have HXp : Hid (p m = x) := by show _ = _; rw [← HX.out, ← HP.out]
      have hsz := hbr.size
      have vlt := HV1.out.lt
      have hml : m + 1 ≤ maxLen := by unfold maxLen; omega
      clear hown hbr hv
      go_wp2_with (first
        | (go_at_call 44; refine (at3_any _ _ c i m n k x a F HS.out (HRt.out.at hi hlt) hn HX).mono ?_; rintro e w5 ⟨rfl, hb5⟩; have HO5 : Hid (w5.ownsRow w1.heap.size 5 1 u6 m (row m p).toList) := HO.out.kept (grown_none.mpr hb5) (by cases hv : u6.ownBlock <;> simp); have HB5 : Hid (Below w1.heap.size w1 w5) := two_below HB.out hb5; have HV5 : Hid (Vr w5 w.heap.size (.int .i64 (r : Int)) (.int .i64 (c : Int)) (.slice a n k)) := HV.out.later hb5; have hsz5 := HB5.out.size; clear hb5)
        | (at_builtin; refine wpList_append_own _ rfl _ _ 22 rfl w1.heap.size 5 i0 (.int .u8 0) 1 1 Try.underlying22 hi0 hz0 hz1 hz2 rfl (by decide) _ m _ rfl (HO5.out.alloc _) ⟨w5.heap.size, 0, none⟩ 1 1 [.int .u8 (x : Int)] rfl rfl (one_new _ _ _) (one_one _) hml (by omega) (by simp; omega) ?_; intro v' w3 hown' hgrow' _; have HO3 : Hid (w3.ownsRow w1.heap.size 5 1 v' (m + 1) ((row m p).toList ++ [.int .u8 (x : Int)])) := hown'; have HB3 : Hid (Below w1.heap.size w1 w3) := grow_step HB5.out HO5.out hgrow' rfl; have HV3 : Hid (Vr w3 w.heap.size (.int .i64 (r : Int)) (.int .i64 (c : Int)) (.slice a n k)) := (HV1.out).later HB3.out; clear hown' hgrow'))
      exact ⟨⟨m + 1, by omega, by go_num, by rw [← row_snoc, HXp.out]; exact HO3.out, HV3.out, HB3.out⟩, by simp [intOf]; omega⟩
    · obtain rfl : m = c := by omega
      clear hown hbr hv
      go_wp2
      go_ret2
      have l1 := HB1.out.size
      refine ⟨_, rfl, ?_, two_below HB1.out HB.out⟩
      have := HO.out
      refine ⟨this.1, ?_⟩
      rcases this.2 with h' | ⟨g, cap, cur, e, hb, rr⟩
      · exact .inl h'
      · exact .inr ⟨g, cap, cur, e, by omega, rr⟩
set_option maxHeartbeats 400000 in
theorem rrow_shape (w : World) (r c i : Int) (n k : Nat) (a : Option Addr) (h : ¬ RightP r c n) :
    Calls Try.prog 19 #[mv r c a n k, .int .i64 i] w fun e w' => e = .returned (.tuple #[.slice none 0 0, .int .i64 3]) ∧ Below w.heap.size w w' := by
  have HH : Hid (¬ RightP r c n) := h
  clear h
  go_enter Try.func19, Try.ntmps19
  go_wp2_with (go_at_call 14; refine (right_no _ _ _ _ _ _ HH.out).mono ?_; rintro e w1 ⟨rfl, hb1⟩; have HB1 : Hid (Below w.heap.size w w1) := two_below (alloc_low _ _) hb1; clear hb1)
  go_ret2
  exact ⟨rfl, HB1.out⟩
set_option maxHeartbeats 1000000 in
theorem rrow_arg (w : World) (r c n k : Nat) (i : Int) (a : Option Addr) (R : Rt r c n) (hi : ¬ (0 ≤ i ∧ i < r)) :
    Calls Try.prog 19 #[mv r c a n k, .int .i64 i] w fun e w' => e = .returned (.tuple #[.slice none 0 0, .int .i64 2]) ∧ Below w.heap.size w w' := by
  have HRt : Hid (Rt r c n) := R
  obtain ⟨wb, HW⟩ : ∃ wb, Hid (wb = w.alloc (.cells #[.int .i64 (r : Int), .int .i64 (c : Int), .slice a n k] 24)) := ⟨_, rfl⟩
  have HV0 : Hid (Vr wb w.heap.size (.int .i64 (r : Int)) (.int .i64 (c : Int)) (.slice a n k)) := by rw [HW.out]; exact Vr.new w _ _ _
  have HB0 : Hid (Below w.heap.size w wb) := by rw [HW.out]; exact alloc_low _ _
  clear R
  by_cases g0 : i < 0
  · have g1 : decide (i < 0) = true := by simpa using g0
    clear hi g0
    go_enter Try.func19, Try.ntmps19
    go_wp2_with (go_at_call 14; rw [← HW.out]; refine (right_yes _ _ _ _ _ _ HRt.out.p).mono ?_; rintro e w1 ⟨rfl, hb1⟩; have HB1 : Hid (Below w.heap.size w w1) := two_below HB0.out hb1; have vc0 := (HV0.out.later hb1).c0; clear hb1)
    go_ret2
    exact ⟨rfl, HB1.out⟩
  · have g1 : decide (i < 0) = false := by simpa using g0
    have g2 : decide ((r : Int) ≤ i) = true := by simp; omega
    clear hi g0
    go_enter Try.func19, Try.ntmps19
    go_wp2_with (go_at_call 14; rw [← HW.out]; refine (right_yes _ _ _ _ _ _ HRt.out.p).mono ?_; rintro e w1 ⟨rfl, hb1⟩; have HB1 : Hid (Below w.heap.size w w1) := two_below HB0.out hb1; have vc0 := (HV0.out.later hb1).c0; clear hb1)
    go_ret2
    exact ⟨rfl, HB1.out⟩
end Go.Proofs.Ytaoehildaenbnaa
