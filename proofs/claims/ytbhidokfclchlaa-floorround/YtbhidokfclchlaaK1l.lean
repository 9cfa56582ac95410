/-
  The program's Homes.
-/
import Derived.Test.YtbhidokfclchlaaK1k
namespace Go.Proofs.Ytbhidokfclchlaa
open Go.RowKit
/-- Where block b is put. -/
def hmv (p B D : Nat) (s : Int) (q : Nat → Int) (b : Nat) : Nat :=
  if p = 1 then b % D else if p = 2 then b * D / B else if p = 3 then b * s.toNat % D else (q b).toNat
/-- Whether it may be asked. -/
def okH (p : Nat) (B D s : Int) (m : Nat) (q : Nat → Int) : Bool := sideB B && (sideB D && (stepB p s && (listB p B D m q && (decide (1 ≤ p) && decide (p ≤ 4)))))
theorem sideB_iff {n : Int} : sideB n = true ↔ 1 ≤ n ∧ n ≤ 64 := by
  unfold sideB
  rw [Bool.and_eq_true, decide_eq_true_eq, decide_eq_true_eq]
set_option maxHeartbeats 1000000 in
theorem phomes_ok (p B D : Nat) (s : Int) (m cap : Nat) (a : Option Addr) (q : Nat → Int) (w : World) (ha : Jl w a .i64 m q) (hm : m ≤ 9223372036854775807) (ok : okH p B D s m q = true) :
    Calls Try.prog 11 #[.int .u8 (p : Int), .int .i64 (B : Int), .int .i64 (D : Int), .int .i64 s, .slice a m cap] w fun e w' => ∃ g, e = .returned (.tuple #[.slice (some ⟨g, 0, none⟩) B B, .int .i64 0]) ∧ JAt w' g 3 .i64 B (hmv p B D s q) ∧ w.heap.size ≤ g ∧ Below w.heap.size w w' := by
  obtain ⟨i0, hi0, hz0, hz1, hz2⟩ := info_parts ji64
  unfold okH at ok
  simp only [Bool.and_eq_true, decide_eq_true_eq] at ok
  obtain ⟨o1, o2, o3, o4, o5, o6⟩ := ok
  have hB := sideB_iff.1 o1
  have hD := sideB_iff.1 o2
  have H1 : Hid (∀ w, Calls Try.prog 16 #[.int .i64 (B : Int)] w fun e w' => e = .returned (.bool true) ∧ w = w') := fun w => o1 ▸ pisside B w
  have H2 : Hid (∀ w, Calls Try.prog 16 #[.int .i64 (D : Int)] w fun e w' => e = .returned (.bool true) ∧ w = w') := fun w => o2 ▸ pisside D w
  have H3 : Hid (∀ w, Calls Try.prog 17 #[.int .u8 (p : Int), .int .i64 s] w fun e w' => e = .returned (.bool true) ∧ w = w') := fun w => o3 ▸ pfitsstep p s w
  have H4 : Hid (Calls Try.prog 18 #[.int .u8 (p : Int), .int .i64 (B : Int), .int .i64 (D : Int), .slice a m cap] w fun e w' => e = .returned (.bool true) ∧ w = w') := o4 ▸ pfitslist p B D m cap a q w ha hm
  have HA : Hid (Jl w a .i64 m q) := ha
  have HQ : Hid (p = 4 → m = B ∧ ∀ i, i < m → 0 ≤ q i ∧ q i < D) := fun e => by
    subst e
    rw [show listB 4 B D m q = (decide ((m : Int) = B) && alB q D m) from if_pos rfl, Bool.and_eq_true, decide_eq_true_eq, alB_get] at o4
    exact ⟨by omega, o4.2⟩
  have HS : Hid (p = 3 → 1 ≤ s ∧ s ≤ 2147483647) := fun e => by
    subst e
    rw [show stepB 3 s = (decide (1 ≤ s) && decide (s ≤ 2147483647)) from if_pos rfl, Bool.and_eq_true, decide_eq_true_eq, decide_eq_true_eq] at o3
    exact o3
  clear ha o1 o2 o3 o4
  go_enter Try.func11, Try.ntmps11
  go_wp2_with (first
    | (have _m := m1; go_at_call 16; refine (H2.out _).mono ?_; rintro e w' ⟨rfl, rfl⟩)
    | (go_at_call 16; refine (H1.out _).mono ?_; rintro e w' ⟨rfl, rfl⟩; have m1 : True := trivial)
    | (go_at_call 17; refine (H3.out _).mono ?_; rintro e w' ⟨rfl, rfl⟩)
    | (go_at_call 18; refine H4.out.mono ?_; rintro e w' ⟨rfl, rfl⟩)
    | (at_make; refine wpList_make_full _ rfl _ _ 39 rfl w.heap.size 3 i0 (.int .i64 0) 1 Try.underlying39 hi0 hz0 hz1 .i64 .i64 _ _ B rfl rfl rfl rfl (by rw [hz2]; omega) (by unfold maxLen; omega) (Nat.le_refl _) ?_; intro w1 hown hgrow; have HJ1 : Hid (JAt w1 w.heap.size 3 .i64 B (fun _ => 0)) := jmade_at hown; have HB1 : Hid (Below w.heap.size w w1) := jgrown.mp hgrow; clear hown hgrow))
  clear H1 H2 H3 H4
  go_loopw [40] (fun vi wr => ∃ (j : Nat) (f : Nat → Nat), j ≤ B ∧ vi = .int .i64 (j : Int) ∧ JAt wr w.heap.size 3 .i64 B f ∧ (∀ i, i < j → f i = hmv p B D s q i) ∧ Below w.heap.size w wr) (fun vi _ => B - (intOf vi).toNat)
  case atStart => exact ⟨0, _, by omega, rfl, HJ1.out, fun i hi => by omega, HB1.out⟩
  case round =>
    clear HJ1 HB1
    obtain ⟨j, f, hj, rfl, I, hf, hb⟩ := hrel
    have HI : Hid (JAt wr w.heap.size 3 .i64 B f) := I
    have HF : Hid (∀ i, i < j → f i = hmv p B D s q i) := hf
    have HW : Hid (Below w.heap.size w wr) := hb
    clear I hf hb
    by_cases hlt : j < B
    · have hc := HI.out.cell j hlt
      have hz := HI.out.free j
      have p0 : (0 : Int) ≤ (j : Int) := by omega
      have p1 : (j : Int) < (B : Int) := by omega
      have d1 : decide (j < B) = true := decide_eq_true hlt
      have d2 : decide ((j : Int) < (B : Int)) = true := decide_eq_true (by omega)
      have nD : ¬ ((D : Int) = 0) := by omega
      have nB : ¬ ((B : Int) = 0) := by omega
      obtain ⟨v, HV⟩ : ∃ v, Hid (hmv p B D s q j = v) := ⟨_, rfl⟩
      have HN : Hid (JAt (wr.setCell ⟨w.heap.size, j, none⟩ (.int .i64 (v : Int))) w.heap.size 3 .i64 B (fun i => if i = j then v else f i) ∧ (∀ i, i < j + 1 → (if i = j then v else f i) = hmv p B D s q i) ∧ Below w.heap.size w (wr.setCell ⟨w.heap.size, j, none⟩ (.int .i64 (v : Int)))) :=
        ⟨HI.out.set j v, fun i hi => by
          by_cases e : i = j
          · subst e; rw [if_pos rfl, HV.out]
          · rw [if_neg e]; exact HF.out i (by omega), HW.out.setCell (Nat.le_refl _) _⟩
      clear HF
      rcases (show p = 1 ∨ p = 2 ∨ p = 3 ∨ p = 4 by omega) with rfl | rfl | rfl | rfl
      · have e1 : (j : Int) % (D : Int) = (v : Int) := by rw [← HV.out, show hmv 1 B D s q j = j % D from rfl, Int.natCast_emod]
        clear HI HV HA HQ HS HW
        go_wp2
        exact ⟨⟨j + 1, _, by omega, by go_num, HN.out.1, HN.out.2.1, HN.out.2.2⟩, by simp [intOf]; omega⟩
      · obtain ⟨x, hx⟩ : ∃ x, j * D = x := ⟨_, rfl⟩
        have hx6 : x ≤ 64 * 64 := by rw [← hx]; exact Nat.mul_le_mul (by omega) (by omega)
        have wx : IntKind.i64.wrap ((j : Int) * (D : Int)) = (x : Int) := by rw [← Int.natCast_mul, hx, IntKind.wrap_i64]; omega
        have e1 : (x : Int) / (B : Int) = (v : Int) := by rw [← HV.out, show hmv 2 B D s q j = j * D / B from rfl, hx, Int.natCast_ediv]
        have wv : IntKind.i64.wrap (v : Int) = (v : Int) := by
          have : v ≤ x := by rw [← HV.out, show hmv 2 B D s q j = j * D / B from rfl, hx]; exact Nat.div_le_self _ _
          rw [IntKind.wrap_i64]; omega
        clear HI HV HA HQ HS HW hx
        go_wp2
        exact ⟨⟨j + 1, _, by omega, by go_num, HN.out.1, HN.out.2.1, HN.out.2.2⟩, by simp [intOf]; omega⟩
      · obtain ⟨hs1, hs2⟩ := HS.out rfl
        obtain ⟨t, rfl⟩ := Int.eq_ofNat_of_zero_le (show 0 ≤ s by omega)
        obtain ⟨u, hu⟩ : ∃ u, t % D = u := ⟨_, rfl⟩
        have hu6 : u < D := by rw [← hu]; exact Nat.mod_lt _ (by omega)
        obtain ⟨x, hx⟩ : ∃ x, j * u = x := ⟨_, rfl⟩
        have hx6 : x ≤ 64 * 64 := by rw [← hx]; exact Nat.mul_le_mul (by omega) (by omega)
        have e0 : (t : Int) % (D : Int) = (u : Int) := by rw [← hu, Int.natCast_emod]
        have wx : IntKind.i64.wrap ((j : Int) * (u : Int)) = (x : Int) := by rw [← Int.natCast_mul, hx, IntKind.wrap_i64]; omega
        have e1 : (x : Int) % (D : Int) = (v : Int) := by
          rw [← HV.out, show hmv 3 B D t q j = j * (t : Int).toNat % D from rfl, Int.toNat_natCast, ← Nat.mul_mod_mod, hu, hx, Int.natCast_emod]
        clear HI HV HA HQ HS HW hx hu
        go_wp2
        exact ⟨⟨j + 1, _, by omega, by go_num, HN.out.1, HN.out.2.1, HN.out.2.2⟩, by simp [intOf]; omega⟩
      · obtain ⟨rfl, hq⟩ := HQ.out rfl
        obtain ⟨x, o, ea, hl⟩ := (HA.out.later HW.out) j hlt
        subst ea
        have ev : q j = (v : Int) := by
          rw [← HV.out, show hmv 4 m D s q j = (q j).toNat from rfl]
          have := hq j hlt
          omega
        rw [ev] at hl
        clear HI HV HA HQ HS HW hq
        go_wp2
        exact ⟨⟨j + 1, _, by omega, by go_num, HN.out.1, HN.out.2.1, HN.out.2.2⟩, by simp [intOf]; omega⟩
    · obtain rfl : j = B := by omega
      have d1 : decide (j < j) = false := decide_eq_false (by omega)
      go_wp2
      go_ret2
      exact ⟨_, rfl, HI.out.congr HF.out, Nat.le_refl _, HW.out⟩
set_option maxHeartbeats 1000000 in
theorem phomes_bad (p : Nat) (B D s : Int) (m cap : Nat) (a : Option Addr) (q : Nat → Int) (w : World) (ha : Jl w a .i64 m q) (hm : m ≤ 9223372036854775807) (no : okH p B D s m q = false) :
    Calls Try.prog 11 #[.int .u8 (p : Int), .int .i64 B, .int .i64 D, .int .i64 s, .slice a m cap] w fun e w' => e = .returned (.tuple #[.slice none 0 0, .int .i64 2]) ∧ Below w.heap.size w w' := by
  obtain ⟨i0, hi0, hz0, hz1, hz2⟩ := info_parts ji64
  obtain ⟨b1, h1⟩ : ∃ b, sideB B = b := ⟨_, rfl⟩
  obtain ⟨b2, h2⟩ : ∃ b, sideB D = b := ⟨_, rfl⟩
  obtain ⟨b3, h3⟩ : ∃ b, stepB p s = b := ⟨_, rfl⟩
  obtain ⟨b4, h4⟩ : ∃ b, listB p B D m q = b := ⟨_, rfl⟩
  unfold okH at no
  rw [h1, h2, h3, h4] at no
  have H1 : Hid (∀ w, Calls Try.prog 16 #[.int .i64 B] w fun e w' => e = .returned (.bool b1) ∧ w = w') := fun w => h1 ▸ pisside B w
  have H2 : Hid (∀ w, Calls Try.prog 16 #[.int .i64 D] w fun e w' => e = .returned (.bool b2) ∧ w = w') := fun w => h2 ▸ pisside D w
  have H3 : Hid (∀ w, Calls Try.prog 17 #[.int .u8 (p : Int), .int .i64 s] w fun e w' => e = .returned (.bool b3) ∧ w = w') := fun w => h3 ▸ pfitsstep p s w
  have H4 : Hid (Calls Try.prog 18 #[.int .u8 (p : Int), .int .i64 B, .int .i64 D, .slice a m cap] w fun e w' => e = .returned (.bool b4) ∧ w = w') := h4 ▸ pfitslist p B D m cap a q w ha hm
  have hB : b1 = true → 1 ≤ B ∧ B ≤ 64 := fun e => sideB_iff.1 (h1.trans e)
  clear ha h1 h2 h3 h4
  cases b1 with
  | false =>
    go_enter Try.func11, Try.ntmps11
    go_wp2_with (go_at_call 16; refine (H1.out _).mono ?_; rintro e w' ⟨rfl, rfl⟩)
    go_ret2
    exact ⟨rfl, Below.refl _ _⟩
  | true =>
    cases b2 with
    | false =>
      go_enter Try.func11, Try.ntmps11
      go_wp2_with (first
        | (have _m := m1; go_at_call 16; refine (H2.out _).mono ?_; rintro e w' ⟨rfl, rfl⟩)
        | (go_at_call 16; refine (H1.out _).mono ?_; rintro e w' ⟨rfl, rfl⟩; have m1 : True := trivial))
      go_ret2
      exact ⟨rfl, Below.refl _ _⟩
    | true =>
      cases b3 with
      | false =>
        go_enter Try.func11, Try.ntmps11
        go_wp2_with (first
          | (have _m := m1; go_at_call 16; refine (H2.out _).mono ?_; rintro e w' ⟨rfl, rfl⟩)
          | (go_at_call 16; refine (H1.out _).mono ?_; rintro e w' ⟨rfl, rfl⟩; have m1 : True := trivial)
          | (go_at_call 17; refine (H3.out _).mono ?_; rintro e w' ⟨rfl, rfl⟩))
        go_ret2
        exact ⟨rfl, Below.refl _ _⟩
      | true =>
        cases b4 with
        | false =>
          go_enter Try.func11, Try.ntmps11
          go_wp2_with (first
            | (have _m := m1; go_at_call 16; refine (H2.out _).mono ?_; rintro e w' ⟨rfl, rfl⟩)
            | (go_at_call 16; refine (H1.out _).mono ?_; rintro e w' ⟨rfl, rfl⟩; have m1 : True := trivial)
            | (go_at_call 17; refine (H3.out _).mono ?_; rintro e w' ⟨rfl, rfl⟩)
            | (go_at_call 18; refine H4.out.mono ?_; rintro e w' ⟨rfl, rfl⟩))
          go_ret2
          exact ⟨rfl, Below.refl _ _⟩
        | true =>
          have hp : ¬ (1 ≤ p ∧ p ≤ 4) := fun h => by simp [h.1, h.2] at no
          have e1 : ¬ ((p : Int) = 1) := by omega
          have e2 : ¬ ((p : Int) = 2) := by omega
          have e3 : ¬ ((p : Int) = 3) := by omega
          have e4 : ¬ ((p : Int) = 4) := by omega
          have hB2 := hB rfl
          obtain ⟨N, rfl⟩ := Int.eq_ofNat_of_zero_le (show 0 ≤ B by omega)
          have n0 : 0 < N := by omega
          have n6 : N ≤ 64 := by omega
          have d1 : decide (0 < N) = true := decide_eq_true n0
          have d2 : decide ((0 : Int) < (N : Int)) = true := decide_eq_true (by omega)
          clear hB hB2
          go_enter Try.func11, Try.ntmps11
          go_wp2_with (first
            | (have _m := m1; go_at_call 16; refine (H2.out _).mono ?_; rintro e w' ⟨rfl, rfl⟩)
            | (go_at_call 16; refine (H1.out _).mono ?_; rintro e w' ⟨rfl, rfl⟩; have m1 : True := trivial)
            | (go_at_call 17; refine (H3.out _).mono ?_; rintro e w' ⟨rfl, rfl⟩)
            | (go_at_call 18; refine H4.out.mono ?_; rintro e w' ⟨rfl, rfl⟩)
            | (at_make; refine wpList_make_full _ rfl _ _ 39 rfl w.heap.size 3 i0 (.int .i64 0) 1 Try.underlying39 hi0 hz0 hz1 .i64 .i64 _ _ N rfl rfl rfl rfl (by rw [hz2]; omega) (by unfold maxLen; omega) (Nat.le_refl _) ?_; intro w1 hown hgrow; have HB1 : Hid (Below w.heap.size w w1) := jgrown.mp hgrow; clear hown hgrow))
          go_loopw [40] (fun vi wr => vi = .int .i64 0 ∧ wr = w1) (fun vi _ => 0)
          case atStart => exact ⟨rfl, rfl⟩
          case round =>
            obtain ⟨rfl, rfl⟩ := hrel
            go_wp2
            go_ret2
            exact ⟨rfl, HB1.out⟩
end Go.Proofs.Ytbhidokfclchlaa
