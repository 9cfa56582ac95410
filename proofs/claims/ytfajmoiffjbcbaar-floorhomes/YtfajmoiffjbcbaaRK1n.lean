/-
  The reference's Homes: its errors.
-/
import Derived.Test.YtfajmoiffjbcbaaRK1m
namespace Go.Proofs.YtfajmoiffjbcbaaR
open Go.RowKit
set_option maxHeartbeats 400000 in
theorem rhb1 (p m : Nat) (B D s : Int) (cap : Nat) (a : Option Addr) (w : World) (y : B < 1) :
    Calls Try.prog 11 #[.int .u8 (p : Int), .int .i64 B, .int .i64 D, .int .i64 s, .slice a m cap] w fun e w' => e = .returned (.tuple #[.slice none 0 0, .int .i64 2]) ∧ Below w.heap.size w w' := by
  have g1 : decide (B < 1) = true := decide_eq_true (by omega)
  go_enter Try.func11, Try.ntmps11
  go_wp2
  go_ret2
  exact ⟨rfl, Below.refl _ _⟩
set_option maxHeartbeats 400000 in
theorem rhb2 (p m : Nat) (B D s : Int) (cap : Nat) (a : Option Addr) (w : World) (x0 : ¬ (B < 1)) (y : (64 : Int) < B) :
    Calls Try.prog 11 #[.int .u8 (p : Int), .int .i64 B, .int .i64 D, .int .i64 s, .slice a m cap] w fun e w' => e = .returned (.tuple #[.slice none 0 0, .int .i64 2]) ∧ Below w.heap.size w w' := by
  have g1 : decide (B < 1) = false := decide_eq_false (by omega)
  have g2 : decide ((64 : Int) < B) = true := decide_eq_true (by omega)
  go_enter Try.func11, Try.ntmps11
  go_wp2
  go_ret2
  exact ⟨rfl, Below.refl _ _⟩
set_option maxHeartbeats 400000 in
theorem rhb3 (p m : Nat) (B D s : Int) (cap : Nat) (a : Option Addr) (w : World) (x0 : ¬ (B < 1)) (x1 : ¬ ((64 : Int) < B)) (y : D < 1) :
    Calls Try.prog 11 #[.int .u8 (p : Int), .int .i64 B, .int .i64 D, .int .i64 s, .slice a m cap] w fun e w' => e = .returned (.tuple #[.slice none 0 0, .int .i64 2]) ∧ Below w.heap.size w w' := by
  have g1 : decide (B < 1) = false := decide_eq_false (by omega)
  have g2 : decide ((64 : Int) < B) = false := decide_eq_false (by omega)
  have g3 : decide (D < 1) = true := decide_eq_true (by omega)
  go_enter Try.func11, Try.ntmps11
  go_wp2
  go_ret2
  exact ⟨rfl, Below.refl _ _⟩
set_option maxHeartbeats 400000 in
theorem rhb4 (p m : Nat) (B D s : Int) (cap : Nat) (a : Option Addr) (w : World) (x0 : ¬ (B < 1)) (x1 : ¬ ((64 : Int) < B)) (x2 : ¬ (D < 1)) (y : (64 : Int) < D) :
    Calls Try.prog 11 #[.int .u8 (p : Int), .int .i64 B, .int .i64 D, .int .i64 s, .slice a m cap] w fun e w' => e = .returned (.tuple #[.slice none 0 0, .int .i64 2]) ∧ Below w.heap.size w w' := by
  have g1 : decide (B < 1) = false := decide_eq_false (by omega)
  have g2 : decide ((64 : Int) < B) = false := decide_eq_false (by omega)
  have g3 : decide (D < 1) = false := decide_eq_false (by omega)
  have g4 : decide ((64 : Int) < D) = true := decide_eq_true (by omega)
  go_enter Try.func11, Try.ntmps11
  go_wp2
  go_ret2
  exact ⟨rfl, Below.refl _ _⟩
set_option maxHeartbeats 400000 in
theorem rhb5 (p m : Nat) (B D s : Int) (cap : Nat) (a : Option Addr) (w : World) (x0 : ¬ (B < 1)) (x1 : ¬ ((64 : Int) < B)) (x2 : ¬ (D < 1)) (x3 : ¬ ((64 : Int) < D)) (y : (p : Int) < 1) :
    Calls Try.prog 11 #[.int .u8 (p : Int), .int .i64 B, .int .i64 D, .int .i64 s, .slice a m cap] w fun e w' => e = .returned (.tuple #[.slice none 0 0, .int .i64 2]) ∧ Below w.heap.size w w' := by
  have g1 : decide (B < 1) = false := decide_eq_false (by omega)
  have g2 : decide ((64 : Int) < B) = false := decide_eq_false (by omega)
  have g3 : decide (D < 1) = false := decide_eq_false (by omega)
  have g4 : decide ((64 : Int) < D) = false := decide_eq_false (by omega)
  have g5 : decide ((p : Int) < 1) = true := decide_eq_true (by omega)
  have k5 : decide (p < 1) = true := decide_eq_true (by omega)
  go_enter Try.func11, Try.ntmps11
  go_wp2
  go_ret2
  exact ⟨rfl, Below.refl _ _⟩
set_option maxHeartbeats 400000 in
theorem rhb6 (p m : Nat) (B D s : Int) (cap : Nat) (a : Option Addr) (w : World) (x0 : ¬ (B < 1)) (x1 : ¬ ((64 : Int) < B)) (x2 : ¬ (D < 1)) (x3 : ¬ ((64 : Int) < D)) (x4 : ¬ ((p : Int) < 1)) (y : (4 : Int) < (p : Int)) :
    Calls Try.prog 11 #[.int .u8 (p : Int), .int .i64 B, .int .i64 D, .int .i64 s, .slice a m cap] w fun e w' => e = .returned (.tuple #[.slice none 0 0, .int .i64 2]) ∧ Below w.heap.size w w' := by
  have g1 : decide (B < 1) = false := decide_eq_false (by omega)
  have g2 : decide ((64 : Int) < B) = false := decide_eq_false (by omega)
  have g3 : decide (D < 1) = false := decide_eq_false (by omega)
  have g4 : decide ((64 : Int) < D) = false := decide_eq_false (by omega)
  have g5 : decide ((p : Int) < 1) = false := decide_eq_false (by omega)
  have g6 : decide ((4 : Int) < (p : Int)) = true := decide_eq_true (by omega)
  have h6 : decide (4 < p) = true := decide_eq_true (by omega)
  have k5 : decide (p < 1) = false := decide_eq_false (by omega)
  go_enter Try.func11, Try.ntmps11
  go_wp2
  go_ret2
  exact ⟨rfl, Below.refl _ _⟩
set_option maxHeartbeats 400000 in
theorem rhs1 (m : Nat) (B D s : Int) (cap : Nat) (a : Option Addr) (w : World) (b1 : 1 ≤ B ∧ B ≤ 64) (d1 : 1 ≤ D ∧ D ≤ 64) (y : ¬ (s = 0)) :
    Calls Try.prog 11 #[.int .u8 1, .int .i64 B, .int .i64 D, .int .i64 s, .slice a m cap] w fun e w' => e = .returned (.tuple #[.slice none 0 0, .int .i64 2]) ∧ Below w.heap.size w w' := by
  have g1 : decide (B < 1) = false := decide_eq_false (by omega)
  have g2 : decide ((64 : Int) < B) = false := decide_eq_false (by omega)
  have g3 : decide (D < 1) = false := decide_eq_false (by omega)
  have g4 : decide ((64 : Int) < D) = false := decide_eq_false (by omega)
  have s1 : decide (s = 0) = false := decide_eq_false (by omega)
  go_enter Try.func11, Try.ntmps11
  go_wp2
  go_ret2
  exact ⟨rfl, Below.refl _ _⟩
set_option maxHeartbeats 400000 in
theorem rhm1 (m : Nat) (B D : Int) (cap : Nat) (a : Option Addr) (w : World) (b1 : 1 ≤ B ∧ B ≤ 64) (d1 : 1 ≤ D ∧ D ≤ 64) (y : 0 < m) :
    Calls Try.prog 11 #[.int .u8 1, .int .i64 B, .int .i64 D, .int .i64 0, .slice a m cap] w fun e w' => e = .returned (.tuple #[.slice none 0 0, .int .i64 2]) ∧ Below w.heap.size w w' := by
  have g1 : decide (B < 1) = false := decide_eq_false (by omega)
  have g2 : decide ((64 : Int) < B) = false := decide_eq_false (by omega)
  have g3 : decide (D < 1) = false := decide_eq_false (by omega)
  have g4 : decide ((64 : Int) < D) = false := decide_eq_false (by omega)
  have m1 : decide ((0 : Int) < (m : Int)) = true := decide_eq_true (by omega)
  have m2 : decide (0 < m) = true := decide_eq_true (by omega)
  go_enter Try.func11, Try.ntmps11
  go_wp2
  go_ret2
  exact ⟨rfl, Below.refl _ _⟩
set_option maxHeartbeats 400000 in
theorem rhs2 (m : Nat) (B D s : Int) (cap : Nat) (a : Option Addr) (w : World) (b1 : 1 ≤ B ∧ B ≤ 64) (d1 : 1 ≤ D ∧ D ≤ 64) (y : ¬ (s = 0)) :
    Calls Try.prog 11 #[.int .u8 2, .int .i64 B, .int .i64 D, .int .i64 s, .slice a m cap] w fun e w' => e = .returned (.tuple #[.slice none 0 0, .int .i64 2]) ∧ Below w.heap.size w w' := by
  have g1 : decide (B < 1) = false := decide_eq_false (by omega)
  have g2 : decide ((64 : Int) < B) = false := decide_eq_false (by omega)
  have g3 : decide (D < 1) = false := decide_eq_false (by omega)
  have g4 : decide ((64 : Int) < D) = false := decide_eq_false (by omega)
  have s1 : decide (s = 0) = false := decide_eq_false (by omega)
  go_enter Try.func11, Try.ntmps11
  go_wp2
  go_ret2
  exact ⟨rfl, Below.refl _ _⟩
set_option maxHeartbeats 400000 in
theorem rhm2 (m : Nat) (B D : Int) (cap : Nat) (a : Option Addr) (w : World) (b1 : 1 ≤ B ∧ B ≤ 64) (d1 : 1 ≤ D ∧ D ≤ 64) (y : 0 < m) :
    Calls Try.prog 11 #[.int .u8 2, .int .i64 B, .int .i64 D, .int .i64 0, .slice a m cap] w fun e w' => e = .returned (.tuple #[.slice none 0 0, .int .i64 2]) ∧ Below w.heap.size w w' := by
  have g1 : decide (B < 1) = false := decide_eq_false (by omega)
  have g2 : decide ((64 : Int) < B) = false := decide_eq_false (by omega)
  have g3 : decide (D < 1) = false := decide_eq_false (by omega)
  have g4 : decide ((64 : Int) < D) = false := decide_eq_false (by omega)
  have m1 : decide ((0 : Int) < (m : Int)) = true := decide_eq_true (by omega)
  have m2 : decide (0 < m) = true := decide_eq_true (by omega)
  go_enter Try.func11, Try.ntmps11
  go_wp2
  go_ret2
  exact ⟨rfl, Below.refl _ _⟩
set_option maxHeartbeats 400000 in
theorem rhs3 (m : Nat) (B D s : Int) (cap : Nat) (a : Option Addr) (w : World) (b1 : 1 ≤ B ∧ B ≤ 64) (d1 : 1 ≤ D ∧ D ≤ 64) (y : s < 1) :
    Calls Try.prog 11 #[.int .u8 3, .int .i64 B, .int .i64 D, .int .i64 s, .slice a m cap] w fun e w' => e = .returned (.tuple #[.slice none 0 0, .int .i64 2]) ∧ Below w.heap.size w w' := by
  have g1 : decide (B < 1) = false := decide_eq_false (by omega)
  have g2 : decide ((64 : Int) < B) = false := decide_eq_false (by omega)
  have g3 : decide (D < 1) = false := decide_eq_false (by omega)
  have g4 : decide ((64 : Int) < D) = false := decide_eq_false (by omega)
  have s1 : decide (s < 1) = true := decide_eq_true (by omega)
  go_enter Try.func11, Try.ntmps11
  go_wp2
  go_ret2
  exact ⟨rfl, Below.refl _ _⟩
set_option maxHeartbeats 400000 in
theorem rht3 (m : Nat) (B D s : Int) (cap : Nat) (a : Option Addr) (w : World) (b1 : 1 ≤ B ∧ B ≤ 64) (d1 : 1 ≤ D ∧ D ≤ 64) (x : ¬ (s < 1)) (y : 2147483647 < s) :
    Calls Try.prog 11 #[.int .u8 3, .int .i64 B, .int .i64 D, .int .i64 s, .slice a m cap] w fun e w' => e = .returned (.tuple #[.slice none 0 0, .int .i64 2]) ∧ Below w.heap.size w w' := by
  have g1 : decide (B < 1) = false := decide_eq_false (by omega)
  have g2 : decide ((64 : Int) < B) = false := decide_eq_false (by omega)
  have g3 : decide (D < 1) = false := decide_eq_false (by omega)
  have g4 : decide ((64 : Int) < D) = false := decide_eq_false (by omega)
  have s1 : decide (s < 1) = false := decide_eq_false (by omega)
  have s2 : decide ((2147483647 : Int) < s) = true := decide_eq_true (by omega)
  go_enter Try.func11, Try.ntmps11
  go_wp2
  go_ret2
  exact ⟨rfl, Below.refl _ _⟩
set_option maxHeartbeats 400000 in
theorem rhm3 (m : Nat) (B D s : Int) (cap : Nat) (a : Option Addr) (w : World) (b1 : 1 ≤ B ∧ B ≤ 64) (d1 : 1 ≤ D ∧ D ≤ 64) (x : ¬ (s < 1)) (x2 : ¬ (2147483647 < s)) (y : 0 < m) :
    Calls Try.prog 11 #[.int .u8 3, .int .i64 B, .int .i64 D, .int .i64 s, .slice a m cap] w fun e w' => e = .returned (.tuple #[.slice none 0 0, .int .i64 2]) ∧ Below w.heap.size w w' := by
  have g1 : decide (B < 1) = false := decide_eq_false (by omega)
  have g2 : decide ((64 : Int) < B) = false := decide_eq_false (by omega)
  have g3 : decide (D < 1) = false := decide_eq_false (by omega)
  have g4 : decide ((64 : Int) < D) = false := decide_eq_false (by omega)
  have s1 : decide (s < 1) = false := decide_eq_false (by omega)
  have s2 : decide ((2147483647 : Int) < s) = false := decide_eq_false (by omega)
  have m1 : decide ((0 : Int) < (m : Int)) = true := decide_eq_true (by omega)
  have m2 : decide (0 < m) = true := decide_eq_true (by omega)
  go_enter Try.func11, Try.ntmps11
  go_wp2
  go_ret2
  exact ⟨rfl, Below.refl _ _⟩
set_option maxHeartbeats 400000 in
theorem rhs4 (m : Nat) (B D s : Int) (cap : Nat) (a : Option Addr) (w : World) (b1 : 1 ≤ B ∧ B ≤ 64) (d1 : 1 ≤ D ∧ D ≤ 64) (y : ¬ (s = 0)) :
    Calls Try.prog 11 #[.int .u8 4, .int .i64 B, .int .i64 D, .int .i64 s, .slice a m cap] w fun e w' => e = .returned (.tuple #[.slice none 0 0, .int .i64 2]) ∧ Below w.heap.size w w' := by
  have g1 : decide (B < 1) = false := decide_eq_false (by omega)
  have g2 : decide ((64 : Int) < B) = false := decide_eq_false (by omega)
  have g3 : decide (D < 1) = false := decide_eq_false (by omega)
  have g4 : decide ((64 : Int) < D) = false := decide_eq_false (by omega)
  have s1 : decide (s = 0) = false := decide_eq_false (by omega)
  go_enter Try.func11, Try.ntmps11
  go_wp2
  go_ret2
  exact ⟨rfl, Below.refl _ _⟩
set_option maxHeartbeats 400000 in
theorem rhm4 (m : Nat) (B D : Int) (cap : Nat) (a : Option Addr) (w : World) (b1 : 1 ≤ B ∧ B ≤ 64) (d1 : 1 ≤ D ∧ D ≤ 64) (y : ¬ ((m : Int) = B)) :
    Calls Try.prog 11 #[.int .u8 4, .int .i64 B, .int .i64 D, .int .i64 0, .slice a m cap] w fun e w' => e = .returned (.tuple #[.slice none 0 0, .int .i64 2]) ∧ Below w.heap.size w w' := by
  have g1 : decide (B < 1) = false := decide_eq_false (by omega)
  have g2 : decide ((64 : Int) < B) = false := decide_eq_false (by omega)
  have g3 : decide (D < 1) = false := decide_eq_false (by omega)
  have g4 : decide ((64 : Int) < D) = false := decide_eq_false (by omega)
  have s1 : decide ((m : Int) = B) = false := decide_eq_false (by omega)
  go_enter Try.func11, Try.ntmps11
  go_wp2
  go_ret2
  exact ⟨rfl, Below.refl _ _⟩
set_option maxHeartbeats 1000000 in
theorem rhl4 (B D : Nat) (cap : Nat) (a : Option Addr) (q : Nat → Int) (w : World) (hB : 1 ≤ B ∧ B ≤ 64) (hD : 1 ≤ D ∧ D ≤ 64) (ha : Jl w a .i64 B q) (hq : alB q D B = false) :
    Calls Try.prog 11 #[.int .u8 4, .int .i64 (B : Int), .int .i64 (D : Int), .int .i64 0, .slice a B cap] w fun e w' => e = .returned (.tuple #[.slice none 0 0, .int .i64 2]) ∧ Below w.heap.size w w' := by
  obtain ⟨i0, hi0, hz0, hz1, hz2⟩ := info_parts ji64
  have HN : Hid (Jo w w.heap.size 3 .i64 (.slice none 0 0) 0 (fun i => (q i).toNat)) := Jo.nil _ _ _ _ _
  have HA : Hid (Jl w a .i64 B q) := ha
  have HQ : Hid (alB q D B = false) := hq
  have g1 : decide ((B : Int) < 1) = false := decide_eq_false (by omega)
  have g2 : decide ((64 : Int) < (B : Int)) = false := decide_eq_false (by omega)
  have g3 : decide ((D : Int) < 1) = false := decide_eq_false (by omega)
  have g4 : decide ((64 : Int) < (D : Int)) = false := decide_eq_false (by omega)
  clear ha hq
  go_enter Try.func11, Try.ntmps11
  go_wp2
  go_loopw [12, 13] (fun v vi wr => ∃ j : Nat, j ≤ B ∧ vi = .int .i64 (j : Int) ∧ Hid (alB q D j = true) ∧ Jo wr w.heap.size 3 .i64 v j (fun i => (q i).toNat) ∧ Below w.heap.size w wr) (fun _ vi _ => B - (intOf vi).toNat)
  case atStart => exact ⟨0, by omega, rfl, rfl, HN.out, Below.refl _ _⟩
  case round =>
    obtain ⟨j, hj, rfl, HK, I, hb⟩ := hrel
    obtain ⟨ps, pd, rfl, hpn⟩ := I.form
    have HI : Hid (Jo wr w.heap.size 3 .i64 (.slice ps j pd) j (fun i => (q i).toNat)) := I
    have HB : Hid (Below w.heap.size w wr) := hb
    clear I hb HN
    by_cases hlt : j < B
    · have d1 : decide ((j : Int) < (B : Int)) = true := decide_eq_true (by omega)
      have nD : ¬ ((D : Int) = 0) := by omega
      have nB : ¬ ((B : Int) = 0) := by omega
      have hml2 : j + 1 ≤ maxLen := by unfold maxLen; omega
      have hwsz := HB.out.size
      obtain ⟨y, HY⟩ : ∃ y, Hid (q j = y) := ⟨_, rfl⟩
      obtain ⟨x, o, ea, hl⟩ := (HA.out.later HB.out) j hlt
      subst ea
      rw [HY.out] at hl
      obtain ⟨r, HR⟩ : ∃ r, Hid (j % D = r) := ⟨_, rfl⟩
      have er : (j : Int) % (D : Int) = (r : Int) := by rw [← HR.out, Int.natCast_emod]
      have p0 : (0 : Int) ≤ (j : Int) := by omega
      have p1 : (j : Int) < (B : Int) := by omega
      by_cases h0 : y < 0
      · have c1 : decide (y < 0) = true := decide_eq_true h0
        clear HK HY HA HQ HR
        go_wp2
        go_ret2
        exact ⟨rfl, HB.out⟩
      · have c1 : decide (y < 0) = false := decide_eq_false h0
        by_cases h6 : (D : Int) ≤ y
        · have c2 : decide ((D : Int) ≤ y) = true := decide_eq_true h6
          clear HK HY HA HQ HR
          go_wp2
          go_ret2
          exact ⟨rfl, HB.out⟩
        · have c2 : decide ((D : Int) ≤ y) = false := decide_eq_false h6
          obtain ⟨v, rfl⟩ := Int.eq_ofNat_of_zero_le (show 0 ≤ y by omega)
          have c3 : decide (D ≤ v) = false := decide_eq_false (by omega)
          have HL : Hid (∀ k, k < j + 1 → (if k = j then v else (q k).toNat) = (q k).toNat) := fun k _ => by
            by_cases e : k = j
            · subst e; rw [if_pos rfl, HY.out]; rfl
            · rw [if_neg e]
          have HK2 : Hid (alB q D (j + 1) = true) := by
            show (alB q D j && (decide (0 ≤ q j) && decide (q j < D))) = true
            rw [HK.out, HY.out, decide_eq_true (show (0 : Int) ≤ (v : Int) by omega), decide_eq_true (show (v : Int) < D by omega)]
            rfl
          clear HK HY HA HQ HR
          go_wp2_with (at_builtin; refine wpList_append_own _ rfl _ _ 32 rfl w.heap.size 3 i0 (.int .i64 0) 1 8 Try.underlying32 hi0 hz0 hz1 hz2 rfl (by decide) _ j _ rfl (World.ownsRow.alloc HI.out _) ⟨wr.heap.size, 0, none⟩ 1 1 [.int .i64 (v : Int)] rfl rfl (jone_new _ _ _ _) (jone_one _ _) hml2 (by omega) (by simp; omega) ?_; intro v' w6 hown' hgrow' _; have HO6 := HI.out.push HB.out.size hown' hgrow'; clear hown' hgrow')
          exact ⟨⟨j + 1, by omega, by go_num, HK2, HO6.1.congr HL.out, HB.out.trans HO6.2⟩, by simp [intOf]; omega⟩
    · obtain rfl : j = B := by omega
      exact absurd (HK.out.symm.trans HQ.out) (by decide)
theorem rhomes_bad (p : Nat) (B D s : Int) (m cap : Nat) (a : Option Addr) (q : Nat → Int) (w : World) (hp : p < 256) (ha : Jl w a .i64 m q) (no : okH p B D s m q = false) :
    Calls Try.prog 11 #[.int .u8 (p : Int), .int .i64 B, .int .i64 D, .int .i64 s, .slice a m cap] w fun e w' => e = .returned (.tuple #[.slice none 0 0, .int .i64 2]) ∧ Below w.heap.size w w' := by
  by_cases h1 : B < 1
  · exact rhb1 p m B D s cap a w h1
  by_cases h2 : 64 < B
  · exact rhb2 p m B D s cap a w h1 h2
  by_cases h3 : D < 1
  · exact rhb3 p m B D s cap a w h1 h2 h3
  by_cases h4 : 64 < D
  · exact rhb4 p m B D s cap a w h1 h2 h3 h4
  by_cases h5 : (p : Int) < 1
  · exact rhb5 p m B D s cap a w h1 h2 h3 h4 h5
  by_cases h6 : 4 < (p : Int)
  · exact rhb6 p m B D s cap a w h1 h2 h3 h4 h5 h6
  have b1 : 1 ≤ B ∧ B ≤ 64 := by omega
  have d1 : 1 ≤ D ∧ D ≤ 64 := by omega
  unfold okH at no
  rw [sideB_iff.2 b1, sideB_iff.2 d1, decide_eq_true (show 1 ≤ p by omega), decide_eq_true (show p ≤ 4 by omega)] at no
  simp only [Bool.true_and, Bool.and_true] at no
  rcases (show p = 1 ∨ p = 2 ∨ p = 3 ∨ p = 4 by omega) with rfl | rfl | rfl | rfl
  · by_cases hs : s = 0
    · subst hs
      have : 0 < m := by
        refine Nat.pos_of_ne_zero fun e => ?_
        subst e
        simp [stepB, listB] at no
      exact rhm1 m B D cap a w b1 d1 this
    · exact rhs1 m B D s cap a w b1 d1 hs
  · by_cases hs : s = 0
    · subst hs
      have : 0 < m := by
        refine Nat.pos_of_ne_zero fun e => ?_
        subst e
        simp [stepB, listB] at no
      exact rhm2 m B D cap a w b1 d1 this
    · exact rhs2 m B D s cap a w b1 d1 hs
  · by_cases hs : s < 1
    · exact rhs3 m B D s cap a w b1 d1 hs
    · by_cases ht : 2147483647 < s
      · exact rht3 m B D s cap a w b1 d1 hs ht
      · have : 0 < m := by
          refine Nat.pos_of_ne_zero fun e => ?_
          subst e
          rw [show stepB 3 s = (decide (1 ≤ s) && decide (s ≤ 2147483647)) from if_pos rfl, decide_eq_true (show 1 ≤ s by omega), decide_eq_true (show s ≤ 2147483647 by omega)] at no
          simp [listB] at no
        exact rhm3 m B D s cap a w b1 d1 hs ht this
  · by_cases hs : s = 0
    · subst hs
      by_cases hm : (m : Int) = B
      · subst hm
        obtain ⟨N, rfl⟩ := Int.eq_ofNat_of_zero_le (show 0 ≤ D by omega)
        refine rhl4 m N cap a q w (by omega) (by omega) ha ?_
        rw [show listB 4 m N m q = (decide ((m : Int) = m) && alB q N m) from if_pos rfl] at no
        simpa [stepB] using no
      · exact rhm4 m B D cap a w b1 d1 hm
    · exact rhs4 m B D s cap a w b1 d1 hs
end Go.Proofs.YtfajmoiffjbcbaaR
