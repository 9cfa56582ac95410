/-
  Sides, steps, lists of placements; Blocks on both sides; two lists of numbers that are the same.
-/
import Derived.Test.YtbhidokfclchlaaK1b
namespace Go.Proofs.Ytbhidokfclchlaa
open Go.RowKit
def sideB (n : Int) : Bool := decide (1 ≤ n) && decide (n ≤ 64)
theorem pisside (n : Int) (w : World) : Calls Try.prog 16 #[.int .i64 n] w fun e w' => e = .returned (.bool (sideB n)) ∧ w = w' := by
  unfold sideB
  by_cases h1 : 1 ≤ n
  · have g1 : decide (1 ≤ n) = true := decide_eq_true h1
    rw [g1, Bool.true_and]
    go_enter Try.func16, Try.ntmps16
    go_wp2
    go_ret
    exact ⟨rfl, rfl⟩
  · have g1 : decide (1 ≤ n) = false := decide_eq_false h1
    rw [g1, Bool.false_and]
    go_enter Try.func16, Try.ntmps16
    go_wp2
    go_ret
    exact ⟨rfl, rfl⟩
def stepB (p : Nat) (s : Int) : Bool := if p = 3 then decide (1 ≤ s) && decide (s ≤ 2147483647) else decide (s = 0)
theorem pfitsstep (p : Nat) (s : Int) (w : World) : Calls Try.prog 17 #[.int .u8 (p : Int), .int .i64 s] w fun e w' => e = .returned (.bool (stepB p s)) ∧ w = w' := by
  by_cases h3 : p = 3
  · subst h3
    rw [show stepB 3 s = (decide (1 ≤ s) && decide (s ≤ 2147483647)) from if_pos rfl]
    by_cases h1 : 1 ≤ s
    · have g1 : decide (1 ≤ s) = true := decide_eq_true h1
      rw [g1, Bool.true_and]
      go_enter Try.func17, Try.ntmps17
      go_wp2
      go_ret
      exact ⟨rfl, rfl⟩
    · have g1 : decide (1 ≤ s) = false := decide_eq_false h1
      rw [g1, Bool.false_and]
      go_enter Try.func17, Try.ntmps17
      go_wp2
      go_ret
      exact ⟨rfl, rfl⟩
  · rw [show stepB p s = decide (s = 0) from if_neg h3]
    have g1 : ¬ ((p : Int) = 3) := by omega
    have g2 : decide ((p : Int) = 3) = false := decide_eq_false g1
    by_cases h0 : s = 0
    · subst h0
      go_enter Try.func17, Try.ntmps17
      go_wp2
      go_ret
      exact ⟨rfl, rfl⟩
    · have g3 : decide (s = 0) = false := decide_eq_false h0
      have g4 : (s == 0) = false := beq_eq_false_iff_ne.2 h0
      rw [g3]
      go_enter Try.func17, Try.ntmps17
      go_wp2
      go_ret
      exact ⟨by rw [← g4]; rfl, rfl⟩
/-- All of the first so many numbers are from 0 to D - 1. -/
def alB (q : Nat → Int) (D : Int) : Nat → Bool
  | 0 => true
  | i + 1 => alB q D i && (decide (0 ≤ q i) && decide (q i < D))
theorem alB_get {q : Nat → Int} {D : Int} : ∀ {m : Nat}, alB q D m = true ↔ ∀ i, i < m → 0 ≤ q i ∧ q i < D := by
  intro m
  induction m with
  | zero => exact ⟨fun _ i hi => by omega, fun _ => rfl⟩
  | succ m ih =>
    show (alB q D m && (decide (0 ≤ q m) && decide (q m < D))) = true ↔ _
    rw [Bool.and_eq_true, Bool.and_eq_true, decide_eq_true_eq, decide_eq_true_eq, ih]
    constructor
    · intro ⟨h1, h2⟩ i hi
      by_cases e : i = m
      · subst e; exact h2
      · exact h1 i (by omega)
    · intro h
      exact ⟨fun i hi => h i (by omega), h m (by omega)⟩
theorem alB_no {q : Nat → Int} {D : Int} {m i : Nat} (hi : i < m) (h : ¬ (0 ≤ q i ∧ q i < D)) : alB q D m = false := by
  cases e : alB q D m with
  | false => rfl
  | true => exact absurd (alB_get.1 e i hi) h
def listB (p : Nat) (B D : Int) (m : Nat) (q : Nat → Int) : Bool := if p = 4 then decide ((m : Int) = B) && alB q D m else decide (m = 0)
set_option maxHeartbeats 400000 in
theorem pfitslist (p : Nat) (B D : Int) (m cap : Nat) (a : Option Addr) (q : Nat → Int) (w : World) (ha : Jl w a .i64 m q) (hm : m ≤ 9223372036854775807) :
    Calls Try.prog 18 #[.int .u8 (p : Int), .int .i64 B, .int .i64 D, .slice a m cap] w fun e w' => e = .returned (.bool (listB p B D m q)) ∧ w = w' := by
  by_cases h4 : p = 4
  · subst h4
    rw [show listB 4 B D m q = (decide ((m : Int) = B) && alB q D m) from if_pos rfl]
    by_cases hB : (m : Int) = B
    · have g1 : decide ((m : Int) = B) = true := decide_eq_true hB
      rw [g1, Bool.true_and]
      have HA : Hid (Jl w a .i64 m q) := ha
      clear ha
      go_enter Try.func18, Try.ntmps18
      go_wp2
      go_loop [22] (fun vi => ∃ j : Nat, j ≤ m ∧ Hid (alB q D j = true) ∧ vi = .int .i64 (j : Int)) (fun vi => m - (intOf vi).toNat)
      case atStart => exact ⟨0, by omega, rfl, rfl⟩
      case round =>
        obtain ⟨j, hj, HK, rfl⟩ := hrel
        by_cases hlt : j < m
        · obtain ⟨x, o, ea, hc⟩ := HA.out j hlt
          subst ea
          obtain ⟨y, HY⟩ : ∃ y, Hid (q j = y) := ⟨_, rfl⟩
          rw [HY.out] at hc
          have p0 : (0 : Int) ≤ (j : Int) := by omega
          have p1 : (j : Int) < (m : Int) := by omega
          have d1 : decide (j < m) = true := decide_eq_true hlt
          by_cases h0 : y < 0
          · have HR : Hid (alB q D m = false) := alB_no hlt (by rw [HY.out]; omega)
            have c1 : decide (y < 0) = true := decide_eq_true h0
            clear HK HY HA
            go_wp2
            go_ret
            exact ⟨by rw [HR.out]; rfl, rfl⟩
          · have c1 : decide (y < 0) = false := decide_eq_false h0
            by_cases h6 : D ≤ y
            · have HR : Hid (alB q D m = false) := alB_no hlt (by rw [HY.out]; omega)
              have c2 : decide (D ≤ y) = true := decide_eq_true h6
              clear HK HY HA
              go_wp2
              go_ret
              exact ⟨by rw [HR.out]; rfl, rfl⟩
            · have c2 : decide (D ≤ y) = false := decide_eq_false h6
              have HK2 : Hid (alB q D (j + 1) = true) := by
                show (alB q D j && (decide (0 ≤ q j) && decide (q j < D))) = true
                rw [HK.out, HY.out, decide_eq_true (show 0 ≤ y by omega), decide_eq_true (show y < D by omega)]
                rfl
              clear HK HY HA
              go_wp2
              exact ⟨⟨j + 1, by omega, HK2, by go_num⟩, by simp [intOf]; omega⟩
        · obtain rfl : j = m := by omega
          have d1 : decide (j < j) = false := decide_eq_false (by omega)
          go_wp2
          go_ret
          exact ⟨by rw [HK.out]; rfl, rfl⟩
    · have g1 : decide ((m : Int) = B) = false := decide_eq_false hB
      rw [g1, Bool.false_and]
      clear ha
      go_enter Try.func18, Try.ntmps18
      go_wp2
      go_ret
      exact ⟨rfl, rfl⟩
  · rw [show listB p B D m q = decide (m = 0) from if_neg h4]
    have g1 : ¬ ((p : Int) = 4) := by omega
    have g2 : decide ((p : Int) = 4) = false := decide_eq_false g1
    clear ha
    by_cases h0 : m = 0
    · subst h0
      go_enter Try.func18, Try.ntmps18
      go_wp2
      go_ret
      exact ⟨rfl, rfl⟩
    · have g3 : decide (m = 0) = false := decide_eq_false h0
      have g5 : ((m : Int) == 0) = false := beq_eq_false_iff_ne.2 (by omega)
      have g4 : decide ((m : Int) = 0) = false := decide_eq_false (by omega)
      rw [g3]
      go_enter Try.func18, Try.ntmps18
      go_wp2
      go_ret
      exact ⟨by rw [← g5]; rfl, rfl⟩
/-- What Blocks answers. -/
def blkA (q : Nat → Int) (d : Int) (m : Nat) : Array Value := if m ≤ 64 then #[.int .u64 ((gst (fun i => decide (q i = d)) m : Nat) : Int), .int .i64 0] else #[.int .u64 0, .int .i64 2]
set_option maxHeartbeats 400000 in
theorem rints_same (m c1 c2 : Nat) (a b : Option Addr) (q : Nat → Int) (w : World) (hm : m ≤ 9223372036854775807) (ha : Jl w a .i64 m q) (hb : Jl w b .i64 m q) :
    Calls Try.prog 12 #[.slice a m c1, .slice b m c2] w fun e w' => e = .returned (.bool true) ∧ Below w.heap.size w w' := by
  have HA : Hid (Jl w a .i64 m q) := ha
  have HB : Hid (Jl w b .i64 m q) := hb
  clear ha hb
  go_enter Try.func12, Try.ntmps12
  go_wp2
  go_loopw [5] (fun vi wr => ∃ j : Nat, j ≤ m ∧ vi = .int .i64 (j : Int) ∧ Below w.heap.size w wr) (fun vi _ => m - (intOf vi).toNat)
  case atStart => exact ⟨0, by omega, rfl, Below.refl _ _⟩
  case round =>
    obtain ⟨j, hj, rfl, hb⟩ := hrel
    have HW : Hid (Below w.heap.size w wr) := hb
    clear hb
    by_cases hlt : j < m
    · obtain ⟨x, o, ea, hc⟩ := (HA.out.later HW.out) j hlt
      obtain ⟨x', o', eb, hc'⟩ := (HB.out.later HW.out) j hlt
      subst ea
      subst eb
      obtain ⟨y, HY⟩ : ∃ y, Hid (q j = y) := ⟨_, rfl⟩
      rw [HY.out] at hc hc'
      have p0 : (0 : Int) ≤ (j : Int) := by omega
      have p1 : (j : Int) < (m : Int) := by omega
      have d1 : decide (j < m) = true := decide_eq_true hlt
      clear HA HB HY
      go_wp2
      go_quiet (fail)
      go_wp2
      exact ⟨⟨j + 1, by omega, by go_num, below_drewN HW.out _⟩, by simp [intOf]; omega⟩
    · obtain rfl : j = m := by omega
      have d1 : decide (j < j) = false := decide_eq_false (by omega)
      go_wp2
      go_ret
      exact ⟨rfl, HW.out⟩
end Go.Proofs.Ytbhidokfclchlaa
