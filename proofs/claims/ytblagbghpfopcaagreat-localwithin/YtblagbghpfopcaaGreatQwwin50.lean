/-
  May of any code, of the program and of the reference.
  A code that came in, opened: a struct of a matrix and of a list.
  Stage 19: local.Group and the reference's Group; LocalGroups.
  Stage 19: local.Group and the reference's Group, where the code may be; LocalGroups.
  What the checks of stage 7 with a loop over a list need: lists of numbers, bits of numbers.
  Stage 19: the reference's bad, others, repairs, first.
  Stage 19: the reference's first.
  Stage 19: the reference's Least.
  Stage 19: the reference's Choices.
  Stage 19: the search's answer is one.
  Stage 19: Sizes of both sides.
  Stage 19: answers that are one: Sizes and Choices of both sides.
  Stage 19: the anchor: one repair that the document fixes.
  Stage 19: what is answered is new memory, and one thing on both sides.
  Stage 19: for LocalFresh.
  Stage 19: for LocalWithin: a group's others repair; what the first choices are.
-/
import Derived.Test.YtblagbghpfopcaaGreatQwwin00
import Derived.Test.YtblagbghpfopcaaGreatQwwin42
import Derived.Test.YtblagbghpfopcaaGreatQwwin40
import Derived.Test.YtblagbghpfopcaaGreatQwwin21
import Derived.Test.YtblagbghpfopcaaGreatQwwin02
import Derived.Lib.SmallJoins
import Derived.Test.YtblagbghpfopcaaGreatQwwin43
import Derived.Test.YtblagbghpfopcaaGreatQwwin47
import Derived.Test.YtblagbghpfopcaaGreatQwwin19
import Derived.Test.YtblagbghpfopcaaGreatQwwin49
import Derived.Test.YtblagbghpfopcaaGreatQwwin05
set_option maxRecDepth 100000
set_option maxHeartbeats 16000000
namespace Go.Proofs.YtblagbghpfopcaaGreat
open Go.RowKit
/-- A matrix may be a generator. -/
def GenP (r c : Int) (n : Nat) : Prop := RightP r c n ∧ 1 ≤ c ∧ c ≤ r
/-- A code may be. -/
def MayP (F : Nat → Nat) (r c : Int) (n m : Nat) (q : Nat → Nat) : Prop := GenP r c n ∧ ∀ i, i < m → HangP F r.toNat c.toNat (q i)
theorem GenP.nat {r c : Int} {n : Nat} (h : GenP r c n) : ∃ r' c' : Nat, r = (r' : Int) ∧ c = (c' : Int) ∧ Rt r' c' n ∧ 1 ≤ c' ∧ c' ≤ r' := by
  obtain ⟨⟨h1, h2, h3, h4, h5⟩, h6, h7⟩ := h
  obtain ⟨x, rfl⟩ := Int.eq_ofNat_of_zero_le h1
  obtain ⟨y, rfl⟩ := Int.eq_ofNat_of_zero_le h3
  exact ⟨x, y, rfl, rfl, ⟨by omega, by omega, by have : (n : Int) = ((x * y : Nat) : Int) := by rw [h5]; simp
                                                 omega⟩, by omega, by omega⟩
theorem bld_zero {P : Nat → Prop} {R p : Nat} (h : Bld P R p) : p = 0 ↔ ∀ i, i < R → ¬ P i := by
 constructor
 ·intro e i hi hp
  have := (h.2 i hi).2 hp
  rw [e] at this
  simp [bt] at this
 ·intro hn
  refine qfh fun i => ?_
  have z : bt 0 i = 0 := by simp [bt]
  rw [z]
  constructor
  ·intro hi
   by_cases hR : i < R
   ·exact (hn i hR ((h.2 i hR).1 hi)).elim
   ·have hp : p < 2 ^ i := Nat.lt_of_lt_of_le h.1 (Nat.pow_le_pow_right (by decide) (by omega))
    rw [bt, Nat.div_eq_of_lt hp] at hi
    omega
  ·intro hi
   omega
theorem need16 (w : World) (r c n k s : Nat) (a : Option Addr) (F : Nat → Nat) (ha : Sl w a n F) (R : Rt r c n) (hs : s < 18446744073709551616) :
  Calls Tryz.prog 52 #[mv r c a n k, .int .u64 (s : Int)] w fun e w' => ∃ (p : Nat) (E : Int), e = .returned (.tuple #[.int .u64 (p : Int), .int .i64 E]) ∧ ((E = 0 ∧ p = 0) ↔ HangP F r c s) ∧ Below w.heap.size w w' := by
 by_cases h : s < 2 ^ r
 ·refine (rNeed_ok w r c n k s a F ha R h).mono ?_
  rintro e w' ⟨p, rfl, hp, hb⟩
  refine ⟨p, 0, rfl, ?_, hb⟩
  rw [bld_zero hp]
  constructor
  ·rintro ⟨_, h0⟩
   exact ⟨h, fun i hi hbi => Classical.byContradiction fun hn => h0 i hi ⟨hbi, hn⟩⟩
  ·rintro ⟨_, h1⟩
   exact ⟨rfl, fun i hi hn => hn.2 (h1 i hi hn.1)⟩
 ·refine (qmk w r c 2 n k s a hs (.inr ⟨R.p, by rw [Int.toNat_natCast]; exact h, rfl⟩)).mono ?_
  rintro e w' ⟨rfl, hb⟩
  exact ⟨0, 2, rfl, ⟨fun h2 => by have := h2.1; omega, fun h2 => (h h2.1).elim⟩, hb⟩
theorem genx16 (w : World) (r c : Int) (n k : Nat) (a : Option Addr) (b : Bool) (hb : b = true ↔ GenP r c n) :
  Calls Tryz.prog 81 #[mv r c a n k] w fun e w' => e = .returned (.bool b) ∧ Below w.heap.size w w' := by
 obtain ⟨wb, HW⟩ : ∃ wb, Hid (w.alloc (.cells #[.int .i64 r, .int .i64 c, .slice a n k] 24) = wb) := ⟨_, rfl⟩
 have HB0 : Hid (Below w.heap.size w wb) := by rw [← HW.out]; exact qa1 _ _
 have HV : Hid (Vq wb w.heap.size 24 #[.int .i64 r, .int .i64 c, .slice a n k]) := by rw [← HW.out]; exact Vq.new w _ _
 by_cases h : RightP r c n
 ·have HP : Hid (RightP r c n) := h
  have HE : Hid (b = (decide (1 ≤ c) && decide (c ≤ r))) := by
   show b = _
   cases b with
   | true =>
    have := hb.1 rfl
    simp [this.2.1, this.2.2]
   | false =>
    have : ¬ (1 ≤ c ∧ c ≤ r) := fun h2 => by have := hb.2 ⟨h, h2.1, h2.2⟩; cases this
    by_cases h1 : 1 ≤ c
    ·simp [h1]; omega
    ·simp [h1]
  clear h hb
  by_cases h1 : 1 ≤ c
  ·have g1 : decide ((1 : Int) ≤ c) = true := by simpa using h1
   go_enter Tryz.func81, Tryz.ntmps81
   go_wp2_with (go_at_call 60; rw [HW.out]; refine (qaj _ _ _ _ _ _ HP.out).mono ?_; rintro e w1 ⟨rfl, hb1⟩; have HB1 : Hid (Below wb.heap.size wb w1) := hb1; have v0 := (HV.out.later hb1).cell 0 _ rfl; have v1 := (HV.out.later hb1).cell 1 _ rfl; clear hb1)
   go_ret
   exact ⟨by rw [HE.out, g1]; simp, qa0 HB0.out HB1.out⟩
  ·have g1 : decide ((1 : Int) ≤ c) = false := by simpa using h1
   go_enter Tryz.func81, Tryz.ntmps81
   go_wp2_with (go_at_call 60; rw [HW.out]; refine (qaj _ _ _ _ _ _ HP.out).mono ?_; rintro e w1 ⟨rfl, hb1⟩; have HB1 : Hid (Below wb.heap.size wb w1) := hb1; have v0 := (HV.out.later hb1).cell 0 _ rfl; have v1 := (HV.out.later hb1).cell 1 _ rfl; clear hb1)
   go_ret
   exact ⟨by rw [HE.out, g1]; simp, qa0 HB0.out HB1.out⟩
 ·have HP : Hid (¬ RightP r c n) := h
  have HE : Hid (b = false) := by
   show b = _
   cases b with
   | true => exact (h (hb.1 rfl).1).elim
   | false => rfl
  clear h hb
  go_enter Tryz.func81, Tryz.ntmps81
  go_wp2_with (go_at_call 60; rw [HW.out]; refine (qgp _ _ _ _ _ _ HP.out).mono ?_; rintro e w1 ⟨rfl, hb1⟩; have HB1 : Hid (Below wb.heap.size wb w1) := hb1; have v0 := (HV.out.later hb1).cell 0 _ rfl; have v1 := (HV.out.later hb1).cell 1 _ rfl; clear hb1)
  go_ret
  exact ⟨by rw [HE.out]; rfl, qa0 HB0.out HB1.out⟩
theorem qml (w : World) (r c : Int) (n k : Nat) (a : Option Addr) (b : Bool) (hb : b = true ↔ GenP r c n) :
  Calls Tryz.prog 42 #[mv r c a n k] w fun e w' => e = .returned (.bool b) ∧ Below w.heap.size w w' := by
 obtain ⟨wb, HW⟩ : ∃ wb, Hid (w.alloc (.cells #[.int .i64 r, .int .i64 c, .slice a n k] 24) = wb) := ⟨_, rfl⟩
 have HB0 : Hid (Below w.heap.size w wb) := by rw [← HW.out]; exact qa1 _ _
 have HV : Hid (Vq wb w.heap.size 24 #[.int .i64 r, .int .i64 c, .slice a n k]) := by rw [← HW.out]; exact Vq.new w _ _
 by_cases h : RightP r c n
 ·have HP : Hid (RightP r c n) := h
  have HE : Hid (b = (decide (1 ≤ c) && decide (c ≤ r))) := by
   show b = _
   cases b with
   | true =>
    have := hb.1 rfl
    simp [this.2.1, this.2.2]
   | false =>
    have : ¬ (1 ≤ c ∧ c ≤ r) := fun h2 => by have := hb.2 ⟨h, h2.1, h2.2⟩; cases this
    by_cases h1 : 1 ≤ c
    ·simp [h1]; omega
    ·simp [h1]
  clear h hb
  by_cases h1 : 1 ≤ c
  ·have g1 : decide ((1 : Int) ≤ c) = true := by simpa using h1
   go_enter Tryz.func42, Tryz.ntmps42
   go_wp2_with (go_at_call 68; rw [HW.out]; refine (qbb _ _ _ _ _ _ HP.out).mono ?_; rintro e w1 ⟨rfl, hb1⟩; have HB1 : Hid (Below wb.heap.size wb w1) := hb1; have v0 := (HV.out.later hb1).cell 0 _ rfl; have v1 := (HV.out.later hb1).cell 1 _ rfl; clear hb1)
   go_ret
   exact ⟨by rw [HE.out, g1]; simp, qa0 HB0.out HB1.out⟩
  ·have g1 : decide ((1 : Int) ≤ c) = false := by simpa using h1
   go_enter Tryz.func42, Tryz.ntmps42
   go_wp2_with (go_at_call 68; rw [HW.out]; refine (qbb _ _ _ _ _ _ HP.out).mono ?_; rintro e w1 ⟨rfl, hb1⟩; have HB1 : Hid (Below wb.heap.size wb w1) := hb1; have v0 := (HV.out.later hb1).cell 0 _ rfl; have v1 := (HV.out.later hb1).cell 1 _ rfl; clear hb1)
   go_ret
   exact ⟨by rw [HE.out, g1]; simp, qa0 HB0.out HB1.out⟩
 ·have HP : Hid (¬ RightP r c n) := h
  have HE : Hid (b = false) := by
   show b = _
   cases b with
   | true => exact (h (hb.1 rfl).1).elim
   | false => rfl
  clear h hb
  go_enter Tryz.func42, Tryz.ntmps42
  go_wp2_with (go_at_call 68; rw [HW.out]; refine (qi9 _ _ _ _ _ _ HP.out).mono ?_; rintro e w1 ⟨rfl, hb1⟩; have HB1 : Hid (Below wb.heap.size wb w1) := hb1; have v0 := (HV.out.later hb1).cell 0 _ rfl; have v1 := (HV.out.later hb1).cell 1 _ rfl; clear hb1)
  go_ret
  exact ⟨by rw [HE.out]; rfl, qa0 HB0.out HB1.out⟩
theorem may16 (w : World) (r c : Int) (n k d m : Nat) (a b : Option Addr) (F q : Nat → Nat) (ha : Mt w a n k F) (hb : Jl w b .u64 m (fun i => (q i : Int))) (hm : m ≤ 17592186044416) (hq : ∀ i, i < m → q i < 18446744073709551616) (v : Bool) (hv : v = true ↔ MayP F r c n m q) :
  Calls Tryz.prog 49 #[cv r c a n k b m d] w fun e w' => e = .returned (.bool v) ∧ Below w.heap.size w w' := by
 obtain ⟨wb, HW⟩ : ∃ wb, Hid (w.alloc (.cells #[.int .i64 r, .int .i64 c, .slice a n k, .slice b m d] 48) = wb) := ⟨_, rfl⟩
 have HB0 : Hid (Below w.heap.size w wb) := by rw [← HW.out]; exact qa1 _ _
 have HV : Hid (Vq wb w.heap.size 48 #[.int .i64 r, .int .i64 c, .slice a n k, .slice b m d]) := by rw [← HW.out]; exact Vq.new w _ _
 by_cases hg : GenP r c n
 ·have HG : Hid (∀ w, Calls Tryz.prog 81 #[mv r c a n k] w fun e w' => e = .returned (.bool true) ∧ Below w.heap.size w w') := fun w => genx16 w r c n k a true ⟨fun _ => hg, fun _ => rfl⟩
  have HH : Hid (∀ w', Below w.heap.size w w' → Calls Tryz.prog 82 #[mv r c a n k, .slice b m d] w' fun e w'' => e = .returned (.bool v) ∧ Below w'.heap.size w' w'') := fun w' hw => by
   obtain ⟨x, y, e1, e2, R, _, _⟩ := hg.nat
   have h2 : v = true ↔ ∀ i, i < m → HangP F x y (q i) := by
    rw [hv, MayP, e1, e2, Int.toNat_natCast, Int.toNat_natCast]
    exact ⟨fun h => h.2, fun h => ⟨by rw [← e1, ← e2]; exact hg, h⟩⟩
   rw [e1, e2]
   exact qmj w' x y n k d m a b F q (ha.later hw) (hb.later hw) R hm hq v h2
  clear ha hb hg hv hq
  go_enter Tryz.func49, Tryz.ntmps49
  go_wp2_with (first
   | (go_at_call 81; rw [HW.out]; refine (HG.out _).mono ?_; rintro e w1 ⟨rfl, hb1⟩; have HB1 : Hid (Below w.heap.size w w1) := qa0 HB0.out hb1; have v0 := (HV.out.later hb1).cell 0 _ rfl; have v1 := (HV.out.later hb1).cell 1 _ rfl; have v2 := (HV.out.later hb1).cell 2 _ rfl; have v3 := (HV.out.later hb1).cell 3 _ rfl; clear hb1)
   | (go_at_call 82; refine (HH.out _ HB1.out).mono ?_; rintro e w2 ⟨rfl, hb2⟩; have HB2 : Hid (Below w.heap.size w w2) := qa0 HB1.out hb2; clear hb2))
  go_ret
  exact ⟨rfl, HB2.out⟩
 ·have HG : Hid (∀ w, Calls Tryz.prog 81 #[mv r c a n k] w fun e w' => e = .returned (.bool false) ∧ Below w.heap.size w w') := fun w => genx16 w r c n k a false ⟨fun h => (by cases h), fun h => (hg h).elim⟩
  have HE : Hid (v = false) := by
   show v = _
   cases v with
   | true => exact (hg (hv.1 rfl).1).elim
   | false => rfl
  clear ha hb hg hv hq
  go_enter Tryz.func49, Tryz.ntmps49
  go_wp2_with (go_at_call 81; rw [HW.out]; refine (HG.out _).mono ?_; rintro e w1 ⟨rfl, hb1⟩; have HB1 : Hid (Below w.heap.size w w1) := qa0 HB0.out hb1; have v0 := (HV.out.later hb1).cell 0 _ rfl; have v1 := (HV.out.later hb1).cell 1 _ rfl; have v2 := (HV.out.later hb1).cell 2 _ rfl; have v3 := (HV.out.later hb1).cell 3 _ rfl; clear hb1)
  go_ret
  exact ⟨by rw [HE.out]; rfl, HB1.out⟩
theorem rmay16 (w : World) (r c : Int) (n k d m : Nat) (a b : Option Addr) (F q : Nat → Nat) (ha : Mt w a n k F) (hb : Jl w b .u64 m (fun i => (q i : Int))) (hm : m ≤ 17592186044416) (hq : ∀ i, i < m → q i < 18446744073709551616) (v : Bool) (hv : v = true ↔ MayP F r c n m q) :
  Calls Tryz.prog 17 #[cv r c a n k b m d] w fun e w' => e = .returned (.bool v) ∧ Below w.heap.size w w' := by
 obtain ⟨wb, HW⟩ : ∃ wb, Hid (w.alloc (.cells #[.int .i64 r, .int .i64 c, .slice a n k, .slice b m d] 48) = wb) := ⟨_, rfl⟩
 have HB0 : Hid (Below w.heap.size w wb) := by rw [← HW.out]; exact qa1 _ _
 have HV : Hid (Vq wb w.heap.size 48 #[.int .i64 r, .int .i64 c, .slice a n k, .slice b m d]) := by rw [← HW.out]; exact Vq.new w _ _
 by_cases hg : GenP r c n
 ·obtain ⟨x, y, e1, e2, R, _, _⟩ := hg.nat
  have HG : Hid (∀ w, Calls Tryz.prog 42 #[mv r c a n k] w fun e w' => e = .returned (.bool true) ∧ Below w.heap.size w w') := fun w => qml w r c n k a true ⟨fun _ => hg, fun _ => rfl⟩
  have HN : Hid (∀ (w' : World) (s : Nat), Below w.heap.size w w' → s < 18446744073709551616 → Calls Tryz.prog 52 #[mv r c a n k, .int .u64 (s : Int)] w' fun e w'' => ∃ (p : Nat) (E : Int), e = .returned (.tuple #[.int .u64 (p : Int), .int .i64 E]) ∧ ((E = 0 ∧ p = 0) ↔ HangP F r.toNat c.toNat s) ∧ Below w'.heap.size w' w'') := fun w' s hw hs => by
   rw [e1, e2, Int.toNat_natCast, Int.toNat_natCast]
   exact need16 w' x y n k s a F (ha.later hw).sl R hs
  have HVd : Hid (v = true ↔ ∀ i, i < m → HangP F r.toNat c.toNat (q i)) := hv.trans ⟨fun h => h.2, fun h => ⟨hg, h⟩⟩
  have HJ : Hid (Jl wb b .u64 m (fun i => (q i : Int))) := hb.later HB0.out
  have HQ : Hid (∀ i, i < m → q i < 18446744073709551616) := hq
  clear ha hb hg hv hq R e1 e2
  go_enter Tryz.func17, Tryz.ntmps17
  go_wp2_with (go_at_call 42; rw [HW.out]; refine (HG.out _).mono ?_; rintro e w1 ⟨rfl, hb1⟩; have HB1 : Hid (Below wb.heap.size wb w1) := hb1; clear hb1)
  go_loopg [3, 4, 5] m (fun gh vi _ _ wr => ∃ i : Nat, vi = .int .i64 (i : Int) ∧ i ≤ m ∧ m - i ≤ gh ∧ (∀ j, j < i → HangP F r.toNat c.toNat (q j)) ∧ Below wb.heap.size wb wr)
  case atStart => exact ⟨0, rfl, by omega, by omega, fun j hj => by omega, HB1.out⟩
  case round =>
   obtain ⟨i, rfl, hi, hgh, hall, hbr⟩ := hrel
   have HL : Hid (∀ j, j < i → HangP F r.toNat c.toNat (q j)) := hall
   have HB : Hid (Below wb.heap.size wb wr) := hbr
   have v0 := (HV.out.later hbr).cell 0 _ rfl
   have v1 := (HV.out.later hbr).cell 1 _ rfl
   have v2 := (HV.out.later hbr).cell 2 _ rfl
   have v3 := (HV.out.later hbr).cell 3 _ rfl
   by_cases hlt : i < m
   ·have hlt2 : (i : Int) < (m : Int) := by omega
    have i0 : (0 : Int) ≤ (i : Int) := Int.natCast_nonneg _
    obtain ⟨z, o, ea, hc⟩ := (HJ.out.later hbr) i hlt
    obtain ⟨u, HU⟩ : ∃ u, Hid (q i = u) := ⟨_, rfl⟩
    have hc2 : wr.cell? ⟨z, o + i, none⟩ = some (.int .u64 (u : Int)) := by rw [← HU.out]; exact hc
    have hu : u < 18446744073709551616 := by rw [← HU.out]; exact HQ.out i hlt
    subst ea
    have HD : Hid (wr.drew.cell? ⟨w.heap.size, 0, none⟩ = some (.int .i64 r) ∧ wr.drew.cell? ⟨w.heap.size, 1, none⟩ = some (.int .i64 c) ∧ wr.drew.cell? ⟨w.heap.size, 2, none⟩ = some (.slice a n k) ∧ wr.drew.cell? ⟨w.heap.size, 3, none⟩ = some (.slice (some ⟨z, o, none⟩) m d) ∧ wr.drew.cell? ⟨z, o + i, none⟩ = some (.int .u64 (u : Int))) := ⟨v0, v1, v2, v3, hc2⟩
    have HBd : Hid (Below w.heap.size w wr.drew) := (qa0 HB0.out hbr).trans ⟨rfl, rfl, rfl, Nat.le_refl _, fun _ _ => rfl⟩
    have HBe : Hid (Below wb.heap.size wb wr.drew) := hbr.trans ⟨rfl, rfl, rfl, Nat.le_refl _, fun _ _ => rfl⟩
    have HV4 : Hid (Vq wr.drew w.heap.size 48 #[.int .i64 r, .int .i64 c, .slice a n k, .slice (some ⟨z, o, none⟩) m d]) := HV.out.later HBe.out
    clear hc hall hbr
    go_wp2
    go_region_held3 (fun w' => w'.cell? ⟨w.heap.size, 0, none⟩ = some (.int .i64 r) ∧ w'.cell? ⟨w.heap.size, 1, none⟩ = some (.int .i64 c) ∧ w'.cell? ⟨w.heap.size, 2, none⟩ = some (.slice a n k) ∧ w'.cell? ⟨w.heap.size, 3, none⟩ = some (.slice (some ⟨z, o, none⟩) m d) ∧ w'.cell? ⟨z, o + i, none⟩ = some (.int .u64 (u : Int)))
     (first
      | exact HK2.out
      | exact HD.out)
     (first | (go_at_call 52; refine (HN.out _ u HBd.out hu).mono ?_; rintro e w4 ⟨p, E, rfl, hpe, hb4⟩; have HPE : Hid ((E = 0 ∧ p = 0) ↔ HangP F r.toNat c.toNat u) := hpe; have HB4 : Hid (Below wb.heap.size wb w4) := qa0 HBe.out hb4; have HK2 : Hid (w4.cell? ⟨w.heap.size, 0, none⟩ = some (.int .i64 r) ∧ w4.cell? ⟨w.heap.size, 1, none⟩ = some (.int .i64 c) ∧ w4.cell? ⟨w.heap.size, 2, none⟩ = some (.slice a n k) ∧ w4.cell? ⟨w.heap.size, 3, none⟩ = some (.slice (some ⟨z, o, none⟩) m d) ∧ w4.cell? ⟨z, o + i, none⟩ = some (.int .u64 (u : Int))) := ⟨(HV4.out.later hb4).cell 0 _ rfl, (HV4.out.later hb4).cell 1 _ rfl, (HV4.out.later hb4).cell 2 _ rfl, (HV4.out.later hb4).cell 3 _ rfl, keepc hb4 hc2⟩; clear hb4 hpe))
    by_cases hE : E = 0 ∧ p = 0
    ·obtain ⟨rfl, rfl⟩ := hE
     have HT : Hid (HangP F r.toNat c.toNat u) := HPE.out.1 ⟨rfl, rfl⟩
     clear HPE
     go_wp2
     go_roundg (gk - 1)
     case measure => omega
     case rel => exact ⟨i + 1, by go_num, by omega, by omega, fun j hj => (by
      by_cases e : j = i
      ·subst e; rw [HU.out]; exact HT.out
      ·exact HL.out j (by omega)), HB4.out⟩
    ·have HNo : Hid (¬ (E = 0 ∧ p = 0)) := hE
     by_cases hE0 : E = 0
     ·have hp : ((p : Int) != 0) = true := by simp; omega
      have hE1 : (E != 0) = false := by simpa using hE0
      clear hE hE0
      go_wp2
      go_ret
      refine ⟨?_, qa0 HB0.out HB4.out⟩
      cases v with
      | false => rfl
      | true => exact (HNo.out (HPE.out.2 (HU.out ▸ HVd.out.1 rfl i hlt))).elim
     ·have hE1 : (E != 0) = true := by simpa using hE0
      clear hE hE0
      go_wp2
      go_ret
      refine ⟨?_, qa0 HB0.out HB4.out⟩
      cases v with
      | false => rfl
      | true => exact (HNo.out (HPE.out.2 (HU.out ▸ HVd.out.1 rfl i hlt))).elim
   ·have hlt2 : ¬ (i : Int) < (m : Int) := by omega
    clear hall hbr
    go_wp2
    go_ret
    refine ⟨?_, qa0 HB0.out HB.out⟩
    have : v = true := HVd.out.2 (fun j hj => HL.out j (by omega))
    rw [this]; rfl
 ·have HG : Hid (∀ w, Calls Tryz.prog 42 #[mv r c a n k] w fun e w' => e = .returned (.bool false) ∧ Below w.heap.size w w') := fun w => qml w r c n k a false ⟨fun h => (by cases h), fun h => (hg h).elim⟩
  have HE : Hid (v = false) := by
   show v = _
   cases v with
   | true => exact (hg (hv.1 rfl).1).elim
   | false => rfl
  clear ha hb hg hv hq
  go_enter Tryz.func17, Tryz.ntmps17
  go_wp2_with (go_at_call 42; rw [HW.out]; refine (HG.out _).mono ?_; rintro e w1 ⟨rfl, hb1⟩; have HB1 : Hid (Below wb.heap.size wb w1) := hb1; clear hb1)
  go_ret
  exact ⟨by rw [HE.out]; rfl, qa0 HB0.out HB1.out⟩
open Go.ChangeShapes Go.WideShapes Go.ChangeAt Go.RowKit Go.Joins
theorem array4 {α : Type} {cs : Array α} (h : cs.size = 4) : ∃ c0 c1 c2 c3, cs = #[c0, c1, c2, c3] := by
 obtain ⟨l⟩ := cs
 match l, h with
 | [c0, c1, c2, c3], _ => exact ⟨c0, c1, c2, c3, rfl⟩
theorem qmm {H : Type} {enc : TypeId × Value → H} {P : Program} {w : World} {base : Nat} {spare : Nat → Bool} {held : Bool} {r : Reach} {b0 : Nat} {t : TypeId} {f0 f1 g0 g1 g2 : Field} {v : Value} {d : DataW H} {p : List MemPlace} (hs : P.underlying t = some (.struct #[f0, f1])) (hm : P.underlying f0.type = some (.struct #[g0, g1, g2])) (hone : Go.Deep.oneCellFields P #[g0, g1, g2] = true) (o0 : f0.offset = 0) (o1 : f1.offset = 3) (k0 : P.cellsOf f0.type = 3) (k1 : P.cellsOf f1.type = 1) (hC : P.cellsOf t = 4)
  (hv : Value.okWide P w r b0 t v) (h : DataW.Trod enc P w base spare held t v d p) :
  ∃ (v0 v1 v2 v3 : Value) (y0 y1 y2 y3 : DataW H × List MemPlace) (n n' : Nat), v = .agg #[v0, v1, v2, v3] ∧ d = .agg [.agg [y0.1, y1.1, y2.1], y3.1] ∧ p = (y0.2 ++ (y1.2 ++ y2.2)) ++ y3.2 ∧
   DataW.trod enc P w base spare held n' g0.type [v0] = some y0 ∧ DataW.trod enc P w base spare held n' g1.type [v1] = some y1 ∧ DataW.trod enc P w base spare held n' g2.type [v2] = some y2 ∧ DataW.trod enc P w base spare held n f1.type [v3] = some y3 := by
 obtain ⟨cs, rfl, hsz⟩ := okWide_struct hs hv
 obtain ⟨c0, c1, c2, c3, rfl⟩ := array4 (hsz.trans hC)
 obtain ⟨fuel, hf⟩ := h
 obtain ⟨xs, n, _, hx, hl, hlen, hff⟩ := DataW.trod_struct hs hf
 match xs, hlen with
 | [z0, y3], _ =>
  have h0 := hff 0 f0 rfl
  have h1 := hff 1 f1 rfl
  rw [o0, k0] at h0
  rw [o1, k1] at h1
  simp [Value.cells] at h0 h1
  obtain ⟨xs', n', _, hx', hl', hlen', hff'⟩ := DataW.trod_struct hm h0
  match xs', hlen' with
  | [y0, y1, y2], _ =>
   obtain ⟨q0, j0⟩ := Go.Deep.hone_of hone 0 g0 rfl
   obtain ⟨q1, j1⟩ := Go.Deep.hone_of hone 1 g1 rfl
   obtain ⟨q2, j2⟩ := Go.Deep.hone_of hone 2 g2 rfl
   have e0 := hff' 0 g0 rfl
   have e1 := hff' 1 g1 rfl
   have e2 := hff' 2 g2 rfl
   simp only [Prod.mk.injEq] at hx
   subst hx'
   exact ⟨c0, c1, c2, c3, y0, y1, y2, y3, n, n', rfl, by simpa using hx.1, by simpa using hx.2, by simpa [q0, j0] using e0, by simpa [q1, j1] using e1, by simpa [q2, j2] using e2, h1⟩
open Go.RowKit Go.Shelf
attribute [local go_sem] Oper.semAt_some
theorem qfj {p : Prop} (h : p) : Hid p := h
theorem qeu {n : Int} (h : (Lit.int .u64 n).wf = true) : 0 ≤ n ∧ n < 18446744073709551616 := by
 simp [Lit.wf, IntKind.min, IntKind.max, IntKind.bits, IntKind.signed] at h
 omega
theorem qhl (w : World) (a : Option Addr) (len cap : Nat) (zs : List Int)
  (h : (a = none ∧ len = 0 ∧ cap = 0 ∧ zs = []) ∨ ∃ x, a = some x ∧ len ≤ cap ∧ cap ≤ 140737488351232 ∧ zs.length = cap ∧ (∀ i, i < zs.length → w.cell? (x.add i) = some (.int .u64 (zs.getD i 0))) ∧ ∀ n ∈ zs, (Lit.int .u64 n).wf = true) :
  ∃ q : Nat → Nat, Jl w a .u64 len (fun i => (q i : Int)) ∧ ∀ i, i < len → q i < 18446744073709551616 := by
 rcases h with ⟨rfl, rfl, rfl, rfl⟩ | ⟨x, rfl, hl, hm, hz, hcell, hwz⟩
 ·exact ⟨fun _ => 0, fun i hi => by omega, fun i hi => by omega⟩
 ·refine ⟨fun i => (zs.getD i 0).toNat, fun i hi => ?_, fun i hi => ?_⟩
  ·have hi' : i < zs.length := by omega
   have hc := hcell i hi'
   obtain ⟨b, off, spot⟩ := x
   have hspot : spot = none := by
    have h0 := hcell 0 (by omega)
    simpa [Addr.add] using World.cell?_spot h0
   subst hspot
   refine ⟨b, off, rfl, ?_⟩
   have hplain : (⟨b, off, none⟩ : Addr).add i = ⟨b, off + i, none⟩ := by unfold Addr.add; split <;> simp_all
   rw [hplain] at hc
   rw [hc]
   have hw := qeu (hwz zs[i] (List.getElem_mem hi'))
   have e : zs.getD i 0 = zs[i] := by simp [List.getD, hi']
   have hw0 := hw.1
   simp only [e]
   congr 2
   omega
  ·have hi' : i < zs.length := by omega
   have hw := qeu (hwz zs[i] (List.getElem_mem hi'))
   have e : zs.getD i 0 = zs[i] := by simp [List.getD, hi']
   show (zs.getD i 0).toNat < _
   rw [e]
   omega
theorem lrow_yes (w : World) (r c b : Int) (n k : Nat) (a : Option Addr) (h : 0 ≤ b ∧ b < r) :
  Calls Tryz.prog 50 #[mv r c a n k, .int .i64 b] w fun e w' => e = .returned (.bool true) ∧ Below w.heap.size w w' := by
 have g1 : decide (0 ≤ b) = true := by simpa using h.1
 have g2 : decide (b < r) = true := by simpa using h.2
 go_enter Tryz.func50, Tryz.ntmps50
 go_wp2
 go_ret
 exact ⟨rfl, qa1 _ _⟩
theorem lrow_no (w : World) (r c b : Int) (n k : Nat) (a : Option Addr) (h : ¬ (0 ≤ b ∧ b < r)) :
  Calls Tryz.prog 50 #[mv r c a n k, .int .i64 b] w fun e w' => e = .returned (.bool false) ∧ Below w.heap.size w w' := by
 by_cases h1 : 0 ≤ b
 ·have g1 : decide (0 ≤ b) = true := by simpa using h1
  have g2 : decide (b < r) = false := decide_eq_false (by omega)
  go_enter Tryz.func50, Tryz.ntmps50
  go_wp2
  go_ret
  exact ⟨rfl, qa1 _ _⟩
 ·have g1 : decide (0 ≤ b) = false := decide_eq_false h1
  go_enter Tryz.func50, Tryz.ntmps50
  go_wp2
  go_ret
  exact ⟨rfl, qa1 _ _⟩
theorem qjy (w : World) (r c b : Int) (n k d m : Nat) (a g : Option Addr)
  (HM : Hid (∀ w' : World, Below w.heap.size w w' → Calls Tryz.prog 49 #[cv r c a n k g m d] w' fun e w'' => e = .returned (.bool false) ∧ Below w'.heap.size w' w'')) :
  Calls Tryz.prog 16 #[cv r c a n k g m d, .int .i64 b] w fun e w' => e = .returned (.tuple #[.int .u64 0, .bool false, .int .i64 3]) ∧ Below w.heap.size w w' := by
 go_enter Tryz.func16, Tryz.ntmps16
 go_wp2_with (go_at_call 49; refine (HM.out _ (qa1 _ _)).mono ?_; rintro e w1 ⟨rfl, hb⟩; have HB1 : Hid (Below w.heap.size w w1) := qa0 (qa1 _ _) hb; clear hb)
 go_ret3
 exact ⟨rfl, HB1.out⟩
theorem lgrp_arg (w : World) (r c b : Int) (n k d m : Nat) (a g : Option Addr) (h : ¬ (0 ≤ b ∧ b < r))
  (HM : Hid (∀ w' : World, Below w.heap.size w w' → Calls Tryz.prog 49 #[cv r c a n k g m d] w' fun e w'' => e = .returned (.bool true) ∧ Below w'.heap.size w' w'')) :
  Calls Tryz.prog 16 #[cv r c a n k g m d, .int .i64 b] w fun e w' => e = .returned (.tuple #[.int .u64 0, .bool false, .int .i64 2]) ∧ Below w.heap.size w w' := by
 have HR : Hid (∀ w' : World, Calls Tryz.prog 50 #[mv r c a n k, .int .i64 b] w' fun e w'' => e = .returned (.bool false) ∧ Below w'.heap.size w' w'') := fun w' => lrow_no w' r c b n k a h
 clear h
 go_enter Tryz.func16, Tryz.ntmps16
 go_wp2_with (first
  | (go_at_call 49; refine (HM.out _ (qa1 _ _)).mono ?_; rintro e w1 ⟨rfl, hb⟩; have HV1 : Hid (Vq w1 w.heap.size 48 #[.int .i64 r, .int .i64 c, .slice a n k, .slice g m d]) := (Vq.new w _ _).later hb; have v0 := HV1.out.cell 0 _ rfl; have v1 := HV1.out.cell 1 _ rfl; have v2 := HV1.out.cell 2 _ rfl; have HB1 : Hid (Below w.heap.size w w1) := qa0 (qa1 _ _) hb; clear hb)
  | (go_at_call 50; refine (HR.out _).mono ?_; rintro e w2 ⟨rfl, hb⟩; have HB2 : Hid (Below w.heap.size w w2) := qa0 HB1.out hb; clear hb))
 go_ret3
 exact ⟨rfl, HB2.out⟩
open Go.RowKit Go.Shelf
attribute [local go_sem] Oper.semAt_some
/-- The place of the first group that has the number b: i0, or m where none has it. -/
theorem first_ex (q : Nat → Nat) (b m : Nat) : ∃ i0, i0 ≤ m ∧ (∀ j, j < i0 → ¬ bt (q j) b = 1) ∧ (i0 < m → bt (q i0) b = 1) := by
 induction m with
 | zero => exact ⟨0, Nat.le_refl _, fun j hj => absurd hj (Nat.not_lt_zero _), fun h => absurd h (Nat.lt_irrefl _)⟩
 | succ m ih =>
  obtain ⟨i, h1, h2, h3⟩ := ih
  by_cases he : i < m
  ·exact ⟨i, by omega, h2, fun _ => h3 he⟩
  ·obtain rfl : i = m := by omega
   by_cases hb : bt (q i) b = 1
   ·exact ⟨i, by omega, h2, fun _ => hb⟩
   ·exact ⟨i + 1, Nat.le_refl _, fun j hj => by
     by_cases e : j = i
     ·rw [e]; exact hb
     ·exact h2 j (by omega), fun h => absurd h (Nat.lt_irrefl _)⟩
theorem qmn (w : World) (r c b n k d m i0 u z : Nat) (a g : Option Addr) (q : Nat → Nat) (o : Bool) (hg : Jl w g .u64 m (fun i => (q i : Int))) (hm : m ≤ 17592186044416) (hq : ∀ i, i < m → q i < 18446744073709551616) (hb : b < r) (hr : r ≤ 64) (h1 : i0 ≤ m) (h2 : ∀ j, j < i0 → ¬ bt (q j) b = 1) (h3 : i0 < m → bt (q i0) b = 1) (ho : o = decide (i0 < m)) (hz : IntKind.u64.wrap (2 ^ b) = (z : Int)) (hu : i0 < m → bits .andNot .u64 (q i0 : Int) (z : Int) = (u : Int)) (hu0 : ¬ i0 < m → u = 0)
  (HM : Hid (∀ w' : World, Below w.heap.size w w' → Calls Tryz.prog 49 #[cv r c a n k g m d] w' fun e w'' => e = .returned (.bool true) ∧ Below w'.heap.size w' w'')) :
  Calls Tryz.prog 16 #[cv r c a n k g m d, .int .i64 (b : Int)] w fun e w' => e = .returned (.tuple #[.int .u64 (u : Int), .bool o, .int .i64 0]) ∧ Below w.heap.size w w' := by
 have HR : Hid (∀ w' : World, Calls Tryz.prog 50 #[mv r c a n k, .int .i64 (b : Int)] w' fun e w'' => e = .returned (.bool true) ∧ Below w'.heap.size w' w'') := fun w' => lrow_yes w' r c b n k a (by omega)
 have HG := qfj hg
 have H2 := qfj h2
 have H3 := qfj h3
 have HU := qfj hu
 have HU0 := qfj hu0
 have HO := qfj ho
 have HH : Hid (∀ (j : Nat) (x : Nat) (v : Bool) (w : World), j < m → q j = x → (v = true ↔ bt (q j) b = 1) → Calls Tryz.prog 51 #[.int .u64 (x : Int), .int .i64 (b : Int)] w fun e w' => e = .returned (.bool v) ∧ w = w') := fun j x v w hj hx hv => by
  subst hx
  have h := qg2 (q j) b w (hq j hj)
  rw [show decide (bt (q j) b = 1) = v by cases v <;> simp_all] at h
  exact h
 have hb64 : b < 64 := by omega
 clear hg h2 h3 hq hu hu0 ho hr hb
 go_enter Tryz.func16, Tryz.ntmps16
 go_wp2_with (first
  | (go_at_call 49; refine (HM.out _ (qa1 _ _)).mono ?_; rintro e w1 ⟨rfl, hb⟩; have HV1 : Hid (Vq w1 w.heap.size 48 #[.int .i64 (r : Int), .int .i64 (c : Int), .slice a n k, .slice g m d]) := (Vq.new w _ _).later hb; have v0 := HV1.out.cell 0 _ rfl; have v1 := HV1.out.cell 1 _ rfl; have v2 := HV1.out.cell 2 _ rfl; have HB1 : Hid (Below w.heap.size w w1) := qa0 (qa1 _ _) hb; clear hb)
  | (go_at_call 50; refine (HR.out _).mono ?_; rintro e w2 ⟨rfl, hb⟩; have v3 := (HV1.out.later hb).cell 3 _ rfl; have HB2 : Hid (Below w.heap.size w w2) := qa0 HB1.out hb; clear hb))
 have HJ : Hid (Jl w2 g .u64 m (fun i => (q i : Int))) := HG.out.later HB2.out
 clear HG HM HR v3
 go_loopw [8, 20] (fun _ vi wr => ∃ j : Nat, j ≤ i0 ∧ vi = .int .i64 (j : Int) ∧ wr = w2) (fun _ vi _ => i0 + 1 - (intOf vi).toNat)
 case atStart => exact ⟨0, by omega, rfl, rfl⟩
 case round =>
  obtain ⟨j, hj, rfl, rfl⟩ := hrel
  by_cases hlt : j < m
  ·obtain ⟨x, of, ea, hc⟩ := HJ.out j hlt
   obtain ⟨y, HY⟩ : ∃ y, Hid (q j = y) := ⟨_, rfl⟩
   have hc2 : wr.cell? ⟨x, of + j, none⟩ = some (.int .u64 (y : Int)) := by rw [← HY.out]; exact hc
   have p0 : (0 : Int) ≤ (j : Int) := by omega
   have p1 : (j : Int) < (m : Int) := by omega
   subst ea
   by_cases he : j = i0
   ·subst he
    have hlt0 := hlt
    have hy : q j = y := HY.out
    have hbt := H3.out hlt0
    have HB : Hid (∀ w : World, Calls Tryz.prog 51 #[.int .u64 (y : Int), .int .i64 (b : Int)] w fun e w' => e = .returned (.bool true) ∧ w = w') := fun w => HH.out j y true w hlt0 hy (by simp [hbt])
    have han := HU.out hlt0
    rw [hy] at han
    have ho1 : o = true := by rw [HO.out]; exact decide_eq_true hlt0
    subst ho1
    clear HJ hc HY H2 H3 HU HU0 HO HH hbt hy
    go_wp2_with (go_at_call 51; refine (HB.out _).mono ?_; rintro e w' ⟨rfl, rfl⟩)
    go_ret3
    exact ⟨rfl, HB2.out⟩
   ·have hji : j < i0 := by omega
    have hbt := H2.out j hji
    have HB : Hid (∀ w : World, Calls Tryz.prog 51 #[.int .u64 (y : Int), .int .i64 (b : Int)] w fun e w' => e = .returned (.bool false) ∧ w = w') := fun w => HH.out j y false w hlt HY.out (by simp [hbt])
    clear HJ hc HY H2 H3 HU HU0 HO HH hbt
    go_wp2_with (go_at_call 51; refine (HB.out _).mono ?_; rintro e w' ⟨rfl, rfl⟩)
    exact ⟨⟨j + 1, by omega, by go_num, trivial⟩, by simp [intOf]; omega⟩
  ·have hn : ¬ i0 < m := by omega
   have hu1 := HU0.out hn
   have ho1 : o = false := by rw [HO.out]; exact decide_eq_false hn
   obtain rfl : j = m := by omega
   subst ho1 hu1
   clear HJ H2 H3 HU HU0 HO HH
   go_wp2
   go_ret3
   exact ⟨rfl, HB2.out⟩
open Go.RowKit
theorem qay {w w' : World} {b o : Nat} {v : Value} (h : w.cell? ⟨b, o, none⟩ = some v) (hb : Below w.heap.size w w') : w'.cell? ⟨b, o, none⟩ = some v := by
 have hlt := qdu h
 have e : w'.cell? ⟨b, o, none⟩ = w.cell? ⟨b, o, none⟩ := by unfold World.cell?; rw [hb.block b hlt]
 rw [e]; exact h
theorem qh0 {w : World} {r c n k s p : Nat} {a : Option Addr} {F : Nat → Nat} (ha : Mt w a n k F) (R : Rt r c n) (hs : s < 2 ^ r) (hp : SpS (m2 F r c) r s p) :
  ∀ w' : World, Below w.heap.size w w' → Calls Tryz.prog 19 #[mv r c a n k, .int .u64 (s : Int)] w' fun e w'' => e = .returned (.tuple #[.int .u64 (p : Int), .int .i64 0]) ∧ Below w'.heap.size w' w'' := fun w' hb =>
 (rSpan_ok w' r c n k s a F (ha.sl.later hb) R hs).mono (fun e w'' h => by
  obtain ⟨t', he, ht', hbb⟩ := h
  rw [ht'.one hp] at he
  exact ⟨he, hbb⟩)
theorem qgf {s i r : Nat} (hr : r ≤ 64) (hs : s < 2 ^ r) (hi : i < r) {o : Bool} (h : o = true ↔ bt s i = 1) : ∀ w' : World, Calls Tryz.prog 20 #[.int .u64 (s : Int), .int .i64 (i : Int)] w' fun e w'' => e = .returned (.bool o) ∧ Below w'.heap.size w' w'' := fun w' =>
 (qd8 s i w' (qc7 hr hs) (by omega)).mono (fun e w'' h2 => by
  obtain ⟨he, rfl⟩ := h2
  rw [qmq (b' := o) ⟨fun h => of_decide_eq_true h, fun h => decide_eq_true h⟩ h] at he
  exact ⟨he, Below.refl _ _⟩)
open Go.RowKit Go.Shelf
attribute [local go_sem] Oper.semAt_some
/-! The order of the reference's search. -/
theorem OthA.aset {r b k C : Nat} {f ix G : Nat → Nat} (O : OthA r b k C f ix G) {j : Nat} (hj : j < C) : aset r k (pla (G j) r) = G j := by
 have h := qcx r (G j) (O.lt j hj)
 rw [O.size j hj] at h
 exact h
open Go.RowKit Go.Shelf
attribute [local go_sem] Oper.semAt_some
open Go.RowKit Go.Shelf
attribute [local go_sem] Oper.semAt_some
open Go.RowKit Go.Shelf
attribute [local go_sem] Oper.semAt_some
open Go.RowKit Go.Shelf
theorem qn2 (C : Nat → Nat) (k : Nat) : ∀ d, sm19 C k ≤ sm19 C (k + d) := by
 intro d
 induction d with
 | zero => exact Nat.le_refl _
 | succ d ih => show sm19 C k ≤ sm19 C (k + d) + C (k + d); omega
theorem NoneB.before {M : Nat → Nat → Nat} {r b k j k' j' : Nat} {C : Nat → Nat} {G : Nat → Nat → Nat} (h : NoneB M r b C G k' j') (hj : j < C k) (hj' : j' < C k') (hs : SS M r (G k j) (M b)) (hl : sm19 C k + j < sm19 C k' + j') : False := by
 rcases Nat.lt_trichotomy k k' with h1 | h1 | h1
 ·exact h k j (.inl ⟨h1, hj⟩) hs
 ·subst h1
  exact h k j (.inr ⟨rfl, by omega⟩) hs
 ·have h2 := qn2 C (k' + 1) (k - (k' + 1))
  rw [show k' + 1 + (k - (k' + 1)) = k by omega] at h2
  have h3 : sm19 C (k' + 1) = sm19 C k' + C k' := rfl
  omega
theorem SrP.one {M : Nat → Nat → Nat} {r b x x' e e' : Nat} {v v' : Bool} {C : Nat → Nat} {f ix G : Nat → Nat → Nat} (O : qex r b C f ix G) (hb : b < r) (h : SrP M r b C G x v e) (h2 : SrP M r b C G x' v' e') : x = x' ∧ v = v' ∧ e = e' := by
 rcases h with ⟨a1, a2, a3, a4⟩ | ⟨a1, a2, k, j, hk, hj, a3, a4, a5, a6⟩ | ⟨a1, a2, a3, k, j, hk, hj, a4, a5, t, a6, a7, a8⟩
 ·rcases h2 with ⟨b1, b2, b3, b4⟩ | ⟨b1, b2, k', j', hk', hj', b3, b4, b5, b6⟩ | ⟨b1, b2, b3, k', j', hk', hj', b4, b5, t', b6, b7, b8⟩
  ·exact ⟨by rw [a1, b1], by rw [a2, b2], by rw [a3, b3]⟩
  ·rw [b3] at b5
   exact absurd b5 (a4 _ ((O k' hk').lt j' hj') ((O k' hk').none j' hj'))
  ·exact absurd b8 (a4 _ b6 b7)
 ·have hl := SrP.lst O hb (.inr (.inl ⟨a1, a2, k, j, hk, hj, a3, a4, a5, a6⟩))
  rcases h2 with ⟨b1, b2, b3, b4⟩ | ⟨b1, b2, k', j', hk', hj', b3, b4, b5, b6⟩ | ⟨b1, b2, b3, k', j', hk', hj', b4, b5, t', b6, b7, b8⟩
  ·rw [a3] at a5
   exact absurd a5 (b4 _ ((O k hk).lt j hj) ((O k hk).none j hj))
  ·have hl2 := SrP.lst O hb (.inr (.inl ⟨b1, b2, k', j', hk', hj', b3, b4, b5, b6⟩))
   rcases hl with ⟨_, c, _⟩ | ⟨_, _, c⟩ | ⟨_, c, _⟩
   ·rw [a1] at c; cases c
   ·rcases hl2 with ⟨_, d, _⟩ | ⟨_, _, d⟩ | ⟨_, d, _⟩
    ·rw [b1] at d; cases d
    ·obtain ⟨e1, e2⟩ := c.one d
     refine ⟨?_, by rw [a1, b1], by rw [a2, b2]⟩
     rw [← qcx r x c.lt, ← qcx r x' d.lt, e1, e2]
    ·rw [b1] at d; cases d
   ·rw [a1] at c; cases c
  ·rw [a3] at a5
   exact (b5.before hj hj' a5 (by omega)).elim
 ·rcases h2 with ⟨b1, b2, b3, b4⟩ | ⟨b1, b2, k', j', hk', hj', b3, b4, b5, b6⟩ | ⟨b1, b2, b3, k', j', hk', hj', b4, b5, t', b6, b7, b8⟩
  ·exact absurd a8 (b4 _ a6 a7)
  ·rw [b3] at b5
   exact (a5.before hj' hj b5 (by omega)).elim
  ·exact ⟨by rw [a1, b1], by rw [a2, b2], by rw [a3, b3]⟩
open Go.RowKit Go.Shelf
attribute [local go_sem] Oper.semAt_some
open Go.RowKit Go.Shelf
/-- A list and an error are answered. -/
def AnsN (K : IntKind) (N : Nat → Int → (Nat → Int) → Prop) (w w' : World) (e : Ending) : Prop := ∃ (s : Option Addr) (L d : Nat) (E : Int) (q : Nat → Int), e = .returned (.tuple #[.slice s L d, .int .i64 E]) ∧ L ≤ 9223372036854775807 ∧ Jl w' s K L q ∧ N L E q ∧ Below w.heap.size w w'
theorem Jo.max {w : World} {B n : Nat} {T : TypeId} {K : IntKind} {v : Value} {f : Nat → Nat} (h : Jo w B T K v n f) : n ≤ 9223372036854775807 := by
 rcases h.2 with ⟨_, h0⟩ | ⟨g, cap, cur, _, _, _, h1, h2, _⟩
 ·omega
 ·unfold maxLen at h2; omega
def ChN (M : Nat → Nat → Nat) (r b : Nat) (C : Nat → Nat) (G : Nat → Nat → Nat) (most : Int) (L : Nat) (E : Int) (q : Nat → Int) : Prop :=
  ∃ (x : Nat) (v : Bool) (er : Nat), SrP M r b C G x v er ∧
  ((er ≠ 0 ∧ L = 0 ∧ E = (er : Int)) ∨ (er = 0 ∧ most < 0 ∧ L = 0 ∧ E = 2) ∨ (er = 0 ∧ 0 ≤ most ∧ v = false ∧ L = 0 ∧ E = 0) ∨
   (er = 0 ∧ 0 ≤ most ∧ v = true ∧ 16384 < upv (r - 1) (cn x r : Int) ∧ L = 0 ∧ E = 4) ∨
   (er = 0 ∧ 0 ≤ most ∧ v = true ∧ ¬ 16384 < upv (r - 1) (cn x r : Int) ∧ E = 0 ∧ ∃ u : Nat → Nat, (∀ n, n < L → q n = (G (cn x r) (u n) : Int)) ∧ Enm (fun i => SS M r (G (cn x r) i) (M b)) most.toNat (C (cn x r)) L u))
theorem ChP.ans {w w' : World} {e : Ending} {M : Nat → Nat → Nat} {r b : Nat} {C : Nat → Nat} {G : Nat → Nat → Nat} {most : Int} (h : ChP w w' e M r b C G most) : AnsN .u64 (ChN M r b C G most) w w' e := by
 obtain ⟨x, v, er, hs, hb, h⟩ := h
 rcases h with ⟨a1, he⟩ | ⟨a1, a2, he⟩ | ⟨a1, a2, a3, he⟩ | ⟨a1, a2, a3, a4, he⟩ | ⟨a1, a2, a3, a4, s, L, d, u, he, hj, hn⟩
 ·exact ⟨none, 0, 0, _, fun _ => 0, he, by omega, fun i hi => by omega, ⟨x, v, er, hs, .inl ⟨a1, rfl, rfl⟩⟩, hb⟩
 ·exact ⟨none, 0, 0, _, fun _ => 0, he, by omega, fun i hi => by omega, ⟨x, v, er, hs, .inr (.inl ⟨a1, a2, rfl, rfl⟩)⟩, hb⟩
 ·exact ⟨none, 0, 0, _, fun _ => 0, he, by omega, fun i hi => by omega, ⟨x, v, er, hs, .inr (.inr (.inl ⟨a1, a2, a3, rfl, rfl⟩))⟩, hb⟩
 ·exact ⟨none, 0, 0, _, fun _ => 0, he, by omega, fun i hi => by omega, ⟨x, v, er, hs, .inr (.inr (.inr (.inl ⟨a1, a2, a3, a4, rfl, rfl⟩)))⟩, hb⟩
 ·exact ⟨s, L, d, 0, _, he, hj.max, hj.jl, ⟨x, v, er, hs, .inr (.inr (.inr (.inr ⟨a1, a2, a3, a4, rfl, u, fun n _ => rfl, hn⟩)))⟩, hb⟩
open Go.RowKit Go.Shelf
attribute [local go_sem] Oper.semAt_some
theorem ss_two {M : Nat → Nat → Nat} {R s i j : Nat} {y : Nat → Nat} (h : SS M R s y) (h0 : ∀ q, q < R → bt s q = 1 → M q i = M q j) : y i = y j := by
 obtain ⟨a, _, hy⟩ := h
 rw [hy i, hy j]
 refine qa4 (fun q hq => ?_)
 show fm (a q) (mk M s q i) = fm (a q) (mk M s q j)
 unfold mk
 split
 ·rw [h0 q hq (by assumption)]
 ·rfl
theorem g5_need {t : Nat} (hb : ¬ bt t 0 = 1) (hs : SS (m2 g5 5 2) 5 t (m2 g5 5 2 0)) : bt t 1 = 1 ∧ (bt t 2 = 1 ∨ bt t 3 = 1) := by
 have five : ∀ q, q < 5 → q = 0 ∨ q = 1 ∨ q = 2 ∨ q = 3 ∨ q = 4 := fun q hq => by omega
 constructor
 ·refine Classical.byContradiction (fun hn => ?_)
  have h := ss_two (i := 0) (j := 1) hs (fun q hq hqb => by
   rcases five q hq with rfl | rfl | rfl | rfl | rfl
   ·exact absurd hqb hb
   ·exact absurd hqb hn
   ·decide
   ·decide
   ·decide)
  exact absurd h (by decide)
 ·refine Classical.byContradiction (fun hn => ?_)
  have h := ss_col (j := 0) hs (fun q hq hqb => by
   rcases five q hq with rfl | rfl | rfl | rfl | rfl
   ·exact absurd hqb hb
   ·decide
   ·exact absurd (Or.inl hqb) hn
   ·exact absurd (Or.inr hqb) hn
   ·decide)
  exact absurd h (by decide)
theorem g5_least : ∀ t, t < 32 → bt t 1 = 1 → (bt t 2 = 1 ∨ bt t 3 = 1) → 2 ≤ cn t 5 ∧ (cn t 5 = 2 → pla 6 5 ≤ pla t 5) := by decide +kernel
/-- The factors. -/
def p5 (i : Nat) : Nat := if i = 1 then 1 else if i = 2 then 1 else 0
theorem p5_el : El p5 := fun i => by
 unfold p5
 repeat' split
 all_goals decide
theorem g5_sum (j : Nat) : m2 g5 5 2 0 j = lc p5 (m2 g5 5 2) 5 j := by
 by_cases hj : j < 2
 ·rcases (by omega : j = 0 ∨ j = 1) with rfl | rfl <;> decide
 ·rw [qaf _ (by omega)]
  exact (qad (fun i _ => by rw [qaf _ (by omega), qa7])).symm
theorem g5_out (i : Nat) (h : ¬ bt 6 i = 1) : p5 i = 0 := by
 unfold p5
 by_cases h1 : i = 1
 ·subst h1; exact absurd (by decide) h
 ·by_cases h2 : i = 2
  ·subst h2; exact absurd (by decide) h
  ·rw [if_neg h1, if_neg h2]
theorem g5_comb : CmbS (m2 g5 5 2) 5 0 6 p5 :=
 ⟨p5_el, fun i hi => by
  rcases (by omega : i = 0 ∨ i = 1 ∨ i = 2 ∨ i = 3 ∨ i = 4) with rfl | rfl | rfl | rfl | rfl <;> decide, g5_out, g5_sum⟩
theorem g5_lst : LstS (m2 g5 5 2) 5 0 6 :=
 ⟨by decide, by decide, ⟨p5, p5_el, fun j => by rw [g5_sum j, ← lc_mk g5_out j]⟩, fun t ht htb hs => by
  obtain ⟨h1, h2⟩ := g5_need htb hs
  exact g5_least t ht h1 h2⟩
theorem g5_six : ∀ t, t < 32 → cn 6 5 = cn t 5 → pla 6 5 = pla t 5 → t = 6 := by decide +kernel
/-- Least's answer at the document's matrix. -/
theorem g5_ans {w w' : World} {e : Ending} {C : Nat → Nat} {f ix G : Nat → Nat → Nat} (O : qex 5 0 C f ix G) (hC : ∀ k j, k < 5 → j < C k → sm19 C k + j ≠ 16384) (h : LeaP w w' e (m2 g5 5 2) 5 0 C G) : ∃ g : Nat, e = .returned (.tuple #[.int .u64 6, .slice (some ⟨g, 0, none⟩) 5 5, .bool true, .int .i64 0]) ∧ RowAt w' g 5 5 p5 ∧ w.heap.size ≤ g ∧ Below w.heap.size w w' := by
 rcases h with ⟨er, _, h, _⟩ | ⟨x, g, P, he, hs, hc, hr, hg, hb⟩
 ·rcases h with ⟨_, _, _, h4⟩ | ⟨h1, _⟩ | ⟨_, _, _, k, j, hk, hj, h4, _⟩
  ·exact absurd g5_lst.is (h4 6 (by decide) (by decide))
  ·exact absurd h1 (by decide)
  ·exact absurd h4 (hC k j hk hj)
 ·rcases hs.lst O (by decide) with ⟨_, h1, _⟩ | ⟨_, _, hl⟩ | ⟨_, h1, _⟩
  ·exact absurd h1 (by decide)
  ·obtain ⟨e1, e2⟩ := g5_lst.one hl
   have hx := g5_six x hl.lt e1 e2
   subst hx
   exact ⟨g, he, hr.congr (fun i hi => hc.one g5_el (by decide) hl g5_comb i hi), hg, hb⟩
  ·exact absurd h1 (by decide)
/-- All sets of the search are no more than the sets of all others. -/
theorem qk3 {C D : Nat → Nat} : ∀ k, (∀ i, i < k → C i = D i) → sm19 C k = sm19 D k := by
 intro k
 induction k with
 | zero => intro _; rfl
 | succ k ih => intro h; show sm19 C k + C k = sm19 D k + D k; rw [ih (fun i hi => h i (by omega)), h k (by omega)]
theorem qn3 : ∀ k, sm19 (bin 0) (k + 1) = 1 := by
 intro k
 induction k with
 | zero => rfl
 | succ k ih => show sm19 (bin 0) (k + 1) + bin 0 (k + 1) = 1; rw [ih, qfm]
theorem qn4 (m : Nat) : ∀ k, sm19 (bin (m + 1)) (k + 1) = sm19 (bin m) (k + 1) + sm19 (bin m) k := by
 intro k
 induction k with
 | zero => show 0 + bin (m + 1) 0 = 0 + bin m 0 + 0; rw [qan, qan]
 | succ k ih =>
  show sm19 (bin (m + 1)) (k + 1) + bin (m + 1) (k + 1) = (sm19 (bin m) (k + 1) + bin m (k + 1)) + (sm19 (bin m) k + bin m k)
  rw [ih, qav]
  omega
theorem qj1 : ∀ m k, sm19 (bin m) k ≤ 2 ^ m := by
 intro m
 induction m with
 | zero =>
  intro k
  cases k with
  | zero => exact Nat.zero_le _
  | succ k => rw [qn3]; decide
 | succ m ih =>
  intro k
  cases k with
  | zero => exact Nat.zero_le _
  | succ k =>
   rw [qn4, Nat.pow_succ]
   have := ih (k + 1)
   have := ih k
   omega
theorem few19 {r b : Nat} {C : Nat → Nat} {f ix G : Nat → Nat → Nat} (O : qex r b C f ix G) (hr : r ≤ 15) : ∀ k j, k < r → j < C k → sm19 C k + j ≠ 16384 := fun k j hk hj => by
 have h1 := qj1 (r - 1) (k + 1)
 rw [← qk3 (C := C) (k + 1) (fun i hi => (O i (by omega)).cnt)] at h1
 have h2 : 2 ^ (r - 1) ≤ 2 ^ 14 := Nat.pow_le_pow_right (by decide) (by omega)
 have h3 : (2 : Nat) ^ 14 = 16384 := by decide
 have h4 : sm19 C (k + 1) = sm19 C k + C k := rfl
 omega
theorem p5_row (w : World) : RowAt (w.alloc (.cells #[.int .u8 0, .int .u8 1, .int .u8 1, .int .u8 0, .int .u8 0] 5)) w.heap.size 5 5 p5 := by
 unfold RowAt
 rw [qbz]
 kernel_rfl
theorem qdo (w : World) : Calls Tryz.prog 18 #[] w fun e w' => e = .returned (.bool true) ∧ Below w.heap.size w w' := by
 obtain ⟨C, fs, ix, G, O⟩ := qiz 5 0 (by decide) (by decide)
 obtain ⟨f, HF⟩ : ∃ f, Hid (g5 = f) := ⟨_, rfl⟩
 obtain ⟨p, HP⟩ : ∃ p, Hid (p5 = p) := ⟨_, rfl⟩
 have HG : Hid (∀ w : World, Mt (w.alloc (.cells #[.int .u8 1, .int .u8 0, .int .u8 0, .int .u8 1, .int .u8 1, .int .u8 1, .int .u8 2, .int .u8 2, .int .u8 0, .int .u8 0] 5)) (some ⟨w.heap.size, 0, none⟩) 10 10 f) := fun w => by
  rw [← HF.out]
  exact (g5_row w).mt (fun i _ => g5_lt i)
 have HPr : Hid (∀ w : World, Mt (w.alloc (.cells #[.int .u8 0, .int .u8 1, .int .u8 1, .int .u8 0, .int .u8 0] 5)) (some ⟨w.heap.size, 0, none⟩) 5 5 p) := fun w => by
  rw [← HP.out]
  exact (p5_row w).mt (fun i _ => p5_el i)
 have HPe : Hid (∀ i, i < 5 → p i < 256) := fun i _ => by rw [← HP.out]; exact p5_el i
 have HL : Hid (∀ (w : World) (a : Option Addr), Mt w a 10 10 f → Calls Tryz.prog 7 #[mv 5 2 a 10 10, .int .i64 0] w fun e w' => ∃ g : Nat, e = .returned (.tuple #[.int .u64 6, .slice (some ⟨g, 0, none⟩) 5 5, .bool true, .int .i64 0]) ∧ RowAt w' g 5 5 p ∧ w.heap.size ≤ g ∧ Below w.heap.size w w') := fun w a h => by
  rw [← HF.out] at h
  rw [← HP.out]
  exact (qgz w 5 2 10 10 0 a g5 h g5_rt ⟨g5_rt.p, by decide, by decide⟩ (by decide) C fs ix G O).mono (fun e w' hh => g5_ans O (few19 O (by decide)) hh)
 clear HF HP O
 go_enter Tryz.func18, Tryz.ntmps18
 go_wp2_with (first
  | (go_at_call 7; refine (HL.out _ _ ((HG.out w).later (qa1 _ _))).mono ?_; rintro e w1 ⟨g, rfl, hr, hg, hb⟩; have HR1 : Hid (RowAt w1 g 5 5 p) := hr; have HB1 : Hid (Below w.heap.size w w1) := qa0 (qa0 (qa1 _ _) (qa1 _ _)) hb; clear hr hg hb)
  | (go_at_call 9; refine (same7 _ _ _ 5 5 5 p ((HR1.out.mt HPe.out).later (qa1 _ _)) (HPr.out w1)).mono ?_; rintro e w2 ⟨rfl, hb⟩; have HB2 : Hid (Below w.heap.size w w2) := qa0 (qa0 HB1.out (qa1 _ _)) hb; clear hb))
 go_ret
 exact ⟨rfl, HB2.out⟩
open Go.RowKit Go.Shelf
/-- A list that may be written, in a block from lo on and below hi. -/
def WrS (w : World) (s : Option Addr) (L : Nat) (lo hi : Nat) : Prop := L = 0 ∨ ∃ (g : Nat) (T : TypeId) (cs : Array Value), s = some ⟨g, 0, none⟩ ∧ lo ≤ g ∧ g < hi ∧ w.heap[g]? = some (.cells cs T (0, 0)) ∧ L ≤ cs.size
theorem WrS.kept {w w' : World} {s : Option Addr} {L lo hi : Nat} {row : Option Nat} (h : WrS w s L lo hi) (hg : w.grownBy w' row) (hr : ∀ g, row = some g → g < lo ∨ hi ≤ g) : WrS w' s L lo hi := by
 rcases h with h | ⟨g, T, cs, e, h1, h2, h3, h4⟩
 ·exact .inl h
 ·refine .inr ⟨g, T, cs, e, h1, h2, ?_, h4⟩
  rw [hg.block g (lt_of_block h3) (fun e => by have := hr g e.symm; omega)]
  exact h3
theorem WrS.later {w w' : World} {s : Option Addr} {L lo hi : Nat} (h : WrS w s L lo hi) (hb : Below w.heap.size w w') : WrS w' s L lo hi := h.kept (jgrown.mpr hb) (fun g e => by cases e)
theorem WrS.open {w : World} {s : Option Addr} {L lo hi i : Nat} (h : WrS w s L lo hi) (hi2 : i < L) : ∃ g y, s = some ⟨g, 0, none⟩ ∧ lo ≤ g ∧ g < hi ∧ w.cell? ⟨g, i, none⟩ = some y ∧ w.frozen? ⟨g, i, none⟩ = false ∧ ∀ v, WrS (w.setCell ⟨g, i, none⟩ v) s L lo hi := by
 rcases h with h | ⟨g, T, cs, e, h1, h2, h3, h4⟩
 ·omega
 ·refine ⟨g, cs[i]'(by omega), e, h1, h2, ?_, ?_, fun v => .inr ⟨g, T, cs.setIfInBounds i v, e, h1, h2, ?_, by simpa using h4⟩⟩
  ·rw [cell_of_row w g i _ _ _ h3, Array.getElem?_eq_getElem (by omega)]
  ·simp [World.frozen?, h3]
  ·rw [setCell_eq_setRow w g i _ _ (0, 0) _ h3, setRow_heap w g _ _ _ (0, 0) h3]
theorem Jo.wr {w : World} {B L d hi : Nat} {T : TypeId} {K : IntKind} {s : Option Addr} {f : Nat → Nat} (h : Jo w B T K (.slice s L d) L f) (hh : w.heap.size ≤ hi) : WrS w s L B hi := by
 rcases h.2 with ⟨_, h0⟩ | ⟨g, cap, cur, e, hb, hg, h1, _, hs, _⟩
 ·exact .inl h0
 ·cases e
  exact .inr ⟨g, T, cur, rfl, hb, by have := lt_of_block hg; omega, hg, by omega⟩
/-- A list that may be written is answered. -/
def AnsW (w w' : World) (e : Ending) : Prop := ∃ (s : Option Addr) (L d : Nat) (E : Int), e = .returned (.tuple #[.slice s L d, .int .i64 E]) ∧ L ≤ 9223372036854775807 ∧ WrS w' s L w.heap.size w'.heap.size ∧ Below w.heap.size w w'
theorem qe1 {w w' : World} {e : Ending} {E : Int} (he : e = .returned (.tuple #[.slice none 0 0, .int .i64 E])) (hb : Below w.heap.size w w') : AnsW w w' e := ⟨none, 0, 0, E, he, by omega, .inl rfl, hb⟩
theorem ChP.answ {w w' : World} {e : Ending} {M : Nat → Nat → Nat} {r b : Nat} {C : Nat → Nat} {G : Nat → Nat → Nat} {most : Int} (h : ChP w w' e M r b C G most) : AnsW w w' e := by
 obtain ⟨x, v, er, hs, hb, h⟩ := h
 rcases h with ⟨a1, he⟩ | ⟨a1, a2, he⟩ | ⟨a1, a2, a3, he⟩ | ⟨a1, a2, a3, a4, he⟩ | ⟨a1, a2, a3, a4, s, L, d, u, he, hj, hn⟩
 ·exact qe1 he hb
 ·exact qe1 he hb
 ·exact qe1 he hb
 ·exact qe1 he hb
 ·exact ⟨s, L, d, 0, he, hj.max, hj.wr (Nat.le_refl _), hb⟩
/-- What Least answers: factors in new memory. -/
def AnsL (N : Nat → Int → (Nat → Int) → Prop) (w w' : World) (e : Ending) : Prop := ∃ (x : Nat) (v : Bool) (s : Option Addr) (L : Nat) (E : Int) (P : Nat → Nat), e = .returned (.tuple #[.int .u64 (x : Int), .slice s L L, .bool v, .int .i64 E]) ∧ ((s = none ∧ L = 0) ∨ ∃ g, s = some ⟨g, 0, none⟩ ∧ w.heap.size ≤ g ∧ RowAt w' g 5 L P) ∧ L ≤ 64 ∧ (∀ i, i < L → P i < 256) ∧ N L E (fun i => (P i : Int)) ∧ Below w.heap.size w w'
def LeN (M : Nat → Nat → Nat) (r b : Nat) (C : Nat → Nat) (G : Nat → Nat → Nat) (L : Nat) (E : Int) (q : Nat → Int) : Prop :=
 (L = 0 ∧ ∃ er : Nat, SrP M r b C G 0 false er ∧ E = (er : Int)) ∨ (L = r ∧ E = 0 ∧ ∃ (x : Nat) (P : Nat → Nat), SrP M r b C G x true 0 ∧ CmbS M r b x P ∧ ∀ i, i < r → q i = (P i : Int))
theorem LeaP.ans {w w' : World} {e : Ending} {M : Nat → Nat → Nat} {r b : Nat} {C : Nat → Nat} {G : Nat → Nat → Nat} (hr : r ≤ 64) (h : LeaP w w' e M r b C G) : AnsL (LeN M r b C G) w w' e := by
 rcases h with ⟨er, he, hs, hb⟩ | ⟨x, g, P, he, hs, hc, hrow, hg, hb⟩
 ·exact ⟨0, false, none, 0, er, fun _ => 0, he, .inl ⟨rfl, rfl⟩, by omega, fun i hi => by omega, .inl ⟨rfl, er, hs, rfl⟩, hb⟩
 ·exact ⟨x, true, _, r, 0, P, he, .inr ⟨g, rfl, hg, hrow⟩, hr, fun i _ => hc.el i, .inr ⟨rfl, rfl, x, P, hs, hc, fun i _ => rfl⟩, hb⟩
open Go.RowKit Go.Shelf
theorem grp_in (w : World) (r c b : Int) (n k d m : Nat) (a g : Option Addr) (F q : Nat → Nat) (ha : Mt w a n k F) (hg : Jl w g .u64 m (fun i => (q i : Int))) (hm : m ≤ 17592186044416) (hq : ∀ i, i < m → q i < 18446744073709551616) :
  (GenQ r c n ∧ (0 ≤ b ∧ b < r) ∧ (∀ w' : World, Below w.heap.size w w' → Calls Tryz.prog 17 #[cv r c a n k g m d] w' fun e w'' => e = .returned (.bool true) ∧ Below w'.heap.size w' w'') ∧ ∃ (u : Nat) (o : Bool), (o = true → u < 2 ^ r.toNat ∧ ¬ bt u b.toNat = 1 ∧ SS (m2 F r.toNat c.toNat) r.toNat u (m2 F r.toNat c.toNat b.toNat)) ∧ (o = false → u = 0) ∧ ∀ w' : World, Below w.heap.size w w' → Calls Tryz.prog 16 #[cv r c a n k g m d, .int .i64 b] w' fun e w'' => e = .returned (.tuple #[.int .u64 (u : Int), .bool o, .int .i64 0]) ∧ Below w'.heap.size w' w'') ∨
  (∃ (v : Bool) (E : Int), (v = true → ¬ (0 ≤ b ∧ b < r)) ∧ E ≠ 0 ∧ (∀ w' : World, Below w.heap.size w w' → Calls Tryz.prog 17 #[cv r c a n k g m d] w' fun e w'' => e = .returned (.bool v) ∧ Below w'.heap.size w' w'') ∧ ∀ w' : World, Below w.heap.size w w' → Calls Tryz.prog 16 #[cv r c a n k g m d, .int .i64 b] w' fun e w'' => e = .returned (.tuple #[.int .u64 0, .bool false, .int .i64 E]) ∧ Below w'.heap.size w' w'') := by
 obtain ⟨v, hv⟩ : ∃ v : Bool, v = true ↔ MayP F r c n m q := ⟨@decide _ (Classical.propDecidable _), @decide_eq_true_iff _ (Classical.propDecidable _)⟩
 have HM : ∀ w', Below w.heap.size w w' → Hid (∀ w'', Below w'.heap.size w' w'' → Calls Tryz.prog 49 #[cv r c a n k g m d] w'' fun e w3 => e = .returned (.bool v) ∧ Below w''.heap.size w'' w3) := fun w' h w'' h2 => may16 w'' r c n k d m a g F q ((ha.later h).later h2) ((hg.later h).later h2) hm hq v hv
 have HR : ∀ w', Below w.heap.size w w' → Calls Tryz.prog 17 #[cv r c a n k g m d] w' fun e w'' => e = .returned (.bool v) ∧ Below w'.heap.size w' w'' := fun w' h => rmay16 w' r c n k d m a g F q (ha.later h) (hg.later h) hm hq v hv
 cases v with
 | false => exact .inr ⟨false, 3, fun e => (by cases e), by decide, HR, fun w' h => qjy w' r c b n k d m a g (HM w' h)⟩
 | true =>
  by_cases hb : 0 ≤ b ∧ b < r
  ·have hmay := hv.1 rfl
   have hgq : GenQ r c n := hmay.1
   obtain ⟨r', c', rfl, rfl, R, _, _⟩ := hmay.1.nat
   obtain ⟨b', rfl⟩ := Int.eq_ofNat_of_zero_le hb.1
   have hb2 : b' < r' := by omega
   have hr := R.r64
   obtain ⟨i0, h1, h2, h3⟩ := first_ex q b' m
   obtain ⟨z, hz⟩ : ∃ z : Nat, 2 ^ b' = z := ⟨_, rfl⟩
   have hz2 : IntKind.u64.wrap (2 ^ b') = (z : Int) := by rw [← hz]; exact qf1 b' (by omega)
   have hh : ∀ i, i < m → HangP F r' c' (q i) := fun i hi => hmay.2 i hi
   refine .inl ⟨hgq, hb, HR, ?_⟩
   by_cases hi : i0 < m
   ·have hH := hh i0 hi
    have hu : bits .andNot .u64 (q i0 : Int) (z : Int) = (rem (q i0) b' : Nat) := qmf hr hH.1 hb2 hz rfl
    refine ⟨rem (q i0) b', true, fun _ => ⟨?_, ?_, ?_⟩, fun e => (by cases e), fun w' h => qmn w' r' c' b' n k d m i0 (rem (q i0) b') z a g q true (hg.later h) hm hq hb2 hr h1 h2 h3 (by simp [hi]) hz2 (fun _ => hu) (fun h => absurd hi h) (HM w' h)⟩
    ·exact qhk hH.1
    ·exact fun e => ((qdc (hq i0 hi) (by omega) b').1 e).2 rfl
    ·exact hH.2 b' hb2 (h3 hi)
   ·exact ⟨0, false, fun e => (by cases e), fun _ => rfl, fun w' h => qmn w' r' c' b' n k d m i0 0 z a g q false (hg.later h) hm hq hb2 hr h1 h2 h3 (by simp [hi]) hz2 (fun h => absurd h hi) (fun _ => rfl) (HM w' h)⟩
  ·exact .inr ⟨true, 2, fun _ => hb, by decide, HR, fun w' h => lgrp_arg w' r c b n k d m a g hb (HM w' h)⟩
theorem upt6_sm (n : Nat) : ∀ j, upt6 n j = sm19 (bin n) j := by
 intro j
 induction j with
 | zero => rfl
 | succ j ih => show upt6 n j + bin n j = sm19 (bin n) j + bin n j; rw [ih]
theorem qn5 {r : Nat} {t : Int} (h : 16384 < upv (r - 1) t) : 15 < r := by
 refine Classical.byContradiction (fun hn => ?_)
 have h1 : upv (r - 1) t ≤ 2 ^ (r - 1) := by
  unfold upv
  rw [upt6_sm]
  exact qj1 _ _
 have h2 : 2 ^ (r - 1) ≤ 2 ^ 14 := Nat.pow_le_pow_right (by decide) (by omega)
 have h3 : (2 : Nat) ^ 14 = 16384 := by decide
 omega
/-- The first choices: none is missing, the first is the one that the search finds. -/
theorem qh1 {M : Nat → Nat → Nat} {r b x L : Nat} {C : Nat → Nat} {f ix G : Nat → Nat → Nat} {u : Nat → Nat} (O : qex r b C f ix G) (h : SrP M r b C G x true 0) (hE : Enm (fun i => SS M r (G (cn x r) i) (M b)) 3 (C (cn x r)) L u) : 0 < L ∧ G (cn x r) (u 0) = x := by
 rcases h with ⟨_, h, _⟩ | ⟨_, _, k, j, hk, hj, hx, _, hs, hn⟩ | ⟨_, h, _⟩
 ·exact absurd h (by decide)
 ·have hc : cn x r = k := by rw [hx]; exact (O k hk).size j hj
  rw [hc] at hE ⊢
  have hPj : SS M r (G k j) (M b) := by rw [← hx]; exact hs
  have hL : 0 < L := by
   refine Classical.byContradiction (fun h0 => ?_)
   obtain ⟨n, hnL, _⟩ := hE.all (by omega) j hj hPj
   omega
  refine ⟨hL, ?_⟩
  obtain ⟨h1, h2⟩ := hE.is 0 hL
  have h3 : ¬ j < u 0 := fun hl => by
   obtain ⟨m, hm, _⟩ := hE.first 0 hL j hl hPj
   omega
  have h4 : ¬ u 0 < j := fun hl => hn k (u 0) (.inr ⟨rfl, hl⟩) h2
  have e : u 0 = j := by omega
  rw [e, hx]
 ·exact absurd h (by decide)
end Go.Proofs.YtblagbghpfopcaaGreat
