/-
  Contracts of the rows' reference: Span, Basis, Needed.
-/
import Derived.Test.YtblagbghpfopcaaGreatQwwin00
import Derived.Test.YtblagbghpfopcaaGreatQwwin20
set_option maxRecDepth 100000
set_option maxHeartbeats 16000000
namespace Go.Proofs.YtblagbghpfopcaaGreat
open Go.RowKit
theorem qme (i T : Nat) (w : World) (hi : i < 64) (HT : Hid (2 ^ i = T)) :
  Calls Tryz.prog 55 #[.int .i64 (i : Int)] w fun e w' => e = .returned (.int .u64 (T : Int)) ∧ w = w' := by
 have hp2 : IntKind.u64.wrap (2 ^ i) = (T : Int) := by rw [← HT.out]; exact qf1 i hi
 clear HT
 go_enter Tryz.func55, Tryz.ntmps55
 go_wp2
 go_ret
 exact ⟨rfl, rfl⟩
theorem or_lt7 {s i r : Nat} (hs : s < 2 ^ r) (hi : i < r) : s ||| 2 ^ i < 2 ^ r := Nat.or_lt_two_pow hs (Nat.pow_lt_pow_right (by decide) hi)
theorem j_or7 {s T u i r : Nat} (hr : r ≤ 64) (hs : s < 2 ^ r) (hi : i < r) (hT : 2 ^ i = T) (hu : s ||| T = u) : bits .or .u64 (s : Int) (T : Int) = (u : Int) := by
 have h1 := qbg (show i < 64 by omega)
 rw [u64_or_nat s T (qc7 hr hs) (by omega), hu]
theorem qmf {s T u i r : Nat} (hr : r ≤ 64) (hs : s < 2 ^ r) (hi : i < r) (hT : 2 ^ i = T) (hu : rem s i = u) : bits .andNot .u64 (s : Int) (T : Int) = (u : Int) := by
 have h1 := qbg (show i < 64 by omega)
 rw [u64_andNot_nat s T (qc7 hr hs) (by omega), ← hu, ← hT]
 rfl
theorem qhk {s i r : Nat} (hs : s < 2 ^ r) : rem s i < 2 ^ r := Nat.lt_of_le_of_lt Nat.and_le_left hs
theorem qiv {s i r : Nat} (hr : r ≤ 64) (hs : s < 2 ^ r) (hi : i < r) (hb : bt s i = 1) : ∀ j, j < r → (bt (rem s i ||| 2 ^ i) j = 1 ↔ bt s j = 1) := fun j _ => by
 rw [qbj, qbp, qdc (qc7 hr hs) (by omega)]
 constructor
 ·rintro (h | h)
  ·exact h.1
  ·rw [h]; exact hb
 ·intro h
  by_cases e : j = i
  ·exact .inr e
  ·exact .inl ⟨h, e⟩
/-- The rows without which the rank of the others is less. -/
def NeS (M : Nat → Nat → Nat) (R s p : Nat) : Prop := Bld (fun i => bt s i = 1 ∧ ¬ SS M R (rem s i) (M i)) R p
theorem rSpan_ok (w : World) (r c n k s : Nat) (a : Option Addr) (F : Nat → Nat) (ha : Sl w a n F) (R : Rt r c n) (hs : s < 2 ^ r) :
  Calls Tryz.prog 19 #[mv r c a n k, .int .u64 (s : Int)] w fun e w' => ∃ p : Nat, e = .returned (.tuple #[.int .u64 (p : Int), .int .i64 0]) ∧ SpS (m2 F r c) r s p ∧ Below w.heap.size w w' := by
 have hr := R.r64
 have hM := qax ha.1 R
 have HA : Hid (Sl w a n F) := ha
 have HRt : Hid (Rt r c n) := R
 have HM : Hid (El2 (m2 F r c)) := hM
 have HS : Hid (s < 2 ^ r) := hs
 have hs6 := qc7 hr hs
 have HC : Hid (∀ w' : World, Below w.heap.size w w' → Calls Tryz.prog 53 #[mv r c a n k, .int .u64 (s : Int)] w' fun e w'' => ∃ t : Nat, e = .returned (.tuple #[.int .i64 (t : Int), .int .i64 0]) ∧ RS (m2 F r c) r s t ∧ Below w'.heap.size w' w'') := fun w' hb => qiu w' r c n k s a F (ha.later hb) R hs
 clear ha R hM
 go_enter Tryz.func19, Tryz.ntmps19
 go_wp2_with (go_at_call 53; refine (HC.out _ (qa1 _ _)).mono ?_; rintro e w1 ⟨t, rfl, ht, hb⟩; have HT1 : Hid (RS (m2 F r c) r s t) := ht; have HV1 : Hid (Vr w1 w.heap.size (.int .i64 (r : Int)) (.int .i64 (c : Int)) (.slice a n k)) := (Vr.new w (.int .i64 (r : Int)) (.int .i64 (c : Int)) (.slice a n k)).later hb; have HB1 : Hid (Below w.heap.size w w1) := qa0 (qa1 _ _) hb; clear hb ht)
 clear HC
 go_loopw [8, 9] (fun vz vi wr => ∃ i z : Nat, i ≤ r ∧ Hid (Bld (fun j => SS (m2 F r c) r s (m2 F r c j)) i z) ∧ vi = .int .i64 (i : Int) ∧ vz = .int .u64 (z : Int) ∧ Vr wr w.heap.size (.int .i64 (r : Int)) (.int .i64 (c : Int)) (.slice a n k) ∧ Below w.heap.size w wr) (fun _ vi _ => r - (intOf vi).toNat)
 case atStart => exact ⟨0, 0, by omega, Bld.start _, rfl, rfl, HV1.out, HB1.out⟩
 case round =>
  clear HV1 HB1
  obtain ⟨i, z, hi, HZ, rfl, rfl, hvr, hbr⟩ := hrel
  have HVr : Hid (Vr wr w.heap.size (.int .i64 (r : Int)) (.int .i64 (c : Int)) (.slice a n k)) := hvr
  have HBr : Hid (Below w.heap.size w wr) := hbr
  have v0 := hvr.c0
  have v1 := hvr.c1
  have v2 := hvr.c2
  clear hvr hbr
  by_cases hlt : i < r
  ·obtain ⟨T, hT⟩ : ∃ T, 2 ^ i = T := ⟨_, rfl⟩
   have hi6 : i < 64 := by omega
   have HOne : Hid (∀ w' : World, Calls Tryz.prog 55 #[.int .i64 (i : Int)] w' fun e w'' => e = .returned (.int .u64 (T : Int)) ∧ w' = w'') := fun w' => qme i T w' hi6 hT
   have c0 : decide ((i : Int) < (r : Int)) = true := decide_eq_true (by omega)
   have c0' : decide (i < r) = true := decide_eq_true hlt
   have hp2 : IntKind.u64.wrap (2 ^ i) = (T : Int) := by rw [← hT]; exact qf1 i hi6
   obtain ⟨z', hz'⟩ : ∃ z', z ||| T = z' := ⟨_, rfl⟩
   have hzr : z < 2 ^ r := Nat.lt_of_lt_of_le HZ.out.1 (Nat.pow_le_pow_right (by decide) hi)
   have hor2 : bits .or .u64 (z : Int) (T : Int) = (z' : Int) := j_or7 hr hzr hlt hT hz'
   obtain ⟨u, hu⟩ : ∃ u, s ||| T = u := ⟨_, rfl⟩
   have hor : bits .or .u64 (s : Int) (T : Int) = (u : Int) := j_or7 hr hs hlt hT hu
   have HU : Hid (s ||| 2 ^ i = u) := by show _ = _; rw [hT, hu]
   have HRk : Hid (∀ w' : World, Below w.heap.size w w' → Calls Tryz.prog 54 #[mv r c a n k, .int .u64 (u : Int)] w' fun e w'' => ∃ t : Nat, e = .returned (.int .i64 (t : Int)) ∧ RS (m2 F r c) r u t ∧ Below w'.heap.size w' w'') := fun w' hb => qet w' r c n k u a F (HA.out.later hb) HRt.out (by rw [← HU.out]; exact or_lt7 hs hlt)
   clear hs6 hzr hu
   go_wp2
   refine wp_region_held (S := fun w' => w'.cell? ⟨w.heap.size, 0, none⟩ = some (.int .i64 (r : Int)) ∧ w'.cell? ⟨w.heap.size, 1, none⟩ = some (.int .i64 (c : Int)) ∧ w'.cell? ⟨w.heap.size, 2, none⟩ = some (.slice a n k)) (by kernel_rfl) ?_
   change wpAnyH _ _ _ _ _ _ _ _ (World.drew _)
   obtain ⟨W0, HW0⟩ : ∃ W0, Hid (wr.drew = W0) := ⟨_, rfl⟩
   rw [HW0.out]
   have HV0 : Hid (Vr W0 w.heap.size (.int .i64 (r : Int)) (.int .i64 (c : Int)) (.slice a n k)) := by rw [← HW0.out]; exact HVr.out.later (Below.refl _ _).drew
   have HB0 : Hid (Below w.heap.size w W0) := by rw [← HW0.out]; exact qa0 HBr.out (Below.refl _ _).drew
   refine wtkq 0 ?vq1 rfl (by kernel_rfl) (fun _ _ _ h => h) (by rfl) ?yq1 ⟨HV0.out.c0, HV0.out.c1, HV0.out.c2⟩ ?zq1
   case yq1 => (intro w hSw; (try dsimp only at hSw); go_simp; try with_reducible rfl)
   try simp only [mz1, mz3, Act.put, mz4, mz5, mz6]
   refine wtkq 1 ?vq2 rfl (by kernel_rfl) (fun _ _ _ h => h) (by rfl) ?yq2 ⟨HV0.out.c0, HV0.out.c1, HV0.out.c2⟩ ?zq2
   case yq2 => (intro w hSw; (try dsimp only at hSw); go_simp; try with_reducible rfl)
   try simp only [mz1, mz2, mz3, Act.put, mz4, mz5, mz6]
   refine wtkq 2 ?vq3 rfl (by kernel_rfl) (fun _ _ _ h => h) (by rfl) ?yq3 ⟨HV0.out.c0, HV0.out.c1, HV0.out.c2⟩ ?zq3
   case yq3 => (intro w hSw; (try dsimp only at hSw); go_simp; try with_reducible rfl)
   try simp only [mz1, mz2, mz3, Act.put, mz4, mz5, mz6]
   refine wtkq 6 ?vq4 rfl (by kernel_rfl) (fun _ _ _ h => h) (by rfl) ?yq4 ⟨HV0.out.c0, HV0.out.c1, HV0.out.c2⟩ ?zq4
   case yq4 => (intro w hSw; (try dsimp only at hSw); go_simp; try with_reducible rfl)
   try simp only [mz1, mz2, mz3, Act.put, mz4, mz5, mz6]
   refine wpAnyH_ready (rs := [3]) (by kernel_rfl) (by simp) ?_
   refine AllReadyH.cons rfl (fun KK hKK => ?_) AllReadyH.nil
   go_simp
   refine (HOne.out _).mono ?_
   rintro e w' ⟨rfl, rfl⟩
   refine hKK.out _ _ ⟨HV0.out.c0, HV0.out.c1, HV0.out.c2⟩ (fun _ => ?_)
   clear hKK KK
   try simp only [mz1, mz2, mz3, Act.put, mz4, mz5, mz6]
   refine wtkq 4 ?vq5 rfl (by kernel_rfl) (fun _ _ _ h => h) (by rfl) ?yq5 ⟨HV0.out.c0, HV0.out.c1, HV0.out.c2⟩ ?zq5
   case yq5 => (intro w hSw; (try dsimp only at hSw); go_simp; try with_reducible rfl)
   try simp only [mz1, mz2, mz3, Act.put, mz4, mz5, mz6]
   refine wpAnyH_ready (rs := [5]) (by kernel_rfl) (by simp) ?_
   refine AllReadyH.cons rfl (fun KK hKK => ?_) AllReadyH.nil
   go_simp
   refine (HRk.out _ HB0.out).mono ?_
   rintro e w2 ⟨t2, rfl, ht2, hbw2⟩
   have HTt2 : Hid (RS (m2 F r c) r u t2) := ht2
   have HBw2 : Hid (Below w.heap.size w w2) := qa0 HB0.out hbw2
   have HVw2 : Hid (Vr w2 w.heap.size (.int .i64 (r : Int)) (.int .i64 (c : Int)) (.slice a n k)) := HV0.out.later hbw2
   clear ht2 hbw2
   refine hKK.out _ _ ⟨HVw2.out.c0, HVw2.out.c1, HVw2.out.c2⟩ (fun _ => ?_)
   clear hKK KK
   try simp only [mz1, mz2, mz3, Act.put, mz4, mz5, mz6]
   refine wtkq 7 ?vq6 rfl (by kernel_rfl) (fun _ _ _ h => h) (by rfl) ?yq6 ⟨HVw2.out.c0, HVw2.out.c1, HVw2.out.c2⟩ ?zq6
   case yq6 => (intro w hSw; (try dsimp only at hSw); go_simp; try with_reducible rfl)
   try simp only [mz1, mz2, mz3, Act.put, mz4, mz5, mz6]
   refine wpAnyH_done (by kernel_rfl) ?_ _
   have v0' := HVw2.out.c0
   have hadd := RS.add HM.out hlt HT1.out (by rw [HU.out]; exact HTt2.out)
   rcases hadd with ⟨hp, rfl⟩ | ⟨hp, rfl⟩
   ·have HP : Hid (SS (m2 F r c) r s (m2 F r c i)) := hp
    clear hp
    go_wp2
    exact ⟨⟨i + 1, z', by omega, (by rw [← hz', ← hT]; exact HZ.out.yes HP.out), by go_num, by go_num, HVw2.out, HBw2.out⟩, by simp [intOf]; omega⟩
   ·have HP : Hid (¬ SS (m2 F r c) r s (m2 F r c i)) := hp
    have q0 : (((t + 1 : Nat) : Int) == (t : Int)) = false := by simp only [beq_eq_false_iff_ne, ne_eq]; omega
    have q1 : ((t : Int) + 1 == (t : Int)) = false := by simp only [beq_eq_false_iff_ne, ne_eq]; omega
    clear hp
    go_wp2
    exact ⟨⟨i + 1, z, by omega, HZ.out.no HP.out, by go_num, rfl, HVw2.out, HBw2.out⟩, by simp [intOf]; omega⟩
  ·obtain rfl : i = r := by omega
   have c0 : decide ((i : Int) < (i : Int)) = false := decide_eq_false (by omega)
   have c0' : decide (i < i) = false := decide_eq_false hlt
   go_wp2
   go_ret2
   exact ⟨z, rfl, HZ.out, HBr.out⟩
theorem rNeed_ok (w : World) (r c n k s : Nat) (a : Option Addr) (F : Nat → Nat) (ha : Sl w a n F) (R : Rt r c n) (hs : s < 2 ^ r) :
  Calls Tryz.prog 52 #[mv r c a n k, .int .u64 (s : Int)] w fun e w' => ∃ p : Nat, e = .returned (.tuple #[.int .u64 (p : Int), .int .i64 0]) ∧ NeS (m2 F r c) r s p ∧ Below w.heap.size w w' := by
 have hr := R.r64
 have hM := qax ha.1 R
 have HA : Hid (Sl w a n F) := ha
 have HRt : Hid (Rt r c n) := R
 have HM : Hid (El2 (m2 F r c)) := hM
 have HS : Hid (s < 2 ^ r) := hs
 have hs6 := qc7 hr hs
 have HC : Hid (∀ w' : World, Below w.heap.size w w' → Calls Tryz.prog 53 #[mv r c a n k, .int .u64 (s : Int)] w' fun e w'' => ∃ t : Nat, e = .returned (.tuple #[.int .i64 (t : Int), .int .i64 0]) ∧ RS (m2 F r c) r s t ∧ Below w'.heap.size w' w'') := fun w' hb => qiu w' r c n k s a F (ha.later hb) R hs
 clear ha R hM
 go_enter Tryz.func52, Tryz.ntmps52
 go_wp2_with (go_at_call 53; refine (HC.out _ (qa1 _ _)).mono ?_; rintro e w1 ⟨t, rfl, ht, hb⟩; have HT1 : Hid (RS (m2 F r c) r s t) := ht; have HV1 : Hid (Vr w1 w.heap.size (.int .i64 (r : Int)) (.int .i64 (c : Int)) (.slice a n k)) := (Vr.new w (.int .i64 (r : Int)) (.int .i64 (c : Int)) (.slice a n k)).later hb; have HB1 : Hid (Below w.heap.size w w1) := qa0 (qa1 _ _) hb; clear hb ht)
 clear HC
 go_loopw [8, 9] (fun vz vi wr => ∃ i z : Nat, i ≤ r ∧ Hid (Bld (fun j => bt s j = 1 ∧ ¬ SS (m2 F r c) r (rem s j) (m2 F r c j)) i z) ∧ vi = .int .i64 (i : Int) ∧ vz = .int .u64 (z : Int) ∧ Vr wr w.heap.size (.int .i64 (r : Int)) (.int .i64 (c : Int)) (.slice a n k) ∧ Below w.heap.size w wr) (fun _ vi _ => r - (intOf vi).toNat)
 case atStart => exact ⟨0, 0, by omega, Bld.start _, rfl, rfl, HV1.out, HB1.out⟩
 case round =>
  clear HV1 HB1
  obtain ⟨i, z, hi, HZ, rfl, rfl, hvr, hbr⟩ := hrel
  have HVr : Hid (Vr wr w.heap.size (.int .i64 (r : Int)) (.int .i64 (c : Int)) (.slice a n k)) := hvr
  have HBr : Hid (Below w.heap.size w wr) := hbr
  have v0 := hvr.c0
  have v1 := hvr.c1
  have v2 := hvr.c2
  clear hvr hbr
  by_cases hlt : i < r
  ·obtain ⟨T, hT⟩ : ∃ T, 2 ^ i = T := ⟨_, rfl⟩
   have hi6 : i < 64 := by omega
   have HOne : Hid (∀ w' : World, Calls Tryz.prog 55 #[.int .i64 (i : Int)] w' fun e w'' => e = .returned (.int .u64 (T : Int)) ∧ w' = w'') := fun w' => qme i T w' hi6 hT
   have c0 : decide ((i : Int) < (r : Int)) = true := decide_eq_true (by omega)
   have c0' : decide (i < r) = true := decide_eq_true hlt
   have hp2 : IntKind.u64.wrap (2 ^ i) = (T : Int) := by rw [← hT]; exact qf1 i hi6
   obtain ⟨z', hz'⟩ : ∃ z', z ||| T = z' := ⟨_, rfl⟩
   have hzr : z < 2 ^ r := Nat.lt_of_lt_of_le HZ.out.1 (Nat.pow_le_pow_right (by decide) hi)
   have hor2 : bits .or .u64 (z : Int) (T : Int) = (z' : Int) := j_or7 hr hzr hlt hT hz'
   obtain ⟨u, hu⟩ : ∃ u, rem s i = u := ⟨_, rfl⟩
   have hor : bits .andNot .u64 (s : Int) (T : Int) = (u : Int) := qmf hr hs hlt hT hu
   have HU : Hid (rem s i = u) := hu
   have HRk : Hid (∀ w' : World, Below w.heap.size w w' → Calls Tryz.prog 54 #[mv r c a n k, .int .u64 (u : Int)] w' fun e w'' => ∃ t : Nat, e = .returned (.int .i64 (t : Int)) ∧ RS (m2 F r c) r u t ∧ Below w'.heap.size w' w'') := fun w' hb => qet w' r c n k u a F (HA.out.later hb) HRt.out (by rw [← HU.out]; exact qhk hs)
   by_cases hbit : bt s i = 1
   ·have HBt : Hid (bt s i = 1) := hbit
    have hdb : decide (bt s i = 1) = true := decide_eq_true hbit
    have HHas : Hid (∀ w' : World, Calls Tryz.prog 20 #[.int .u64 (s : Int), .int .i64 (i : Int)] w' fun e w'' => e = .returned (.bool true) ∧ w' = w'') := fun w' => by rw [← hdb]; exact qd8 s i w' hs6 hi6
    clear hs6 hzr hu hbit hdb
    go_wp2
    refine wp_region_held (S := fun w' => w'.cell? ⟨w.heap.size, 0, none⟩ = some (.int .i64 (r : Int)) ∧ w'.cell? ⟨w.heap.size, 1, none⟩ = some (.int .i64 (c : Int)) ∧ w'.cell? ⟨w.heap.size, 2, none⟩ = some (.slice a n k)) (by kernel_rfl) ?_
    change wpAnyH _ _ _ _ _ _ _ _ (World.drew _)
    obtain ⟨W0, HW0⟩ : ∃ W0, Hid (wr.drew = W0) := ⟨_, rfl⟩
    rw [HW0.out]
    have HV0 : Hid (Vr W0 w.heap.size (.int .i64 (r : Int)) (.int .i64 (c : Int)) (.slice a n k)) := by rw [← HW0.out]; exact HVr.out.later (Below.refl _ _).drew
    have HB0 : Hid (Below w.heap.size w W0) := by rw [← HW0.out]; exact qa0 HBr.out (Below.refl _ _).drew
    refine wtkq 0 ?vq7 rfl (by kernel_rfl) (fun _ _ _ h => h) (by rfl) ?yq7 ⟨HV0.out.c0, HV0.out.c1, HV0.out.c2⟩ ?zq7
    case yq7 => (intro w hSw; (try dsimp only at hSw); go_simp; try with_reducible rfl)
    try simp only [mz1, mz3, Act.put, mz4, mz5, mz6]
    refine wtkq 1 ?vq8 rfl (by kernel_rfl) (fun _ _ _ h => h) (by rfl) ?yq8 ⟨HV0.out.c0, HV0.out.c1, HV0.out.c2⟩ ?zq8
    case yq8 => (intro w hSw; (try dsimp only at hSw); go_simp; try with_reducible rfl)
    try simp only [mz1, mz2, mz3, Act.put, mz4, mz5, mz6]
    refine wpAnyH_ready (rs := [2]) (by kernel_rfl) (by simp) ?_
    refine AllReadyH.cons rfl (fun KK hKK => ?_) AllReadyH.nil
    go_simp
    refine (HHas.out _).mono ?_
    rintro e w' ⟨rfl, rfl⟩
    refine hKK.out _ _ ⟨HV0.out.c0, HV0.out.c1, HV0.out.c2⟩ (fun _ => ?_)
    clear hKK KK
    try simp only [mz1, mz2, mz3, Act.put, mz4, mz5, mz6]
    refine wtkq 3 ?vq9 rfl (by kernel_rfl) (fun _ _ _ h => h) (by rfl) ?yq9 ⟨HV0.out.c0, HV0.out.c1, HV0.out.c2⟩ ?zq9
    case yq9 => (intro w hSw; (try dsimp only at hSw); go_simp; try with_reducible rfl)
    try simp only [mz1, mz2, mz3, Act.put, mz4, mz5, mz6]
    refine wtkq 4 ?vq10 rfl (by kernel_rfl) (fun _ _ _ h => h) (by rfl) ?yq10 ⟨HV0.out.c0, HV0.out.c1, HV0.out.c2⟩ ?zq10
    case yq10 => (intro w hSw; (try dsimp only at hSw); go_simp; try with_reducible rfl)
    try simp only [mz1, mz2, mz3, Act.put, mz4, mz5, mz6]
    refine wtkq 5 ?vq11 rfl (by kernel_rfl) (fun _ _ _ h => h) (by rfl) ?yq11 ⟨HV0.out.c0, HV0.out.c1, HV0.out.c2⟩ ?zq11
    case yq11 => (intro w hSw; (try dsimp only at hSw); go_simp; try with_reducible rfl)
    try simp only [mz1, mz2, mz3, Act.put, mz4, mz5, mz6]
    refine wtkq 6 ?vq12 rfl (by kernel_rfl) (fun _ _ _ h => h) (by rfl) ?yq12 ⟨HV0.out.c0, HV0.out.c1, HV0.out.c2⟩ ?zq12
    case yq12 => (intro w hSw; (try dsimp only at hSw); go_simp; try with_reducible rfl)
    try simp only [mz1, mz2, mz3, Act.put, mz4, mz5, mz6]
    refine wtkq 10 ?vq13 rfl (by kernel_rfl) (fun _ _ _ h => h) (by rfl) ?yq13 ⟨HV0.out.c0, HV0.out.c1, HV0.out.c2⟩ ?zq13
    case yq13 => (intro w hSw; (try dsimp only at hSw); go_simp; try with_reducible rfl)
    try simp only [mz1, mz2, mz3, Act.put, mz4, mz5, mz6]
    refine wpAnyH_ready (rs := [7]) (by kernel_rfl) (by simp) ?_
    refine AllReadyH.cons rfl (fun KK hKK => ?_) AllReadyH.nil
    go_simp
    refine (HOne.out _).mono ?_
    rintro e w' ⟨rfl, rfl⟩
    refine hKK.out _ _ ⟨HV0.out.c0, HV0.out.c1, HV0.out.c2⟩ (fun _ => ?_)
    clear hKK KK
    try simp only [mz1, mz2, mz3, Act.put, mz4, mz5, mz6]
    refine wtkq 8 ?vq14 rfl (by kernel_rfl) (fun _ _ _ h => h) (by rfl) ?yq14 ⟨HV0.out.c0, HV0.out.c1, HV0.out.c2⟩ ?zq14
    case yq14 => (intro w hSw; (try dsimp only at hSw); go_simp; try with_reducible rfl)
    try simp only [mz1, mz2, mz3, Act.put, mz4, mz5, mz6]
    refine wpAnyH_ready (rs := [9]) (by kernel_rfl) (by simp) ?_
    refine AllReadyH.cons rfl (fun KK hKK => ?_) AllReadyH.nil
    go_simp
    refine (HRk.out _ HB0.out).mono ?_
    rintro e w2 ⟨t2, rfl, ht2, hbw2⟩
    have HTt2 : Hid (RS (m2 F r c) r u t2) := ht2
    have HBw2 : Hid (Below w.heap.size w w2) := qa0 HB0.out hbw2
    have HVw2 : Hid (Vr w2 w.heap.size (.int .i64 (r : Int)) (.int .i64 (c : Int)) (.slice a n k)) := HV0.out.later hbw2
    clear ht2 hbw2
    refine hKK.out _ _ ⟨HVw2.out.c0, HVw2.out.c1, HVw2.out.c2⟩ (fun _ => ?_)
    clear hKK KK
    try simp only [mz1, mz2, mz3, Act.put, mz4, mz5, mz6]
    refine wtkq 11 ?vq15 rfl (by kernel_rfl) (fun _ _ _ h => h) (by rfl) ?yq15 ⟨HVw2.out.c0, HVw2.out.c1, HVw2.out.c2⟩ ?zq15
    case yq15 => (intro w hSw; (try dsimp only at hSw); go_simp; try with_reducible rfl)
    try simp only [mz1, mz2, mz3, Act.put, mz4, mz5, mz6]
    refine wtkq 12 ?vq16 rfl (by kernel_rfl) (fun _ _ _ h => h) (by rfl) ?yq16 ⟨HVw2.out.c0, HVw2.out.c1, HVw2.out.c2⟩ ?zq16
    case yq16 => (intro w hSw; (try dsimp only at hSw); go_simp; try with_reducible rfl)
    try simp only [mz1, mz2, mz3, Act.put, mz4, mz5, mz6]
    refine wpAnyH_done (by kernel_rfl) ?_ _
    have v0' := HVw2.out.c0
    obtain ⟨t3, ht3⟩ := qg9 HM.out r (rem s i ||| 2 ^ i)
    have he := (ht3.congr (qiv hr HS.out hlt HBt.out)).one HM.out HT1.out
    have hadd := RS.add HM.out hlt (by rw [HU.out]; exact HTt2.out) ht3
    clear ht3
    rcases hadd with ⟨hp, h3⟩ | ⟨hp, h3⟩
    ·have HP : Hid (¬ (bt s i = 1 ∧ ¬ SS (m2 F r c) r (rem s i) (m2 F r c i))) := fun h => h.2 hp
     have e9 : t2 = t := by omega
     subst e9
     have q1 : ¬ t2 < t2 := by omega
     clear hp h3 he
     go_wp2
     exact ⟨⟨i + 1, z, by omega, HZ.out.no HP.out, by go_num, rfl, HVw2.out, HBw2.out⟩, by simp [intOf]; omega⟩
    ·have HP : Hid (bt s i = 1 ∧ ¬ SS (m2 F r c) r (rem s i) (m2 F r c i)) := ⟨HBt.out, hp⟩
     have q1 : t2 < t := by omega
     clear hp h3 he
     go_wp2
     exact ⟨⟨i + 1, z', by omega, (by rw [← hz', ← hT]; exact HZ.out.yes HP.out), by go_num, by go_num, HVw2.out, HBw2.out⟩, by simp [intOf]; omega⟩
   ·have hdb : decide (bt s i = 1) = false := decide_eq_false hbit
    have HP : Hid (¬ (bt s i = 1 ∧ ¬ SS (m2 F r c) r (rem s i) (m2 F r c i))) := fun h => hbit h.1
    have HHas : Hid (∀ w' : World, Calls Tryz.prog 20 #[.int .u64 (s : Int), .int .i64 (i : Int)] w' fun e w'' => e = .returned (.bool false) ∧ w' = w'') := fun w' => by rw [← hdb]; exact qd8 s i w' hs6 hi6
    clear hs6 hzr hu hbit hdb
    go_wp2
    refine wp_region_held (S := fun w' => w'.cell? ⟨w.heap.size, 0, none⟩ = some (.int .i64 (r : Int)) ∧ w'.cell? ⟨w.heap.size, 1, none⟩ = some (.int .i64 (c : Int)) ∧ w'.cell? ⟨w.heap.size, 2, none⟩ = some (.slice a n k)) (by kernel_rfl) ?_
    change wpAnyH _ _ _ _ _ _ _ _ (World.drew _)
    obtain ⟨W0, HW0⟩ : ∃ W0, Hid (wr.drew = W0) := ⟨_, rfl⟩
    rw [HW0.out]
    have HV0 : Hid (Vr W0 w.heap.size (.int .i64 (r : Int)) (.int .i64 (c : Int)) (.slice a n k)) := by rw [← HW0.out]; exact HVr.out.later (Below.refl _ _).drew
    have HB0 : Hid (Below w.heap.size w W0) := by rw [← HW0.out]; exact qa0 HBr.out (Below.refl _ _).drew
    refine wtkq 0 ?vq17 rfl (by kernel_rfl) (fun _ _ _ h => h) (by rfl) ?yq17 ⟨HV0.out.c0, HV0.out.c1, HV0.out.c2⟩ ?zq17
    case yq17 => (intro w hSw; (try dsimp only at hSw); go_simp; try with_reducible rfl)
    try simp only [mz1, mz3, Act.put, mz4, mz5, mz6]
    refine wtkq 1 ?vq18 rfl (by kernel_rfl) (fun _ _ _ h => h) (by rfl) ?yq18 ⟨HV0.out.c0, HV0.out.c1, HV0.out.c2⟩ ?zq18
    case yq18 => (intro w hSw; (try dsimp only at hSw); go_simp; try with_reducible rfl)
    try simp only [mz1, mz2, mz3, Act.put, mz4, mz5, mz6]
    refine wpAnyH_ready (rs := [2]) (by kernel_rfl) (by simp) ?_
    refine AllReadyH.cons rfl (fun KK hKK => ?_) AllReadyH.nil
    go_simp
    refine (HHas.out _).mono ?_
    rintro e w' ⟨rfl, rfl⟩
    refine hKK.out _ _ ⟨HV0.out.c0, HV0.out.c1, HV0.out.c2⟩ (fun _ => ?_)
    clear hKK KK
    try simp only [mz1, mz2, mz3, Act.put, mz4, mz5, mz6]
    refine wtkq 3 ?vq19 rfl (by kernel_rfl) (fun _ _ _ h => h) (by rfl) ?yq19 ⟨HV0.out.c0, HV0.out.c1, HV0.out.c2⟩ ?zq19
    case yq19 => (intro w hSw; (try dsimp only at hSw); go_simp; try with_reducible rfl)
    try simp only [mz1, mz2, mz3, Act.put, mz4, mz5, mz6]
    refine wskq 4 rfl (by kernel_rfl) (fun _ _ _ h => h) (by rfl) ⟨HV0.out.c0, HV0.out.c1, HV0.out.c2⟩ ?_
    try simp only [mz1, mz2, mz3, Act.put, mz4, mz5, mz6]
    refine wskq 5 rfl (by kernel_rfl) (fun _ _ _ h => h) (by rfl) ⟨HV0.out.c0, HV0.out.c1, HV0.out.c2⟩ ?_
    try simp only [mz1, mz2, mz3, Act.put, mz4, mz5, mz6]
    refine wskq 6 rfl (by kernel_rfl) (fun _ _ _ h => h) (by rfl) ⟨HV0.out.c0, HV0.out.c1, HV0.out.c2⟩ ?_
    try simp only [mz1, mz2, mz3, Act.put, mz4, mz5, mz6]
    refine wskq 7 rfl (by kernel_rfl) (fun _ _ _ h => h) (by rfl) ⟨HV0.out.c0, HV0.out.c1, HV0.out.c2⟩ ?_
    try simp only [mz1, mz2, mz3, Act.put, mz4, mz5, mz6]
    refine wskq 8 rfl (by kernel_rfl) (fun _ _ _ h => h) (by rfl) ⟨HV0.out.c0, HV0.out.c1, HV0.out.c2⟩ ?_
    try simp only [mz1, mz2, mz3, Act.put, mz4, mz5, mz6]
    refine wskq 9 rfl (by kernel_rfl) (fun _ _ _ h => h) (by rfl) ⟨HV0.out.c0, HV0.out.c1, HV0.out.c2⟩ ?_
    try simp only [mz1, mz2, mz3, Act.put, mz4, mz5, mz6]
    refine wskq 10 rfl (by kernel_rfl) (fun _ _ _ h => h) (by rfl) ⟨HV0.out.c0, HV0.out.c1, HV0.out.c2⟩ ?_
    try simp only [mz1, mz2, mz3, Act.put, mz4, mz5, mz6]
    refine wskq 11 rfl (by kernel_rfl) (fun _ _ _ h => h) (by rfl) ⟨HV0.out.c0, HV0.out.c1, HV0.out.c2⟩ ?_
    try simp only [mz1, mz2, mz3, Act.put, mz4, mz5, mz6]
    refine wtkq 12 ?vq20 rfl (by kernel_rfl) (fun _ _ _ h => h) (by rfl) ?yq20 ⟨HV0.out.c0, HV0.out.c1, HV0.out.c2⟩ ?zq20
    case yq20 => (intro w hSw; (try dsimp only at hSw); go_simp; try with_reducible rfl)
    try simp only [mz1, mz2, mz3, Act.put, mz4, mz5, mz6]
    refine wpAnyH_done (by kernel_rfl) ?_ _
    have v0' := HV0.out.c0
    go_wp2
    exact ⟨⟨i + 1, z, by omega, HZ.out.no HP.out, by go_num, rfl, HV0.out, HB0.out⟩, by simp [intOf]; omega⟩
  ·obtain rfl : i = r := by omega
   have c0 : decide ((i : Int) < (i : Int)) = false := decide_eq_false (by omega)
   have c0' : decide (i < i) = false := decide_eq_false hlt
   go_wp2
   go_ret2
   exact ⟨z, rfl, HZ.out, HBr.out⟩
end Go.Proofs.YtblagbghpfopcaaGreat
