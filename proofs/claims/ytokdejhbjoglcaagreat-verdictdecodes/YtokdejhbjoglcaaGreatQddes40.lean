/-
  Contracts of the rows' reference: Rank, Free, Covers.
  Contracts of the rows' reference: Span, Basis, Needed.
  Contract of the rows' reference: Circuit.
-/
import Derived.Test.YtokdejhbjoglcaaGreatQddes00
import Derived.Test.YtokdejhbjoglcaaGreatQddes39
set_option maxRecDepth 100000
set_option maxHeartbeats 16000000
namespace Go.Proofs.YtokdejhbjoglcaaGreat
open Go.RowKit
theorem rRank_ok (w : World) (r c n k s : Nat) (a : Option Addr) (F : Nat → Nat) (ha : Sl w a n F) (R : Rt r c n) (hs : s < 2 ^ r) :
  Calls Tryz.prog 90 #[mv r c a n k, .int .u64 (s : Int)] w fun e w' => ∃ t : Nat, e = .returned (.tuple #[.int .i64 (t : Int), .int .i64 0]) ∧ RS (m2 F r c) r s t ∧ Below w.heap.size w w' := by
 have HC : Hid (∀ w' : World, Calls Tryz.prog 67 #[mv r c a n k, .int .u64 (s : Int)] w' fun e w'' => e = .returned (.int .i64 0) ∧ Below w'.heap.size w' w'') := fun w' => qkt w' r c n k s a R hs
 have HK : Hid (∀ w' : World, Below w.heap.size w w' → Calls Tryz.prog 68 #[mv r c a n k, .int .u64 (s : Int)] w' fun e w'' => ∃ t : Nat, e = .returned (.int .i64 (t : Int)) ∧ RS (m2 F r c) r s t ∧ Below w'.heap.size w' w'') := fun w' hb => qeg w' r c n k s a F (ha.later hb) R hs
 clear ha R hs
 go_enter Tryz.func90, Tryz.ntmps90
 go_wp2_with (first
  | (go_at_call 67; refine (HC.out _).mono ?_; rintro e w1 ⟨rfl, hb⟩; have HV1 := (Vr.new w (.int .i64 (r : Int)) (.int .i64 (c : Int)) (.slice a n k)).later hb; have v0 := HV1.c0; have v1 := HV1.c1; have v2 := HV1.c2; have HB1 : Hid (Below w.heap.size w w1) := qa0 (qa1 _ _) hb; clear hb HV1)
  | (go_at_call 68; refine (HK.out _ HB1.out).mono ?_; rintro e w2 ⟨t, rfl, ht, hb⟩; have HT : Hid (RS (m2 F r c) r s t) := ht; have HB2 : Hid (Below w.heap.size w w2) := qa0 HB1.out hb; clear hb ht))
 go_ret2
 exact ⟨t, rfl, HT.out, HB2.out⟩
theorem rCov_ok (w : World) (r c n k s : Nat) (a : Option Addr) (F : Nat → Nat) (ha : Sl w a n F) (R : Rt r c n) (hs : s < 2 ^ r) :
  Calls Tryz.prog 64 #[mv r c a n k, .int .u64 (s : Int)] w fun e w' => ∃ b : Bool, e = .returned (.tuple #[.bool b, .int .i64 0]) ∧ (b = true ↔ RS (m2 F r c) r s c) ∧ Below w.heap.size w w' := by
 have HC : Hid (∀ w' : World, Below w.heap.size w w' → Calls Tryz.prog 90 #[mv r c a n k, .int .u64 (s : Int)] w' fun e w'' => ∃ t : Nat, e = .returned (.tuple #[.int .i64 (t : Int), .int .i64 0]) ∧ RS (m2 F r c) r s t ∧ Below w'.heap.size w' w'') := fun w' hb => rRank_ok w' r c n k s a F (ha.later hb) R hs
 have HIff : Hid (∀ t, RS (m2 F r c) r s t → ((((t : Int) == (c : Int)) = true) ↔ RS (m2 F r c) r s c)) := fun t ht => by
  constructor
  ·intro h
   have h1 : t = c := by have := eq_of_beq h; omega
   rw [h1] at ht
   exact ht
  ·intro h
   have := ht.one (qaq ha.1 R) h
   rw [this]
   exact beq_self_eq_true _
 clear ha R hs
 go_enter Tryz.func64, Tryz.ntmps64
 go_wp2_with (go_at_call 90; refine (HC.out _ (qa1 _ _)).mono ?_; rintro e w1 ⟨t, rfl, ht, hb⟩; have HV1 := (Vr.new w (.int .i64 (r : Int)) (.int .i64 (c : Int)) (.slice a n k)).later hb; have v1 := HV1.c1; have HT : Hid (RS (m2 F r c) r s t) := ht; have HB1 : Hid (Below w.heap.size w w1) := qa0 (qa1 _ _) hb; clear hb ht HV1)
 go_ret2
 exact ⟨_, rfl, HIff.out t HT.out, HB1.out⟩
open Go.RowKit
theorem rone_ok (i T : Nat) (w : World) (hi : i < 64) (HT : Hid (2 ^ i = T)) :
  Calls Tryz.prog 69 #[.int .i64 (i : Int)] w fun e w' => e = .returned (.int .u64 (T : Int)) ∧ w = w' := by
 have hp2 : IntKind.u64.wrap (2 ^ i) = (T : Int) := by rw [← HT.out]; exact qis i hi
 clear HT
 go_enter Tryz.func69, Tryz.ntmps69
 go_wp2
 go_ret
 exact ⟨rfl, rfl⟩
theorem or_lt7 {s i r : Nat} (hs : s < 2 ^ r) (hi : i < r) : s ||| 2 ^ i < 2 ^ r := Nat.or_lt_two_pow hs (Nat.pow_lt_pow_right (by decide) hi)
theorem j_or7 {s T u i r : Nat} (hr : r ≤ 64) (hs : s < 2 ^ r) (hi : i < r) (hT : 2 ^ i = T) (hu : s ||| T = u) : bits .or .u64 (s : Int) (T : Int) = (u : Int) := by
 have h1 := qd2 (show i < 64 by omega)
 rw [u64_or_nat s T (qb2 hr hs) (by omega), hu]
theorem rBase_ok (w : World) (r c n k s : Nat) (a : Option Addr) (F : Nat → Nat) (ha : Sl w a n F) (R : Rt r c n) (hs : s < 2 ^ r) :
  Calls Tryz.prog 38 #[mv r c a n k, .int .u64 (s : Int)] w fun e w' => ∃ p : Nat, e = .returned (.tuple #[.int .u64 (p : Int), .int .i64 0]) ∧ BaS (m2 F r c) r s p ∧ Below w.heap.size w w' := by
 have hr := R.r64
 have hM := qaq ha.1 R
 have HA : Hid (Sl w a n F) := ha
 have HRt : Hid (Rt r c n) := R
 have HM : Hid (El2 (m2 F r c)) := hM
 have HS : Hid (s < 2 ^ r) := hs
 have hs6 := qb2 hr hs
 have HC : Hid (∀ w' : World, Calls Tryz.prog 67 #[mv r c a n k, .int .u64 (s : Int)] w' fun e w'' => e = .returned (.int .i64 0) ∧ Below w'.heap.size w' w'') := fun w' => qkt w' r c n k s a R hs
 clear ha R hM
 go_enter Tryz.func38, Tryz.ntmps38
 go_wp2_with (go_at_call 67; refine (HC.out _).mono ?_; rintro e w1 ⟨rfl, hb⟩; have HV1 : Hid (Vr w1 w.heap.size (.int .i64 (r : Int)) (.int .i64 (c : Int)) (.slice a n k)) := (Vr.new w (.int .i64 (r : Int)) (.int .i64 (c : Int)) (.slice a n k)).later hb; have HB1 : Hid (Below w.heap.size w w1) := qa0 (qa1 _ _) hb; clear hb)
 clear HC
 go_loopw [7, 8] (fun vz vi wr => ∃ i z : Nat, i ≤ r ∧ Hid (Bld (fun j => bt s j = 1 ∧ ¬ SS (m2 F r c) r (s % 2 ^ j) (m2 F r c j)) i z) ∧ vi = .int .i64 (i : Int) ∧ vz = .int .u64 (z : Int) ∧ Vr wr w.heap.size (.int .i64 (r : Int)) (.int .i64 (c : Int)) (.slice a n k) ∧ Below w.heap.size w wr) (fun _ vi _ => r - (intOf vi).toNat)
 case atStart => exact ⟨0, 0, by omega, Bld.start _, rfl, rfl, HV1.out, HB1.out⟩
 case round =>
  clear HV1 HB1
  obtain ⟨i, z, hi, HZ, rfl, rfl, hvr, hbr⟩ := hrel
  have HVr : Hid (Vr wr w.heap.size (.int .i64 (r : Int)) (.int .i64 (c : Int)) (.slice a n k)) := hvr
  have HBr : Hid (Below w.heap.size w wr) := hbr
  have v0 := hvr.c0
  have v1 := hvr.c1
  have v2 := hvr.c2
  clear hvr hbr
  by_cases hlt : i < r
  ·obtain ⟨T, hT⟩ : ∃ T, 2 ^ i = T := ⟨_, rfl⟩
   have hi6 : i < 64 := by omega
   have HOne : Hid (∀ w' : World, Calls Tryz.prog 69 #[.int .i64 (i : Int)] w' fun e w'' => e = .returned (.int .u64 (T : Int)) ∧ w' = w'') := fun w' => rone_ok i T w' hi6 hT
   have c0 : decide ((i : Int) < (r : Int)) = true := decide_eq_true (by omega)
   have c0' : decide (i < r) = true := decide_eq_true hlt
   have hp2 : IntKind.u64.wrap (2 ^ i) = (T : Int) := by rw [← hT]; exact qis i hi6
   obtain ⟨z', hz'⟩ : ∃ z', z ||| T = z' := ⟨_, rfl⟩
   have hzr : z < 2 ^ r := Nat.lt_of_lt_of_le HZ.out.1 (Nat.pow_le_pow_right (by decide) hi)
   have hor2 : bits .or .u64 (z : Int) (T : Int) = (z' : Int) := j_or7 hr hzr hlt hT hz'
   have HU : Hid (z ||| 2 ^ i = z') := by show _ = _; rw [hT, hz']
   have HRk : Hid (∀ w' : World, Below w.heap.size w w' → Calls Tryz.prog 68 #[mv r c a n k, .int .u64 (z' : Int)] w' fun e w'' => ∃ t : Nat, e = .returned (.int .i64 (t : Int)) ∧ RS (m2 F r c) r z' t ∧ Below w'.heap.size w' w'') := fun w' hb => qeg w' r c n k z' a F (HA.out.later hb) HRt.out (by rw [← HU.out]; exact or_lt7 hzr hlt)
   have HRz : Hid (∀ w' : World, Below w.heap.size w w' → Calls Tryz.prog 68 #[mv r c a n k, .int .u64 (z : Int)] w' fun e w'' => ∃ t : Nat, e = .returned (.int .i64 (t : Int)) ∧ RS (m2 F r c) r z t ∧ Below w'.heap.size w' w'') := fun w' hb => qeg w' r c n k z a F (HA.out.later hb) HRt.out hzr
   have HSp : Hid (SpEq (mk (m2 F r c) z) r (mk (m2 F r c) (s % 2 ^ i)) r) := by
    have h1 := (qks HM.out i hi HZ.out.2).2
    rw [Nat.mod_eq_of_lt HZ.out.1] at h1
    exact h1
   by_cases hbit : bt s i = 1
   ·have HBt : Hid (bt s i = 1) := hbit
    have hdb : decide (bt s i = 1) = true := decide_eq_true hbit
    have HHas : Hid (∀ w' : World, Calls Tryz.prog 39 #[.int .u64 (s : Int), .int .i64 (i : Int)] w' fun e w'' => e = .returned (.bool true) ∧ w' = w'') := fun w' => by rw [← hdb]; exact qdt s i w' hs6 hi6
    clear hs6 hzr hbit hdb
    go_wp2
    refine wp_region_held (S := fun w' => w'.cell? ⟨w.heap.size, 0, none⟩ = some (.int .i64 (r : Int)) ∧ w'.cell? ⟨w.heap.size, 1, none⟩ = some (.int .i64 (c : Int)) ∧ w'.cell? ⟨w.heap.size, 2, none⟩ = some (.slice a n k)) (by kernel_rfl) ?_
    change wpAnyH _ _ _ _ _ _ _ _ (World.drew _)
    obtain ⟨W0, HW0⟩ : ∃ W0, Hid (wr.drew = W0) := ⟨_, rfl⟩
    rw [HW0.out]
    have HV0 : Hid (Vr W0 w.heap.size (.int .i64 (r : Int)) (.int .i64 (c : Int)) (.slice a n k)) := by rw [← HW0.out]; exact HVr.out.later (Below.refl _ _).drew
    have HB0 : Hid (Below w.heap.size w W0) := by rw [← HW0.out]; exact qa0 HBr.out (Below.refl _ _).drew
    refine wtkq 0 ?vq21 rfl (by kernel_rfl) (fun _ _ _ h => h) (by rfl) ?yq21 ⟨HV0.out.c0, HV0.out.c1, HV0.out.c2⟩ ?zq21
    case yq21 => (intro w hSw; (try dsimp only at hSw); go_simp; try with_reducible rfl)
    try simp only [mz1, mz3, Act.put, mz4, mz5, mz6]
    refine wtkq 1 ?vq22 rfl (by kernel_rfl) (fun _ _ _ h => h) (by rfl) ?yq22 ⟨HV0.out.c0, HV0.out.c1, HV0.out.c2⟩ ?zq22
    case yq22 => (intro w hSw; (try dsimp only at hSw); go_simp; try with_reducible rfl)
    try simp only [mz1, mz2, mz3, Act.put, mz4, mz5, mz6]
    refine wpAnyH_ready (rs := [2]) (by kernel_rfl) (by simp) ?_
    refine AllReadyH.cons rfl (fun KK hKK => ?_) AllReadyH.nil
    go_simp
    refine (HHas.out _).mono ?_
    rintro e w' ⟨rfl, rfl⟩
    refine hKK.out _ _ ⟨HV0.out.c0, HV0.out.c1, HV0.out.c2⟩ (fun _ => ?_)
    clear hKK KK
    try simp only [mz1, mz2, mz3, Act.put, mz4, mz5, mz6]
    refine wtkq 3 ?vq23 rfl (by kernel_rfl) (fun _ _ _ h => h) (by rfl) ?yq23 ⟨HV0.out.c0, HV0.out.c1, HV0.out.c2⟩ ?zq23
    case yq23 => (intro w hSw; (try dsimp only at hSw); go_simp; try with_reducible rfl)
    try simp only [mz1, mz2, mz3, Act.put, mz4, mz5, mz6]
    refine wtkq 4 ?vq24 rfl (by kernel_rfl) (fun _ _ _ h => h) (by rfl) ?yq24 ⟨HV0.out.c0, HV0.out.c1, HV0.out.c2⟩ ?zq24
    case yq24 => (intro w hSw; (try dsimp only at hSw); go_simp; try with_reducible rfl)
    try simp only [mz1, mz2, mz3, Act.put, mz4, mz5, mz6]
    refine wtkq 5 ?vq25 rfl (by kernel_rfl) (fun _ _ _ h => h) (by rfl) ?yq25 ⟨HV0.out.c0, HV0.out.c1, HV0.out.c2⟩ ?zq25
    case yq25 => (intro w hSw; (try dsimp only at hSw); go_simp; try with_reducible rfl)
    try simp only [mz1, mz2, mz3, Act.put, mz4, mz5, mz6]
    refine wtkq 6 ?vq26 rfl (by kernel_rfl) (fun _ _ _ h => h) (by rfl) ?yq26 ⟨HV0.out.c0, HV0.out.c1, HV0.out.c2⟩ ?zq26
    case yq26 => (intro w hSw; (try dsimp only at hSw); go_simp; try with_reducible rfl)
    try simp only [mz1, mz2, mz3, Act.put, mz4, mz5, mz6]
    refine wtkq 10 ?vq27 rfl (by kernel_rfl) (fun _ _ _ h => h) (by rfl) ?yq27 ⟨HV0.out.c0, HV0.out.c1, HV0.out.c2⟩ ?zq27
    case yq27 => (intro w hSw; (try dsimp only at hSw); go_simp; try with_reducible rfl)
    try simp only [mz1, mz2, mz3, Act.put, mz4, mz5, mz6]
    refine wtkq 11 ?vq28 rfl (by kernel_rfl) (fun _ _ _ h => h) (by rfl) ?yq28 ⟨HV0.out.c0, HV0.out.c1, HV0.out.c2⟩ ?zq28
    case yq28 => (intro w hSw; (try dsimp only at hSw); go_simp; try with_reducible rfl)
    try simp only [mz1, mz2, mz3, Act.put, mz4, mz5, mz6]
    refine wpAnyH_ready (rs := [7]) (by kernel_rfl) (by simp) ?_
    refine AllReadyH.cons rfl (fun KK hKK => ?_) AllReadyH.nil
    go_simp
    refine (HOne.out _).mono ?_
    rintro e w' ⟨rfl, rfl⟩
    refine hKK.out _ _ ⟨HV0.out.c0, HV0.out.c1, HV0.out.c2⟩ (fun _ => ?_)
    clear hKK KK
    try simp only [mz1, mz2, mz3, Act.put, mz4, mz5, mz6]
    refine wtkq 8 ?vq29 rfl (by kernel_rfl) (fun _ _ _ h => h) (by rfl) ?yq29 ⟨HV0.out.c0, HV0.out.c1, HV0.out.c2⟩ ?zq29
    case yq29 => (intro w hSw; (try dsimp only at hSw); go_simp; try with_reducible rfl)
    try simp only [mz1, mz2, mz3, Act.put, mz4, mz5, mz6]
    refine wpAnyH_ready (rs := [9]) (by kernel_rfl) (by simp) ?_
    refine AllReadyH.cons rfl (fun KK hKK => ?_) AllReadyH.nil
    go_simp
    refine (HRk.out _ HB0.out).mono ?_
    rintro e w2 ⟨t2, rfl, ht2, hbw2⟩
    have HTt2 : Hid (RS (m2 F r c) r z' t2) := ht2
    have HBw2 : Hid (Below w.heap.size w w2) := qa0 HB0.out hbw2
    have HVw2 : Hid (Vr w2 w.heap.size (.int .i64 (r : Int)) (.int .i64 (c : Int)) (.slice a n k)) := HV0.out.later hbw2
    clear ht2 hbw2
    refine hKK.out _ _ ⟨HVw2.out.c0, HVw2.out.c1, HVw2.out.c2⟩ (fun _ => ?_)
    clear hKK KK
    try simp only [mz1, mz2, mz3, Act.put, mz4, mz5, mz6]
    refine wpAnyH_ready (rs := [12]) (by kernel_rfl) (by simp) ?_
    refine AllReadyH.cons rfl (fun KK hKK => ?_) AllReadyH.nil
    go_simp
    refine (HRz.out _ HBw2.out).mono ?_
    rintro e w3 ⟨t3, rfl, ht3, hbw3⟩
    have HTt3 : Hid (RS (m2 F r c) r z t3) := ht3
    have HBw3 : Hid (Below w.heap.size w w3) := qa0 HBw2.out hbw3
    have HVw3 : Hid (Vr w3 w.heap.size (.int .i64 (r : Int)) (.int .i64 (c : Int)) (.slice a n k)) := HVw2.out.later hbw3
    clear ht3 hbw3
    refine hKK.out _ _ ⟨HVw3.out.c0, HVw3.out.c1, HVw3.out.c2⟩ (fun _ => ?_)
    clear hKK KK
    try simp only [mz1, mz2, mz3, Act.put, mz4, mz5, mz6]
    refine wtkq 13 ?vq30 rfl (by kernel_rfl) (fun _ _ _ h => h) (by rfl) ?yq30 ⟨HVw3.out.c0, HVw3.out.c1, HVw3.out.c2⟩ ?zq30
    case yq30 => (intro w hSw; (try dsimp only at hSw); go_simp; try with_reducible rfl)
    try simp only [mz1, mz2, mz3, Act.put, mz4, mz5, mz6]
    refine wtkq 14 ?vq31 rfl (by kernel_rfl) (fun _ _ _ h => h) (by rfl) ?yq31 ⟨HVw3.out.c0, HVw3.out.c1, HVw3.out.c2⟩ ?zq31
    case yq31 => (intro w hSw; (try dsimp only at hSw); go_simp; try with_reducible rfl)
    try simp only [mz1, mz2, mz3, Act.put, mz4, mz5, mz6]
    refine wpAnyH_done (by kernel_rfl) ?_ _
    have v0' := HVw3.out.c0
    have hadd := RS.add HM.out hlt HTt3.out (by rw [HU.out]; exact HTt2.out)
    rcases hadd with ⟨hp, h3⟩ | ⟨hp, h3⟩
    ·have HP : Hid (¬ (bt s i = 1 ∧ ¬ SS (m2 F r c) r (s % 2 ^ i) (m2 F r c i))) := fun h => h.2 (Spn.trans hp HSp.out.1)
     have e9 : t3 = t2 := by omega
     subst e9
     have q1 : ¬ t3 < t3 := by omega
     clear hp h3
     go_wp2
     exact ⟨⟨i + 1, z, by omega, HZ.out.no HP.out, by go_num, rfl, HVw3.out, HBw3.out⟩, by simp [intOf]; omega⟩
    ·have HP : Hid (bt s i = 1 ∧ ¬ SS (m2 F r c) r (s % 2 ^ i) (m2 F r c i)) := ⟨HBt.out, fun h => hp (Spn.trans h HSp.out.2)⟩
     have q1 : t3 < t2 := by omega
     clear hp h3
     go_wp2
     exact ⟨⟨i + 1, z', by omega, (by rw [← hz', ← hT]; exact HZ.out.yes HP.out), by go_num, by go_num, HVw3.out, HBw3.out⟩, by simp [intOf]; omega⟩
   ·have hdb : decide (bt s i = 1) = false := decide_eq_false hbit
    have HP : Hid (¬ (bt s i = 1 ∧ ¬ SS (m2 F r c) r (s % 2 ^ i) (m2 F r c i))) := fun h => hbit h.1
    have HHas : Hid (∀ w' : World, Calls Tryz.prog 39 #[.int .u64 (s : Int), .int .i64 (i : Int)] w' fun e w'' => e = .returned (.bool false) ∧ w' = w'') := fun w' => by rw [← hdb]; exact qdt s i w' hs6 hi6
    clear hs6 hzr hbit hdb
    go_wp2
    refine wp_region_held (S := fun w' => w'.cell? ⟨w.heap.size, 0, none⟩ = some (.int .i64 (r : Int)) ∧ w'.cell? ⟨w.heap.size, 1, none⟩ = some (.int .i64 (c : Int)) ∧ w'.cell? ⟨w.heap.size, 2, none⟩ = some (.slice a n k)) (by kernel_rfl) ?_
    change wpAnyH _ _ _ _ _ _ _ _ (World.drew _)
    obtain ⟨W0, HW0⟩ : ∃ W0, Hid (wr.drew = W0) := ⟨_, rfl⟩
    rw [HW0.out]
    have HV0 : Hid (Vr W0 w.heap.size (.int .i64 (r : Int)) (.int .i64 (c : Int)) (.slice a n k)) := by rw [← HW0.out]; exact HVr.out.later (Below.refl _ _).drew
    have HB0 : Hid (Below w.heap.size w W0) := by rw [← HW0.out]; exact qa0 HBr.out (Below.refl _ _).drew
    refine wtkq 0 ?vq32 rfl (by kernel_rfl) (fun _ _ _ h => h) (by rfl) ?yq32 ⟨HV0.out.c0, HV0.out.c1, HV0.out.c2⟩ ?zq32
    case yq32 => (intro w hSw; (try dsimp only at hSw); go_simp; try with_reducible rfl)
    try simp only [mz1, mz3, Act.put, mz4, mz5, mz6]
    refine wtkq 1 ?vq33 rfl (by kernel_rfl) (fun _ _ _ h => h) (by rfl) ?yq33 ⟨HV0.out.c0, HV0.out.c1, HV0.out.c2⟩ ?zq33
    case yq33 => (intro w hSw; (try dsimp only at hSw); go_simp; try with_reducible rfl)
    try simp only [mz1, mz2, mz3, Act.put, mz4, mz5, mz6]
    refine wpAnyH_ready (rs := [2]) (by kernel_rfl) (by simp) ?_
    refine AllReadyH.cons rfl (fun KK hKK => ?_) AllReadyH.nil
    go_simp
    refine (HHas.out _).mono ?_
    rintro e w' ⟨rfl, rfl⟩
    refine hKK.out _ _ ⟨HV0.out.c0, HV0.out.c1, HV0.out.c2⟩ (fun _ => ?_)
    clear hKK KK
    try simp only [mz1, mz2, mz3, Act.put, mz4, mz5, mz6]
    refine wtkq 3 ?vq34 rfl (by kernel_rfl) (fun _ _ _ h => h) (by rfl) ?yq34 ⟨HV0.out.c0, HV0.out.c1, HV0.out.c2⟩ ?zq34
    case yq34 => (intro w hSw; (try dsimp only at hSw); go_simp; try with_reducible rfl)
    try simp only [mz1, mz2, mz3, Act.put, mz4, mz5, mz6]
    refine wskq 4 rfl (by kernel_rfl) (fun _ _ _ h => h) (by rfl) ⟨HV0.out.c0, HV0.out.c1, HV0.out.c2⟩ ?_
    try simp only [mz1, mz2, mz3, Act.put, mz4, mz5, mz6]
    refine wskq 5 rfl (by kernel_rfl) (fun _ _ _ h => h) (by rfl) ⟨HV0.out.c0, HV0.out.c1, HV0.out.c2⟩ ?_
    try simp only [mz1, mz2, mz3, Act.put, mz4, mz5, mz6]
    refine wskq 6 rfl (by kernel_rfl) (fun _ _ _ h => h) (by rfl) ⟨HV0.out.c0, HV0.out.c1, HV0.out.c2⟩ ?_
    try simp only [mz1, mz2, mz3, Act.put, mz4, mz5, mz6]
    refine wskq 7 rfl (by kernel_rfl) (fun _ _ _ h => h) (by rfl) ⟨HV0.out.c0, HV0.out.c1, HV0.out.c2⟩ ?_
    try simp only [mz1, mz2, mz3, Act.put, mz4, mz5, mz6]
    refine wskq 8 rfl (by kernel_rfl) (fun _ _ _ h => h) (by rfl) ⟨HV0.out.c0, HV0.out.c1, HV0.out.c2⟩ ?_
    try simp only [mz1, mz2, mz3, Act.put, mz4, mz5, mz6]
    refine wskq 9 rfl (by kernel_rfl) (fun _ _ _ h => h) (by rfl) ⟨HV0.out.c0, HV0.out.c1, HV0.out.c2⟩ ?_
    try simp only [mz1, mz2, mz3, Act.put, mz4, mz5, mz6]
    refine wskq 10 rfl (by kernel_rfl) (fun _ _ _ h => h) (by rfl) ⟨HV0.out.c0, HV0.out.c1, HV0.out.c2⟩ ?_
    try simp only [mz1, mz2, mz3, Act.put, mz4, mz5, mz6]
    refine wskq 11 rfl (by kernel_rfl) (fun _ _ _ h => h) (by rfl) ⟨HV0.out.c0, HV0.out.c1, HV0.out.c2⟩ ?_
    try simp only [mz1, mz2, mz3, Act.put, mz4, mz5, mz6]
    refine wskq 12 rfl (by kernel_rfl) (fun _ _ _ h => h) (by rfl) ⟨HV0.out.c0, HV0.out.c1, HV0.out.c2⟩ ?_
    try simp only [mz1, mz2, mz3, Act.put, mz4, mz5, mz6]
    refine wskq 13 rfl (by kernel_rfl) (fun _ _ _ h => h) (by rfl) ⟨HV0.out.c0, HV0.out.c1, HV0.out.c2⟩ ?_
    try simp only [mz1, mz2, mz3, Act.put, mz4, mz5, mz6]
    refine wtkq 14 ?vq35 rfl (by kernel_rfl) (fun _ _ _ h => h) (by rfl) ?yq35 ⟨HV0.out.c0, HV0.out.c1, HV0.out.c2⟩ ?zq35
    case yq35 => (intro w hSw; (try dsimp only at hSw); go_simp; try with_reducible rfl)
    try simp only [mz1, mz2, mz3, Act.put, mz4, mz5, mz6]
    refine wpAnyH_done (by kernel_rfl) ?_ _
    have v0' := HV0.out.c0
    go_wp2
    exact ⟨⟨i + 1, z, by omega, HZ.out.no HP.out, by go_num, rfl, HV0.out, HB0.out⟩, by simp [intOf]; omega⟩
  ·obtain rfl : i = r := by omega
   have c0 : decide ((i : Int) < (i : Int)) = false := decide_eq_false (by omega)
   have c0' : decide (i < i) = false := decide_eq_false hlt
   go_wp2
   go_ret2
   exact ⟨z, rfl, HZ.out, HBr.out⟩
end Go.Proofs.YtokdejhbjoglcaaGreat
