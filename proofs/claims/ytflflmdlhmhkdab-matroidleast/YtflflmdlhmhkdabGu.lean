/-
  Contracts of the rows' reference: Span, Basis, Needed.
  Contract of the rows' reference: Circuit.
  Contracts of the rows' reference: the errors of Span, Basis, Needed, Circuit.
-/
import Derived.Test.YtflflmdlhmhkdabGt
namespace Go.Proofs.Ytflflmdlhmhkdab
open Go.RowKit
set_option maxRecDepth 20000 in
set_option maxHeartbeats 400000 in
theorem rone_ok (i T : Nat) (w : World) (hi : i < 64) (HT : Hid (2 ^ i = T)) :
    Calls Try.prog 24 #[.int .i64 (i : Int)] w fun e w' => e = .returned (.int .u64 (T : Int)) ∧ w = w' := by
  have hp2 : IntKind.u64.wrap (2 ^ i) = (T : Int) := by rw [← HT.out]; exact j_pow i hi
  clear HT
  go_enter Try.func24, Try.ntmps24
  go_wp2
  go_ret
  exact ⟨rfl, rfl⟩
theorem or_lt7 {s i r : Nat} (hs : s < 2 ^ r) (hi : i < r) : s ||| 2 ^ i < 2 ^ r := Nat.or_lt_two_pow hs (Nat.pow_lt_pow_right (by decide) hi)
theorem j_or7 {s T u i r : Nat} (hr : r ≤ 64) (hs : s < 2 ^ r) (hi : i < r) (hT : 2 ^ i = T) (hu : s ||| T = u) : bits .or .u64 (s : Int) (T : Int) = (u : Int) := by
  have h1 := j_pow_lt (show i < 64 by omega)
  rw [u64_or_nat s T (lt_64 hr hs) (by omega), hu]
theorem j_rem7 {s T u i r : Nat} (hr : r ≤ 64) (hs : s < 2 ^ r) (hi : i < r) (hT : 2 ^ i = T) (hu : rem s i = u) : bits .andNot .u64 (s : Int) (T : Int) = (u : Int) := by
  have h1 := j_pow_lt (show i < 64 by omega)
  rw [u64_andNot_nat s T (lt_64 hr hs) (by omega), ← hu, ← hT]
  rfl
theorem rem_lt7 {s i r : Nat} (hs : s < 2 ^ r) : rem s i < 2 ^ r := Nat.lt_of_le_of_lt Nat.and_le_left hs
theorem rem_back {s i r : Nat} (hr : r ≤ 64) (hs : s < 2 ^ r) (hi : i < r) (hb : bt s i = 1) : ∀ j, j < r → (bt (rem s i ||| 2 ^ i) j = 1 ↔ bt s j = 1) := fun j _ => by
  rw [bt_or, bt_pow, bt_rem (lt_64 hr hs) (by omega)]
  constructor
  · rintro (h | h)
    · exact h.1
    · rw [h]; exact hb
  · intro h
    by_cases e : j = i
    · exact .inr e
    · exact .inl ⟨h, e⟩
/-- The rows without which the rank of the others is less. -/
def NeS (M : Nat → Nat → Nat) (R s p : Nat) : Prop := Bld (fun i => bt s i = 1 ∧ ¬ SS M R (rem s i) (M i)) R p
set_option maxRecDepth 20000 in
set_option maxHeartbeats 2000000 in
theorem rSpan_ok (w : World) (r c n k s : Nat) (a : Option Addr) (F : Nat → Nat) (ha : Sl w a n F) (R : Rt r c n) (hs : s < 2 ^ r) :
    Calls Try.prog 10 #[mv r c a n k, .int .u64 (s : Int)] w fun e w' => ∃ p : Nat, e = .returned (.tuple #[.int .u64 (p : Int), .int .i64 0]) ∧ SpS (m2 F r c) r s p ∧ Below w.heap.size w w' := by
  have hr := R.r64
  have hM := m2_el ha.1 R
  have HA : Hid (Sl w a n F) := ha
  have HRt : Hid (Rt r c n) := R
  have HM : Hid (El2 (m2 F r c)) := hM
  have HS : Hid (s < 2 ^ r) := hs
  have hs6 := lt_64 hr hs
  have HC : Hid (∀ w' : World, Below w.heap.size w w' → Calls Try.prog 21 #[mv r c a n k, .int .u64 (s : Int)] w' fun e w'' => ∃ t : Nat, e = .returned (.tuple #[.int .i64 (t : Int), .int .i64 0]) ∧ RS (m2 F r c) r s t ∧ Below w'.heap.size w' w'') := fun w' hb => rRank_ok w' r c n k s a F (ha.later hb) R hs
  clear ha R hM
  go_enter Try.func10, Try.ntmps10
  go_wp2_with (go_at_call 21; refine (HC.out _ (alloc_low _ _)).mono ?_; rintro e w1 ⟨t, rfl, ht, hb⟩; have HT1 : Hid (RS (m2 F r c) r s t) := ht; have HV1 : Hid (Vr w1 w.heap.size (.int .i64 (r : Int)) (.int .i64 (c : Int)) (.slice a n k)) := (Vr.new w (.int .i64 (r : Int)) (.int .i64 (c : Int)) (.slice a n k)).later hb; have HB1 : Hid (Below w.heap.size w w1) := two_below (alloc_low _ _) hb; clear hb ht)
  clear HC
  go_loopw [8, 9] (fun vz vi wr => ∃ i z : Nat, i ≤ r ∧ Hid (Bld (fun j => SS (m2 F r c) r s (m2 F r c j)) i z) ∧ vi = .int .i64 (i : Int) ∧ vz = .int .u64 (z : Int) ∧ Vr wr w.heap.size (.int .i64 (r : Int)) (.int .i64 (c : Int)) (.slice a n k) ∧ Below w.heap.size w wr) (fun _ vi _ => r - (intOf vi).toNat)
  case atStart => exact ⟨0, 0, by omega, Bld.start _, rfl, rfl, HV1.out, HB1.out⟩
  case round =>
    clear HV1 HB1
    obtain ⟨i, z, hi, HZ, rfl, rfl, hvr, hbr⟩ := hrel
    have HVr : Hid (Vr wr w.heap.size (.int .i64 (r : Int)) (.int .i64 (c : Int)) (.slice a n k)) := hvr
    have HBr : Hid (Below w.heap.size w wr) := hbr
    have v0 := hvr.c0
    have v1 := hvr.c1
    have v2 := hvr.c2
    clear hvr hbr
    by_cases hlt : i < r
    · obtain ⟨T, hT⟩ : ∃ T, 2 ^ i = T := ⟨_, rfl⟩
      have hi6 : i < 64 := by omega
      have HOne : Hid (∀ w' : World, Calls Try.prog 24 #[.int .i64 (i : Int)] w' fun e w'' => e = .returned (.int .u64 (T : Int)) ∧ w' = w'') := fun w' => rone_ok i T w' hi6 hT
      have c0 : decide ((i : Int) < (r : Int)) = true := decide_eq_true (by omega)
      have c0' : decide (i < r) = true := decide_eq_true hlt
      have hp2 : IntKind.u64.wrap (2 ^ i) = (T : Int) := by rw [← hT]; exact j_pow i hi6
      obtain ⟨z', hz'⟩ : ∃ z', z ||| T = z' := ⟨_, rfl⟩
      have hzr : z < 2 ^ r := Nat.lt_of_lt_of_le HZ.out.1 (Nat.pow_le_pow_right (by decide) hi)
      have hor2 : bits .or .u64 (z : Int) (T : Int) = (z' : Int) := j_or7 hr hzr hlt hT hz'
      obtain ⟨u, hu⟩ : ∃ u, s ||| T = u := ⟨_, rfl⟩
      have hor : bits .or .u64 (s : Int) (T : Int) = (u : Int) := j_or7 hr hs hlt hT hu
      have HU : Hid (s ||| 2 ^ i = u) := by show _ = _; rw [hT, hu]
      have HRk : Hid (∀ w' : World, Below w.heap.size w w' → Calls Try.prog 23 #[mv r c a n k, .int .u64 (u : Int)] w' fun e w'' => ∃ t : Nat, e = .returned (.int .i64 (t : Int)) ∧ RS (m2 F r c) r u t ∧ Below w'.heap.size w' w'') := fun w' hb => rrank7_ok w' r c n k u a F (HA.out.later hb) HRt.out (by rw [← HU.out]; exact or_lt7 hs hlt)
      clear hs6 hzr hu
      go_wp2
      refine wp_region_held (S := fun w' => w'.cell? ⟨w.heap.size, 0, none⟩ = some (.int .i64 (r : Int)) ∧ w'.cell? ⟨w.heap.size, 1, none⟩ = some (.int .i64 (c : Int)) ∧ w'.cell? ⟨w.heap.size, 2, none⟩ = some (.slice a n k)) (by kernel_rfl) ?_
      change wpAnyH _ _ _ _ _ _ _ _ (World.drew _)
      obtain ⟨W0, HW0⟩ : ∃ W0, Hid (wr.drew = W0) := ⟨_, rfl⟩
      rw [HW0.out]
      have HV0 : Hid (Vr W0 w.heap.size (.int .i64 (r : Int)) (.int .i64 (c : Int)) (.slice a n k)) := by rw [← HW0.out]; exact HVr.out.later (Below.refl _ _).drew
      have HB0 : Hid (Below w.heap.size w W0) := by rw [← HW0.out]; exact two_below HBr.out (Below.refl _ _).drew
      refine wpAnyH_take (i := 0) (v := ?vq1) rfl (by kernel_rfl) (by kernel_rfl) (by kernel_rfl) (fun _ _ _ h => h) (Or.inl ⟨by rfl, ?yq1⟩) ⟨HV0.out.c0, HV0.out.c1, HV0.out.c2⟩ ?zq1
      case yq1 => (intro w hSw; (try dsimp only at hSw); go_simp; try with_reducible rfl)
      try simp only [List.getElem_toArray, List.getElem_cons_zero, Act.put, List.setIfInBounds_toArray, List.set_cons_zero, List.set_cons_succ]
      refine wpAnyH_take (i := 1) (v := ?vq2) rfl (by kernel_rfl) (by kernel_rfl) (by kernel_rfl) (fun _ _ _ h => h) (Or.inl ⟨by rfl, ?yq2⟩) ⟨HV0.out.c0, HV0.out.c1, HV0.out.c2⟩ ?zq2
      case yq2 => (intro w hSw; (try dsimp only at hSw); go_simp; try with_reducible rfl)
      try simp only [List.getElem_toArray, List.getElem_cons_succ, List.getElem_cons_zero, Act.put, List.setIfInBounds_toArray, List.set_cons_zero, List.set_cons_succ]
      refine wpAnyH_take (i := 2) (v := ?vq3) rfl (by kernel_rfl) (by kernel_rfl) (by kernel_rfl) (fun _ _ _ h => h) (Or.inl ⟨by rfl, ?yq3⟩) ⟨HV0.out.c0, HV0.out.c1, HV0.out.c2⟩ ?zq3
      case yq3 => (intro w hSw; (try dsimp only at hSw); go_simp; try with_reducible rfl)
      try simp only [List.getElem_toArray, List.getElem_cons_succ, List.getElem_cons_zero, Act.put, List.setIfInBounds_toArray, List.set_cons_zero, List.set_cons_succ]
      refine wpAnyH_take (i := 6) (v := ?vq4) rfl (by kernel_rfl) (by kernel_rfl) (by kernel_rfl) (fun _ _ _ h => h) (Or.inl ⟨by rfl, ?yq4⟩) ⟨HV0.out.c0, HV0.out.c1, HV0.out.c2⟩ ?zq4
      case yq4 => (intro w hSw; (try dsimp only at hSw); go_simp; try with_reducible rfl)
      try simp only [List.getElem_toArray, List.getElem_cons_succ, List.getElem_cons_zero, Act.put, List.setIfInBounds_toArray, List.set_cons_zero, List.set_cons_succ]
      refine wpAnyH_ready (rs := [3]) (by kernel_rfl) (by simp) ?_
      refine AllReadyH.cons rfl (fun KK hKK => ?_) AllReadyH.nil
      go_simp
      refine (HOne.out _).mono ?_
      rintro e w' ⟨rfl, rfl⟩
      refine hKK.out _ _ ⟨HV0.out.c0, HV0.out.c1, HV0.out.c2⟩ (fun _ => ?_)
      clear hKK KK
      try simp only [List.getElem_toArray, List.getElem_cons_succ, List.getElem_cons_zero, Act.put, List.setIfInBounds_toArray, List.set_cons_zero, List.set_cons_succ]
      refine wpAnyH_take (i := 4) (v := ?vq5) rfl (by kernel_rfl) (by kernel_rfl) (by kernel_rfl) (fun _ _ _ h => h) (Or.inl ⟨by rfl, ?yq5⟩) ⟨HV0.out.c0, HV0.out.c1, HV0.out.c2⟩ ?zq5
      case yq5 => (intro w hSw; (try dsimp only at hSw); go_simp; try with_reducible rfl)
      try simp only [List.getElem_toArray, List.getElem_cons_succ, List.getElem_cons_zero, Act.put, List.setIfInBounds_toArray, List.set_cons_zero, List.set_cons_succ]
      refine wpAnyH_ready (rs := [5]) (by kernel_rfl) (by simp) ?_
      refine AllReadyH.cons rfl (fun KK hKK => ?_) AllReadyH.nil
      go_simp
      refine (HRk.out _ HB0.out).mono ?_
      rintro e w2 ⟨t2, rfl, ht2, hbw2⟩
      have HTt2 : Hid (RS (m2 F r c) r u t2) := ht2
      have HBw2 : Hid (Below w.heap.size w w2) := two_below HB0.out hbw2
      have HVw2 : Hid (Vr w2 w.heap.size (.int .i64 (r : Int)) (.int .i64 (c : Int)) (.slice a n k)) := HV0.out.later hbw2
      clear ht2 hbw2
      refine hKK.out _ _ ⟨HVw2.out.c0, HVw2.out.c1, HVw2.out.c2⟩ (fun _ => ?_)
      clear hKK KK
      try simp only [List.getElem_toArray, List.getElem_cons_succ, List.getElem_cons_zero, Act.put, List.setIfInBounds_toArray, List.set_cons_zero, List.set_cons_succ]
      refine wpAnyH_take (i := 7) (v := ?vq6) rfl (by kernel_rfl) (by kernel_rfl) (by kernel_rfl) (fun _ _ _ h => h) (Or.inl ⟨by rfl, ?yq6⟩) ⟨HVw2.out.c0, HVw2.out.c1, HVw2.out.c2⟩ ?zq6
      case yq6 => (intro w hSw; (try dsimp only at hSw); go_simp; try with_reducible rfl)
      try simp only [List.getElem_toArray, List.getElem_cons_succ, List.getElem_cons_zero, Act.put, List.setIfInBounds_toArray, List.set_cons_zero, List.set_cons_succ]
      refine wpAnyH_done (by kernel_rfl) ?_ _
      have v0' := HVw2.out.c0
      have hadd := RS.add HM.out hlt HT1.out (by rw [HU.out]; exact HTt2.out)
      rcases hadd with ⟨hp, rfl⟩ | ⟨hp, rfl⟩
      · have HP : Hid (SS (m2 F r c) r s (m2 F r c i)) := hp
        clear hp
        go_wp2
        exact ⟨⟨i + 1, z', by omega, (by rw [← hz', ← hT]; exact HZ.out.yes HP.out), by go_num, by go_num, HVw2.out, HBw2.out⟩, by simp [intOf]; omega⟩
      · have HP : Hid (¬ SS (m2 F r c) r s (m2 F r c i)) := hp
        have q0 : (((t + 1 : Nat) : Int) == (t : Int)) = false := by simp only [beq_eq_false_iff_ne, ne_eq]; omega
        have q1 : ((t : Int) + 1 == (t : Int)) = false := by simp only [beq_eq_false_iff_ne, ne_eq]; omega
        clear hp
        go_wp2
        exact ⟨⟨i + 1, z, by omega, HZ.out.no HP.out, by go_num, rfl, HVw2.out, HBw2.out⟩, by simp [intOf]; omega⟩
    · obtain rfl : i = r := by omega
      have c0 : decide ((i : Int) < (i : Int)) = false := decide_eq_false (by omega)
      have c0' : decide (i < i) = false := decide_eq_false hlt
      go_wp2
      go_ret2
      exact ⟨z, rfl, HZ.out, HBr.out⟩
set_option maxRecDepth 20000 in
set_option maxHeartbeats 2000000 in
theorem rBase_ok (w : World) (r c n k s : Nat) (a : Option Addr) (F : Nat → Nat) (ha : Sl w a n F) (R : Rt r c n) (hs : s < 2 ^ r) :
    Calls Try.prog 8 #[mv r c a n k, .int .u64 (s : Int)] w fun e w' => ∃ p : Nat, e = .returned (.tuple #[.int .u64 (p : Int), .int .i64 0]) ∧ BaS (m2 F r c) r s p ∧ Below w.heap.size w w' := by
  have hr := R.r64
  have hM := m2_el ha.1 R
  have HA : Hid (Sl w a n F) := ha
  have HRt : Hid (Rt r c n) := R
  have HM : Hid (El2 (m2 F r c)) := hM
  have HS : Hid (s < 2 ^ r) := hs
  have hs6 := lt_64 hr hs
  have HC : Hid (∀ w' : World, Calls Try.prog 22 #[mv r c a n k, .int .u64 (s : Int)] w' fun e w'' => e = .returned (.int .i64 0) ∧ Below w'.heap.size w' w'') := fun w' => rbad_ok w' r c n k s a R hs
  clear ha R hM
  go_enter Try.func8, Try.ntmps8
  go_wp2_with (go_at_call 22; refine (HC.out _).mono ?_; rintro e w1 ⟨rfl, hb⟩; have HV1 : Hid (Vr w1 w.heap.size (.int .i64 (r : Int)) (.int .i64 (c : Int)) (.slice a n k)) := (Vr.new w (.int .i64 (r : Int)) (.int .i64 (c : Int)) (.slice a n k)).later hb; have HB1 : Hid (Below w.heap.size w w1) := two_below (alloc_low _ _) hb; clear hb)
  clear HC
  go_loopw [7, 8] (fun vz vi wr => ∃ i z : Nat, i ≤ r ∧ Hid (Bld (fun j => bt s j = 1 ∧ ¬ SS (m2 F r c) r (s % 2 ^ j) (m2 F r c j)) i z) ∧ vi = .int .i64 (i : Int) ∧ vz = .int .u64 (z : Int) ∧ Vr wr w.heap.size (.int .i64 (r : Int)) (.int .i64 (c : Int)) (.slice a n k) ∧ Below w.heap.size w wr) (fun _ vi _ => r - (intOf vi).toNat)
  case atStart => exact ⟨0, 0, by omega, Bld.start _, rfl, rfl, HV1.out, HB1.out⟩
  case round =>
    clear HV1 HB1
    obtain ⟨i, z, hi, HZ, rfl, rfl, hvr, hbr⟩ := hrel
    have HVr : Hid (Vr wr w.heap.size (.int .i64 (r : Int)) (.int .i64 (c : Int)) (.slice a n k)) := hvr
    have HBr : Hid (Below w.heap.size w wr) := hbr
    have v0 := hvr.c0
    have v1 := hvr.c1
    have v2 := hvr.c2
    clear hvr hbr
    by_cases hlt : i < r
    · obtain ⟨T, hT⟩ : ∃ T, 2 ^ i = T := ⟨_, rfl⟩
      have hi6 : i < 64 := by omega
      have HOne : Hid (∀ w' : World, Calls Try.prog 24 #[.int .i64 (i : Int)] w' fun e w'' => e = .returned (.int .u64 (T : Int)) ∧ w' = w'') := fun w' => rone_ok i T w' hi6 hT
      have c0 : decide ((i : Int) < (r : Int)) = true := decide_eq_true (by omega)
      have c0' : decide (i < r) = true := decide_eq_true hlt
      have hp2 : IntKind.u64.wrap (2 ^ i) = (T : Int) := by rw [← hT]; exact j_pow i hi6
      obtain ⟨z', hz'⟩ : ∃ z', z ||| T = z' := ⟨_, rfl⟩
      have hzr : z < 2 ^ r := Nat.lt_of_lt_of_le HZ.out.1 (Nat.pow_le_pow_right (by decide) hi)
      have hor2 : bits .or .u64 (z : Int) (T : Int) = (z' : Int) := j_or7 hr hzr hlt hT hz'
      have HU : Hid (z ||| 2 ^ i = z') := by show _ = _; rw [hT, hz']
      have HRk : Hid (∀ w' : World, Below w.heap.size w w' → Calls Try.prog 23 #[mv r c a n k, .int .u64 (z' : Int)] w' fun e w'' => ∃ t : Nat, e = .returned (.int .i64 (t : Int)) ∧ RS (m2 F r c) r z' t ∧ Below w'.heap.size w' w'') := fun w' hb => rrank7_ok w' r c n k z' a F (HA.out.later hb) HRt.out (by rw [← HU.out]; exact or_lt7 hzr hlt)
      have HRz : Hid (∀ w' : World, Below w.heap.size w w' → Calls Try.prog 23 #[mv r c a n k, .int .u64 (z : Int)] w' fun e w'' => ∃ t : Nat, e = .returned (.int .i64 (t : Int)) ∧ RS (m2 F r c) r z t ∧ Below w'.heap.size w' w'') := fun w' hb => rrank7_ok w' r c n k z a F (HA.out.later hb) HRt.out hzr
      have HSp : Hid (SpEq (mk (m2 F r c) z) r (mk (m2 F r c) (s % 2 ^ i)) r) := by
        have h1 := (bas_low HM.out i hi HZ.out.2).2
        rw [Nat.mod_eq_of_lt HZ.out.1] at h1
        exact h1
      by_cases hbit : bt s i = 1
      · have HBt : Hid (bt s i = 1) := hbit
        have hdb : decide (bt s i = 1) = true := decide_eq_true hbit
        have HHas : Hid (∀ w' : World, Calls Try.prog 11 #[.int .u64 (s : Int), .int .i64 (i : Int)] w' fun e w'' => e = .returned (.bool true) ∧ w' = w'') := fun w' => by rw [← hdb]; exact jrhas_ok s i w' hs6 hi6
        clear hs6 hzr hbit hdb
        go_wp2
        refine wp_region_held (S := fun w' => w'.cell? ⟨w.heap.size, 0, none⟩ = some (.int .i64 (r : Int)) ∧ w'.cell? ⟨w.heap.size, 1, none⟩ = some (.int .i64 (c : Int)) ∧ w'.cell? ⟨w.heap.size, 2, none⟩ = some (.slice a n k)) (by kernel_rfl) ?_
        change wpAnyH _ _ _ _ _ _ _ _ (World.drew _)
        obtain ⟨W0, HW0⟩ : ∃ W0, Hid (wr.drew = W0) := ⟨_, rfl⟩
        rw [HW0.out]
        have HV0 : Hid (Vr W0 w.heap.size (.int .i64 (r : Int)) (.int .i64 (c : Int)) (.slice a n k)) := by rw [← HW0.out]; exact HVr.out.later (Below.refl _ _).drew
        have HB0 : Hid (Below w.heap.size w W0) := by rw [← HW0.out]; exact two_below HBr.out (Below.refl _ _).drew
        refine wpAnyH_take (i := 0) (v := ?vq21) rfl (by kernel_rfl) (by kernel_rfl) (by kernel_rfl) (fun _ _ _ h => h) (Or.inl ⟨by rfl, ?yq21⟩) ⟨HV0.out.c0, HV0.out.c1, HV0.out.c2⟩ ?zq21
        case yq21 => (intro w hSw; (try dsimp only at hSw); go_simp; try with_reducible rfl)
        try simp only [List.getElem_toArray, List.getElem_cons_zero, Act.put, List.setIfInBounds_toArray, List.set_cons_zero, List.set_cons_succ]
        refine wpAnyH_take (i := 1) (v := ?vq22) rfl (by kernel_rfl) (by kernel_rfl) (by kernel_rfl) (fun _ _ _ h => h) (Or.inl ⟨by rfl, ?yq22⟩) ⟨HV0.out.c0, HV0.out.c1, HV0.out.c2⟩ ?zq22
        case yq22 => (intro w hSw; (try dsimp only at hSw); go_simp; try with_reducible rfl)
        try simp only [List.getElem_toArray, List.getElem_cons_succ, List.getElem_cons_zero, Act.put, List.setIfInBounds_toArray, List.set_cons_zero, List.set_cons_succ]
        refine wpAnyH_ready (rs := [2]) (by kernel_rfl) (by simp) ?_
        refine AllReadyH.cons rfl (fun KK hKK => ?_) AllReadyH.nil
        go_simp
        refine (HHas.out _).mono ?_
        rintro e w' ⟨rfl, rfl⟩
        refine hKK.out _ _ ⟨HV0.out.c0, HV0.out.c1, HV0.out.c2⟩ (fun _ => ?_)
        clear hKK KK
        try simp only [List.getElem_toArray, List.getElem_cons_succ, List.getElem_cons_zero, Act.put, List.setIfInBounds_toArray, List.set_cons_zero, List.set_cons_succ]
        refine wpAnyH_take (i := 3) (v := ?vq23) rfl (by kernel_rfl) (by kernel_rfl) (by kernel_rfl) (fun _ _ _ h => h) (Or.inl ⟨by rfl, ?yq23⟩) ⟨HV0.out.c0, HV0.out.c1, HV0.out.c2⟩ ?zq23
        case yq23 => (intro w hSw; (try dsimp only at hSw); go_simp; try with_reducible rfl)
        try simp only [List.getElem_toArray, List.getElem_cons_succ, List.getElem_cons_zero, Act.put, List.setIfInBounds_toArray, List.set_cons_zero, List.set_cons_succ]
        refine wpAnyH_take (i := 4) (v := ?vq24) rfl (by kernel_rfl) (by kernel_rfl) (by kernel_rfl) (fun _ _ _ h => h) (Or.inl ⟨by rfl, ?yq24⟩) ⟨HV0.out.c0, HV0.out.c1, HV0.out.c2⟩ ?zq24
        case yq24 => (intro w hSw; (try dsimp only at hSw); go_simp; try with_reducible rfl)
        try simp only [List.getElem_toArray, List.getElem_cons_succ, List.getElem_cons_zero, Act.put, List.setIfInBounds_toArray, List.set_cons_zero, List.set_cons_succ]
        refine wpAnyH_take (i := 5) (v := ?vq25) rfl (by kernel_rfl) (by kernel_rfl) (by kernel_rfl) (fun _ _ _ h => h) (Or.inl ⟨by rfl, ?yq25⟩) ⟨HV0.out.c0, HV0.out.c1, HV0.out.c2⟩ ?zq25
        case yq25 => (intro w hSw; (try dsimp only at hSw); go_simp; try with_reducible rfl)
        try simp only [List.getElem_toArray, List.getElem_cons_succ, List.getElem_cons_zero, Act.put, List.setIfInBounds_toArray, List.set_cons_zero, List.set_cons_succ]
        refine wpAnyH_take (i := 6) (v := ?vq26) rfl (by kernel_rfl) (by kernel_rfl) (by kernel_rfl) (fun _ _ _ h => h) (Or.inl ⟨by rfl, ?yq26⟩) ⟨HV0.out.c0, HV0.out.c1, HV0.out.c2⟩ ?zq26
        case yq26 => (intro w hSw; (try dsimp only at hSw); go_simp; try with_reducible rfl)
        try simp only [List.getElem_toArray, List.getElem_cons_succ, List.getElem_cons_zero, Act.put, List.setIfInBounds_toArray, List.set_cons_zero, List.set_cons_succ]
        refine wpAnyH_take (i := 10) (v := ?vq27) rfl (by kernel_rfl) (by kernel_rfl) (by kernel_rfl) (fun _ _ _ h => h) (Or.inl ⟨by rfl, ?yq27⟩) ⟨HV0.out.c0, HV0.out.c1, HV0.out.c2⟩ ?zq27
        case yq27 => (intro w hSw; (try dsimp only at hSw); go_simp; try with_reducible rfl)
        try simp only [List.getElem_toArray, List.getElem_cons_succ, List.getElem_cons_zero, Act.put, List.setIfInBounds_toArray, List.set_cons_zero, List.set_cons_succ]
        refine wpAnyH_take (i := 11) (v := ?vq28) rfl (by kernel_rfl) (by kernel_rfl) (by kernel_rfl) (fun _ _ _ h => h) (Or.inl ⟨by rfl, ?yq28⟩) ⟨HV0.out.c0, HV0.out.c1, HV0.out.c2⟩ ?zq28
        case yq28 => (intro w hSw; (try dsimp only at hSw); go_simp; try with_reducible rfl)
        try simp only [List.getElem_toArray, List.getElem_cons_succ, List.getElem_cons_zero, Act.put, List.setIfInBounds_toArray, List.set_cons_zero, List.set_cons_succ]
        refine wpAnyH_ready (rs := [7]) (by kernel_rfl) (by simp) ?_
        refine AllReadyH.cons rfl (fun KK hKK => ?_) AllReadyH.nil
        go_simp
        refine (HOne.out _).mono ?_
        rintro e w' ⟨rfl, rfl⟩
        refine hKK.out _ _ ⟨HV0.out.c0, HV0.out.c1, HV0.out.c2⟩ (fun _ => ?_)
        clear hKK KK
        try simp only [List.getElem_toArray, List.getElem_cons_succ, List.getElem_cons_zero, Act.put, List.setIfInBounds_toArray, List.set_cons_zero, List.set_cons_succ]
        refine wpAnyH_take (i := 8) (v := ?vq29) rfl (by kernel_rfl) (by kernel_rfl) (by kernel_rfl) (fun _ _ _ h => h) (Or.inl ⟨by rfl, ?yq29⟩) ⟨HV0.out.c0, HV0.out.c1, HV0.out.c2⟩ ?zq29
        case yq29 => (intro w hSw; (try dsimp only at hSw); go_simp; try with_reducible rfl)
        try simp only [List.getElem_toArray, List.getElem_cons_succ, List.getElem_cons_zero, Act.put, List.setIfInBounds_toArray, List.set_cons_zero, List.set_cons_succ]
        refine wpAnyH_ready (rs := [9]) (by kernel_rfl) (by simp) ?_
        refine AllReadyH.cons rfl (fun KK hKK => ?_) AllReadyH.nil
        go_simp
        refine (HRk.out _ HB0.out).mono ?_
        rintro e w2 ⟨t2, rfl, ht2, hbw2⟩
        have HTt2 : Hid (RS (m2 F r c) r z' t2) := ht2
        have HBw2 : Hid (Below w.heap.size w w2) := two_below HB0.out hbw2
        have HVw2 : Hid (Vr w2 w.heap.size (.int .i64 (r : Int)) (.int .i64 (c : Int)) (.slice a n k)) := HV0.out.later hbw2
        clear ht2 hbw2
        refine hKK.out _ _ ⟨HVw2.out.c0, HVw2.out.c1, HVw2.out.c2⟩ (fun _ => ?_)
        clear hKK KK
        try simp only [List.getElem_toArray, List.getElem_cons_succ, List.getElem_cons_zero, Act.put, List.setIfInBounds_toArray, List.set_cons_zero, List.set_cons_succ]
        refine wpAnyH_ready (rs := [12]) (by kernel_rfl) (by simp) ?_
        refine AllReadyH.cons rfl (fun KK hKK => ?_) AllReadyH.nil
        go_simp
        refine (HRz.out _ HBw2.out).mono ?_
        rintro e w3 ⟨t3, rfl, ht3, hbw3⟩
        have HTt3 : Hid (RS (m2 F r c) r z t3) := ht3
        have HBw3 : Hid (Below w.heap.size w w3) := two_below HBw2.out hbw3
        have HVw3 : Hid (Vr w3 w.heap.size (.int .i64 (r : Int)) (.int .i64 (c : Int)) (.slice a n k)) := HVw2.out.later hbw3
        clear ht3 hbw3
        refine hKK.out _ _ ⟨HVw3.out.c0, HVw3.out.c1, HVw3.out.c2⟩ (fun _ => ?_)
        clear hKK KK
        try simp only [List.getElem_toArray, List.getElem_cons_succ, List.getElem_cons_zero, Act.put, List.setIfInBounds_toArray, List.set_cons_zero, List.set_cons_succ]
        refine wpAnyH_take (i := 13) (v := ?vq30) rfl (by kernel_rfl) (by kernel_rfl) (by kernel_rfl) (fun _ _ _ h => h) (Or.inl ⟨by rfl, ?yq30⟩) ⟨HVw3.out.c0, HVw3.out.c1, HVw3.out.c2⟩ ?zq30
        case yq30 => (intro w hSw; (try dsimp only at hSw); go_simp; try with_reducible rfl)
        try simp only [List.getElem_toArray, List.getElem_cons_succ, List.getElem_cons_zero, Act.put, List.setIfInBounds_toArray, List.set_cons_zero, List.set_cons_succ]
        refine wpAnyH_take (i := 14) (v := ?vq31) rfl (by kernel_rfl) (by kernel_rfl) (by kernel_rfl) (fun _ _ _ h => h) (Or.inl ⟨by rfl, ?yq31⟩) ⟨HVw3.out.c0, HVw3.out.c1, HVw3.out.c2⟩ ?zq31
        case yq31 => (intro w hSw; (try dsimp only at hSw); go_simp; try with_reducible rfl)
        try simp only [List.getElem_toArray, List.getElem_cons_succ, List.getElem_cons_zero, Act.put, List.setIfInBounds_toArray, List.set_cons_zero, List.set_cons_succ]
        refine wpAnyH_done (by kernel_rfl) ?_ _
        have v0' := HVw3.out.c0
        have hadd := RS.add HM.out hlt HTt3.out (by rw [HU.out]; exact HTt2.out)
        rcases hadd with ⟨hp, h3⟩ | ⟨hp, h3⟩
        · have HP : Hid (¬ (bt s i = 1 ∧ ¬ SS (m2 F r c) r (s % 2 ^ i) (m2 F r c i))) := fun h => h.2 (Spn.trans hp HSp.out.1)
          have e9 : t3 = t2 := by omega
          subst e9
          have q1 : ¬ t3 < t3 := by omega
          clear hp h3
          go_wp2
          exact ⟨⟨i + 1, z, by omega, HZ.out.no HP.out, by go_num, rfl, HVw3.out, HBw3.out⟩, by simp [intOf]; omega⟩
        · have HP : Hid (bt s i = 1 ∧ ¬ SS (m2 F r c) r (s % 2 ^ i) (m2 F r c i)) := ⟨HBt.out, fun h => hp (Spn.trans h HSp.out.2)⟩
          have q1 : t3 < t2 := by omega
          clear hp h3
          go_wp2
          exact ⟨⟨i + 1, z', by omega, (by rw [← hz', ← hT]; exact HZ.out.yes HP.out), by go_num, by go_num, HVw3.out, HBw3.out⟩, by simp [intOf]; omega⟩
      · have hdb : decide (bt s i = 1) = false := decide_eq_false hbit
        have HP : Hid (¬ (bt s i = 1 ∧ ¬ SS (m2 F r c) r (s % 2 ^ i) (m2 F r c i))) := fun h => hbit h.1
        have HHas : Hid (∀ w' : World, Calls Try.prog 11 #[.int .u64 (s : Int), .int .i64 (i : Int)] w' fun e w'' => e = .returned (.bool false) ∧ w' = w'') := fun w' => by rw [← hdb]; exact jrhas_ok s i w' hs6 hi6
        clear hs6 hzr hbit hdb
        go_wp2
        refine wp_region_held (S := fun w' => w'.cell? ⟨w.heap.size, 0, none⟩ = some (.int .i64 (r : Int)) ∧ w'.cell? ⟨w.heap.size, 1, none⟩ = some (.int .i64 (c : Int)) ∧ w'.cell? ⟨w.heap.size, 2, none⟩ = some (.slice a n k)) (by kernel_rfl) ?_
        change wpAnyH _ _ _ _ _ _ _ _ (World.drew _)
        obtain ⟨W0, HW0⟩ : ∃ W0, Hid (wr.drew = W0) := ⟨_, rfl⟩
        rw [HW0.out]
        have HV0 : Hid (Vr W0 w.heap.size (.int .i64 (r : Int)) (.int .i64 (c : Int)) (.slice a n k)) := by rw [← HW0.out]; exact HVr.out.later (Below.refl _ _).drew
        have HB0 : Hid (Below w.heap.size w W0) := by rw [← HW0.out]; exact two_below HBr.out (Below.refl _ _).drew
        refine wpAnyH_take (i := 0) (v := ?vq32) rfl (by kernel_rfl) (by kernel_rfl) (by kernel_rfl) (fun _ _ _ h => h) (Or.inl ⟨by rfl, ?yq32⟩) ⟨HV0.out.c0, HV0.out.c1, HV0.out.c2⟩ ?zq32
        case yq32 => (intro w hSw; (try dsimp only at hSw); go_simp; try with_reducible rfl)
        try simp only [List.getElem_toArray, List.getElem_cons_zero, Act.put, List.setIfInBounds_toArray, List.set_cons_zero, List.set_cons_succ]
        refine wpAnyH_take (i := 1) (v := ?vq33) rfl (by kernel_rfl) (by kernel_rfl) (by kernel_rfl) (fun _ _ _ h => h) (Or.inl ⟨by rfl, ?yq33⟩) ⟨HV0.out.c0, HV0.out.c1, HV0.out.c2⟩ ?zq33
        case yq33 => (intro w hSw; (try dsimp only at hSw); go_simp; try with_reducible rfl)
        try simp only [List.getElem_toArray, List.getElem_cons_succ, List.getElem_cons_zero, Act.put, List.setIfInBounds_toArray, List.set_cons_zero, List.set_cons_succ]
        refine wpAnyH_ready (rs := [2]) (by kernel_rfl) (by simp) ?_
        refine AllReadyH.cons rfl (fun KK hKK => ?_) AllReadyH.nil
        go_simp
        refine (HHas.out _).mono ?_
        rintro e w' ⟨rfl, rfl⟩
        refine hKK.out _ _ ⟨HV0.out.c0, HV0.out.c1, HV0.out.c2⟩ (fun _ => ?_)
        clear hKK KK
        try simp only [List.getElem_toArray, List.getElem_cons_succ, List.getElem_cons_zero, Act.put, List.setIfInBounds_toArray, List.set_cons_zero, List.set_cons_succ]
        refine wpAnyH_take (i := 3) (v := ?vq34) rfl (by kernel_rfl) (by kernel_rfl) (by kernel_rfl) (fun _ _ _ h => h) (Or.inl ⟨by rfl, ?yq34⟩) ⟨HV0.out.c0, HV0.out.c1, HV0.out.c2⟩ ?zq34
        case yq34 => (intro w hSw; (try dsimp only at hSw); go_simp; try with_reducible rfl)
        try simp only [List.getElem_toArray, List.getElem_cons_succ, List.getElem_cons_zero, Act.put, List.setIfInBounds_toArray, List.set_cons_zero, List.set_cons_succ]
        refine wpAnyH_take (i := 4) (v := undef) rfl (by kernel_rfl) (by kernel_rfl) (by kernel_rfl) (fun _ _ _ h => h) (Or.inr ⟨by rfl, rfl⟩) ⟨HV0.out.c0, HV0.out.c1, HV0.out.c2⟩ ?_
        try simp only [List.getElem_toArray, List.getElem_cons_succ, List.getElem_cons_zero, Act.put, List.setIfInBounds_toArray, List.set_cons_zero, List.set_cons_succ]
        refine wpAnyH_take (i := 5) (v := undef) rfl (by kernel_rfl) (by kernel_rfl) (by kernel_rfl) (fun _ _ _ h => h) (Or.inr ⟨by rfl, rfl⟩) ⟨HV0.out.c0, HV0.out.c1, HV0.out.c2⟩ ?_
        try simp only [List.getElem_toArray, List.getElem_cons_succ, List.getElem_cons_zero, Act.put, List.setIfInBounds_toArray, List.set_cons_zero, List.set_cons_succ]
        refine wpAnyH_take (i := 6) (v := undef) rfl (by kernel_rfl) (by kernel_rfl) (by kernel_rfl) (fun _ _ _ h => h) (Or.inr ⟨by rfl, rfl⟩) ⟨HV0.out.c0, HV0.out.c1, HV0.out.c2⟩ ?_
        try simp only [List.getElem_toArray, List.getElem_cons_succ, List.getElem_cons_zero, Act.put, List.setIfInBounds_toArray, List.set_cons_zero, List.set_cons_succ]
        refine wpAnyH_take (i := 7) (v := undef) rfl (by kernel_rfl) (by kernel_rfl) (by kernel_rfl) (fun _ _ _ h => h) (Or.inr ⟨by rfl, rfl⟩) ⟨HV0.out.c0, HV0.out.c1, HV0.out.c2⟩ ?_
        try simp only [List.getElem_toArray, List.getElem_cons_succ, List.getElem_cons_zero, Act.put, List.setIfInBounds_toArray, List.set_cons_zero, List.set_cons_succ]
        refine wpAnyH_take (i := 8) (v := undef) rfl (by kernel_rfl) (by kernel_rfl) (by kernel_rfl) (fun _ _ _ h => h) (Or.inr ⟨by rfl, rfl⟩) ⟨HV0.out.c0, HV0.out.c1, HV0.out.c2⟩ ?_
        try simp only [List.getElem_toArray, List.getElem_cons_succ, List.getElem_cons_zero, Act.put, List.setIfInBounds_toArray, List.set_cons_zero, List.set_cons_succ]
        refine wpAnyH_take (i := 9) (v := undef) rfl (by kernel_rfl) (by kernel_rfl) (by kernel_rfl) (fun _ _ _ h => h) (Or.inr ⟨by rfl, rfl⟩) ⟨HV0.out.c0, HV0.out.c1, HV0.out.c2⟩ ?_
        try simp only [List.getElem_toArray, List.getElem_cons_succ, List.getElem_cons_zero, Act.put, List.setIfInBounds_toArray, List.set_cons_zero, List.set_cons_succ]
        refine wpAnyH_take (i := 10) (v := undef) rfl (by kernel_rfl) (by kernel_rfl) (by kernel_rfl) (fun _ _ _ h => h) (Or.inr ⟨by rfl, rfl⟩) ⟨HV0.out.c0, HV0.out.c1, HV0.out.c2⟩ ?_
        try simp only [List.getElem_toArray, List.getElem_cons_succ, List.getElem_cons_zero, Act.put, List.setIfInBounds_toArray, List.set_cons_zero, List.set_cons_succ]
        refine wpAnyH_take (i := 11) (v := undef) rfl (by kernel_rfl) (by kernel_rfl) (by kernel_rfl) (fun _ _ _ h => h) (Or.inr ⟨by rfl, rfl⟩) ⟨HV0.out.c0, HV0.out.c1, HV0.out.c2⟩ ?_
        try simp only [List.getElem_toArray, List.getElem_cons_succ, List.getElem_cons_zero, Act.put, List.setIfInBounds_toArray, List.set_cons_zero, List.set_cons_succ]
        refine wpAnyH_take (i := 12) (v := undef) rfl (by kernel_rfl) (by kernel_rfl) (by kernel_rfl) (fun _ _ _ h => h) (Or.inr ⟨by rfl, rfl⟩) ⟨HV0.out.c0, HV0.out.c1, HV0.out.c2⟩ ?_
        try simp only [List.getElem_toArray, List.getElem_cons_succ, List.getElem_cons_zero, Act.put, List.setIfInBounds_toArray, List.set_cons_zero, List.set_cons_succ]
        refine wpAnyH_take (i := 13) (v := undef) rfl (by kernel_rfl) (by kernel_rfl) (by kernel_rfl) (fun _ _ _ h => h) (Or.inr ⟨by rfl, rfl⟩) ⟨HV0.out.c0, HV0.out.c1, HV0.out.c2⟩ ?_
        try simp only [List.getElem_toArray, List.getElem_cons_succ, List.getElem_cons_zero, Act.put, List.setIfInBounds_toArray, List.set_cons_zero, List.set_cons_succ]
        refine wpAnyH_take (i := 14) (v := ?vq35) rfl (by kernel_rfl) (by kernel_rfl) (by kernel_rfl) (fun _ _ _ h => h) (Or.inl ⟨by rfl, ?yq35⟩) ⟨HV0.out.c0, HV0.out.c1, HV0.out.c2⟩ ?zq35
        case yq35 => (intro w hSw; (try dsimp only at hSw); go_simp; try with_reducible rfl)
        try simp only [List.getElem_toArray, List.getElem_cons_succ, List.getElem_cons_zero, Act.put, List.setIfInBounds_toArray, List.set_cons_zero, List.set_cons_succ]
        refine wpAnyH_done (by kernel_rfl) ?_ _
        have v0' := HV0.out.c0
        go_wp2
        exact ⟨⟨i + 1, z, by omega, HZ.out.no HP.out, by go_num, rfl, HV0.out, HB0.out⟩, by simp [intOf]; omega⟩
    · obtain rfl : i = r := by omega
      have c0 : decide ((i : Int) < (i : Int)) = false := decide_eq_false (by omega)
      have c0' : decide (i < i) = false := decide_eq_false hlt
      go_wp2
      go_ret2
      exact ⟨z, rfl, HZ.out, HBr.out⟩
end Go.Proofs.Ytflflmdlhmhkdab

namespace Go.Proofs.Ytflflmdlhmhkdab
open Go.RowKit
/-- Circuit, halfway: the numbers below i are looked at. -/
def CiI (M : Nat → Nat → Nat) (R b s i z : Nat) : Prop := z < 2 ^ R ∧ ∀ j, j < R → (bt z j = 1 ↔ j = b ∨ (j < i ∧ bt s j = 1 ∧ ¬ SS M R (rem s j) (M b)))
theorem CiI.start {M : Nat → Nat → Nat} {R b s : Nat} (hb : b < R) : CiI M R b s 0 (2 ^ b) := ⟨Nat.pow_lt_pow_right (by decide) hb, fun j _ => by rw [bt_pow]; exact ⟨.inl, fun h => h.elim id (fun h => absurd h.1 (Nat.not_lt_zero _))⟩⟩
theorem CiI.yes {M : Nat → Nat → Nat} {R b s i z : Nat} (h : CiI M R b s i z) (hi : i < R) (h1 : bt s i = 1) (h2 : ¬ SS M R (rem s i) (M b)) : CiI M R b s (i + 1) (z ||| 2 ^ i) := by
  refine ⟨or_lt7 h.1 hi, fun j hj => ?_⟩
  rw [bt_or, bt_pow, h.2 j hj]
  constructor
  · rintro ((h3 | h3) | h3)
    · exact .inl h3
    · exact .inr ⟨by omega, h3.2⟩
    · rw [h3]; exact .inr ⟨by omega, h1, h2⟩
  · rintro (h3 | h3)
    · exact .inl (.inl h3)
    · by_cases e : j = i
      · exact .inr e
      · exact .inl (.inr ⟨by omega, h3.2⟩)
theorem CiI.no {M : Nat → Nat → Nat} {R b s i z : Nat} (h : CiI M R b s i z) (h1 : ¬ (bt s i = 1 ∧ ¬ SS M R (rem s i) (M b))) : CiI M R b s (i + 1) z := by
  refine ⟨h.1, fun j hj => ?_⟩
  rw [h.2 j hj]
  constructor
  · rintro (h3 | h3)
    · exact .inl h3
    · exact .inr ⟨by omega, h3.2⟩
  · rintro (h3 | h3)
    · exact .inl h3
    · by_cases e : j = i
      · rw [e] at h3; exact absurd h3.2 h1
      · exact .inr ⟨by omega, h3.2⟩
theorem CiI.all {M : Nat → Nat → Nat} (hM : El2 M) {R b s z : Nat} (hR : R ≤ 64) (hs : s < 2 ^ R) (h : CiI M R b s R z) : CiS M R b s z := by
  have hs6 := lt_64 hR hs
  refine ⟨h.1, fun i hi => ?_⟩
  rw [h.2 i hi]
  constructor
  · rintro (h3 | ⟨_, h4, h5⟩)
    · exact .inl h3
    · exact .inr ⟨h4, fun t ht hx => h5 (hx.congr hM (fun j hj => by rw [ht j hj, bt_rem hs6 (by omega)]))⟩
  · rintro (h3 | ⟨h4, h5⟩)
    · exact .inl h3
    · exact .inr ⟨hi, h4, h5 (rem s i) (fun j _ => bt_rem hs6 (by omega) j)⟩
/-- What Circuit answers. -/
def CirA (M : Nat → Nat → Nat) (R b s : Nat) (x : Nat) (ok : Bool) : Prop := (ok = false ∧ x = 0 ∧ ¬ SS M R s (M b)) ∨ (ok = true ∧ SS M R s (M b) ∧ CiS M R b s x)
end Go.Proofs.Ytflflmdlhmhkdab

namespace Go.Proofs.Ytflflmdlhmhkdab
open Go.RowKit
set_option maxRecDepth 20000 in
set_option maxHeartbeats 1000000 in
theorem rSpan_bad (w : World) (r c E : Int) (n k s : Nat) (a : Option Addr) (hs6 : s < 18446744073709551616) (h : BadE r c n s E) :
    Calls Try.prog 10 #[mv r c a n k, .int .u64 (s : Int)] w fun e w' => e = .returned (.tuple #[.int .u64 0, .int .i64 E]) ∧ Below w.heap.size w w' := by
  have HC : Hid (∀ w' : World, Calls Try.prog 21 #[mv r c a n k, .int .u64 (s : Int)] w' fun e w'' => e = .returned (.tuple #[.int .i64 0, .int .i64 E]) ∧ Below w'.heap.size w' w'') := fun w' => rRank_bad w' r c E n k s a hs6 h
  have hE := h.ne
  clear h hs6
  go_enter Try.func10, Try.ntmps10
  go_wp2_with (go_at_call 21; refine (HC.out _).mono ?_; rintro e w1 ⟨rfl, hb⟩; have HV1 := (Vr.new w (.int .i64 r) (.int .i64 c) (.slice a n k)).later hb; have v0 := HV1.c0; have HB1 : Hid (Below w.heap.size w w1) := two_below (alloc_low _ _) hb; clear hb HV1)
  refine wp_loop_rounds 1 ?_
  rw [rounds_succ]
  go_wp2
  all_goals go_ret2
  all_goals exact ⟨rfl, HB1.out⟩
set_option maxRecDepth 20000 in
set_option maxHeartbeats 1000000 in
theorem rBase_bad (w : World) (r c E : Int) (n k s : Nat) (a : Option Addr) (hs6 : s < 18446744073709551616) (h : BadE r c n s E) :
    Calls Try.prog 8 #[mv r c a n k, .int .u64 (s : Int)] w fun e w' => e = .returned (.tuple #[.int .u64 0, .int .i64 E]) ∧ Below w.heap.size w w' := by
  have HC : Hid (∀ w' : World, Calls Try.prog 22 #[mv r c a n k, .int .u64 (s : Int)] w' fun e w'' => e = .returned (.int .i64 E) ∧ Below w'.heap.size w' w'') := fun w' => rbad_e w' r c E n k s a hs6 h
  have hE := h.ne
  clear h hs6
  go_enter Try.func8, Try.ntmps8
  go_wp2_with (go_at_call 22; refine (HC.out _).mono ?_; rintro e w1 ⟨rfl, hb⟩; have HV1 := (Vr.new w (.int .i64 r) (.int .i64 c) (.slice a n k)).later hb; have v0 := HV1.c0; have HB1 : Hid (Below w.heap.size w w1) := two_below (alloc_low _ _) hb; clear hb HV1)
  refine wp_loop_rounds 1 ?_
  rw [rounds_succ]
  go_wp2
  all_goals go_ret2
  all_goals exact ⟨rfl, HB1.out⟩
end Go.Proofs.Ytflflmdlhmhkdab
