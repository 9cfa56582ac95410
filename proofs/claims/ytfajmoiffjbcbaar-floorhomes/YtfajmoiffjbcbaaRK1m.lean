/-
  The reference's Homes.
-/
import Derived.Test.YtfajmoiffjbcbaaRK1l
import Derived.Test.YtfajmoiffjbcbaaRJl
namespace Go.Proofs.YtfajmoiffjbcbaaR
open Go.RowKit
set_option maxHeartbeats 1000000 in
theorem rhomes_ok1 (B D : Nat) (cap : Nat) (a : Option Addr) (q : Nat → Int) (w : World) (hB : 1 ≤ B ∧ B ≤ 64) (hD : 1 ≤ D ∧ D ≤ 64) :
    Calls Try.prog 11 #[.int .u8 1, .int .i64 (B : Int), .int .i64 (D : Int), .int .i64 0, .slice a 0 cap] w fun e w' => ∃ v, e = .returned (.tuple #[v, .int .i64 0]) ∧ Jo w' w.heap.size 3 .i64 v B (hmv 1 B D 0 q) ∧ Below w.heap.size w w' := by
  obtain ⟨i0, hi0, hz0, hz1, hz2⟩ := info_parts ji64
  have HN : Hid (Jo w w.heap.size 3 .i64 (.slice none 0 0) 0 (hmv 1 B D 0 q)) := Jo.nil _ _ _ _ _
  have g1 : decide ((B : Int) < 1) = false := decide_eq_false (by omega)
  have g2 : decide ((64 : Int) < (B : Int)) = false := decide_eq_false (by omega)
  have g3 : decide ((D : Int) < 1) = false := decide_eq_false (by omega)
  have g4 : decide ((64 : Int) < (D : Int)) = false := decide_eq_false (by omega)
  go_enter Try.func11, Try.ntmps11
  go_wp2
  go_loopw [12, 13] (fun v vi wr => ∃ j : Nat, j ≤ B ∧ vi = .int .i64 (j : Int) ∧ Jo wr w.heap.size 3 .i64 v j (hmv 1 B D 0 q) ∧ Below w.heap.size w wr) (fun _ vi _ => B - (intOf vi).toNat)
  case atStart => exact ⟨0, by omega, rfl, HN.out, Below.refl _ _⟩
  case round =>
    obtain ⟨j, hj, rfl, I, hb⟩ := hrel
    obtain ⟨ps, pd, rfl, hpn⟩ := I.form
    have HI : Hid (Jo wr w.heap.size 3 .i64 (.slice ps j pd) j (hmv 1 B D 0 q)) := I
    have HB : Hid (Below w.heap.size w wr) := hb
    clear I hb HN
    by_cases hlt : j < B
    · have d1 : decide ((j : Int) < (B : Int)) = true := decide_eq_true (by omega)
      have nD : ¬ ((D : Int) = 0) := by omega
      have nB : ¬ ((B : Int) = 0) := by omega
      have hml2 : j + 1 ≤ maxLen := by unfold maxLen; omega
      have hwsz := HB.out.size
      obtain ⟨v, HV⟩ : ∃ v, Hid (hmv 1 B D 0 q j = v) := ⟨_, rfl⟩
      have HL : Hid (∀ k, k < j + 1 → (if k = j then v else hmv 1 B D 0 q k) = hmv 1 B D 0 q k) := fun k _ => by
        by_cases e : k = j
        · subst e; rw [if_pos rfl, HV.out]
        · rw [if_neg e]
      obtain ⟨r, HR⟩ : ∃ r, Hid (j % D = r) := ⟨_, rfl⟩
      have er : (j : Int) % (D : Int) = (r : Int) := by rw [← HR.out, Int.natCast_emod]
      have ev : v = r := by rw [← HR.out, ← HV.out]; rfl
      subst ev
      clear HV HR
      go_wp2_with (at_builtin; refine wpList_append_own _ rfl _ _ 32 rfl w.heap.size 3 i0 (.int .i64 0) 1 8 Try.underlying32 hi0 hz0 hz1 hz2 rfl (by decide) _ j _ rfl (World.ownsRow.alloc HI.out _) ⟨wr.heap.size, 0, none⟩ 1 1 [.int .i64 (v : Int)] rfl rfl (jone_new _ _ _ _) (jone_one _ _) hml2 (by omega) (by simp; omega) ?_; intro v' w6 hown' hgrow' _; have HO6 := HI.out.push HB.out.size hown' hgrow'; clear hown' hgrow')
      exact ⟨⟨j + 1, by omega, by go_num, HO6.1.congr HL.out, HB.out.trans HO6.2⟩, by simp [intOf]; omega⟩
    · obtain rfl : j = B := by omega
      have d1 : decide ((j : Int) < (j : Int)) = false := decide_eq_false (by omega)
      go_wp2
      go_ret2
      exact ⟨_, rfl, HI.out, HB.out⟩
set_option maxHeartbeats 1000000 in
theorem rhomes_ok2 (B D : Nat) (cap : Nat) (a : Option Addr) (q : Nat → Int) (w : World) (hB : 1 ≤ B ∧ B ≤ 64) (hD : 1 ≤ D ∧ D ≤ 64) :
    Calls Try.prog 11 #[.int .u8 2, .int .i64 (B : Int), .int .i64 (D : Int), .int .i64 0, .slice a 0 cap] w fun e w' => ∃ v, e = .returned (.tuple #[v, .int .i64 0]) ∧ Jo w' w.heap.size 3 .i64 v B (hmv 2 B D 0 q) ∧ Below w.heap.size w w' := by
  obtain ⟨i0, hi0, hz0, hz1, hz2⟩ := info_parts ji64
  have HN : Hid (Jo w w.heap.size 3 .i64 (.slice none 0 0) 0 (hmv 2 B D 0 q)) := Jo.nil _ _ _ _ _
  have g1 : decide ((B : Int) < 1) = false := decide_eq_false (by omega)
  have g2 : decide ((64 : Int) < (B : Int)) = false := decide_eq_false (by omega)
  have g3 : decide ((D : Int) < 1) = false := decide_eq_false (by omega)
  have g4 : decide ((64 : Int) < (D : Int)) = false := decide_eq_false (by omega)
  go_enter Try.func11, Try.ntmps11
  go_wp2
  go_loopw [12, 13] (fun v vi wr => ∃ j : Nat, j ≤ B ∧ vi = .int .i64 (j : Int) ∧ Jo wr w.heap.size 3 .i64 v j (hmv 2 B D 0 q) ∧ Below w.heap.size w wr) (fun _ vi _ => B - (intOf vi).toNat)
  case atStart => exact ⟨0, by omega, rfl, HN.out, Below.refl _ _⟩
  case round =>
    obtain ⟨j, hj, rfl, I, hb⟩ := hrel
    obtain ⟨ps, pd, rfl, hpn⟩ := I.form
    have HI : Hid (Jo wr w.heap.size 3 .i64 (.slice ps j pd) j (hmv 2 B D 0 q)) := I
    have HB : Hid (Below w.heap.size w wr) := hb
    clear I hb HN
    by_cases hlt : j < B
    · have d1 : decide ((j : Int) < (B : Int)) = true := decide_eq_true (by omega)
      have nD : ¬ ((D : Int) = 0) := by omega
      have nB : ¬ ((B : Int) = 0) := by omega
      have hml2 : j + 1 ≤ maxLen := by unfold maxLen; omega
      have hwsz := HB.out.size
      obtain ⟨v, HV⟩ : ∃ v, Hid (hmv 2 B D 0 q j = v) := ⟨_, rfl⟩
      have HL : Hid (∀ k, k < j + 1 → (if k = j then v else hmv 2 B D 0 q k) = hmv 2 B D 0 q k) := fun k _ => by
        by_cases e : k = j
        · subst e; rw [if_pos rfl, HV.out]
        · rw [if_neg e]
      obtain ⟨r, HR⟩ : ∃ r, Hid (j % D = r) := ⟨_, rfl⟩
      have er : (j : Int) % (D : Int) = (r : Int) := by rw [← HR.out, Int.natCast_emod]
      obtain ⟨x, hx⟩ : ∃ x, j * D = x := ⟨_, rfl⟩
      have hx6 : x ≤ 64 * 64 := by rw [← hx]; exact Nat.mul_le_mul (by omega) (by omega)
      have wx : IntKind.i64.wrap ((j : Int) * (D : Int)) = (x : Int) := by rw [← Int.natCast_mul, hx, IntKind.wrap_i64]; omega
      have e1 : (x : Int) / (B : Int) = (v : Int) := by rw [← HV.out, show hmv 2 B D 0 q j = j * D / B from rfl, hx, Int.natCast_ediv]
      have wv : IntKind.i64.wrap (v : Int) = (v : Int) := by
        have : v ≤ x := by rw [← HV.out, show hmv 2 B D 0 q j = j * D / B from rfl, hx]; exact Nat.div_le_self _ _
        rw [IntKind.wrap_i64]; omega
      clear HV HR hx
      go_wp2_with (at_builtin; refine wpList_append_own _ rfl _ _ 32 rfl w.heap.size 3 i0 (.int .i64 0) 1 8 Try.underlying32 hi0 hz0 hz1 hz2 rfl (by decide) _ j _ rfl (World.ownsRow.alloc HI.out _) ⟨wr.heap.size, 0, none⟩ 1 1 [.int .i64 (v : Int)] rfl rfl (jone_new _ _ _ _) (jone_one _ _) hml2 (by omega) (by simp; omega) ?_; intro v' w6 hown' hgrow' _; have HO6 := HI.out.push HB.out.size hown' hgrow'; clear hown' hgrow')
      exact ⟨⟨j + 1, by omega, by go_num, HO6.1.congr HL.out, HB.out.trans HO6.2⟩, by simp [intOf]; omega⟩
    · obtain rfl : j = B := by omega
      have d1 : decide ((j : Int) < (j : Int)) = false := decide_eq_false (by omega)
      go_wp2
      go_ret2
      exact ⟨_, rfl, HI.out, HB.out⟩
set_option maxHeartbeats 1000000 in
theorem rhomes_ok3 (B D : Nat) (s : Int) (cap : Nat) (a : Option Addr) (q : Nat → Int) (w : World) (hB : 1 ≤ B ∧ B ≤ 64) (hD : 1 ≤ D ∧ D ≤ 64) (hs : 1 ≤ s ∧ s ≤ 2147483647) :
    Calls Try.prog 11 #[.int .u8 3, .int .i64 (B : Int), .int .i64 (D : Int), .int .i64 s, .slice a 0 cap] w fun e w' => ∃ v, e = .returned (.tuple #[v, .int .i64 0]) ∧ Jo w' w.heap.size 3 .i64 v B (hmv 3 B D s q) ∧ Below w.heap.size w w' := by
  obtain ⟨t, rfl⟩ := Int.eq_ofNat_of_zero_le (show 0 ≤ s by omega)
  obtain ⟨i0, hi0, hz0, hz1, hz2⟩ := info_parts ji64
  have HN : Hid (Jo w w.heap.size 3 .i64 (.slice none 0 0) 0 (hmv 3 B D t q)) := Jo.nil _ _ _ _ _
  have g1 : decide ((B : Int) < 1) = false := decide_eq_false (by omega)
  have g2 : decide ((64 : Int) < (B : Int)) = false := decide_eq_false (by omega)
  have g3 : decide ((D : Int) < 1) = false := decide_eq_false (by omega)
  have g4 : decide ((64 : Int) < (D : Int)) = false := decide_eq_false (by omega)
  have g5 : decide ((t : Int) < 1) = false := decide_eq_false (by omega)
  have g6 : decide ((2147483647 : Int) < (t : Int)) = false := decide_eq_false (by omega)
  go_enter Try.func11, Try.ntmps11
  go_wp2
  go_loopw [12, 13] (fun v vi wr => ∃ j : Nat, j ≤ B ∧ vi = .int .i64 (j : Int) ∧ Jo wr w.heap.size 3 .i64 v j (hmv 3 B D t q) ∧ Below w.heap.size w wr) (fun _ vi _ => B - (intOf vi).toNat)
  case atStart => exact ⟨0, by omega, rfl, HN.out, Below.refl _ _⟩
  case round =>
    obtain ⟨j, hj, rfl, I, hb⟩ := hrel
    obtain ⟨ps, pd, rfl, hpn⟩ := I.form
    have HI : Hid (Jo wr w.heap.size 3 .i64 (.slice ps j pd) j (hmv 3 B D t q)) := I
    have HB : Hid (Below w.heap.size w wr) := hb
    clear I hb HN
    by_cases hlt : j < B
    · have d1 : decide ((j : Int) < (B : Int)) = true := decide_eq_true (by omega)
      have nD : ¬ ((D : Int) = 0) := by omega
      have nB : ¬ ((B : Int) = 0) := by omega
      have hml2 : j + 1 ≤ maxLen := by unfold maxLen; omega
      have hwsz := HB.out.size
      obtain ⟨v, HV⟩ : ∃ v, Hid (hmv 3 B D t q j = v) := ⟨_, rfl⟩
      have HL : Hid (∀ k, k < j + 1 → (if k = j then v else hmv 3 B D t q k) = hmv 3 B D t q k) := fun k _ => by
        by_cases e : k = j
        · subst e; rw [if_pos rfl, HV.out]
        · rw [if_neg e]
      obtain ⟨r, HR⟩ : ∃ r, Hid (j % D = r) := ⟨_, rfl⟩
      have er : (j : Int) % (D : Int) = (r : Int) := by rw [← HR.out, Int.natCast_emod]
      obtain ⟨x, hx⟩ : ∃ x, j * t = x := ⟨_, rfl⟩
      have hx6 : x ≤ 64 * 2147483647 := by rw [← hx]; exact Nat.mul_le_mul (by omega) (by omega)
      have wx : IntKind.i64.wrap ((j : Int) * (t : Int)) = (x : Int) := by rw [← Int.natCast_mul, hx, IntKind.wrap_i64]; omega
      have e1 : (x : Int) % (D : Int) = (v : Int) := by rw [← HV.out, show hmv 3 B D t q j = j * (t : Int).toNat % D from rfl, Int.toNat_natCast, hx, Int.natCast_emod]
      clear HV HR hx
      go_wp2_with (at_builtin; refine wpList_append_own _ rfl _ _ 32 rfl w.heap.size 3 i0 (.int .i64 0) 1 8 Try.underlying32 hi0 hz0 hz1 hz2 rfl (by decide) _ j _ rfl (World.ownsRow.alloc HI.out _) ⟨wr.heap.size, 0, none⟩ 1 1 [.int .i64 (v : Int)] rfl rfl (jone_new _ _ _ _) (jone_one _ _) hml2 (by omega) (by simp; omega) ?_; intro v' w6 hown' hgrow' _; have HO6 := HI.out.push HB.out.size hown' hgrow'; clear hown' hgrow')
      exact ⟨⟨j + 1, by omega, by go_num, HO6.1.congr HL.out, HB.out.trans HO6.2⟩, by simp [intOf]; omega⟩
    · obtain rfl : j = B := by omega
      have d1 : decide ((j : Int) < (j : Int)) = false := decide_eq_false (by omega)
      go_wp2
      go_ret2
      exact ⟨_, rfl, HI.out, HB.out⟩
set_option maxHeartbeats 1000000 in
theorem rhomes_ok4 (B D : Nat) (cap : Nat) (a : Option Addr) (q : Nat → Int) (w : World) (hB : 1 ≤ B ∧ B ≤ 64) (hD : 1 ≤ D ∧ D ≤ 64) (ha : Jl w a .i64 B q) (hq : ∀ i, i < B → 0 ≤ q i ∧ q i < D) :
    Calls Try.prog 11 #[.int .u8 4, .int .i64 (B : Int), .int .i64 (D : Int), .int .i64 0, .slice a B cap] w fun e w' => ∃ v, e = .returned (.tuple #[v, .int .i64 0]) ∧ Jo w' w.heap.size 3 .i64 v B (hmv 4 B D 0 q) ∧ Below w.heap.size w w' := by
  obtain ⟨i0, hi0, hz0, hz1, hz2⟩ := info_parts ji64
  have HN : Hid (Jo w w.heap.size 3 .i64 (.slice none 0 0) 0 (hmv 4 B D 0 q)) := Jo.nil _ _ _ _ _
  have g1 : decide ((B : Int) < 1) = false := decide_eq_false (by omega)
  have g2 : decide ((64 : Int) < (B : Int)) = false := decide_eq_false (by omega)
  have g3 : decide ((D : Int) < 1) = false := decide_eq_false (by omega)
  have g4 : decide ((64 : Int) < (D : Int)) = false := decide_eq_false (by omega)
  have HA : Hid (Jl w a .i64 B q) := ha
  have HQ : Hid (∀ i, i < B → 0 ≤ q i ∧ q i < D) := hq
  clear ha hq
  go_enter Try.func11, Try.ntmps11
  go_wp2
  go_loopw [12, 13] (fun v vi wr => ∃ j : Nat, j ≤ B ∧ vi = .int .i64 (j : Int) ∧ Jo wr w.heap.size 3 .i64 v j (hmv 4 B D 0 q) ∧ Below w.heap.size w wr) (fun _ vi _ => B - (intOf vi).toNat)
  case atStart => exact ⟨0, by omega, rfl, HN.out, Below.refl _ _⟩
  case round =>
    obtain ⟨j, hj, rfl, I, hb⟩ := hrel
    obtain ⟨ps, pd, rfl, hpn⟩ := I.form
    have HI : Hid (Jo wr w.heap.size 3 .i64 (.slice ps j pd) j (hmv 4 B D 0 q)) := I
    have HB : Hid (Below w.heap.size w wr) := hb
    clear I hb HN
    by_cases hlt : j < B
    · have d1 : decide ((j : Int) < (B : Int)) = true := decide_eq_true (by omega)
      have nD : ¬ ((D : Int) = 0) := by omega
      have nB : ¬ ((B : Int) = 0) := by omega
      have hml2 : j + 1 ≤ maxLen := by unfold maxLen; omega
      have hwsz := HB.out.size
      obtain ⟨v, HV⟩ : ∃ v, Hid (hmv 4 B D 0 q j = v) := ⟨_, rfl⟩
      have HL : Hid (∀ k, k < j + 1 → (if k = j then v else hmv 4 B D 0 q k) = hmv 4 B D 0 q k) := fun k _ => by
        by_cases e : k = j
        · subst e; rw [if_pos rfl, HV.out]
        · rw [if_neg e]
      obtain ⟨r, HR⟩ : ∃ r, Hid (j % D = r) := ⟨_, rfl⟩
      have er : (j : Int) % (D : Int) = (r : Int) := by rw [← HR.out, Int.natCast_emod]
      obtain ⟨x, o, ea, hl⟩ := (HA.out.later HB.out) j hlt
      subst ea
      have hqj := HQ.out j hlt
      have ev : q j = (v : Int) := by
        rw [← HV.out, show hmv 4 B D 0 q j = (q j).toNat from rfl]
        omega
      rw [ev] at hl hqj
      have c1 : decide ((v : Int) < 0) = false := decide_eq_false (by omega)
      have c2 : decide ((D : Int) ≤ (v : Int)) = false := decide_eq_false (by omega)
      have c3 : decide (D ≤ v) = false := decide_eq_false (by omega)
      have p0 : (0 : Int) ≤ (j : Int) := by omega
      have p1 : (j : Int) < (B : Int) := by omega
      clear HV HR HA HQ
      go_wp2_with (at_builtin; refine wpList_append_own _ rfl _ _ 32 rfl w.heap.size 3 i0 (.int .i64 0) 1 8 Try.underlying32 hi0 hz0 hz1 hz2 rfl (by decide) _ j _ rfl (World.ownsRow.alloc HI.out _) ⟨wr.heap.size, 0, none⟩ 1 1 [.int .i64 (v : Int)] rfl rfl (jone_new _ _ _ _) (jone_one _ _) hml2 (by omega) (by simp; omega) ?_; intro v' w6 hown' hgrow' _; have HO6 := HI.out.push HB.out.size hown' hgrow'; clear hown' hgrow')
      exact ⟨⟨j + 1, by omega, by go_num, HO6.1.congr HL.out, HB.out.trans HO6.2⟩, by simp [intOf]; omega⟩
    · obtain rfl : j = B := by omega
      have d1 : decide ((j : Int) < (j : Int)) = false := decide_eq_false (by omega)
      go_wp2
      go_ret2
      exact ⟨_, rfl, HI.out, HB.out⟩
theorem rhomes_ok (p B D : Nat) (s : Int) (m cap : Nat) (a : Option Addr) (q : Nat → Int) (w : World) (ha : Jl w a .i64 m q) (ok : okH p B D s m q = true) :
    Calls Try.prog 11 #[.int .u8 (p : Int), .int .i64 (B : Int), .int .i64 (D : Int), .int .i64 s, .slice a m cap] w fun e w' => ∃ v, e = .returned (.tuple #[v, .int .i64 0]) ∧ Jo w' w.heap.size 3 .i64 v B (hmv p B D s q) ∧ Below w.heap.size w w' := by
  unfold okH at ok
  simp only [Bool.and_eq_true, decide_eq_true_eq] at ok
  obtain ⟨o1, o2, o3, o4, o5, o6⟩ := ok
  have hB := sideB_iff.1 o1
  have hD := sideB_iff.1 o2
  rcases (show p = 1 ∨ p = 2 ∨ p = 3 ∨ p = 4 by omega) with rfl | rfl | rfl | rfl
  · obtain rfl : s = 0 := by simpa [stepB] using o3
    obtain rfl : m = 0 := by simpa [listB] using o4
    exact rhomes_ok1 B D cap a q w (by omega) (by omega)
  · obtain rfl : s = 0 := by simpa [stepB] using o3
    obtain rfl : m = 0 := by simpa [listB] using o4
    exact rhomes_ok2 B D cap a q w (by omega) (by omega)
  · have hs : 1 ≤ s ∧ s ≤ 2147483647 := by simpa [stepB] using o3
    obtain rfl : m = 0 := by simpa [listB] using o4
    exact rhomes_ok3 B D s cap a q w (by omega) (by omega) hs
  · obtain rfl : s = 0 := by simpa [stepB] using o3
    rw [show listB 4 B D m q = (decide ((m : Int) = B) && alB q D m) from if_pos rfl, Bool.and_eq_true, decide_eq_true_eq, alB_get] at o4
    obtain rfl : m = B := by omega
    exact rhomes_ok4 m D cap a q w (by omega) (by omega) ha o4.2
end Go.Proofs.YtfajmoiffjbcbaaR
