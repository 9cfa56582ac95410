/-
  Contracts of the sets' reference: Full, pascal, Choose, Upto.
-/
import Derived.Test.YtpmhpakjlagfjaaJh
import Derived.Test.YtpmhpakjlagfjaaPk
namespace Go.Proofs.Ytpmhpakjlagfjaa
open Go.RowKit
theorem ones_step {i : Nat} : (2 ^ i - 1) ||| 2 ^ i = 2 ^ (i + 1) - 1 := by
  have := Nat.two_pow_pos i
  rw [or_top (by omega), Nat.pow_succ]
  omega
set_option maxHeartbeats 400000 in
theorem rfull_ok (k : Nat) (w : World) (hk : k ≤ 64) :
    Calls Try.prog 12 #[.int .i64 (k : Int)] w fun e w' => e = .returned (.tuple #[.int .u64 ((2 ^ k - 1 : Nat) : Int), .int .i64 0]) ∧ w = w' := by
  have g1 : decide ((k : Int) < 0) = false := decide_eq_false (by omega)
  have g2 : decide ((64 : Int) < (k : Int)) = false := decide_eq_false (by omega)
  obtain ⟨R, HR⟩ : ∃ R : Nat, Hid ((2 ^ k - 1 : Nat) = R) := ⟨_, rfl⟩
  rw [HR.out]
  go_enter Try.func12, Try.ntmps12
  go_wp2
  go_loop [4, 5] (fun vz vi => ∃ i z : Nat, i ≤ k ∧ Hid ((2 ^ i - 1 : Nat) = z) ∧ vi = .int .i64 (i : Int) ∧ vz = .int .u64 (z : Int)) (fun _ vi => k - (intOf vi).toNat)
  case atStart => exact ⟨0, 0, by omega, rfl, rfl, rfl⟩
  case round =>
    obtain ⟨i, z, hi, HZ, rfl, rfl⟩ := hrel
    by_cases hlt : i < k
    · have hi6 : i < 64 := by omega
      obtain ⟨T, hT⟩ : ∃ T, 2 ^ i = T := ⟨_, rfl⟩
      obtain ⟨z', HZ'⟩ : ∃ z' : Nat, Hid ((2 ^ (i + 1) - 1 : Nat) = z') := ⟨_, rfl⟩
      have hp2 : IntKind.u64.wrap (2 ^ i) = (T : Int) := by rw [← hT]; exact j_pow i hi6
      have hT6 := j_pow_lt hi6
      have hor : bits .or .u64 (z : Int) (T : Int) = (z' : Int) := by
        rw [u64_or_nat z T (by rw [← HZ.out]; omega) (by omega), ← hT, ← HZ.out, ones_step, HZ'.out]
      clear hT hT6 HZ
      go_wp2
      exact ⟨⟨i + 1, z', by omega, HZ', by go_num, rfl⟩, by simp [intOf]; omega⟩
    · obtain rfl : i = k := by omega
      have HE : Hid (z = R) := by show _ = _; rw [← HZ.out, ← HR.out]
      clear HZ HR
      go_wp2
      go_ret2
      exact ⟨by rw [← HE.out]; rfl, rfl⟩
set_option maxHeartbeats 400000 in
theorem rfull_bad (n : Int) (w : World) (h : n < 0 ∨ 64 < n) :
    Calls Try.prog 12 #[.int .i64 n] w fun e w' => e = .returned (.tuple #[.int .u64 0, .int .i64 2]) ∧ w = w' := by
  by_cases h0 : n < 0
  · go_enter Try.func12, Try.ntmps12
    go_wp2
    go_ret2
    exact ⟨rfl, rfl⟩
  · have h1 : 64 < n := by omega
    have h2 : 0 ≤ n := by omega
    clear h h0
    go_enter Try.func12, Try.ntmps12
    go_wp2
    go_ret2
    exact ⟨rfl, rfl⟩
/-- A row of Pascal's triangle, from place j on already the next one. -/
def pas (i j t : Nat) : Nat := if j < t then bin (i + 1) t else bin i t
theorem pas_step {i j : Nat} (t : Nat) : (if t = j + 1 then pas i (j + 1) (j + 1) + pas i (j + 1) j else pas i (j + 1) t) = pas i j t := by
  unfold pas
  by_cases e : t = j + 1
  · subst e
    rw [if_pos rfl, if_neg (by omega), if_neg (by omega), if_pos (by omega), bin_succ]
  · rw [if_neg e]
    by_cases h : j + 1 < t
    · rw [if_pos h, if_pos (by omega)]
    · rw [if_neg h, if_neg (by omega)]
theorem pas_zero (i t : Nat) : pas i 0 t = bin (i + 1) t := by
  unfold pas
  by_cases h : 0 < t
  · rw [if_pos h]
  · obtain rfl : t = 0 := by omega
    rw [if_neg h, bin_zero, bin_zero]
theorem pas_top (i k t : Nat) (ht : t ≤ k) : pas i k t = bin i t := if_neg (by omega)
theorem pas_small {i j t : Nat} (hi : i < 64) : pas i j t ≤ 1832624140942590534 := by
  unfold pas
  split
  · exact bin_small (by omega)
  · exact bin_small (by omega)
set_option maxRecDepth 20000 in
set_option maxHeartbeats 2000000 in
theorem rpascal_ok (n : Nat) (w : World) (hn : n ≤ 64) :
    Calls Try.prog 36 #[.int .i64 (n : Int)] w fun e w' => e = .returned (.slice (some ⟨w.heap.size, 0, none⟩) 66 66) ∧ JAt w' w.heap.size 3 .i64 66 (bin n) ∧ Below w.heap.size w w' := by
  obtain ⟨i0, hi0, hz0, hz1, hz2⟩ := info_parts ji64
  go_enter Try.func36, Try.ntmps36
  go_wp2_with (at_make; refine wpList_make_full _ rfl _ _ 22 rfl w.heap.size 3 i0 (.int .i64 0) 1 Try.underlying22 hi0 hz0 hz1 .i64 .i64 _ _ 66 rfl rfl rfl rfl (by rw [hz2]; omega) (by unfold maxLen; omega) (Nat.le_refl _) ?_; intro w1 hown hgrow; have HO1 : Hid (JAt w1 w.heap.size 3 .i64 66 (fun _ => 0)) := jmade_at hown; have HB1 : Hid (Below w.heap.size w w1) := jgrown.mp hgrow; have g0 := HO1.out.cell 0 (by omega); have f0 := HO1.out.free 0; clear hown hgrow)
  have HI0 : Hid (JAt (w1.setCell ⟨w.heap.size, 0, none⟩ (.int .i64 1)) w.heap.size 3 .i64 66 (bin 0)) := (HO1.out.set 0 1).congr (fun t ht => by
    by_cases e : t = 0
    · rw [if_pos e, e, bin_zero]
    · rw [if_neg e, bin_above 0 t (by omega)])
  have HB2 : Hid (Below w.heap.size w (w1.setCell ⟨w.heap.size, 0, none⟩ (.int .i64 1))) := HB1.out.setCell (Nat.le_refl _) _
  clear HO1 HB1 g0 f0
  go_loopw [4] (fun si wr => ∃ i : Nat, i ≤ n ∧ si = .int .i64 (i : Int) ∧ JAt wr w.heap.size 3 .i64 66 (bin i) ∧ Below w.heap.size w wr) (fun si _ => n - (intOf si).toNat)
  case atStart => exact ⟨0, by omega, rfl, HI0.out, HB2.out⟩
  case round =>
    clear HI0 HB2
    obtain ⟨i, hi, rfl, I, hb⟩ := hrel
    have HI : Hid (JAt wr w.heap.size 3 .i64 66 (bin i)) := I
    have HB : Hid (Below w.heap.size w wr) := hb
    clear hb I
    by_cases hlt : i < n
    · go_wp2
      go_loopw [5] (fun sj wr => ∃ j : Nat, j ≤ 65 ∧ sj = .int .i64 (j : Int) ∧ JAt wr w.heap.size 3 .i64 66 (pas i j) ∧ Below w.heap.size w wr) (fun sj _ => (intOf sj).toNat)
      case atStart => exact ⟨65, by omega, rfl, HI.out.congr (fun t ht => (pas_top i 65 t (by omega)).symm), HB.out⟩
      case round =>
        clear HI HB
        obtain ⟨j', hj, rfl, I, hb⟩ := hrel
        cases j' with
        | zero =>
          have HI : Hid (JAt wr w.heap.size 3 .i64 66 (pas i 0)) := I
          have HB : Hid (Below w.heap.size w wr) := hb
          clear I hb
          go_wp2
          exact ⟨⟨i + 1, by omega, by go_num, HI.out.congr (fun t _ => pas_zero i t), HB.out⟩, by simp [intOf]; omega⟩
        | succ j =>
          obtain ⟨x, HX⟩ : ∃ x, Hid (pas i (j + 1) (j + 1) = x) := ⟨_, rfl⟩
          obtain ⟨y, HY⟩ : ∃ x, Hid (pas i (j + 1) j = x) := ⟨_, rfl⟩
          obtain ⟨v, hv⟩ : ∃ z, x + y = z := ⟨_, rfl⟩
          have hc1 := I.cell (j + 1) (by omega)
          have hc2 := I.cell j (by omega)
          have hf := I.free (j + 1)
          rw [HX.out] at hc1
          rw [HY.out] at hc2
          have hx : x ≤ 1832624140942590534 := by rw [← HX.out]; exact pas_small (by omega)
          have hy : y ≤ 1832624140942590534 := by rw [← HY.out]; exact pas_small (by omega)
          have w2' : IntKind.i64.wrap (((j + 1 : Nat) : Int) - 1) = (j : Int) := by rw [IntKind.wrap_i64]; omega
          have w3' : (x : Int) + (y : Int) = (v : Int) := by omega
          have hv6 : v ≤ 9223372036854775807 := by omega
          have p0 : (0 : Int) ≤ ((j + 1 : Nat) : Int) := by omega
          have p1 : ((j + 1 : Nat) : Int) < 66 := by omega
          have p2 : (0 : Int) ≤ (j : Int) := by omega
          have p3 : (j : Int) < 66 := by omega
          have p5 : (j : Int) + 1 < 66 := by omega
          have p4 : (0 : Int) ≤ (j : Int) + 1 := by omega
          have hjk2 : j < 66 := by omega
          have hjk3 : j + 1 < 66 := by omega
          have w5' : IntKind.i64.wrap (j : Int) = (j : Int) := by rw [IntKind.wrap_i64]; omega
          have HN1 : Hid (JAt (wr.drew.setCell ⟨w.heap.size, j + 1, none⟩ (.int .i64 (v : Int))) w.heap.size 3 .i64 66 (pas i j)) := ((I.later (Below.refl _ _).drew).set (j + 1) v).congr (fun t _ => by
            rw [← hv, ← HX.out, ← HY.out]
            exact pas_step t)
          have HB3 : Hid (Below w.heap.size w (wr.drew.setCell ⟨w.heap.size, j + 1, none⟩ (.int .i64 (v : Int)))) := hb.drew.setCell (Nat.le_refl _) _
          have HD : Hid (wr.drew.cell? ⟨w.heap.size, j + 1, none⟩ = some (.int .i64 (x : Int)) ∧ wr.drew.cell? ⟨w.heap.size, j, none⟩ = some (.int .i64 (y : Int))) := ⟨hc1, hc2⟩
          clear I hb hx hy hv
          go_wp2
          refine wp_region_park (k := 13) (n := 13) (fun w' => w'.cell? ⟨w.heap.size, j + 1, none⟩ = some (.int .i64 (x : Int)) ∧ w'.cell? ⟨w.heap.size, j, none⟩ = some (.int .i64 (y : Int))) (by kernel_rfl) (by kernel_rfl) (by decide) (by rfl) ?_
          refine wpAnyH_take (i := 0) (v := ?v0) rfl (by kernel_rfl) (by kernel_rfl) (by kernel_rfl) (fun _ _ _ h => h) (Or.inl ⟨by rfl, ?y0⟩) HD.out ?z0
          case y0 => (intro w hSw; (try dsimp only at hSw); go_simp; try with_reducible rfl)
          try simp only [List.getElem_toArray, List.getElem_cons_zero, Act.put, List.setIfInBounds_toArray, List.set_cons_zero, List.set_cons_succ]
          refine wpAnyH_take (i := 1) (v := ?v1) rfl (by kernel_rfl) (by kernel_rfl) (by kernel_rfl) (fun _ _ _ h => h) (Or.inl ⟨by rfl, ?y1⟩) HD.out ?z1
          case y1 => (intro w hSw; (try dsimp only at hSw); go_simp; try with_reducible rfl)
          try simp only [List.getElem_toArray, List.getElem_cons_succ, List.getElem_cons_zero, Act.put, List.setIfInBounds_toArray, List.set_cons_zero, List.set_cons_succ]
          refine wpAnyH_take (i := 2) (v := ?v2) rfl (by kernel_rfl) (by kernel_rfl) (by kernel_rfl) (fun _ _ _ h => h) (Or.inl ⟨by rfl, ?y2⟩) HD.out ?z2
          case y2 => (intro w hSw; (try dsimp only at hSw); go_simp; try with_reducible rfl)
          try simp only [List.getElem_toArray, List.getElem_cons_succ, List.getElem_cons_zero, Act.put, List.setIfInBounds_toArray, List.set_cons_zero, List.set_cons_succ]
          refine wpAnyH_take (i := 3) (v := ?v3) rfl (by kernel_rfl) (by kernel_rfl) (by kernel_rfl) (fun _ _ _ h => h) (Or.inl ⟨by rfl, ?y3⟩) HD.out ?z3
          case y3 => (intro w hSw; (try dsimp only at hSw); go_simp; try with_reducible rfl)
          try simp only [List.getElem_toArray, List.getElem_cons_succ, List.getElem_cons_zero, Act.put, List.setIfInBounds_toArray, List.set_cons_zero, List.set_cons_succ]
          refine wpAnyH_take (i := 4) (v := ?v4) rfl (by kernel_rfl) (by kernel_rfl) (by kernel_rfl) (fun _ _ _ h => h) (Or.inl ⟨by rfl, ?y4⟩) HD.out ?z4
          case y4 => (intro w hSw; (try dsimp only at hSw); go_simp; try with_reducible rfl)
          try simp only [List.getElem_toArray, List.getElem_cons_succ, List.getElem_cons_zero, Act.put, List.setIfInBounds_toArray, List.set_cons_zero, List.set_cons_succ]
          refine wpAnyH_take (i := 5) (v := ?v5) rfl (by kernel_rfl) (by kernel_rfl) (by kernel_rfl) (fun _ _ _ h => h) (Or.inl ⟨by rfl, ?y5⟩) HD.out ?z5
          case y5 => (intro w hSw; (try dsimp only at hSw); go_simp; try with_reducible rfl)
          try simp only [List.getElem_toArray, List.getElem_cons_succ, List.getElem_cons_zero, Act.put, List.setIfInBounds_toArray, List.set_cons_zero, List.set_cons_succ]
          refine wpAnyH_take (i := 6) (v := ?v6) rfl (by kernel_rfl) (by kernel_rfl) (by kernel_rfl) (fun _ _ _ h => h) (Or.inl ⟨by rfl, ?y6⟩) HD.out ?z6
          case y6 => (intro w hSw; (try dsimp only at hSw); go_simp; try with_reducible rfl)
          try simp only [List.getElem_toArray, List.getElem_cons_succ, List.getElem_cons_zero, Act.put, List.setIfInBounds_toArray, List.set_cons_zero, List.set_cons_succ]
          refine wpAnyH_take (i := 7) (v := ?v7) rfl (by kernel_rfl) (by kernel_rfl) (by kernel_rfl) (fun _ _ _ h => h) (Or.inl ⟨by rfl, ?y7⟩) HD.out ?z7
          case y7 => (intro w hSw; (try dsimp only at hSw); go_simp; try with_reducible rfl)
          try simp only [List.getElem_toArray, List.getElem_cons_succ, List.getElem_cons_zero, Act.put, List.setIfInBounds_toArray, List.set_cons_zero, List.set_cons_succ]
          refine wpAnyH_take (i := 8) (v := ?v8) rfl (by kernel_rfl) (by kernel_rfl) (by kernel_rfl) (fun _ _ _ h => h) (Or.inl ⟨by rfl, ?y8⟩) HD.out ?z8
          case y8 => (intro w hSw; (try dsimp only at hSw); go_simp; try with_reducible rfl)
          try simp only [List.getElem_toArray, List.getElem_cons_succ, List.getElem_cons_zero, Act.put, List.setIfInBounds_toArray, List.set_cons_zero, List.set_cons_succ]
          refine wpAnyH_take (i := 9) (v := ?v9) rfl (by kernel_rfl) (by kernel_rfl) (by kernel_rfl) (fun _ _ _ h => h) (Or.inl ⟨by rfl, ?y9⟩) HD.out ?z9
          case y9 => (intro w hSw; (try dsimp only at hSw); go_simp; try with_reducible rfl)
          try simp only [List.getElem_toArray, List.getElem_cons_succ, List.getElem_cons_zero, Act.put, List.setIfInBounds_toArray, List.set_cons_zero, List.set_cons_succ]
          refine wpAnyH_take (i := 10) (v := ?v10) rfl (by kernel_rfl) (by kernel_rfl) (by kernel_rfl) (fun _ _ _ h => h) (Or.inl ⟨by rfl, ?y10⟩) HD.out ?z10
          case y10 => (intro w hSw; (try dsimp only at hSw); go_simp; try with_reducible rfl)
          try simp only [List.getElem_toArray, List.getElem_cons_succ, List.getElem_cons_zero, Act.put, List.setIfInBounds_toArray, List.set_cons_zero, List.set_cons_succ]
          refine wpAnyH_take (i := 11) (v := ?v11) rfl (by kernel_rfl) (by kernel_rfl) (by kernel_rfl) (fun _ _ _ h => h) (Or.inl ⟨by rfl, ?y11⟩) HD.out ?z11
          case y11 => (intro w hSw; (try dsimp only at hSw); go_simp; try with_reducible rfl)
          try simp only [List.getElem_toArray, List.getElem_cons_succ, List.getElem_cons_zero, Act.put, List.setIfInBounds_toArray, List.set_cons_zero, List.set_cons_succ]
          refine wpAnyH_take (i := 12) (v := ?v12) rfl (by kernel_rfl) (by kernel_rfl) (by kernel_rfl) (fun _ _ _ h => h) (Or.inl ⟨by rfl, ?y12⟩) HD.out ?z12
          case y12 => (intro w hSw; (try dsimp only at hSw); go_simp; try with_reducible rfl)
          try simp only [List.getElem_toArray, List.getElem_cons_succ, List.getElem_cons_zero, Act.put, List.setIfInBounds_toArray, List.set_cons_zero, List.set_cons_succ]
          refine wpAnyH_done (by kernel_rfl) ?_ _
          refine park_last rfl (fun K hK => ?_)
          go_simp
          refine hK.out _ _ ?_
          clear hK K
          try simp only [List.getElem_toArray, List.getElem_cons_succ, List.getElem_cons_zero, Act.put, List.setIfInBounds_toArray, List.set_cons_zero, List.set_cons_succ]
          go_wp2
          exact ⟨⟨j, by omega, by go_num, HN1.out, HB3.out⟩, by simp [intOf]⟩
    · obtain rfl : i = n := by omega
      go_wp2
      go_ret
      exact ⟨rfl, HI.out, HB.out⟩
end Go.Proofs.Ytpmhpakjlagfjaa
