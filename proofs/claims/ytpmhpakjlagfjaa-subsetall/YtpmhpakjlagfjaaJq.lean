/-
  The reference's All; All's function value.
-/
import Derived.Test.YtpmhpakjlagfjaaJp
import Derived.RangeFuncNested
import Derived.RangeFuncBound
import Derived.RangeFuncCalls
import Derived.RangeFuncLeaves
import Derived.Shelf.Abstract
import Derived.Shelf.RegionOpen
import Derived.WalkKit
import Derived.OwnWalkIn
import Derived.TacticsInMore
import Derived.LoopNIn
import Derived.LoopIn
namespace Go.Proofs.Ytpmhpakjlagfjaa
open Go.RowKit
set_option maxHeartbeats 400000 in
theorem rfirst6_ok (k : Nat) (w : World) (hk : k ≤ 64) :
    Calls Try.prog 40 #[.int .i64 (k : Int)] w fun e w' => e = .returned (.int .u64 ((2 ^ k - 1 : Nat) : Int)) ∧ w = w' := by
  obtain ⟨z, HZ⟩ : ∃ z : Nat, Hid ((2 ^ k - 1 : Nat) = z) := ⟨_, rfl⟩
  rw [HZ.out]
  go_enter Try.func40, Try.ntmps40
  go_wp2_with (go_at_call 12; refine (rfull_ok k _ hk).mono ?_; rintro e w' ⟨rfl, rfl⟩; rw [HZ.out])
  go_ret
  exact ⟨rfl, rfl⟩
set_option maxHeartbeats 400000 in
theorem jall_any (n k : Int) (w : World) :
    Calls Try.prog 26 #[.int .i64 n, .int .i64 k] w fun e w' => e = .returned (.func (.func 39) #[] #[.pointer (some ⟨w.heap.size, 0, none⟩), .pointer (some ⟨w.heap.size + 1, 0, none⟩)]) ∧ w'.cell? ⟨w.heap.size, 0, none⟩ = some (.int .i64 n) ∧ w'.cell? ⟨w.heap.size + 1, 0, none⟩ = some (.int .i64 k) ∧ w'.heap.size = w.heap.size + 2 ∧ Below w.heap.size w w' := by
  go_enter Try.func26, Try.ntmps26
  go_wp2
  go_ret
  refine ⟨rfl, ?_, ?_, by simp, jtwo (jlow _ _) (jlow _ _)⟩
  · rw [cell_of_row _ _ 0 _ _ _ (heap_alloc2_old w (.cells #[.int .i64 n] 3) (.cells #[.int .i64 k] 3))]; rfl
  · rw [cell_of_row _ _ 0 _ _ _ (heap_alloc2_new w (.cells #[.int .i64 n] 3) (.cells #[.int .i64 k] 3))]; rfl
set_option maxHeartbeats 400000 in
theorem rall_none (n k M : Int) (w : World) (h : n < 0 ∨ 64 < n ∨ k < 0 ∨ n < k) :
    Calls Try.prog 27 #[.int .i64 n, .int .i64 k, .int .i64 M] w fun e w' => e = .returned (.slice none 0 0) ∧ w = w' := by
  by_cases h1 : n < 0
  · go_enter Try.func27, Try.ntmps27
    go_wp2
    go_ret
    exact ⟨rfl, rfl⟩
  · have g1 : decide (n < 0) = false := decide_eq_false h1
    by_cases h2 : 64 < n
    · have g2 : decide (64 < n) = true := decide_eq_true h2
      clear h h1
      go_enter Try.func27, Try.ntmps27
      go_wp2
      go_ret
      exact ⟨rfl, rfl⟩
    · have g2 : decide (64 < n) = false := decide_eq_false h2
      by_cases h3 : k < 0
      · have g3 : decide (k < 0) = true := decide_eq_true h3
        clear h h1 h2
        go_enter Try.func27, Try.ntmps27
        go_wp2
        go_ret
        exact ⟨rfl, rfl⟩
      · have g3 : decide (k < 0) = false := decide_eq_false h3
        have h4 : n < k := by omega
        have g4 : decide (n < k) = true := decide_eq_true h4
        clear h h1 h2 h3 h4
        go_enter Try.func27, Try.ntmps27
        go_wp2
        go_ret
        exact ⟨rfl, rfl⟩
/-- A list's length. -/
def slen : Value → Nat
  | .slice _ n _ => n
  | _ => 0
set_option maxHeartbeats 2000000 in
theorem rall_ok (n k M : Nat) (w : World) (hn : n ≤ 64) (hk : k ≤ n) (hM : M ≤ 1000000) (L : Nat) (HL : Hid (min M (bin n k) = L)) :
    Calls Try.prog 27 #[.int .i64 (n : Int), .int .i64 (k : Int), .int .i64 (M : Int)] w fun e w' => ∃ v, e = .returned v ∧ Jo w' w.heap.size 24 .u64 v L (aset n k) ∧ Below w.heap.size w w' := by
  obtain ⟨i0, hi0, hz0, hz1, hz2⟩ := info_parts ju64
  have g1 : decide ((n : Int) < 0) = false := decide_eq_false (by omega)
  have g2 : decide ((64 : Int) < (n : Int)) = false := decide_eq_false (by omega)
  have g3 : decide ((k : Int) < 0) = false := decide_eq_false (by omega)
  have g4 : decide (n < k) = false := decide_eq_false (by omega)
  obtain ⟨C, HC⟩ : ∃ C, Hid (bin n k = C) := ⟨_, rfl⟩
  have hC0 : 0 < C := by rw [← HC.out]; exact bin_pos n k hk
  rw [HC.out] at HL
  have hL := HL.out
  obtain ⟨f, hf0, HF, HNx, HNo, HFF⟩ : ∃ f : Nat → Nat, f 0 = 2 ^ k - 1 ∧ Hid (∀ j, f j < 2 ^ n) ∧ Hid (∀ j, j + 1 < C → nx (f j) n = some (f (j + 1))) ∧ Hid (∀ j, j + 1 = C → nx (f j) n = none) ∧ Hid (aset n k = f) :=
    ⟨aset n k, aset_first hk, fun j => aset_lt n k j, fun j hj => nx_aset_some (by rw [HC.out]; exact hj), fun j hj => nx_aset_none (by rw [HC.out]; exact hj), rfl⟩
  rw [HFF.out]
  obtain ⟨s0, HS0⟩ : ∃ s0, Hid (f 0 = s0) := ⟨_, rfl⟩
  have HFi : Hid (∀ w : World, Calls Try.prog 40 #[.int .i64 (k : Int)] w fun e w' => e = .returned (.int .u64 (s0 : Int)) ∧ w = w') := fun w => by
    rw [← HS0.out, hf0]; exact rfirst6_ok k w (by omega)
  have HN0 : Hid (Jo w w.heap.size 24 .u64 (.slice none 0 0) 0 f) := Jo.nil _ _ _ _ _
  clear hf0 HFF HC HL
  go_enter Try.func27, Try.ntmps27
  go_wp2_with (go_at_call 40; refine (HFi.out _).mono ?_; rintro e w' ⟨rfl, rfl⟩)
  go_loopw [7, 8, 9] (fun v vs vo wr => ∃ (j s : Nat) (b : Bool), j ≤ L ∧ vs = .int .u64 (s : Int) ∧ vo = .bool b ∧ Hid (b = true → j < C ∧ f j = s) ∧ Hid (b = false → j = C) ∧ Jo wr w.heap.size 24 .u64 v j f ∧ Below w.heap.size w wr) (fun v _ _ _ => M - slen v)
  case atStart => exact ⟨0, s0, true, by omega, rfl, rfl, fun _ => ⟨hC0, HS0.out⟩, fun h => (by cases h), HN0.out, Below.refl _ _⟩
  case round =>
    clear HN0 HS0 HFi
    obtain ⟨j, s, b, hj, rfl, rfl, Hb1, Hb2, I, hb⟩ := hrel
    obtain ⟨ps, pd, rfl, hpn⟩ := I.form
    have HI : Hid (Jo wr w.heap.size 24 .u64 (.slice ps j pd) j f) := I
    have HB : Hid (Below w.heap.size w wr) := hb
    clear I hb
    cases b with
    | false =>
      have hjC := Hb2.out rfl
      have hjL : j = L := by omega
      subst hjL
      clear hjC hL Hb1 Hb2
      go_wp2
      go_ret
      exact ⟨_, rfl, HI.out, HB.out⟩
    | true =>
      obtain ⟨hjC, hs⟩ := Hb1.out rfl
      by_cases hlt : j < M
      · have c1 : decide ((j : Int) < (M : Int)) = true := decide_eq_true (by omega)
        have c2 : decide (j < M) = true := decide_eq_true hlt
        have hml2 : j + 1 ≤ maxLen := by unfold maxLen; omega
        have hwsz := HB.out.size
        have HSn : Hid (s < 2 ^ n) := by rw [← hs]; exact HF.out j
        have HEq : Hid (∀ t, t < j + 1 → (if t = j then s else f t) = f t) := fun t _ => by
          by_cases e : t = j
          · rw [if_pos e, e, hs]
          · rw [if_neg e]
        clear Hb1 Hb2
        by_cases hlast : j + 1 < C
        · obtain ⟨u, HU⟩ : ∃ u, Hid (f (j + 1) = u) := ⟨_, rfl⟩
          have HN : Hid (∀ w : World, Calls Try.prog 24 #[.int .i64 (n : Int), .int .u64 (s : Int)] w fun e w' => e = .returned (.tuple #[.int .u64 (u : Int), .bool true]) ∧ Below w.heap.size w w') := fun w => by
            have h := rnext_ok n s w hn HSn.out
            have h2 := HNx.out j hlast
            rw [hs, HU.out] at h2
            rw [h2] at h
            exact h
          clear HSn HF HNx HNo hs
          go_wp2_with (first
            | (at_builtin; refine wpList_append_own _ rfl _ _ 50 rfl w.heap.size 24 i0 (.int .u64 0) 1 8 Try.underlying50 hi0 hz0 hz1 hz2 rfl (by decide) _ j _ rfl (World.ownsRow.alloc HI.out _) ⟨wr.heap.size, 0, none⟩ 1 1 [.int .u64 (s : Int)] rfl rfl (jone_new _ _ _ _) (jone_one _ _) hml2 (by omega) (by simp; omega) ?_; intro v' w6 hown' hgrow' _; have hO6 := HI.out.push HB.out.size hown' hgrow'; have HO6 : Hid (Jo w6 w.heap.size 24 .u64 v' (j + 1) f) := hO6.1.congr HEq.out; have HB6 : Hid (Below w.heap.size w w6) := HB.out.trans hO6.2; clear hown' hgrow' hO6)
            | (go_at_call 24; refine (HN.out _).mono ?_; rintro e w7 ⟨rfl, hb⟩; have HO7 : Hid (Jo w7 w.heap.size 24 .u64 v' (j + 1) f) := HO6.out.later hb; have HB7 : Hid (Below w.heap.size w w7) := jtwo HB6.out hb; clear hb))
          obtain ⟨qs, qd, rfl, _⟩ := HO7.out.form
          exact ⟨⟨j + 1, u, true, by omega, rfl, rfl, fun _ => ⟨hlast, HU.out⟩, fun h => (by cases h), HO7.out, HB7.out⟩, by simp [slen]; omega⟩
        · have hlast2 : j + 1 = C := by omega
          have HN : Hid (∀ w : World, Calls Try.prog 24 #[.int .i64 (n : Int), .int .u64 (s : Int)] w fun e w' => e = .returned (.tuple #[.int .u64 0, .bool false]) ∧ Below w.heap.size w w') := fun w => by
            have h := rnext_ok n s w hn HSn.out
            have h2 := HNo.out j hlast2
            rw [hs] at h2
            rw [h2] at h
            exact h
          have HLa : Hid (j + 1 = C) := hlast2
          clear HSn HF HNx HNo hs hlast hlast2
          go_wp2_with (first
            | (at_builtin; refine wpList_append_own _ rfl _ _ 50 rfl w.heap.size 24 i0 (.int .u64 0) 1 8 Try.underlying50 hi0 hz0 hz1 hz2 rfl (by decide) _ j _ rfl (World.ownsRow.alloc HI.out _) ⟨wr.heap.size, 0, none⟩ 1 1 [.int .u64 (s : Int)] rfl rfl (jone_new _ _ _ _) (jone_one _ _) hml2 (by omega) (by simp; omega) ?_; intro v' w6 hown' hgrow' _; have hO6 := HI.out.push HB.out.size hown' hgrow'; have HO6 : Hid (Jo w6 w.heap.size 24 .u64 v' (j + 1) f) := hO6.1.congr HEq.out; have HB6 : Hid (Below w.heap.size w w6) := HB.out.trans hO6.2; clear hown' hgrow' hO6)
            | (go_at_call 24; refine (HN.out _).mono ?_; rintro e w7 ⟨rfl, hb⟩; have HO7 : Hid (Jo w7 w.heap.size 24 .u64 v' (j + 1) f) := HO6.out.later hb; have HB7 : Hid (Below w.heap.size w w7) := jtwo HB6.out hb; clear hb))
          obtain ⟨qs, qd, rfl, _⟩ := HO7.out.form
          exact ⟨⟨j + 1, 0, false, by omega, rfl, rfl, fun h => (by cases h), fun _ => HLa.out, HO7.out, HB7.out⟩, by simp [slen]; omega⟩
      · have hjL : j = L := by omega
        subst hjL
        clear hjC hL Hb1 Hb2 hs
        have c1 : decide ((j : Int) < (M : Int)) = false := decide_eq_false (by omega)
        have c2 : decide (j < M) = false := decide_eq_false hlt
        go_wp2
        go_ret
        exact ⟨_, rfl, HI.out, HB.out⟩
end Go.Proofs.Ytpmhpakjlagfjaa
