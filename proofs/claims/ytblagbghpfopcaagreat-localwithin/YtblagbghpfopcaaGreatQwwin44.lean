/-
  All's function, told one set after another.
  The walk through a loop over All's sets, which may be left by a break.
  What the loop over All's sets needs: of any n and k, how many sets there are and which, and that the program and the reference tell the same.
-/
import Derived.Test.YtblagbghpfopcaaGreatQwwin00
import Derived.Test.YtblagbghpfopcaaGreatQwwin19
set_option maxRecDepth 100000
set_option maxHeartbeats 16000000
namespace Go.Proofs.YtblagbghpfopcaaGreat
open Go.RowKit Go.Shelf
attribute [local go_sem] Oper.semAt_some
theorem jhid {p : Prop} (h : p) : Hid p := h
/-- What is left to tell. -/
def amu (C : Nat) (ix : Nat → Nat) : Value → Value → Nat
 | .int _ s, .bool true => C + 1 - ix s.toNat
 | _, _ => 0
theorem qhn (C : Nat) (ix : Nat → Nat) (K : IntKind) (s : Nat) : amu C ix (.int K (s : Int)) (.bool true) = C + 1 - ix s := by simp [amu]
theorem amu_no (C : Nat) (ix : Nat → Nat) (v : Value) : amu C ix v (.bool false) = 0 := by cases v <;> rfl
theorem all_in (m l C bn bk : Nat) (n k : Int) (f ix : Nat → Nat) (W0 : World) (T : Nat → World → Prop) (Tx : World → Prop) (hm : 1 ≤ m)
  (hix : ∀ j, j < C → ix (f j) = j)
  (hA0 : C = 0 → ∀ w : World, Calls Tryz.prog 95 #[.int .i64 n, .int .i64 k, .int .i64 0] w fun e w' => e = .returned (.tuple #[.int .u64 0, .int .i64 2]) ∧ Below w.heap.size w w')
  (hA1 : 0 < C → ∀ w : World, Calls Tryz.prog 95 #[.int .i64 n, .int .i64 k, .int .i64 0] w fun e w' => e = .returned (.tuple #[.int .u64 (f 0 : Nat), .int .i64 0]) ∧ Below w.heap.size w w')
  (hN1 : ∀ j, j + 1 < C → ∀ w : World, Calls Tryz.prog 96 #[.int .i64 n, .int .u64 (f j : Nat)] w fun e w' => e = .returned (.tuple #[.int .u64 (f (j + 1) : Nat), .bool true]) ∧ Below w.heap.size w w')
  (hN0 : ∀ j, j + 1 = C → ∀ w : World, Calls Tryz.prog 96 #[.int .i64 n, .int .u64 (f j : Nat)] w fun e w' => e = .returned (.tuple #[.int .u64 0, .bool false]) ∧ Below w.heap.size w w')
  (hT : ∀ j W W', T j W → Below W.heap.size W W' → T j W')
  (hC : ∀ j W, T j W → W.cell? ⟨bn, 0, none⟩ = some (.int .i64 n) ∧ W.cell? ⟨bk, 0, none⟩ = some (.int .i64 k))
  (hY : ∀ j W, j < C → T j W → YieldAt Fence.wide (m - 1) Tryz.prog l #[.int .u64 (f j : Nat)] W (fun e W' => (e = .returned (.bool true) ∧ T (j + 1) W') ∨ (e = .returned (.bool false) ∧ Tx W')))
  (h0 : T 0 W0) :
  CallsIn Fence.wide m Tryz.prog 94 #[.func (.yield l) #[] #[], .pointer (some ⟨bn, 0, none⟩), .pointer (some ⟨bk, 0, none⟩)] W0 fun e W' => (∃ v, e = .returned v) ∧ (T C W' ∨ Tx W') := by
 have HT := jhid hT
 have HC := jhid hC
 have HYd := jhid hY
 have HA0 := jhid hA0
 have HA1 := jhid hA1
 have HN1 := jhid hN1
 have HN0 := jhid hN0
 have HIx := jhid hix
 have H0 : Hid (T 0 W0) := h0
 obtain ⟨c1, c2⟩ := hC 0 W0 h0
 clear hT hC hY h0 hA0 hA1 hN1 hN0 hix
 refine callsIn_of_wp Tryz.func94 rfl trivial ?_ rfl
 simp only [Tryz.ntmps94, List.size_toArray, List.length_cons, List.length_nil, Nat.reduceAdd, Nat.reduceSub, Array.replicate_succ, Array.replicate_zero, List.push_toArray, List.append_toArray, List.nil_append, List.cons_append]
 by_cases h : C = 0
 ·gi_wp2_with (refine ⟨trivial, ?_⟩; gi_at_call 95; refine (callsIn_wide.2 (HA0.out h _)).mono ?_; rintro e w1 ⟨rfl, hb1⟩; have HB1 : Hid (Below W0.heap.size W0 w1) := hb1; clear hb1)
  refine wpIn_loop_rounds 1 ?_
  rw [roundsIn_succ]
  gi_wp2
  refine ⟨fun _ h => (by cases h), ?_⟩
  gi_wp2
  go_end0
  exact ⟨⟨_, rfl⟩, .inl (by rw [h]; exact HT.out 0 _ _ H0.out HB1.out)⟩
 ·obtain ⟨s0, HS0⟩ : ∃ s0, Hid (f 0 = s0) := ⟨_, rfl⟩
  gi_wp2_with (refine ⟨trivial, ?_⟩; gi_at_call 95; refine (callsIn_wide.2 (HA1.out (by omega) _)).mono ?_; rintro e w1 ⟨rfl, hb1⟩; rw [HS0.out]; have HB1 : Hid (Below W0.heap.size W0 w1) := hb1; clear hb1)
  gi_loopw [4, 6] (fun vs vo wr => ∃ (j s : Nat) (b : Bool), vs = .int .u64 (s : Int) ∧ vo = .bool b ∧ Hid (b = true → j < C ∧ f j = s ∧ T j wr) ∧ Hid (b = false → T C wr)) (fun vs vo _ => amu C ix vs vo)
  case atStart => exact ⟨0, s0, true, rfl, rfl, fun _ => ⟨by omega, HS0.out, HT.out 0 _ _ H0.out HB1.out⟩, fun h => (by cases h)⟩
  case round =>
   clear HB1 HS0 H0 HA0 HA1 c1 c2
   obtain ⟨j, s, b, rfl, rfl, Hb1, Hb2⟩ := hrel
   cases b with
   | false =>
    have HTC : Hid (T C wr) := Hb2.out rfl
    clear Hb1 Hb2
    gi_wp2
    refine ⟨fun _ h => (by cases h), ?_⟩
    gi_wp2
    go_end0
    exact ⟨⟨_, rfl⟩, .inl HTC.out⟩
   | true =>
    obtain ⟨hj, hs, hTj⟩ := Hb1.out rfl
    have HTj : Hid (T j wr) := hTj
    obtain ⟨fn, tmps, assign, body, hy, hR⟩ := HYd.out j wr hj hTj
    rw [hs] at hy
    have HRd := jhid hR
    clear hR Hb1 Hb2 hTj
    gi_wp2
    refine HRd.out.mono ?_
    rintro e W3 (⟨rfl, ht3⟩ | ⟨rfl, htx⟩)
    ·have HT3 : Hid (T (j + 1) W3) := ht3
     obtain ⟨c3, _⟩ := HC.out (j + 1) W3 ht3
     clear ht3 hy HRd
     by_cases hlast : j + 1 < C
     ·obtain ⟨u, HU⟩ : ∃ u, Hid (f (j + 1) = u) := ⟨_, rfl⟩
      have HN : Hid (∀ w : World, Calls Tryz.prog 96 #[.int .i64 n, .int .u64 (s : Int)] w fun e w' => e = .returned (.tuple #[.int .u64 (u : Int), .bool true]) ∧ Below w.heap.size w w') := fun w => by
       have h := HN1.out j hlast w
       rw [hs, HU.out] at h
       exact h
      gi_wp2_with (refine ⟨trivial, ?_⟩; gi_at_call 96; refine (callsIn_wide.2 (HN.out _)).mono ?_; rintro e w4 ⟨rfl, hb4⟩; have HT4 : Hid (T (j + 1) w4) := HT.out (j + 1) _ _ HT3.out hb4; clear hb4)
      refine ⟨⟨j + 1, u, true, rfl, rfl, fun _ => ⟨hlast, HU.out, HT4.out⟩, fun h => (by cases h)⟩, ?_⟩
      rw [qhn, qhn, ← HU.out, ← hs, HIx.out _ hlast, HIx.out _ hj]
      omega
     ·have hlast2 : j + 1 = C := by omega
      have HN : Hid (∀ w : World, Calls Tryz.prog 96 #[.int .i64 n, .int .u64 (s : Int)] w fun e w' => e = .returned (.tuple #[.int .u64 0, .bool false]) ∧ Below w.heap.size w w') := fun w => by
       have h := HN0.out j hlast2 w
       rw [hs] at h
       exact h
      gi_wp2_with (refine ⟨trivial, ?_⟩; gi_at_call 96; refine (callsIn_wide.2 (HN.out _)).mono ?_; rintro e w4 ⟨rfl, hb4⟩; have HT4 : Hid (T (j + 1) w4) := HT.out (j + 1) _ _ HT3.out hb4; clear hb4)
      refine ⟨⟨j + 1, 0, false, rfl, rfl, fun h => (by cases h), fun _ => (by rw [← hlast2]; exact HT4.out)⟩, ?_⟩
      rw [qhn, amu_no, ← hs, HIx.out _ hj]
      omega
    ·have HTx : Hid (Tx W3) := htx
     clear htx hy HRd
     gi_wp2
     go_end0
     exact ⟨⟨_, rfl⟩, .inr HTx.out⟩
open Go.RowKit Go.Shelf
attribute [local go_sem] Oper.semAt_some
open Go.RowKit Go.Shelf
/-- How many sets All tells, and which. -/
structure AllF (n k : Int) (C : Nat) (f ix : Nat → Nat) : Prop where
 ix : ∀ j, j < C → ix (f j) = j
 a0 : C = 0 → ∀ w : World, Calls Tryz.prog 95 #[.int .i64 n, .int .i64 k, .int .i64 0] w fun e w' => e = .returned (.tuple #[.int .u64 0, .int .i64 2]) ∧ Below w.heap.size w w'
 a1 : 0 < C → ∀ w : World, Calls Tryz.prog 95 #[.int .i64 n, .int .i64 k, .int .i64 0] w fun e w' => e = .returned (.tuple #[.int .u64 (f 0 : Nat), .int .i64 0]) ∧ Below w.heap.size w w'
 n1 : ∀ j, j + 1 < C → ∀ w : World, Calls Tryz.prog 96 #[.int .i64 n, .int .u64 (f j : Nat)] w fun e w' => e = .returned (.tuple #[.int .u64 (f (j + 1) : Nat), .bool true]) ∧ Below w.heap.size w w'
 n0 : ∀ j, j + 1 = C → ∀ w : World, Calls Tryz.prog 96 #[.int .i64 n, .int .u64 (f j : Nat)] w fun e w' => e = .returned (.tuple #[.int .u64 0, .bool false]) ∧ Below w.heap.size w w'
end Go.Proofs.YtblagbghpfopcaaGreat
