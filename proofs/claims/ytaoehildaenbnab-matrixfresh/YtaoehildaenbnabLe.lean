/-
  Contracts of Scale, Mac.
-/
import Derived.Test.YtaoehildaenbnabLd
namespace Go.Proofs.Ytaoehildaenbnab
open Go.RowKit
theorem below_grown {w w1 w2 : World} (h1 : Below w.heap.size w w1) (h2 : w1.grownBy w2 (some w.heap.size)) : Below w.heap.size w w2 :=
  h1.grown h2 h1.size (fun k hk => by cases hk; exact Nat.le_refl _)
set_option maxHeartbeats 400000 in
theorem scale_any (w : World) (a : Option Addr) (n c ca : Nat) (h : Nat → Nat) (hc : c < 256) (ha : Sl w a n h) (hn : n ≤ 140737488351232) :
    Calls Try.prog 40 #[.int .u8 (c : Int), .slice a n ca] w fun e w' => e = .returned (.slice (some ⟨w.heap.size, 0, none⟩) n n) ∧ RowAt w' w.heap.size 5 n (fun i => fm c (h i)) ∧ Below w.heap.size w w' := by
  obtain ⟨i0, hi, hz0, hz1, hz2⟩ := info_parts info8
  have hml : n ≤ maxLen := by unfold maxLen; omega
  have HA : Hid (Sl w a n h) := ha
  clear ha
  go_enter Try.func40, Try.ntmps40
  go_wp2_with (first
    | (at_make; refine wpList_make_full _ rfl _ _ 22 rfl w.heap.size 5 i0 (.int .u8 0) 1 Try.underlying22 hi hz0 hz1 .i64 .i64 _ _ n rfl rfl rfl rfl (by rw [hz2]; omega) hml (Nat.le_refl _) ?_; intro w1 hown hgrow; have HR : Hid _ := made_at hown; have HB : Hid _ := grown_none.mp hgrow; clear hown hgrow)
    | (go_at_call 43; refine (addp_any _ w.heap.size n n c ca a (fun _ => 0) h hc HR.out (fun _ _ => by decide) (HA.out.later HB.out) (off_of_lt HA.out (Nat.le_refl _)) hn).mono ?_; rintro e w2 ⟨rfl, hr2, hg2⟩))
  go_ret
  exact ⟨rfl, RowAt.congr (by assumption) (fun i _ => Nat.zero_xor _), below_grown HB.out (by assumption)⟩
set_option maxHeartbeats 400000 in
theorem mac_any (w : World) (a b : Option Addr) (n c ca cb : Nat) (f h : Nat → Nat) (hc : c < 256) (ha : Sl w a n f) (hb : Sl w b n h) (hn : n ≤ 140737488351232) :
    Calls Try.prog 39 #[.slice a n ca, .int .u8 (c : Int), .slice b n cb] w fun e w' => e = .returned (.tuple #[.slice (some ⟨w.heap.size, 0, none⟩) n n, .int .i64 0]) ∧ RowAt w' w.heap.size 5 n (fun i => f i ^^^ fm c (h i)) ∧ Below w.heap.size w w' := by
  have HA : Hid (Sl w a n f) := ha
  have HS : Hid (Sl w b n h) := hb
  clear ha hb
  go_enter Try.func39, Try.ntmps39
  go_wp2_with (first
    | (go_at_call 42; refine (copy_any _ _ _ _ f HA.out hn).mono ?_; rintro e w1 ⟨rfl, hr1, hb1⟩; have HR : Hid _ := hr1; have HB : Hid _ := hb1; clear hr1 hb1)
    | (go_at_call 43; refine (addp_any _ w.heap.size n n c cb b f h hc HR.out HA.out.1 (HS.out.later HB.out) (off_of_lt HS.out (Nat.le_refl _)) hn).mono ?_; rintro e w2 ⟨rfl, hr2, hg2⟩))
  go_ret2
  exact ⟨rfl, by assumption, below_grown HB.out (by assumption)⟩
set_option maxHeartbeats 400000 in
theorem mac_bad (w : World) (a b : Option Addr) (n m c ca cb : Nat) (hn : n ≠ m) :
    Calls Try.prog 39 #[.slice a n ca, .int .u8 (c : Int), .slice b m cb] w fun e w' => e = .returned (.tuple #[.slice none 0 0, .int .i64 3]) ∧ w' = w := by
  have t : ((n : Int) != (m : Int)) = true := by simp; omega
  go_enter Try.func39, Try.ntmps39
  go_wp2
  go_ret2
  exact ⟨rfl, rfl⟩
end Go.Proofs.Ytaoehildaenbnab
