/-
  Contracts of Scale, Mac.
-/
import Derived.Test.YtkfnedpnkeacpaaQrrns00
import Derived.Test.YtkfnedpnkeacpaaQrrns08
set_option maxRecDepth 100000
set_option maxHeartbeats 16000000
namespace Go.Proofs.Ytkfnedpnkeacpaa
open Go.RowKit
theorem below_grown {w w1 w2 : World} (h1 : Below w.heap.size w w1) (h2 : w1.grownBy w2 (some w.heap.size)) : Below w.heap.size w w2 :=
 h1.grown h2 h1.size (fun k hk => by cases hk; exact Nat.le_refl _)
theorem qcy (w : World) (a : Option Addr) (n c ca : Nat) (h : Nat → Nat) (hc : c < 256) (ha : Sl w a n h) (hn : n ≤ 140737488351232) :
  Calls Try.prog 60 #[.int .u8 (c : Int), .slice a n ca] w fun e w' => e = .returned (.slice (some ⟨w.heap.size, 0, none⟩) n n) ∧ RowAt w' w.heap.size 5 n (fun i => fm c (h i)) ∧ Below w.heap.size w w' := by
 obtain ⟨i0, hi, hz0, hz1, hz2⟩ := info_parts qcf
 have hml : n ≤ maxLen := by unfold maxLen; omega
 have HA : Hid (Sl w a n h) := ha
 clear ha
 go_enter Try.func60, Try.ntmps60
 go_wp2_with (first
  | (at_make; refine wpList_make_full _ rfl _ _ 22 rfl w.heap.size 5 i0 (.int .u8 0) 1 Try.underlying22 hi hz0 hz1 .i64 .i64 _ _ n rfl rfl rfl rfl (by rw [hz2]; omega) hml (Nat.le_refl _) ?_; intro w1 hown hgrow; have HR : Hid _ := made_at hown; have HB : Hid _ := qa5.mp hgrow; clear hown hgrow)
  | (go_at_call 61; refine (addp_any _ w.heap.size n n c ca a (fun _ => 0) h hc HR.out (fun _ _ => by decide) (HA.out.later HB.out) (qam HA.out (Nat.le_refl _)) hn).mono ?_; rintro e w2 ⟨rfl, hr2, hg2⟩))
 go_ret
 exact ⟨rfl, RowAt.congr (by assumption) (fun i _ => Nat.zero_xor _), below_grown HB.out (by assumption)⟩
end Go.Proofs.Ytkfnedpnkeacpaa
