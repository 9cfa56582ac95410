/-
  Contracts of the reference: Reduce's error, Rank.
-/
import Derived.Test.YtblagbghpfopcaaQffst00
import Derived.Test.YtblagbghpfopcaaQffst22
set_option maxRecDepth 100000
set_option maxHeartbeats 16000000
namespace Go.Proofs.Ytblagbghpfopcaa
open Go.RowKit
/-- What the reference's Reduce answers of a right matrix. -/
def RedA (w w' : World) (e : Ending) (r c n : Nat) (F : Nat → Nat) : Prop := ∃ s d ps pd top p G, e = .returned (.tuple #[mv r c s n d, .slice ps top pd, .int .i64 0]) ∧ Ob w' w.heap.size (.slice s n d) n G ∧ Oi w' w.heap.size (.slice ps top pd) top p ∧ (∀ q, q < n → G q < 256) ∧ Rdf (m2 G r c) r top p ∧ SpEq (m2 G r c) r (m2 F r c) r ∧ (∀ i, i < top → p i < c) ∧ Below w.heap.size w w'
theorem rred_a (w : World) (r c n k : Nat) (a : Option Addr) (F : Nat → Nat) (ha : Sl w a n F) (h0 : a = none → n = 0 ∧ k = 0) (R : Rt r c n) : Calls Try.prog 63 #[mv r c a n k] w fun e w' => RedA w w' e r c n F :=
 (rred_ok w r c n k a F ha h0 R).mono fun _ _ ⟨s, d, _, top, p, G, he, ho, hi, hr⟩ => by
  obtain ⟨ps, pd, rfl, _⟩ := hi.form
  exact ⟨s, d, ps, pd, top, p, G, he, ho, hi, hr⟩
theorem qf0 (w : World) (r c n k : Nat) (a : Option Addr) (F : Nat → Nat) (ha : Sl w a n F) (h0 : a = none → n = 0 ∧ k = 0) (R : Rt r c n) :
  Calls Try.prog 48 #[mv r c a n k] w fun e w' => ∃ t : Nat, e = .returned (.tuple #[.int .i64 (t : Int), .int .i64 0]) ∧ Rk (m2 F r c) r t ∧ Below w.heap.size w w' := by
 have HC : Hid (∀ w', Below w.heap.size w w' → Calls Try.prog 63 #[mv r c a n k] w' fun e w'' => RedA w' w'' e r c n F) := fun w' h' => rred_a w' r c n k a F (ha.later h') h0 R
 have HRt : Hid (Rt r c n) := R
 clear ha h0 R
 go_enter Try.func48, Try.ntmps48
 go_wp2_with (go_at_call 63; refine (HC.out _ (qa0 _ _)).mono ?_; rintro e w1 ⟨s, d, ps, pd, top, p, G, rfl, _, _, hG, hR, hS, _, hb1⟩; have HB1 : Hid (Below w.heap.size w w1) := qa1 (qa0 _ _) hb1; have HK : Hid (Rk (m2 F r c) r top) := (hR.rk (qb3 hG HRt.out)).span hS; clear hb1 hR hS hG)
 go_ret2
 exact ⟨top, rfl, HK.out, qa1 HB1.out (qa0 _ _)⟩
end Go.Proofs.Ytblagbghpfopcaa
