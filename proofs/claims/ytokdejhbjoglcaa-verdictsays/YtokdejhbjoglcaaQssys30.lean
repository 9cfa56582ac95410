/-
  Contracts of the rows' reference: Rank, Free, Covers.
-/
import Derived.Test.YtokdejhbjoglcaaQssys00
import Derived.Test.YtokdejhbjoglcaaQssys29
set_option maxRecDepth 100000
set_option maxHeartbeats 16000000
namespace Go.Proofs.Ytokdejhbjoglcaa
open Go.RowKit
theorem rRank_ok (w : World) (r c n k s : Nat) (a : Option Addr) (F : Nat → Nat) (ha : Sl w a n F) (R : Rt r c n) (hs : s < 2 ^ r) :
  Calls Try.prog 42 #[mv r c a n k, .int .u64 (s : Int)] w fun e w' => ∃ t : Nat, e = .returned (.tuple #[.int .i64 (t : Int), .int .i64 0]) ∧ RS (m2 F r c) r s t ∧ Below w.heap.size w w' := by
 have HC : Hid (∀ w' : World, Calls Try.prog 47 #[mv r c a n k, .int .u64 (s : Int)] w' fun e w'' => e = .returned (.int .i64 0) ∧ Below w'.heap.size w' w'') := fun w' => qi5 w' r c n k s a R hs
 have HK : Hid (∀ w' : World, Below w.heap.size w w' → Calls Try.prog 48 #[mv r c a n k, .int .u64 (s : Int)] w' fun e w'' => ∃ t : Nat, e = .returned (.int .i64 (t : Int)) ∧ RS (m2 F r c) r s t ∧ Below w'.heap.size w' w'') := fun w' hb => qdf w' r c n k s a F (ha.later hb) R hs
 clear ha R hs
 go_enter Try.func42, Try.ntmps42
 go_wp2_with (first
  | (go_at_call 47; refine (HC.out _).mono ?_; rintro e w1 ⟨rfl, hb⟩; have HV1 := (Vr.new w (.int .i64 (r : Int)) (.int .i64 (c : Int)) (.slice a n k)).later hb; have v0 := HV1.c0; have v1 := HV1.c1; have v2 := HV1.c2; have HB1 : Hid (Below w.heap.size w w1) := qa1 (qa0 _ _) hb; clear hb HV1)
  | (go_at_call 48; refine (HK.out _ HB1.out).mono ?_; rintro e w2 ⟨t, rfl, ht, hb⟩; have HT : Hid (RS (m2 F r c) r s t) := ht; have HB2 : Hid (Below w.heap.size w w2) := qa1 HB1.out hb; clear hb ht))
 go_ret2
 exact ⟨t, rfl, HT.out, HB2.out⟩
theorem rCov_ok (w : World) (r c n k s : Nat) (a : Option Addr) (F : Nat → Nat) (ha : Sl w a n F) (R : Rt r c n) (hs : s < 2 ^ r) :
  Calls Try.prog 24 #[mv r c a n k, .int .u64 (s : Int)] w fun e w' => ∃ b : Bool, e = .returned (.tuple #[.bool b, .int .i64 0]) ∧ (b = true ↔ RS (m2 F r c) r s c) ∧ Below w.heap.size w w' := by
 have HC : Hid (∀ w' : World, Below w.heap.size w w' → Calls Try.prog 42 #[mv r c a n k, .int .u64 (s : Int)] w' fun e w'' => ∃ t : Nat, e = .returned (.tuple #[.int .i64 (t : Int), .int .i64 0]) ∧ RS (m2 F r c) r s t ∧ Below w'.heap.size w' w'') := fun w' hb => rRank_ok w' r c n k s a F (ha.later hb) R hs
 have HIff : Hid (∀ t, RS (m2 F r c) r s t → ((((t : Int) == (c : Int)) = true) ↔ RS (m2 F r c) r s c)) := fun t ht => by
  constructor
  ·intro h
   have h1 : t = c := by have := eq_of_beq h; omega
   rw [h1] at ht
   exact ht
  ·intro h
   have := ht.one (qbw ha.1 R) h
   rw [this]
   exact beq_self_eq_true _
 clear ha R hs
 go_enter Try.func24, Try.ntmps24
 go_wp2_with (go_at_call 42; refine (HC.out _ (qa0 _ _)).mono ?_; rintro e w1 ⟨t, rfl, ht, hb⟩; have HV1 := (Vr.new w (.int .i64 (r : Int)) (.int .i64 (c : Int)) (.slice a n k)).later hb; have v1 := HV1.c1; have HT : Hid (RS (m2 F r c) r s t) := ht; have HB1 : Hid (Below w.heap.size w w1) := qa1 (qa0 _ _) hb; clear hb ht HV1)
 go_ret2
 exact ⟨_, rfl, HIff.out t HT.out, HB1.out⟩
end Go.Proofs.Ytokdejhbjoglcaa
