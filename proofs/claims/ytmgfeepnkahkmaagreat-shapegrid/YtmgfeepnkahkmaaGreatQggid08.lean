/-
  Contracts of the matrices' reference: what fails in Transpose and Mul; Apply.
-/
import Derived.Test.YtmgfeepnkahkmaaGreatQggid00
import Derived.Test.YtmgfeepnkahkmaaGreatQggid07
set_option maxRecDepth 100000
set_option maxHeartbeats 16000000
namespace Go.Proofs.YtmgfeepnkahkmaaGreat
open Go.RowKit
/-- Each row's Dot with the list. -/
def apf (F X : Nat → Nat) (c i : Nat) : Nat := xs (fun t => fm (F (i * c + t)) (X t)) c
theorem prk_apf (F X : Nat → Nat) (c i : Nat) : prk F X c 1 c i = apf F X c i := by
 unfold prk apf
 refine qa7 (fun t _ => ?_)
 rw [Nat.div_one, Nat.mod_one, Nat.mul_one, Nat.add_zero]
theorem qfm (w : World) (r c n k d : Nat) (a b : Option Addr) (F X : Nat → Nat) (ha : Sl w a n F) (hb : Sl w b c X) (R : Rt r c n) :
  Calls Tryz.prog 23 #[mv r c a n k, .slice b c d] w fun e w' => ∃ g, e = .returned (.tuple #[.slice (some ⟨g, 0, none⟩) r r, .int .i64 0]) ∧ RowAt w' g 5 r (apf F X c) ∧ w.heap.size ≤ g ∧ Below w.heap.size w w' := by
 have HR : Hid (Rt r c n) := R
 have hr := R.r64
 have hc := R.c64
 have HX : Hid (Rt c 1 c) := ⟨hc, by omega, by omega⟩
 have HC : Hid (Rt r 1 r) := ⟨hr, by omega, by omega⟩
 obtain ⟨wb, HW⟩ : ∃ wb, Hid (wb = w.alloc (.cells #[.int .i64 (r : Int), .int .i64 (c : Int), .slice a n k] 24)) := ⟨_, rfl⟩
 have HV0 : Hid (Vr wb w.heap.size (.int .i64 (r : Int)) (.int .i64 (c : Int)) (.slice a n k)) := by rw [HW.out]; exact Vr.new w _ _ _
 have HB0 : Hid (Below w.heap.size w wb) := by rw [HW.out]; exact qa1 _ _
 have HSa : Hid (Sl w a n F) := ha
 have HSb : Hid (Sl w b c X) := hb
 have HMul : Hid (∀ w', Below w.heap.size w w' → Calls Tryz.prog 24 #[.agg #[.int .i64 (r : Int), .int .i64 (c : Int), .slice a n k], .agg #[.int .i64 (c : Int), .int .i64 1, .slice b c d]] w' fun e w'' => ∃ g, e = .returned (.tuple #[mv r 1 (some ⟨g, 0, none⟩) r r, .int .i64 0]) ∧ RowAt w'' g 5 r (prk F X c 1 c) ∧ w'.heap.size ≤ g ∧ Below w'.heap.size w' w'') := fun w' h' => qh2 w' r c 1 n c r k d a b F X (HSa.out.later h') (HSb.out.later h') HR.out HX.out HC.out
 clear ha hb R
 go_enter Tryz.func23, Tryz.ntmps23
 go_wp2_with (first
  | (go_at_call 58; rw [← HW.out]; refine (qao _ _ _ _ _ _ HR.out.p).mono ?_; rintro e w1 ⟨rfl, hb1⟩; have HB1 : Hid (Below w.heap.size w w1) := qa0 HB0.out hb1; have c0 := (HV0.out.later hb1).c0; have c1 := (HV0.out.later hb1).c1; have c2 := (HV0.out.later hb1).c2; clear hb1)
  | (go_at_call 24; refine (HMul.out _ HB1.out).mono ?_; rintro e w2 ⟨g, rfl, hr2, hg2, hb2⟩; have HR2 : Hid (RowAt w2 g 5 r (prk F X c 1 c)) := hr2; have HB2 : Hid (Below w.heap.size w w2) := qa0 HB1.out hb2; have hgl : w.heap.size ≤ g := Nat.le_trans HB1.out.size hg2; clear hr2 hg2 hb2))
 go_ret2
 exact ⟨g, rfl, (HR2.out.later (qa1 _ _)).congr (fun i _ => prk_apf F X c i), hgl, qa0 HB2.out (qa1 _ _)⟩
end Go.Proofs.YtmgfeepnkahkmaaGreat
