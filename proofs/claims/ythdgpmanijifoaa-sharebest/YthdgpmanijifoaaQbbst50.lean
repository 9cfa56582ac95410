/-
  Stage 22: the law of Best.
-/
import Derived.Test.YthdgpmanijifoaaQbbst00
import Derived.Test.YthdgpmanijifoaaQbbst27
import Derived.Test.YthdgpmanijifoaaQbbst46
import Derived.Test.YthdgpmanijifoaaQbbst49
set_option maxRecDepth 100000
set_option maxHeartbeats 16000000
namespace Go.Proofs.Ythdgpmanijifoaa
open Go.RowKit
theorem qbz (w : World) (a b c : Option Addr) (ni p nn q no r : Nat) (q1 q2 : Int) (q3 q4 : Nat) (s : Bool) (m : Int)
  (H1 : Hid (∀ w2, Below w.heap.size w w2 → Calls Try.prog 9 #[flv a ni p b nn q c no r] w2 fun e w' => e = .returned (.tuple #[.agg #[.int .i64 q1, .int .i64 q2, .int .u8 (q3 : Int), .int .i64 (q4 : Int)], .bool s, .int .i64 m]) ∧ Below w2.heap.size w2 w'))
  (H2 : Hid (∀ w2, Below w.heap.size w w2 → Calls Try.prog 10 #[flv a ni p b nn q c no r] w2 fun e w' => e = .returned (.tuple #[.agg #[.int .i64 q1, .int .i64 q2, .int .u8 (q3 : Int), .int .i64 (q4 : Int)], .bool s, .int .i64 m]) ∧ Below w2.heap.size w2 w')) :
  Calls Try.prog 3 #[flv a ni p b nn q c no r] w fun e w' => e = .returned (.bool true) ∧ Below w.heap.size w w' := by
 have HB0 := qa0 (jlow w (.cells #[.slice a ni p, .slice b nn q, .slice c no r] 25))
 have HF0 := qa0 (Vf.new w 25 #[.slice a ni p, .slice b nn q, .slice c no r])
 go_enter Try.func3, Try.ntmps3
 go_wp2_with (first
  | (go_at_call 9; refine (H1.out _ HB0.out).mono ?_; rintro e w1 ⟨rfl, hb1⟩; have HV1 := qa0 (Vf.new w1 27 #[.int .i64 q1, .int .i64 q2, .int .u8 (q3 : Int), .int .i64 (q4 : Int)]); have HF1 := qa0 ((HF0.out.later hb1).later (jlow w1 (.cells #[.int .i64 q1, .int .i64 q2, .int .u8 (q3 : Int), .int .i64 (q4 : Int)] 27))); have x0 := HF1.out.cell 0 (.slice a ni p) rfl; have x1 := HF1.out.cell 1 (.slice b nn q) rfl; have x2 := HF1.out.cell 2 (.slice c no r) rfl; have HB1 := qa0 (jtwo (jtwo HB0.out hb1) (jlow w1 (.cells #[.int .i64 q1, .int .i64 q2, .int .u8 (q3 : Int), .int .i64 (q4 : Int)] 27))); clear hb1)
  | (go_at_call 10; refine (H2.out _ HB1.out).mono ?_; rintro e w2 ⟨rfl, hb2⟩; have HB2 := qa0 (jtwo (jtwo HB1.out hb2) (jlow w2 (.cells #[.int .i64 q1, .int .i64 q2, .int .u8 (q3 : Int), .int .i64 (q4 : Int)] 31))); have HV2 := qa0 ((HV1.out.later hb2).later (jlow w2 (.cells #[.int .i64 q1, .int .i64 q2, .int .u8 (q3 : Int), .int .i64 (q4 : Int)] 31))); have u0 := HV2.out.cell 0 _ rfl; have u1 := HV2.out.cell 1 _ rfl; have u2 := HV2.out.cell 2 _ rfl; have u3 := HV2.out.cell 3 _ rfl; clear hb2)
  | (go_at_call 11; refine (anch22 _).mono ?_; rintro e w5 ⟨rfl, hb5⟩; have HB5 := qa0 (jtwo HB2.out hb5); clear hb5))
 go_ret
 exact ⟨rfl, HB5.out⟩
theorem sbest22 (w : World) (a b c : Option Addr) (p q r : Nat) (F : Fl) (h : FlR w a b c F) (hcp : Ncp w b F.nn F.nt) :
  Calls Try.prog 3 #[flv a F.ni p b F.nn q c F.no r] w fun e w' => e = .returned (.bool true) ∧ Below w.heap.size w w' := by
 by_cases hm : MayP F
 ·exact (qbz w a b c F.ni p F.nn q F.no r (bstF F).1.1 (bstF F).1.2.1 (bstF F).1.2.2 (bstF F).2 (decide (0 < (bstF F).2)) 0 (qa0 fun w2 hb => qd1 w2 a b c p q r F (h.later hb) hm (hcp.later hb)) (qa0 fun w2 hb => rbst_ok w2 a b c p q r F (h.later hb) hm))
 ·exact (qbz w a b c F.ni p F.nn q F.no r 0 0 0 0 false 2 (qa0 fun w2 hb => fbst_bad w2 a b c p q r F (h.later hb) hm) (qa0 fun w2 hb => rbst_bad w2 a b c p q r F (h.later hb) hm))
end Go.Proofs.Ythdgpmanijifoaa
