/-
  Stage 22: the anchor's walk.
-/
import Derived.Test.YthdgpmanijifoaaQbbst00
import Derived.Test.YthdgpmanijifoaaQbbst48
set_option maxRecDepth 100000
set_option maxHeartbeats 16000000
namespace Go.Proofs.Ythdgpmanijifoaa
open Go.RowKit
theorem lit22_fl {W : World} {n0 n1 n2 n3 n4 : Nat} {T0 T1 T2 : TypeId} (v0 : Vf W n0 T0 #[.int .i64 0, .int .i64 1]) (v1 : Vf W n1 T1 #[.int .i64 0, .int .u8 1, .int .i64 1, .int .u8 2]) (v2 : Vf W n2 T1 #[.int .i64 0, .int .u8 3, .int .i64 1, .int .u8 6])
  (v3 : Vf W n3 T2 #[.slice (some ⟨n1, 0, none⟩) 2 2, .slice (some ⟨n2, 0, none⟩) 2 2]) (v4 : Vf W n4 T0 #[.int .i64 2, .int .i64 3]) :
  FlR W (some ⟨n0, 0, none⟩) (some ⟨n3, 0, none⟩) (some ⟨n4, 0, none⟩) qaa ∧ Ncp W (some ⟨n3, 0, none⟩) qaa.nn qaa.nt := by
 have two : ∀ {i : Nat}, i < 2 → i = 0 ∨ i = 1 := fun h => by omega
 refine ⟨⟨by decide, by decide, by decide, fun i hi => ?_, fun i hi => ?_, fun i hi => ?_⟩, fun i hi => ?_⟩
 ·rcases two hi with rfl | rfl
  ·exact ⟨n0, 0, rfl, v0.cell 0 _ rfl⟩
  ·exact ⟨n0, 0, rfl, v0.cell 1 _ rfl⟩
 ·rcases two hi with rfl | rfl
  ·refine ⟨by decide, n3, 0, some ⟨n1, 0, none⟩, 2, rfl, v3.cell 0 _ rfl, fun j hj => ?_⟩
   rcases two hj with rfl | rfl
   ·exact ⟨by decide, n1, 0, rfl, v1.cell 0 _ rfl, v1.cell 1 _ rfl⟩
   ·exact ⟨by decide, n1, 0, rfl, v1.cell 2 _ rfl, v1.cell 3 _ rfl⟩
  ·refine ⟨by decide, n3, 0, some ⟨n2, 0, none⟩, 2, rfl, v3.cell 1 _ rfl, fun j hj => ?_⟩
   rcases two hj with rfl | rfl
   ·exact ⟨by decide, n2, 0, rfl, v2.cell 0 _ rfl, v2.cell 1 _ rfl⟩
   ·exact ⟨by decide, n2, 0, rfl, v2.cell 2 _ rfl, v2.cell 3 _ rfl⟩
 ·rcases two hi with rfl | rfl
  ·exact ⟨n4, 0, rfl, v4.cell 0 _ rfl⟩
  ·exact ⟨n4, 0, rfl, v4.cell 1 _ rfl⟩
 ·rcases two hi with rfl | rfl
  ·exact ⟨n3, 0, some ⟨n1, 0, none⟩, 2, rfl, v3.cell 0 _ rfl, Nat.le_refl _⟩
  ·exact ⟨n3, 0, some ⟨n2, 0, none⟩, 2, rfl, v3.cell 1 _ rfl, Nat.le_refl _⟩
theorem anch22 (w : World) : Calls Try.prog 11 #[] w fun e w' => e = .returned (.bool true) ∧ Below w.heap.size w w' := by
 have b1 := jlow w (.cells #[.int .i64 0, .int .i64 1] 3)
 obtain ⟨W1, H1⟩ : ∃ W1, Hid (w.alloc (.cells #[.int .i64 0, .int .i64 1] 3) = W1) := ⟨_, rfl⟩
 have k1 : W1.heap.size = w.heap.size + 1 := by rw [← H1.out]; simp
 have v1 := Vf.new w 3 #[.int .i64 0, .int .i64 1]
 rw [H1.out] at b1 v1
 have b2 := jlow W1 (.cells #[.int .i64 0, .int .u8 1, .int .i64 1, .int .u8 2] 59)
 obtain ⟨W2, H2⟩ : ∃ W2, Hid (W1.alloc (.cells #[.int .i64 0, .int .u8 1, .int .i64 1, .int .u8 2] 59) = W2) := ⟨_, rfl⟩
 have k2 : W2.heap.size = w.heap.size + 1 + 1 := by rw [← H2.out]; simp [k1]
 have v2 := Vf.new W1 59 #[.int .i64 0, .int .u8 1, .int .i64 1, .int .u8 2]
 rw [H2.out] at b2 v2
 rw [k1] at v2
 have b3 := jlow W2 (.cells #[.int .i64 0, .int .u8 3, .int .i64 1, .int .u8 6] 59)
 obtain ⟨W3, H3⟩ : ∃ W3, Hid (W2.alloc (.cells #[.int .i64 0, .int .u8 3, .int .i64 1, .int .u8 6] 59) = W3) := ⟨_, rfl⟩
 have k3 : W3.heap.size = w.heap.size + 1 + 1 + 1 := by rw [← H3.out]; simp [k2]
 have v3 := Vf.new W2 59 #[.int .i64 0, .int .u8 3, .int .i64 1, .int .u8 6]
 rw [H3.out] at b3 v3
 rw [k2] at v3
 have b4 := jlow W3 (.cells #[.slice (some ⟨w.heap.size + 1, 0, none⟩) 2 2, .slice (some ⟨w.heap.size + 1 + 1, 0, none⟩) 2 2] 57)
 obtain ⟨W4, H4⟩ : ∃ W4, Hid (W3.alloc (.cells #[.slice (some ⟨w.heap.size + 1, 0, none⟩) 2 2, .slice (some ⟨w.heap.size + 1 + 1, 0, none⟩) 2 2] 57) = W4) := ⟨_, rfl⟩
 have k4 : W4.heap.size = w.heap.size + 1 + 1 + 1 + 1 := by rw [← H4.out]; simp [k3]
 have v4 := Vf.new W3 57 #[.slice (some ⟨w.heap.size + 1, 0, none⟩) 2 2, .slice (some ⟨w.heap.size + 1 + 1, 0, none⟩) 2 2]
 rw [H4.out] at b4 v4
 rw [k3] at v4
 have b5 := jlow W4 (.cells #[.int .i64 2, .int .i64 3] 3)
 obtain ⟨W5, H5⟩ : ∃ W5, Hid (W4.alloc (.cells #[.int .i64 2, .int .i64 3] 3) = W5) := ⟨_, rfl⟩
 have v5 := Vf.new W4 3 #[.int .i64 2, .int .i64 3]
 rw [H5.out] at b5 v5
 rw [k4] at v5
 have HB := qa0 (jtwo (jtwo (jtwo (jtwo b1 b2) b3) b4) b5)
 have hf := lit22_fl (v1.later (jtwo (jtwo (jtwo b2 b3) b4) b5)) (v2.later (jtwo (jtwo b3 b4) b5)) (v3.later (jtwo b4 b5)) (v4.later b5) v5
 have HC := qa0 (qd1 W5 _ _ _ 2 2 2 qaa hf.1 qd2 hf.2)
 rw [qd4] at HC
 have HC2 : Hid (Calls Try.prog 9 #[.agg #[.slice (some ⟨w.heap.size, 0, none⟩) 2 2, .slice (some ⟨w.heap.size + 1 + 1 + 1, 0, none⟩) 2 2, .slice (some ⟨w.heap.size + 1 + 1 + 1 + 1, 0, none⟩) 2 2]] W5 fun e w' => e = .returned (.tuple #[.agg #[.int .i64 0, .int .i64 1, .int .u8 2, .int .i64 2], .bool true, .int .i64 0]) ∧ Below W5.heap.size W5 w') := HC.out
 clear b1 b2 b3 b4 b5 v1 v2 v3 v4 v5 hf k1 k2 k3 k4 HC
 go_enter Try.func11, Try.ntmps11
 go_wp2_with (go_at_call 9; rw [H1.out, H2.out, H3.out, H4.out, H5.out]; refine HC2.out.mono ?_; rintro e w6 ⟨rfl, hb6⟩; have HB6 := qa0 (jtwo HB.out hb6); clear hb6)
 go_ret
 exact ⟨rfl, jtwo HB6.out (jlow _ _)⟩
end Go.Proofs.Ythdgpmanijifoaa
