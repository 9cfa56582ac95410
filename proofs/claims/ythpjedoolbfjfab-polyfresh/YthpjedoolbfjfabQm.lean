/-
  Contracts of the statements' own functions: anchored, twice.
-/
import Derived.Test.YthpjedoolbfjfabQi
import Derived.Test.YthpjedoolbfjfabQk
namespace Go.Proofs.Ythpjedoolbfjfab
open Go.RowKit
/-- Lists of three. -/
def l3 (a b c i : Nat) : Nat := if i = 0 then a else if i = 1 then b else c
theorem lit3_sl (w : World) (x y z : Nat) (hx : x < 256) (hy : y < 256) (hz : z < 256) : Sl (w.alloc (.cells #[.int .u8 (x : Int), .int .u8 (y : Int), .int .u8 (z : Int)] 5)) (some ⟨w.heap.size, 0, none⟩) 3 (l3 x y z) := by
  refine ⟨fun i hi => ?_, fun i hi => ⟨_, 0, rfl, ?_⟩⟩
  · rcases (by omega : i = 0 ∨ i = 1 ∨ i = 2) with rfl | rfl | rfl
    · exact hx
    · exact hy
    · exact hz
  · rcases (by omega : i = 0 ∨ i = 1 ∨ i = 2) with rfl | rfl | rfl
    · exact lit_cell w _ _ 0 _ rfl
    · exact lit_cell w _ _ 1 _ rfl
    · exact lit_cell w _ _ 2 _ rfl
theorem anch_mul : allB (fun i => Nat.beq (pm (zx (l3 1 1 0) 2) (zx (l3 1 1 0) 2) i) (l3 1 0 1 i)) 3 = true := by kernel_rfl
theorem anch_ev : ev (l3 3 0 1) 3 2 = 7 := by kernel_rfl
theorem anch_len : tlen (l3 1 1 0) 2 = 1 + 1 := by kernel_rfl
set_option maxRecDepth 20000 in
set_option maxHeartbeats 1000000 in
theorem anchor_any (w : World) : Calls Try.prog 11 #[] w fun e w' => e = .returned (.bool true) ∧ Below w.heap.size w w' := by
  obtain ⟨f, HF⟩ : ∃ f, Hid (l3 1 1 0 = f) := ⟨_, rfl⟩
  obtain ⟨p, HP⟩ : ∃ p, Hid (pm (zx f 2) (zx f 2) = p) := ⟨_, rfl⟩
  have HPe : Hid (∀ i, i < 3 → p i = l3 1 0 1 i) := fun i hi => by rw [← HP.out, ← HF.out]; exact Nat.eq_of_beq_eq_true (allB_at anch_mul i hi)
  have HPl : Hid (∀ i, i < 3 → p i < 256) := fun i hi => by
    rw [HPe.out i hi]
    rcases (by omega : i = 0 ∨ i = 1 ∨ i = 2) with rfl | rfl | rfl <;> decide
  obtain ⟨q, HQ⟩ : ∃ q, Hid (l3 1 0 1 = q) := ⟨_, rfl⟩
  rw [HQ.out] at HPe
  obtain ⟨r, HR⟩ : ∃ q, Hid (l3 3 0 1 = q) := ⟨_, rfl⟩
  have HEv : Hid (ev r 3 2 = 7) := by rw [← HR.out]; exact anch_ev
  have HTl : Hid (tlen f 2 = 1 + 1) := by rw [← HF.out]; exact anch_len
  have LA : Hid (∀ w : World, Lk (w.alloc (.cells #[.int .u8 1, .int .u8 1] 5)) (some ⟨w.heap.size, 0, none⟩) 2 2 f) := by rw [← HF.out]; exact fun w => lit2_lk w 1 1 _ (by decide) (by decide) rfl rfl
  have LQ : Hid (∀ w : World, Sl (w.alloc (.cells #[.int .u8 1, .int .u8 0, .int .u8 1] 5)) (some ⟨w.heap.size, 0, none⟩) 3 q) := by rw [← HQ.out]; exact fun w => lit3_sl w 1 0 1 (by decide) (by decide) (by decide)
  have LR : Hid (∀ w : World, Sl (w.alloc (.cells #[.int .u8 3, .int .u8 0, .int .u8 1] 5)) (some ⟨w.heap.size, 0, none⟩) 3 r) := by rw [← HR.out]; exact fun w => lit3_sl w 3 0 1 (by decide) (by decide) (by decide)
  have HMul : Hid (∀ (w : World) (a b : Option Addr), Lk w a 2 2 f → Lk w b 2 2 f → Calls Try.prog 9 #[.slice a 2 2, .slice b 2 2] w fun e w' => ∃ s k, e = .returned (.tuple #[.slice s 3 k, .int .i64 0]) ∧ Sl w' s 3 q ∧ Below w.heap.size w w') := fun w a b ha hb =>
    (pmul_pos w a b 2 2 2 2 1 1 f f ha hb HTl HTl (by omega)).mono fun _ _ ⟨s, k, he, ho, hb⟩ => ⟨s, k, he, (Ow.sl (by rw [HP.out] at ho; exact ho) HPl.out).congr HPe.out, hb⟩
  have HEva : Hid (∀ (w : World) (a : Option Addr), Sl w a 3 r → Calls Try.prog 10 #[.slice a 3 3, .int .u8 2] w fun e w' => e = .returned (.int .u8 7) ∧ Below w.heap.size w w') := fun w a ha => eval_one w a 3 3 2 7 r ha (by omega) (by decide) HEv
  clear HTl HP HF HQ HR HEv HPe HPl
  go_enter Try.func11, Try.ntmps11
  go_wp2_with (first
    | (go_at_call 9; refine (HMul.out _ _ _ ((LA.out w).later (alloc_below _ _)) (by simpa using LA.out (w.alloc (.cells #[.int .u8 1, .int .u8 1] 5)))).mono ?_; rintro e w1 ⟨s1, k1, rfl, hs1, hb1⟩; have HB1 : Hid (Below w.heap.size w w1) := two_below (two_below (alloc_below _ _) (alloc_below _ _)) hb1; have HS1 : Hid (Sl (w1.alloc (.cells #[.int .u8 1, .int .u8 0, .int .u8 1] 5)) s1 3 q) := hs1.later (alloc_below _ _); clear hs1 hb1)
    | (go_at_call 16; refine (same_at _ s1 _ _ _ _ q HS1.out (LQ.out w1)).mono ?_; rintro e w' ⟨rfl, rfl⟩)
    | (go_at_call 10; refine (HEva.out _ _ (by simpa using LR.out (w1.alloc (.cells #[.int .u8 1, .int .u8 0, .int .u8 1] 5)))).mono ?_; rintro e w3 ⟨rfl, hb3⟩; have HB3 : Hid (Below w.heap.size w w3) := two_below (two_below (two_below HB1.out (alloc_below _ _)) (alloc_below _ _)) hb3; clear hb3))
  go_ret
  exact ⟨rfl, HB3.out⟩
end Go.Proofs.Ythpjedoolbfjfab
