/-
  The anchor.
-/
import Derived.Test.YtipjejkjoiifdabDoorAi
namespace Go.Proofs.YtipjejkjoiifdabDoor
open Go.RowKit
def aT : ByteArray := ⟨#[97, 49, 98, 32, 55]⟩
def aL : List Tk := [⟨1, 0, 3, 0⟩, ⟨3, 4, 5, 7⟩]
theorem tb_a : tb aT 0 = 97 ∧ tb aT 1 = 49 ∧ tb aT 2 = 98 ∧ tb aT 3 = 32 ∧ tb aT 4 = 55 := by decide
theorem aT_size : aT.size = 5 := rfl
theorem acut : CutA aT aL 0 0 := by
  obtain ⟨t0, t1, t2, t3, t4⟩ := tb_a
  refine .inr ⟨by rw [aT_size]; decide, ?_⟩
  refine Cuts.name (e := 3) (by rw [aT_size]; decide) (by rw [t0]; decide) ⟨by decide, by rw [aT_size]; decide, fun j h1 h2 => ?_, fun _ => by rw [t3]; decide⟩ (by kernel_rfl) (by decide) ?_
  · rcases (by omega : j = 0 ∨ j = 1 ∨ j = 2) with rfl | rfl | rfl
    · rw [t0]; decide
    · rw [t1]; decide
    · rw [t2]; decide
  refine Cuts.skip (by rw [aT_size]; decide) (by rw [t3]; decide) ?_
  refine Cuts.num (e := 5) (by rw [aT_size]; decide) (by rw [t4]; decide) ⟨by decide, by rw [aT_size]; decide, fun j h1 h2 => ?_, fun h => absurd h (by rw [aT_size]; decide)⟩ ⟨by rw [t4]; decide, by decide⟩ (fun h => absurd h (by rw [aT_size]; decide)) ?_
  · obtain rfl : j = 4 := by omega
    rw [t4]; decide
  exact Cuts.done (by rw [aT_size])
theorem a_tx : ttx aT ⟨1, 0, 3, 0⟩ = ⟨#[97, 49, 98]⟩ := by kernel_rfl
theorem a_cl : cln aT 4 = 5 := by decide
set_option maxRecDepth 20000 in
set_option maxHeartbeats 1000000 in
theorem anch9_any (w : World) (he : Ev9 w) : Calls Tryd.prog 9 #[] w fun e w' => e = .returned (.bool true) ∧ Below w.heap.size w w' := by
  have HC : Hid (∀ w' : World, Below w.heap.size w w' → Calls Tryd.prog 4 #[.string ⟨#[97, 49, 98, 32, 55]⟩] w' fun e w'' => ∃ (b o d : Nat), e = .returned (.tuple #[.slice (some ⟨b, o, none⟩) 2 d, .agg #[.int .i64 0, .int .i64 0, .int .i64 0]]) ∧ w''.cell? ⟨b, o, none⟩ = some (.int .u8 1) ∧ w''.cell? ⟨b, o + 1, none⟩ = some (.string ⟨#[97, 49, 98]⟩) ∧ w''.cell? ⟨b, o + 5 + 2, none⟩ = some (.int .i64 7) ∧ w''.cell? ⟨b, o + 5 + 4, none⟩ = some (.int .i64 5) ∧ Below w'.heap.size w' w'') := fun w' hb => (tcut w' aT aL 0 0 acut (he.later hb)).mono (fun e w'' h => by
    obtain ⟨x, d, he, ht, hb⟩ := h.use (f0 := 0) (f1 := 0) (f2 := 0) (m := 2) rfl rfl
    obtain ⟨b, o, rfl, c0, c1, _⟩ := ht 0 (by decide)
    obtain ⟨b', o', e', _, _, c2, _, c4⟩ := ht 1 (by decide)
    cases e'
    refine ⟨b, o, d, he, ?_, ?_, ?_, ?_, hb⟩
    · rw [Nat.zero_mul, Nat.add_zero] at c0; exact c0
    · rw [Nat.zero_mul, Nat.add_zero] at c1; rw [c1]; exact congrArg (fun z => some (Value.string z)) a_tx
    · rw [Nat.one_mul] at c2; exact c2
    · rw [Nat.one_mul] at c4; rw [c4]; exact congrArg (fun z : Nat => some (Value.int .i64 (z : Int))) a_cl)
  go_enter Tryd.func9, Tryd.ntmps9
  go_wp2_with (go_at_call 4; refine (HC.out _ (Below.refl _ _)).mono ?_; rintro e w1 ⟨b, o, d, rfl, c0, c1, c2, c3, hb⟩; have HB := jhid9 hb; have hlt := jcell_lt c0; clear hb)
  go_ret
  exact ⟨rfl, jtwo HB.out (jlow _ _)⟩
end Go.Proofs.YtipjejkjoiifdabDoor
