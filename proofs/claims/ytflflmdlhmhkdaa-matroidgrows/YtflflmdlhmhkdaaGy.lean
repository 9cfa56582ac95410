/-
  What the checks of stage 7 with a loop over a list need: lists of numbers, bits of numbers.
-/
import Derived.Test.YtflflmdlhmhkdaaGw
import Derived.Test.YtflflmdlhmhkdaaGs
namespace Go.Proofs.Ytflflmdlhmhkdaa
open Go.RowKit
/-- The list of a set. -/
theorem list_num2 {r s : Nat} (hr : r ≤ 64) (hs : s < 2 ^ r) : ∀ w' : World, Calls Try.prog 25 #[.int .u64 (s : Int)] w' fun e w'' => ∃ x d, Il w'' x (cn s r) (fun i => (lf s r i : Int)) ∧ e = .returned (.slice x (cn s r) d) ∧ Below w'.heap.size w' w'' := fun w' =>
  (rlist_ok s w' (lt_64 hr hs)).mono (fun e w'' h => by
    obtain ⟨v, he, ho, hb⟩ := h
    rw [cn_all hr hs] at ho
    have ho2 := ho.congr (fun t _ => lf_all hr hs t)
    obtain ⟨x, d, rfl, _⟩ := ho2.form
    exact ⟨x, d, il_of_jl ho2.jl, he, hb⟩)
theorem free_some {w : World} {r c n k s : Nat} {a : Option Addr} {F : Nat → Nat} (ha : Mt w a n k F) (R : Rt r c n) (hs : s < 2 ^ r) :
    ∃ b : Bool, (b = true ↔ FreeS (m2 F r c) r s) ∧ ∀ w' : World, Below w.heap.size w w' → Calls Try.prog 11 #[mv r c a n k, .int .u64 (s : Int)] w' fun e w'' => e = .returned (.tuple #[.bool b, .int .i64 0]) ∧ Below w'.heap.size w' w'' := by
  by_cases h : FreeS (m2 F r c) r s
  · exact ⟨true, ⟨fun _ => h, fun _ => rfl⟩, free_num ha R hs ⟨fun _ => h, fun _ => rfl⟩⟩
  · exact ⟨false, ⟨fun e => (by cases e), fun h' => absurd h' h⟩, free_num ha R hs ⟨fun e => (by cases e), fun h' => absurd h' h⟩⟩
theorem free_one : ∀ w' : World, Calls Try.prog 11 #[mv 1 0 none 0 0, .int .u64 1] w' fun e w'' => ∃ b : Bool, e = .returned (.tuple #[.bool b, .int .i64 0]) ∧ Below w'.heap.size w' w'' := fun w' =>
  (tFree_ok w' 1 0 0 0 1 none (fun _ => 0) (Mt.none _ _) ⟨by decide, by decide, rfl⟩ (by decide)).mono (fun _ _ h => by obtain ⟨b, he, _, hb⟩ := h; exact ⟨b, he, hb⟩)
theorem shift_m {m : Nat} (h : m < 64) : min (IntKind.u64.wrap (m : Int)).toNat 64 = m := by
  have e : IntKind.u64.wrap (m : Int) = (m : Int) := by rw [IntKind.wrap_u64]; omega
  rw [e]
  omega
theorem cell_aft7 {w w' : World} {b o : Nat} {v : Value} (h : w.cell? ⟨b, o, none⟩ = some v) (hb : Below w.heap.size w w') : w'.cell? ⟨b, o, none⟩ = some v := by
  have hlt := jcell_lt h
  have e : w'.cell? ⟨b, o, none⟩ = w.cell? ⟨b, o, none⟩ := by unfold World.cell?; rw [hb.block b hlt]
  rw [e]; exact h
end Go.Proofs.Ytflflmdlhmhkdaa
