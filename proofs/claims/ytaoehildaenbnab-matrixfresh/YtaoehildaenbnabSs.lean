/-
  What the laws about matrices ask: two answers, matrix and error, are alike.
-/
import Derived.Test.YtaoehildaenbnabSb
namespace Go.Proofs.Ytaoehildaenbnab
open Go.RowKit
theorem likeB_true {r c : Int} {n : Nat} {f h : Nat → Nat} (e : ∀ i, i < n → f i = h i) : likeB r c r c n n f h = true := by
  unfold likeB sameB
  simp
  exact e
set_option maxRecDepth 20000 in
set_option maxHeartbeats 1000000 in
theorem like3_any (w : World) (r c r' c' e g : Int) (a b : Option Addr) (n m k d : Nat) (f h : Nat → Nat) (ha : Sl w a n f) (hb : Sl w b m h) (s : Bool) (HS : Hid (((e == g) && likeB r c r' c' n m f h) = s)) :
    Calls Try.prog 21 #[mv r c a n k, .int .i64 e, mv r' c' b m d, .int .i64 g] w fun o w' => o = .returned (.bool s) ∧ Below w.heap.size w w' := by
  obtain ⟨wb, HW⟩ : ∃ wb, Hid (wb = (w.alloc (.cells #[.int .i64 r, .int .i64 c, .slice a n k] 24)).alloc (.cells #[.int .i64 r', .int .i64 c', .slice b m d] 24)) := ⟨_, rfl⟩
  have HB0 : Hid (Below w.heap.size w wb) := by rw [HW.out]; exact two_below (alloc_low _ _) (alloc_low _ _)
  have HA : Hid (Sl wb a n f) := ha.later HB0.out
  have HB : Hid (Sl wb b m h) := hb.later HB0.out
  clear ha hb
  cases g1 : (e == g) with
  | false =>
    obtain rfl : s = false := by rw [← HS.out, g1]; rfl
    clear HS
    go_enter Try.func21, Try.ntmps21
    go_wp2
    go_ret
    exact ⟨rfl, two_below (alloc_low _ _) (alloc_low _ _)⟩
  | true =>
    have HS2 : Hid (likeB r c r' c' n m f h = s) := by show _ = _; rw [← HS.out, g1]; rfl
    clear HS
    go_enter Try.func21, Try.ntmps21
    go_wp2_with (go_at_call 11; rw [← HW.out]; refine (like_exact _ _ _ _ _ _ _ _ _ _ _ f h HA.out HB.out).mono ?_; rw [HS2.out]; rintro o w1 ⟨rfl, hb1⟩; have HB1 : Hid (Below wb.heap.size wb w1) := hb1; clear hb1)
    go_ret
    exact ⟨rfl, two_below HB0.out HB1.out⟩
end Go.Proofs.Ytaoehildaenbnab
