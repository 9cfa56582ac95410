/-
  Lists that are not the same: the reference's Same, exactly.
  Contracts of the matrices' reference: Make, Same of lists, Like, Identity, Row.
-/
import Derived.Test.YtkfnedpnkeacpaaQmmde00
import Derived.Test.YtkfnedpnkeacpaaQmmde03
import Derived.Lib.Bytes
import Derived.Test.YtkfnedpnkeacpaaQmmde09
set_option maxRecDepth 100000
set_option maxHeartbeats 16000000
namespace Go.Proofs.Ytkfnedpnkeacpaa
open Go.RowKit
/-! Lists that are not the same. -/
/-- Are two lists the same? -/
def sameB (n m : Nat) (f h : Nat → Nat) : Bool := decide (n = m ∧ ∀ i, i < n → f i = h i)
theorem u8_inj {x y : Nat} (hx : x < 256) (hy : y < 256) (e : UInt8.ofNat x = UInt8.ofNat y) : x = y := by
 have := congrArg UInt8.toNat e
 simp at this
 omega
theorem qdl (n : Nat) (f : Nat → Nat) : (strOf n f).toList = (List.range n).map fun i => UInt8.ofNat (f i) := by
 unfold strOf
 rw [Go.Lib.strOfNums_toList]
 simp [Go.Lib.bytesOf]
theorem qes {n m : Nat} {f h : Nat → Nat} (hf : ∀ i, i < n → f i < 256) (hh : ∀ i, i < m → h i < 256) : ((strOf n f).toList == (strOf m h).toList) = sameB n m f h := by
 rw [qdl, qdl, Bool.eq_iff_iff]
 unfold sameB
 rw [decide_eq_true_iff, beq_iff_eq]
 constructor
 ·intro e
  have hl : n = m := by simpa using congrArg List.length e
  subst hl
  refine ⟨rfl, fun i hi => ?_⟩
  have := congrArg (fun l => l[i]?) e
  simp [hi] at this
  exact u8_inj (hf i hi) (hh i hi) (by simpa using this)
 ·rintro ⟨rfl, e⟩
  apply List.map_congr_left
  intro i hi
  rw [e i (by simpa using hi)]
theorem qe1 (w : World) (a b : Option Addr) (n m c d : Nat) (f h : Nat → Nat) (ha : Sl w a n f) (hb : Sl w b m h) :
  Calls Try.prog 28 #[.slice a n c, .slice b m d] w fun e w' => e = .returned (.bool (sameB n m f h)) ∧ w = w' := by
 have h1 : (convert 22 9 (.slice a n c)).run Try.prog w = .ok (.string (strOf n f)) w := qcp ha
 have h2 : (convert 22 9 (.slice b m d)).run Try.prog w = .ok (.string (strOf m h)) w := qcp hb
 rw [← qes ha.1 hb.1]
 obtain ⟨s, hs⟩ : ∃ s, strOf n f = s := ⟨_, rfl⟩
 obtain ⟨t, ht⟩ : ∃ s, strOf m h = s := ⟨_, rfl⟩
 rw [hs, ht]
 rw [hs] at h1
 rw [ht] at h2
 clear hs ht ha hb
 go_enter Try.func28, Try.ntmps28
 go_wp2
 go_ret
 exact ⟨rfl, rfl⟩
open Go.RowKit
/-- Alike, in numbers. -/
def likeB (r c r' c' : Int) (n m : Nat) (f h : Nat → Nat) : Bool := (r == r') && ((c == c') && sameB n m f h)
theorem qe2 (w : World) (r c r' c' : Int) (a b : Option Addr) (n m k d : Nat) (f h : Nat → Nat) (ha : Sl w a n f) (hb : Sl w b m h) :
  Calls Try.prog 14 #[mv r c a n k, mv r' c' b m d] w fun e w' => e = .returned (.bool (likeB r c r' c' n m f h)) ∧ Below w.heap.size w w' := by
 have HA : Hid (Sl ((w.alloc (.cells #[.int .i64 r, .int .i64 c, .slice a n k] 24)).alloc (.cells #[.int .i64 r', .int .i64 c', .slice b m d] 24)) a n f) := (ha.later (qa2 _ _)).later (qa2 _ _)
 have HB : Hid (Sl ((w.alloc (.cells #[.int .i64 r, .int .i64 c, .slice a n k] 24)).alloc (.cells #[.int .i64 r', .int .i64 c', .slice b m d] 24)) b m h) := (hb.later (qa2 _ _)).later (qa2 _ _)
 obtain ⟨s, HS⟩ : ∃ s, Hid (sameB n m f h = s) := ⟨_, rfl⟩
 clear ha hb
 cases g1 : (r == r') with
 | false =>
  rw [show likeB r c r' c' n m f h = false from by unfold likeB; rw [g1]; rfl]
  go_enter Try.func14, Try.ntmps14
  go_wp2
  go_ret
  exact ⟨rfl, qab (qa2 _ _) (qa2 _ _)⟩
 | true =>
  cases g2 : (c == c') with
  | false =>
   rw [show likeB r c r' c' n m f h = false from by unfold likeB; rw [g1, g2]; rfl]
   go_enter Try.func14, Try.ntmps14
   go_wp2
   go_ret
   exact ⟨rfl, qab (qa2 _ _) (qa2 _ _)⟩
  | true =>
   rw [show likeB r c r' c' n m f h = s from by unfold likeB; rw [g1, g2, HS.out]; rfl]
   go_enter Try.func14, Try.ntmps14
   go_wp2_with (go_at_call 28; refine (qe1 _ _ _ _ _ _ _ f h HA.out HB.out).mono ?_; rw [HS.out]; rintro e w' ⟨rfl, rfl⟩)
   go_ret
   exact ⟨rfl, qab (qa2 _ _) (qa2 _ _)⟩
end Go.Proofs.Ytkfnedpnkeacpaa
