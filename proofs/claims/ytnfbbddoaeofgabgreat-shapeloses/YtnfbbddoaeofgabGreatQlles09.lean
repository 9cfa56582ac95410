/-
  Lists that are not the same: the reference's Same, exactly.
-/
import Derived.Test.YtnfbbddoaeofgabGreatQlles00
import Derived.Test.YtnfbbddoaeofgabGreatQlles07
import Derived.Lib.Bytes
set_option maxRecDepth 100000
set_option maxHeartbeats 16000000
namespace Go.Proofs.YtnfbbddoaeofgabGreat
open Go.RowKit
/-! Lists that are not the same. -/
/-- Are two lists the same? -/
def sameB (n m : Nat) (f h : Nat → Nat) : Bool := decide (n = m ∧ ∀ i, i < n → f i = h i)
theorem u8_inj {x y : Nat} (hx : x < 256) (hy : y < 256) (e : UInt8.ofNat x = UInt8.ofNat y) : x = y := by
 have := congrArg UInt8.toNat e
 simp at this
 omega
theorem qgj (n : Nat) (f : Nat → Nat) : (strOf n f).toList = (List.range n).map fun i => UInt8.ofNat (f i) := by
 unfold strOf
 rw [Go.Lib.strOfNums_toList]
 simp [Go.Lib.bytesOf]
theorem qis {n m : Nat} {f h : Nat → Nat} (hf : ∀ i, i < n → f i < 256) (hh : ∀ i, i < m → h i < 256) : ((strOf n f).toList == (strOf m h).toList) = sameB n m f h := by
 rw [qgj, qgj, Bool.eq_iff_iff]
 unfold sameB
 rw [decide_eq_true_iff, beq_iff_eq]
 constructor
 ·intro e
  have hl : n = m := by simpa using congrArg List.length e
  subst hl
  refine ⟨rfl, fun i hi => ?_⟩
  have := congrArg (fun l => l[i]?) e
  simp [hi] at this
  exact u8_inj (hf i hi) (hh i hi) (by simpa using this)
 ·rintro ⟨rfl, e⟩
  apply List.map_congr_left
  intro i hi
  rw [e i (by simpa using hi)]
theorem qhp (w : World) (a b : Option Addr) (n m c d : Nat) (f h : Nat → Nat) (ha : Sl w a n f) (hb : Sl w b m h) :
  Calls Tryz.prog 10 #[.slice a n c, .slice b m d] w fun e w' => e = .returned (.bool (sameB n m f h)) ∧ w = w' := by
 have h1 : (convert 22 9 (.slice a n c)).run Tryz.prog w = .ok (.string (strOf n f)) w := qf6 ha
 have h2 : (convert 22 9 (.slice b m d)).run Tryz.prog w = .ok (.string (strOf m h)) w := qf6 hb
 rw [← qis ha.1 hb.1]
 obtain ⟨s, hs⟩ : ∃ s, strOf n f = s := ⟨_, rfl⟩
 obtain ⟨t, ht⟩ : ∃ s, strOf m h = s := ⟨_, rfl⟩
 rw [hs, ht]
 rw [hs] at h1
 rw [ht] at h2
 clear hs ht ha hb
 go_enter Tryz.func10, Tryz.ntmps10
 go_wp2
 go_ret
 exact ⟨rfl, rfl⟩
end Go.Proofs.YtnfbbddoaeofgabGreat
