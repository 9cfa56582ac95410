/-
  Few parts.
-/
import Derived.Test.YtdimkfcanegahaaDoorDk
namespace Go.Proofs.YtdimkfcanegahaaDoor
theorem sw_few {l : Ls} (h : swant l = true) : l.na ≤ 3 ∧ l.nr ≤ 64 := by
  unfold swant at h
  split at h
  · simp at h; omega
  · split at h
    · simp at h; omega
    · split at h
      · simp at h; omega
      · split at h
        · simp at h; omega
        · split at h
          · simp at h; omega
          · simp at h
theorem MS.not0 {S : St} (h : MS 0 S) : False := by
  obtain ⟨left, _, h⟩ := h
  have e : sleft 0 S left = -1 := rfl
  omega
end Go.Proofs.YtdimkfcanegahaaDoor
