/-
  What is left of the tokens when an expression is read.
-/
import Derived.Test.YtnjcpmkfghcogaaGreatDoorQbbks00
import Derived.Test.YtnjcpmkfghcogaaGreatDoorQbbks17
set_option maxRecDepth 100000
set_option maxHeartbeats 16000000
namespace Go.Proofs.YtnjcpmkfghcogaaGreatDoor
def Suf {α : Type} (q : Rd α) (L : List TV) : Prop :=
 match q with
 | .error s => s <:+ L
 | .ok (_, s) => s <:+ L
theorem Suf.thn {α β : Type} {q : Rd α} {L : List TV} {f : α → List TV → Rd β} (h : Suf q L) (g : ∀ y s, s <:+ L → Suf (f y s) s) : Suf (thn q f) L := by
 cases q with
 | error s => exact h
 | ok p =>
  obtain ⟨y, s⟩ := p
  have h2 := g y s h
  rw [qa4]
  unfold Suf at *
  cases hq : f y s with
  | error r => rw [hq] at h2; exact h2.trans h
  | ok p => obtain ⟨z, r⟩ := p; rw [hq] at h2; exact h2.trans h
theorem Suf.cons {α : Type} {q : Rd α} {L : List TV} (t : TV) (h : Suf q L) : Suf q (t :: L) := by
 unfold Suf at *
 cases q with
 | error s => exact h.trans (List.suffix_cons t L)
 | ok p => exact h.trans (List.suffix_cons t L)
theorem Suf.ask {α : Type} (c : ByteArray) (x : α) (s : List TV) : Suf (ask c x s) s := by
 cases s with
 | nil => exact List.suffix_refl _
 | cons u s =>
  rw [qbr]
  split
  ·exact List.suffix_cons u s
  ·exact List.suffix_refl _
theorem qeu : ∀ n, (∀ x L, Suf (px n 0 x L) L) ∧ (∀ x L, Suf (px n 1 x L) L) ∧ (∀ x L, Suf (px n 2 x L) L) ∧ (∀ x L, Suf (px n 3 x L) L) ∧ (∀ x L, Suf (px n 4 x L) L) := by
 intro n
 induction n with
 | zero => exact ⟨fun _ L => List.suffix_refl L, fun _ L => List.suffix_refl L, fun _ L => List.suffix_refl L, fun _ L => List.suffix_refl L, fun _ L => List.suffix_refl L⟩
 | succ n ih =>
  obtain ⟨i0, i1, i2, i3, i4⟩ := ih
  refine ⟨fun x L => ?_, fun x L => ?_, fun x L => ?_, fun x L => ?_, fun x L => ?_⟩
  ·cases L with
   | nil => rw [qix]; exact List.suffix_refl _
   | cons t r =>
    rw [qcw]
    split
    ·exact Suf.cons t ((i0 x r).thn (fun _ s _ => List.suffix_refl s))
    split
    ·exact Suf.cons t ((i3 x r).thn (fun y s _ => Suf.ask _ y s))
    split
    ·exact List.suffix_cons t r
    split
    ·exact List.suffix_cons t r
    ·exact List.suffix_refl _
  ·rw [px1]
   exact (i0 x L).thn (fun y s _ => i2 y s)
  ·cases L with
   | nil => rw [qiy]; exact List.suffix_refl _
   | cons t r =>
    rw [qck]
    split
    ·exact List.suffix_refl _
    ·exact Suf.cons t ((i0 x r).thn (fun y s _ => i2 _ s))
  ·rw [px3]
   exact (i1 x L).thn (fun y s _ => i4 y s)
  ·cases L with
   | nil => rw [qiz]; exact List.suffix_refl _
   | cons t r =>
    rw [qcl]
    split
    ·exact List.suffix_refl _
    ·exact Suf.cons t ((i1 x r).thn (fun y s _ => i4 _ s))
end Go.Proofs.YtnjcpmkfghcogaaGreatDoor
