/-
  Contracts of the wire's reference: Read.
-/
import Derived.Test.YtlfmekjkgegclabHh
import Derived.Test.YtlfmekjkgegclabLj
import Derived.Deep.RegionHeld
import Derived.Deep.MidRow
namespace Go.Proofs.Ytlfmekjkgegclab
open Go.RowKit
theorem jhid8 {p : Prop} (h : p) : Hid p := h
theorem size_alloc8 (w : World) (o : Obj) : (w.alloc o).heap.size = w.heap.size + 1 := by simp
theorem size46 : (Try.prog.info? 30).map (·.size) = some 2 := by kernel_rfl
theorem Vc.free {w : World} {b : Nat} {x y : Value} (h : Vc w b x y) (i : Nat) : w.frozen? ⟨b, i, none⟩ = false := by
  unfold Vc at h
  simp [World.frozen?, h]
theorem Vc.set0 {w : World} {b : Nat} {x y : Value} (h : Vc w b x y) (v : Value) : Vc (w.setCell ⟨b, 0, none⟩ v) b v y := by
  unfold Vc at *
  rw [setCell_eq_setRow w b 0 _ _ (0, 0) _ h, setRow_heap w b _ _ _ (0, 0) h]; rfl
theorem Vc.set1 {w : World} {b : Nat} {x y : Value} (h : Vc w b x y) (v : Value) : Vc (w.setCell ⟨b, 1, none⟩ v) b x v := by
  unfold Vc at *
  rw [setCell_eq_setRow w b 1 _ _ (0, 0) _ h, setRow_heap w b _ _ _ (0, 0) h]; rfl
theorem Vc.there {w : World} {b : Nat} {x y : Value} (h : Vc w b x y) : w.there b 0 2 := by
  intro j hj
  rcases (by omega : j = 0 ∨ j = 1) with rfl | rfl
  · exact ⟨by rw [Nat.zero_add, h.c0]; rfl, h.free _⟩
  · exact ⟨by rw [Nat.zero_add, h.c1]; rfl, h.free _⟩
theorem wpList_store_vc {ops : Array Oper} {rest : List Oper} {op : Oper} {a : Act} {w : World} {Q : Exit → Act → World → Prop} (hgd : op.guard = none) (p q : Operand) (ho : op.op = .store 30 p q)
    (b : Nat) (x y x' y' : Value) (hp : a.eval p = .pointer (some ⟨b, 0, none⟩)) (hq : a.eval q = .agg #[x', y']) (hv : Vc w b x y) (h0 : x'.oneCell' = true) (h1 : y'.oneCell' = true)
    (h : ∀ w', Hid (Vc w' b x' y') → Hid (w.grownBy w' (some b)) → wpList Try.prog ops Q rest (a.put op.dst undef) w') : wpList Try.prog ops Q (op :: rest) a w :=
  wpList_store_mid hgd 30 p q ho b 0 #[x', y'] hp hq hv.there size46 (by simp [h0, h1]) (h _ ((hv.set0 x').set1 y') (grown_trans (grown_setCell _ _ _ _) (grown_setCell _ _ _ _)))
/-- The bytes f begin with a chunk's form: a body of v bytes, its length in s bytes. -/
structure RdOk (f : Nat → Nat) (n v s : Nat) : Prop where
  num : RnOk (fun j => f (1 + j)) (n - 1) v s
  small : v ≤ 4194304
  fits : 1 + (s + v) + 4 ≤ n
  sum : ∀ j, j < 4 → f (1 + (s + v) + j) = fr (cs f (1 + (s + v))) j
/-- Which error Read tells, where it tells one. -/
def RdE (f : Nat → Nat) (n E : Nat) : Prop := (n = 0 ∧ E = 7) ∨ (0 < n ∧ RtE (fun j => f (1 + j)) (n - 1) 4194304 E) ∨
  ∃ v s, RnOk (fun j => f (1 + j)) (n - 1) v s ∧ v ≤ 4194304 ∧ 1 + (s + v) ≤ n ∧ (n < 1 + (s + v) + 4 ∧ E = 7 ∨ 1 + (s + v) + 4 ≤ n ∧ (∃ j, j < 4 ∧ f (1 + (s + v) + j) ≠ fr (cs f (1 + (s + v))) j) ∧ E = 80)
theorem rd_ex (f : Nat → Nat) (n : Nat) : (∃ v s, RdOk f n v s) ∨ ∃ E, RdE f n E := by
  by_cases h0 : n = 0
  · exact .inr ⟨7, .inl ⟨h0, rfl⟩⟩
  · obtain ⟨v, s, E, h⟩ := rn_ex (fun j => f (1 + j)) (n - 1)
    by_cases hE : E = 0
    · subst hE
      have hok : RnOk (fun j => f (1 + j)) (n - 1) v s := by
        rcases h with ⟨_, h⟩ | ⟨e, _⟩ | ⟨e, _⟩
        · exact h
        · cases e
        · cases e
      by_cases h1 : v ≤ 4194304
      · by_cases h2 : v + s ≤ n - 1
        · by_cases h3 : 1 + (s + v) + 4 ≤ n
          · by_cases h4 : ∀ j, j < 4 → f (1 + (s + v) + j) = fr (cs f (1 + (s + v))) j
            · exact .inl ⟨v, s, hok, h1, h3, h4⟩
            · refine .inr ⟨80, .inr (.inr ⟨v, s, hok, h1, by omega, .inr ⟨h3, ?_, rfl⟩⟩)⟩
              apply Classical.byContradiction
              intro hn
              exact h4 (fun j hj => Classical.byContradiction fun hne => hn ⟨j, hj, hne⟩)
          · exact .inr ⟨7, .inr (.inr ⟨v, s, hok, h1, by omega, .inl ⟨by omega, rfl⟩⟩)⟩
        · exact .inr ⟨7, .inr (.inl ⟨by omega, .inr ⟨by decide, .inr ⟨v, s, hok, .inr ⟨by omega, by omega, rfl⟩⟩⟩⟩)⟩
      · exact .inr ⟨4, .inr (.inl ⟨by omega, .inr ⟨by decide, .inr ⟨v, s, hok, .inl ⟨by omega, rfl⟩⟩⟩⟩)⟩
    · exact .inr ⟨E, .inr (.inl ⟨by omega, .inr ⟨by decide, .inl ⟨v, s, h, hE⟩⟩⟩)⟩
theorem RtE.ne {f : Nat → Nat} {n E : Nat} {most : Int} (h : RtE f n most E) : E ≠ 0 := by
  rcases h with ⟨_, rfl⟩ | ⟨_, ⟨_, _, _, h⟩ | ⟨_, _, _, ⟨_, rfl⟩ | ⟨_, _, rfl⟩⟩⟩
  · decide
  · exact h
  · decide
  · decide
theorem RdE.ne {f : Nat → Nat} {n E : Nat} (h : RdE f n E) : E ≠ 0 := by
  rcases h with ⟨_, rfl⟩ | ⟨_, h⟩ | ⟨_, _, _, _, _, ⟨_, rfl⟩ | ⟨_, _, rfl⟩⟩
  · decide
  · exact h.ne
  · decide
  · decide
end Go.Proofs.Ytlfmekjkgegclab
