/-
  Matrices that come in; pieces of lists; copy into a list of the call's own; rowOf.
-/
import Derived.Test.YthdgpmanijifoaaQbbst00
import Derived.Test.YthdgpmanijifoaaQbbst16
import Derived.Laws.CopyOwn
set_option maxRecDepth 100000
set_option maxHeartbeats 16000000
namespace Go.Proofs.Ythdgpmanijifoaa
open Go.RowKit
/-- A list of elements with room. -/
structure Mt (w : World) (a : Option Addr) (n k : Nat) (F : Nat → Nat) : Prop where
 sl : Sl w a n F
 room : n ≤ k
 nil : a = none → n = 0 ∧ k = 0
theorem Mt.later {w w' : World} {a : Option Addr} {n k : Nat} {F : Nat → Nat} (h : Mt w a n k F) (hb : Below w.heap.size w w') : Mt w' a n k F := ⟨h.sl.later hb, h.room, h.nil⟩
theorem Mt.kept {w w' : World} {a : Option Addr} {n k g : Nat} {F : Nat → Nat} (h : Mt w a n k F) (hg : w.grownBy w' (some g)) (ho : 0 < n → Off g a) : Mt w' a n k F := ⟨h.sl.beside hg ho, h.room, h.nil⟩
theorem RowAt.mt {w : World} {g : Nat} {t : TypeId} {n : Nat} {f : Nat → Nat} (h : RowAt w g t n f) (hf : ∀ i, i < n → f i < 256) : Mt w (some ⟨g, 0, none⟩) n n f := ⟨h.sl hf, Nat.le_refl _, fun e => by cases e⟩
theorem Mt.none (w : World) (F : Nat → Nat) : Mt w none 0 0 F := ⟨Sl.nil _ _ _, Nat.le_refl _, fun _ => ⟨rfl, rfl⟩⟩
theorem add_plain (b o i : Nat) : (⟨b, o, none⟩ : Addr).add i = ⟨b, o + i, none⟩ := by unfold Addr.add; split <;> simp_all
theorem Sl.piece {w : World} {a : Option Addr} {n : Nat} {F : Nat → Nat} (h : Sl w a n F) {p c : Nat} (hf : p + c ≤ n) : Sl w (pc a p c) c (fun j => F (p + j)) := by
 refine ⟨fun i hi => h.1 _ (by omega), fun i hi => ?_⟩
 obtain ⟨b, o, e, hc⟩ := h.2 (p + i) (by omega)
 subst e
 refine ⟨b, o + p, ?_, by rw [Nat.add_assoc]; exact hc⟩
 unfold pc
 rw [if_neg (by omega)]
 show some (Addr.add _ _) = _
 rw [add_plain]
theorem Mt.piece {w : World} {a : Option Addr} {n k : Nat} {F : Nat → Nat} (h : Mt w a n k F) {p c : Nat} (hf : p + c ≤ n) : Sl w (pc a p c) c (fun j => F (p + j)) := h.sl.piece hf
theorem qb5 (w : World) (g : Nat) (cs : Array Value) : w.grownBy (w.setRow g cs) (some g) := ⟨rfl, rfl, rfl, by simp [World.setRow], fun k _ hne => setRow_other w g k cs (fun e => hne (by rw [e]))⟩
end Go.Proofs.Ythdgpmanijifoaa
