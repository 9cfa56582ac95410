/-
  Lists of bytes in memory: what a slice reads as, and what stays; no call yet.
-/
import Derived.Test.YthdgpmanijifoaaQbbst00
import Derived.Test.YthdgpmanijifoaaQbbst06
import Derived.OwnWalk
import Derived.Laws.BytesArg
import Derived.Laws.IdiomStrings
set_option maxRecDepth 100000
set_option maxHeartbeats 16000000
namespace Go.Proofs.Ythdgpmanijifoaa
open Go.RowKit
/-- A slice at the address a reads as the n bytes f 0, f 1, .. -/
def Sl (w : World) (a : Option Addr) (n : Nat) (f : Nat → Nat) : Prop :=
 (∀ i, i < n → f i < 256) ∧ ∀ i, i < n → ∃ b o, a = some ⟨b, o, none⟩ ∧ w.cell? ⟨b, o + i, none⟩ = some (.int .u8 (f i : Nat))
/-- It lies in another block than g. -/
def Off (g : Nat) (a : Option Addr) : Prop := ∀ x, a = some x → x.block ≠ g
theorem qa2 {w : World} {b o : Nat} {v : Value} (h : w.cell? ⟨b, o, none⟩ = some v) : b < w.heap.size := by
 by_cases hb : b < w.heap.size
 ·exact hb
 ·simp [World.cell?, hb] at h
theorem Sl.later {w w' : World} {a : Option Addr} {n : Nat} {f : Nat → Nat} (h : Sl w a n f) (hb : Below w.heap.size w w') : Sl w' a n f :=
 ⟨h.1, fun i hi => by
  obtain ⟨b, o, e, hc⟩ := h.2 i hi
  exact ⟨b, o, e, by rw [hb.cell (p := ⟨b, o + i, none⟩) (qa2 hc)]; exact hc⟩⟩
theorem Sl.kept {w w' : World} {a : Option Addr} {n : Nat} {f : Nat → Nat} {g : Nat} (h : Sl w a n f) (hg : w.grownBy w' (some g)) (ho : Off g a) : Sl w' a n f :=
 ⟨h.1, fun i hi => by
  obtain ⟨b, o, e, hc⟩ := h.2 i hi
  refine ⟨b, o, e, hg.cell hc ?_⟩
  intro hh
  exact ho _ e (by simpa using hh)⟩
theorem Sl.congr {w : World} {a : Option Addr} {n : Nat} {f f' : Nat → Nat} (h : Sl w a n f) (e : ∀ i, i < n → f i = f' i) : Sl w a n f' :=
 ⟨fun i hi => by rw [← e i hi]; exact h.1 i hi, fun i hi => by rw [← e i hi]; exact h.2 i hi⟩
theorem Sl.nil (w : World) (a : Option Addr) (f : Nat → Nat) : Sl w a 0 f := ⟨fun i hi => by omega, fun i hi => by omega⟩
theorem RowAt.sl {w : World} {g : Nat} {t : TypeId} {n : Nat} {f : Nat → Nat} (h : RowAt w g t n f) (hf : ∀ i, i < n → f i < 256) : Sl w (some ⟨g, 0, none⟩) n f :=
 ⟨hf, fun i hi => ⟨g, 0, rfl, by rw [Nat.zero_add]; exact h.cell i hi⟩⟩
theorem RowAt.lt {w : World} {g : Nat} {t : TypeId} {n : Nat} {f : Nat → Nat} (h : RowAt w g t n f) : g < w.heap.size := lt_of_block h
theorem RowAt.later {w w' : World} {g : Nat} {t : TypeId} {n : Nat} {f : Nat → Nat} (h : RowAt w g t n f) (hb : Below w.heap.size w w') : RowAt w' g t n f := by
 unfold RowAt; rw [hb.block g h.lt]; exact h
theorem RowAt.kept {w w' : World} {g k : Nat} {t : TypeId} {n : Nat} {f : Nat → Nat} (h : RowAt w g t n f) (hg : w.grownBy w' (some k)) (hk : g ≠ k) : RowAt w' g t n f := by
 unfold RowAt; rw [hg.block g h.lt (by simpa using hk)]; exact h
end Go.Proofs.Ythdgpmanijifoaa
