/-
  Both All's, with lists of chunks of one length.
-/
import Derived.Test.YtlfmekjkgegclabHp
namespace Go.Proofs.Ytlfmekjkgegclab
open Go.RowKit
/-- Chunks are answered, and two numbers. -/
def CsP (w w' : World) (e : Ending) (K : Nat) (tag m : Nat → Nat) (F : Nat → Nat → Nat) (P E : Nat) : Prop := ∃ x d, e = .returned (.tuple #[.slice x K d, .int .i64 (P : Int), .int .i64 (E : Int)]) ∧ Cks w' x K tag m F ∧ Below w.heap.size w w'
theorem AlP.cs {w w' : World} {e : Ending} {f pos v s : Nat → Nat} {k E : Nat} (h : AlP w w' e f k pos v s E) : CsP w w' e (if E = 0 then k else 0) (fun i => f (pos i)) v (bdf f pos s) (pos k) E := by
  obtain ⟨x, q, d, he, h1, h2, hb⟩ := h
  by_cases hE : E = 0
  · obtain ⟨rfl, hc⟩ := h1 hE
    rw [if_pos hE]
    exact ⟨x, d, he, hc, hb⟩
  · have := h2 hE
    subst this
    rw [if_neg hE]
    exact ⟨x, d, he, ⟨fun i hi => by omega⟩, hb⟩
/-- A chunk of a list, in memory. -/
theorem Cks.get {w : World} {x : Option Addr} {K i : Nat} {tag m : Nat → Nat} {F : Nat → Nat → Nat} (h : Cks w x K tag m F) (hi : i < K) : ∃ b o s d, x = some ⟨b, o, none⟩ ∧ w.cell? ⟨b, o + i * 2, none⟩ = some (.int .u8 (tag i : Nat)) ∧ w.cell? ⟨b, o + i * 2 + 1, none⟩ = some (.slice s (m i) d) ∧ Bt w s (m i) d (F i) := by
  obtain ⟨b, o, s, d, e, h1, h2, h3⟩ := h.all i hi
  exact ⟨b, o, s, d, e, h1, by rw [Nat.add_assoc]; exact h2, h3⟩
theorem cell_aft8 {w w' : World} {b o : Nat} {v : Value} (h : w.cell? ⟨b, o, none⟩ = some v) (hb : Below w.heap.size w w') : w'.cell? ⟨b, o, none⟩ = some v := by
  have hlt := jcell_lt h
  have e : w'.cell? ⟨b, o, none⟩ = w.cell? ⟨b, o, none⟩ := by unfold World.cell?; rw [hb.block b hlt]
  rw [e]; exact h
theorem Bt.pre {w : World} {a : Option Addr} {n c m : Nat} {f : Nat → Nat} (h : Bt w a n c f) (hm : m ≤ n) : Bt w a m c f := ⟨⟨fun i hi => h.sl.1 i (by omega), fun i hi => h.sl.2 i (by omega)⟩, by have := h.room; omega, fun e => by have := h.nil e; omega⟩
theorem rn_cases (f : Nat → Nat) (n : Nat) : (∃ v s, RnOk f n v s) ∨ ∃ E, E ≠ 0 ∧ RN f n 0 0 E := by
  obtain ⟨v, s, E, h⟩ := rn_ex f n
  rcases h with ⟨_, h⟩ | ⟨e, rfl, rfl, h⟩ | ⟨e, rfl, rfl, h⟩
  · exact .inl ⟨v, s, h⟩
  · exact .inr ⟨7, by decide, .inr (.inl ⟨rfl, rfl, rfl, h⟩)⟩
  · exact .inr ⟨8, by decide, .inr (.inr ⟨rfl, rfl, rfl, h⟩)⟩
end Go.Proofs.Ytlfmekjkgegclab
