/-
  Lists of bytes with room, as calls answer them.
-/
import Derived.Test.YtlfmekjkgegclabHk
namespace Go.Proofs.Ytlfmekjkgegclab
open Go.RowKit
/-- A list of n bytes with room for c. -/
structure Bt (w : World) (a : Option Addr) (n c : Nat) (f : Nat → Nat) : Prop where
  sl : Sl w a n f
  room : n ≤ c
  nil : a = none → n = 0 ∧ c = 0
theorem Bt.later {w w' : World} {a : Option Addr} {n c : Nat} {f : Nat → Nat} (h : Bt w a n c f) (hb : Below w.heap.size w w') : Bt w' a n c f := ⟨h.sl.later hb, h.room, h.nil⟩
theorem Bt.congr {w : World} {a : Option Addr} {n c : Nat} {f g : Nat → Nat} (h : Bt w a n c f) (e : ∀ i, i < n → f i = g i) : Bt w a n c g := ⟨h.sl.congr e, h.room, h.nil⟩
theorem Jo.bt {w : World} {B n : Nat} {v : Value} {f : Nat → Nat} (h : Jo w B 5 .u8 v n f) (hf : ∀ i, i < n → f i < 256) : ∃ s d, v = .slice s n d ∧ Bt w s n d f := by
  obtain ⟨s, d, rfl, hn⟩ := h.form
  refine ⟨s, d, rfl, jo_sl h hf, ?_, hn⟩
  rcases h.2 with ⟨e, h0⟩ | ⟨g, cap, cur, e, _, _, hc, _⟩
  · cases e; omega
  · cases e; exact hc
/-- A list of memory that is new from block B on: it may be written, and the room behind it. -/
def Frs8 (w : World) (B : Nat) (s : Option Addr) (d : Nat) : Prop := ∀ x, s = some x → ∃ g o, x = ⟨g, o, none⟩ ∧ B ≤ g ∧ ∀ i, i < d → (∃ v, w.cell? ⟨g, o + i, none⟩ = some v) ∧ w.frozen? ⟨g, o + i, none⟩ = false
theorem Jo.fr8 {w : World} {B n d : Nat} {s : Option Addr} {f : Nat → Nat} (h : Jo w B 5 .u8 (.slice s n d) n f) : Frs8 w B s d := fun x hx => by
  rcases h.2 with ⟨e, _⟩ | ⟨g, cap, cur, e, hB, hg, _, _, hc, _⟩
  · cases e; cases hx
  · cases e
    cases hx
    refine ⟨g, 0, rfl, hB, fun i hi => ⟨?_, ?_⟩⟩
    · rw [Nat.zero_add, cell_of_row w g i _ _ _ hg]
      exact ⟨cur[i]'(by omega), by simp [show i < cur.size by omega]⟩
    · simp [World.frozen?, hg]
theorem Frs8.mono {w : World} {B B' d : Nat} {s : Option Addr} (h : Frs8 w B s d) (hB : B' ≤ B) : Frs8 w B' s d := fun x hx => by
  obtain ⟨g, o, e, h1, h2⟩ := h x hx
  exact ⟨g, o, e, by omega, h2⟩
theorem Frs8.later {w w' : World} {B d : Nat} {s : Option Addr} (h : Frs8 w B s d) (hb : Below w.heap.size w w') : Frs8 w' B s d := fun x hx => by
  obtain ⟨g, o, e, h1, h2⟩ := h x hx
  refine ⟨g, o, e, h1, fun i hi => ?_⟩
  obtain ⟨⟨v, hv⟩, hf⟩ := h2 i hi
  have hblk := hb.block g (jcell_lt hv)
  exact ⟨⟨v, by rw [World.cell?_of_block (a := ⟨g, o + i, none⟩) hblk]; exact hv⟩, by rw [World.frozen?_of_block (a := ⟨g, o + i, none⟩) hblk]; exact hf⟩
/-- A new list is answered, with the error E. -/
def LsF (w w' : World) (e : Ending) (n : Nat) (f : Nat → Nat) (E : Int) : Prop := ∃ s d, e = .returned (.tuple #[.slice s n d, .int .i64 E]) ∧ Bt w' s n d f ∧ Frs8 w' w.heap.size s d ∧ Below w.heap.size w w'
/-- A list is answered, with the error E. -/
def LsP (w w' : World) (e : Ending) (n : Nat) (f : Nat → Nat) (E : Int) : Prop := ∃ s d, e = .returned (.tuple #[.slice s n d, .int .i64 E]) ∧ Bt w' s n d f ∧ Below w.heap.size w w'
/-- A list and a number are answered, with the error E. -/
def LnP (w w' : World) (e : Ending) (n : Nat) (f : Nat → Nat) (q E : Int) : Prop := ∃ s d, e = .returned (.tuple #[.slice s n d, .int .i64 q, .int .i64 E]) ∧ Bt w' s n d f ∧ Below w.heap.size w w'
/-- A chunk and a number are answered, with the error E. -/
def CnP (w w' : World) (e : Ending) (tag n : Nat) (f : Nat → Nat) (q E : Int) : Prop := ∃ s d, e = .returned (.tuple #[.agg #[.int .u8 (tag : Int), .slice s n d], .int .i64 q, .int .i64 E]) ∧ Bt w' s n d f ∧ Below w.heap.size w w'
theorem bt_zero (w : World) (f : Nat → Nat) : Bt w none 0 0 f := ⟨Sl.nil _ _ _, Nat.le_refl _, fun _ => ⟨rfl, rfl⟩⟩
/-- Chunks in memory, one behind the other. -/
structure Cks (w : World) (x : Option Addr) (k : Nat) (tag m : Nat → Nat) (F : Nat → Nat → Nat) : Prop where
  all : ∀ i, i < k → ∃ b o s d, x = some ⟨b, o, none⟩ ∧ w.cell? ⟨b, o + i * 2, none⟩ = some (.int .u8 (tag i : Nat)) ∧ w.cell? ⟨b, o + (i * 2 + 1), none⟩ = some (.slice s (m i) d) ∧ Bt w s (m i) d (F i)
theorem Cks.later {w w' : World} {x : Option Addr} {k : Nat} {tag m : Nat → Nat} {F : Nat → Nat → Nat} (h : Cks w x k tag m F) (hb : Below w.heap.size w w') : Cks w' x k tag m F := ⟨fun i hi => by
  obtain ⟨b, o, s, d, e, h1, h2, h3⟩ := h.all i hi
  have hl := jcell_lt h1
  have he : ∀ q, w'.cell? ⟨b, q, none⟩ = w.cell? ⟨b, q, none⟩ := fun q => by unfold World.cell?; rw [hb.block b hl]
  exact ⟨b, o, s, d, e, by rw [he]; exact h1, by rw [he]; exact h2, h3.later hb⟩⟩
theorem Cls.cks {w : World} {B k d : Nat} {s : Option Addr} {tag m : Nat → Nat} {F : Nat → Nat → Nat} {S : Nat → Value} (h : Cls w B (.slice s k d) k tag m F S) (hF : ∀ i, i < k → ∀ j, j < m i → F i j < 256) : Cks w s k tag m F := ⟨fun i hi => by
  obtain ⟨sx, dx, e, hbt⟩ := (h.body i hi).bt (hF i hi)
  rcases h.own.2 with ⟨_, h0⟩ | ⟨g, cap, cur, e2, _⟩
  · omega
  · cases e2
    obtain ⟨c1, c2⟩ := crow_get tag S k i hi
    refine ⟨g, 0, sx, dx, rfl, ?_, ?_, hbt⟩
    · rw [Nat.zero_add, World.ownsRow.cellAt h.own (i * 2) (by omega)]; exact c1
    · rw [Nat.zero_add, World.ownsRow.cellAt h.own (i * 2 + 1) (by omega), c2, e]⟩
/-- What All answers, as lists with room. -/
def AlP (w w' : World) (e : Ending) (f : Nat → Nat) (k : Nat) (pos v s : Nat → Nat) (E : Nat) : Prop :=
  ∃ x q d, e = .returned (.tuple #[.slice x q d, .int .i64 (pos k : Nat), .int .i64 (E : Int)]) ∧ (E = 0 → q = k ∧ Cks w' x k (fun i => f (pos i)) v (bdf f pos s)) ∧ (E ≠ 0 → q = 0) ∧ Below w.heap.size w w'
theorem bdf_lt {f : Nat → Nat} {n k : Nat} {pos v s : Nat → Nat} (hf : ∀ i, i < n → f i < 256) (h : Pth f n k pos v s) : ∀ i, i < k → ∀ j, j < v i → bdf f pos s i j < 256 := fun i hi j hj => by
  have h1 := (h.2 i hi).1.fits
  exact hf _ (by omega)
theorem AllP.al {w w' : World} {e : Ending} {f : Nat → Nat} {n k E : Nat} {pos v s : Nat → Nat} (hf : ∀ i, i < n → f i < 256) (hA : AllA f n k pos v s E) (h : AllP w w' e f k pos v s E) : AlP w w' e f k pos v s E := by
  obtain ⟨x, he, h1, h2, hb⟩ := h
  by_cases hE : E = 0
  · obtain ⟨S, hc⟩ := h1 hE
    obtain ⟨sx, dx, rfl, _⟩ := hc.form
    exact ⟨sx, k, dx, he, fun _ => ⟨rfl, hc.cks (bdf_lt hf hA.1)⟩, fun h => absurd hE h, hb⟩
  · have := h2 hE
    subst this
    exact ⟨none, 0, 0, he, fun h => absurd h hE, fun _ => rfl, hb⟩
end Go.Proofs.Ytlfmekjkgegclab
