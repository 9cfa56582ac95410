/-
  Lists that may be spoilt, and what stays beside them.
-/
import Derived.Test.YtlfmekjkgegclabHv
namespace Go.Proofs.Ytlfmekjkgegclab
open Go.RowKit
/-- A list that may be spoilt: if it has room, its block is one of P. -/
structure Fd (w : World) (P : Nat → Prop) (s : Option Addr) (n d : Nat) : Prop where
  room : n ≤ d
  big : n ≤ 100000000000
  nil : s = none → n = 0 ∧ d = 0
  own : ∀ x, s = some x → ∃ g o, x = ⟨g, o, none⟩ ∧ (d ≠ 0 → P g) ∧ ∀ i, i < d → Wb w g (o + i)
theorem Fd.later {w w' : World} {P : Nat → Prop} {s : Option Addr} {n d : Nat} (h : Fd w P s n d) (hb : Below w.heap.size w w') : Fd w' P s n d := ⟨h.room, h.big, h.nil, fun x hx => by
  obtain ⟨g, o, e, h1, h2⟩ := h.own x hx
  exact ⟨g, o, e, h1, fun i hi => (h2 i hi).later hb⟩⟩
theorem Fd.kp {w w' : World} {P : Nat → Prop} {s : Option Addr} {n d : Nat} {row : Option Nat} (h : Fd w P s n d) (hb : Kp w w' row) : Fd w' P s n d := ⟨h.room, h.big, h.nil, fun x hx => by
  obtain ⟨g, o, e, h1, h2⟩ := h.own x hx
  exact ⟨g, o, e, h1, fun i hi => hb.wb _ _ (h2 i hi)⟩⟩
theorem Fd.mono {w : World} {P Q : Nat → Prop} {s : Option Addr} {n d : Nat} (h : Fd w P s n d) (hP : ∀ g, P g → Q g) : Fd w Q s n d := ⟨h.room, h.big, h.nil, fun x hx => by
  obtain ⟨g, o, e, h1, h2⟩ := h.own x hx
  exact ⟨g, o, e, fun hd => hP g (h1 hd), h2⟩⟩
theorem Fd.none (w : World) (P : Nat → Prop) : Fd w P none 0 0 := ⟨Nat.le_refl _, by omega, fun _ => ⟨rfl, rfl⟩, fun x hx => by cases hx⟩
/-- What a list of new memory is. -/
theorem fd_of {w w1 : World} {s : Option Addr} {n d : Nat} {f : Nat → Nat} (hb : Bt w1 s n d f) (hn : n ≤ 100000000000) (hf : Frs8 w1 w.heap.size s d) : Fd w1 (fun g => w.heap.size ≤ g ∧ g < w1.heap.size) s n d := ⟨hb.room, hn, hb.nil, fun x hx => by
  obtain ⟨g, o, e, h1, h2⟩ := hf x hx
  refine ⟨g, o, e, fun hd => ⟨h1, ?_⟩, h2⟩
  obtain ⟨⟨v, hv⟩, _⟩ := h2 0 (by omega)
  exact jcell_lt hv⟩
theorem spoil_fd (w : World) (P : Nat → Prop) (s : Option Addr) (n d : Nat) (m : Int) (h : Fd w P s n d) : Calls Try.prog 20 #[.slice s n d, .int .u8 m] w fun e w' => e = .returned (.tuple #[]) ∧ ∃ row, (∀ g, row = some g → P g) ∧ Kp w w' row := by
  cases s with
  | none =>
    obtain ⟨rfl, rfl⟩ := h.nil rfl
    exact (spoil_nil w m).mono fun _ _ h => ⟨h.1, none, fun g hg => (by cases hg), Kp.of_none (grown_none.mpr h.2) _⟩
  | some x =>
    obtain ⟨g, o, rfl, h1, h2⟩ := h.own x rfl
    by_cases hd : d = 0
    · exact (spoil_wb w g o n d m none h.big h.room h2 (fun h => absurd hd h)).mono fun _ _ h => ⟨h.1, none, fun g hg => (by cases hg), h.2⟩
    · exact (spoil_wb w g o n d m (some g) h.big h.room h2 (fun _ => rfl)).mono fun _ _ h => ⟨h.1, some g, fun g' hg => (by cases hg; exact h1 hd), h.2⟩
theorem below_kp {B : Nat} {w w1 w2 : World} {row : Option Nat} (h : Below B w w1) (hB : B ≤ w1.heap.size) (k : Kp w1 w2 row) (hr : ∀ g, row = some g → B ≤ g) : Below B w w2 := h.grown k.grown hB hr
theorem Bt.kp {w w' : World} {a : Option Addr} {n c : Nat} {f : Nat → Nat} {row : Option Nat} (h : Bt w a n c f) (k : Kp w w' row) (hr : ∀ x, a = some x → n ≠ 0 → row ≠ some x.block) : Bt w' a n c f := by
  refine ⟨?_, h.room, h.nil⟩
  cases row with
  | none => exact h.sl.later (grown_none.mp k.grown)
  | some g => exact h.sl.beside k.grown (fun hn x hx e => hr x hx (by omega) (by rw [e]))
theorem cell_kp {w w' : World} {b q : Nat} {v : Value} {row : Option Nat} (h : w.cell? ⟨b, q, none⟩ = some v) (k : Kp w w' row) (hr : row ≠ some b) : w'.cell? ⟨b, q, none⟩ = some v := by
  have hblk := k.grown.block b (jcell_lt h) (fun e => hr e.symm)
  rw [World.cell?_of_block (a := ⟨b, q, none⟩) hblk]
  exact h
/-- A list of chunks of new memory whose bodies may be spoilt. -/
structure Cf (w : World) (P : Nat → Prop) (x : Option Addr) (k : Nat) : Prop where
  big : k ≤ 100000000000
  all : ∀ i, i < k → ∃ b o s n d, x = some ⟨b, o, none⟩ ∧ P b ∧ w.cell? ⟨b, o + i * 2 + 1, none⟩ = some (.slice s n d) ∧ Fd w (fun g => P g ∧ g ≠ b) s n d
theorem Cf.later {w w' : World} {P : Nat → Prop} {x : Option Addr} {k : Nat} (h : Cf w P x k) (hb : Below w.heap.size w w') : Cf w' P x k := ⟨h.big, fun i hi => by
  obtain ⟨b, o, s, n, d, e, h0, h1, h2⟩ := h.all i hi
  exact ⟨b, o, s, n, d, e, h0, cell_aft8 h1 hb, h2.later hb⟩⟩
theorem Cf.mono {w : World} {P Q : Nat → Prop} {x : Option Addr} {k : Nat} (h : Cf w P x k) (hP : ∀ g, P g → Q g) : Cf w Q x k := ⟨h.big, fun i hi => by
  obtain ⟨b, o, s, n, d, e, h0, h1, h2⟩ := h.all i hi
  exact ⟨b, o, s, n, d, e, hP b h0, h1, h2.mono (fun g hg => ⟨hP g hg.1, hg.2⟩)⟩⟩
/-- Another list was spoilt, or one of the bodies. -/
theorem Cf.kp {w w' : World} {P : Nat → Prop} {x : Option Addr} {k : Nat} {row : Option Nat} (h : Cf w P x k) (hb : Kp w w' row) (hr : ∀ b o, x = some ⟨b, o, none⟩ → P b → row ≠ some b) : Cf w' P x k := ⟨h.big, fun i hi => by
  obtain ⟨b, o, s, n, d, e, h0, h1, h2⟩ := h.all i hi
  exact ⟨b, o, s, n, d, e, h0, cell_kp h1 hb (hr b o e h0), h2.kp hb⟩⟩
end Go.Proofs.Ytlfmekjkgegclab
