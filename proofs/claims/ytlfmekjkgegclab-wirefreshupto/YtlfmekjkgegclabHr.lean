/-
  A byte of a list is written over.
-/
import Derived.Test.YtlfmekjkgegclabHq
namespace Go.Proofs.Ytlfmekjkgegclab
open Go.RowKit
theorem bt_set {w : World} {g o n c q y : Nat} {f : Nat → Nat} (h : Bt w (some ⟨g, o, none⟩) n c f) (hq : q < n) (hy : y < 256) : Bt (w.setCell ⟨g, o + q, none⟩ (.int .u8 (y : Int))) (some ⟨g, o, none⟩) n c (fun i => if i = q then y else f i) := by
  refine ⟨⟨fun i hi => ?_, fun i hi => ⟨g, o, rfl, ?_⟩⟩, h.room, fun e => by cases e⟩
  · show (if i = q then y else f i) < 256
    split
    · exact hy
    · exact h.sl.1 i hi
  · obtain ⟨b, o', e, hc⟩ := h.sl.2 i hi
    cases e
    by_cases e : i = q
    · subst e
      rw [World.cell?_setCell_same _ _ _ hc]
      simp
    · rw [World.cell?_setCell_other _ _ _ _ (by intro h; simp only [Addr.mk.injEq] at h; omega), hc]
      simp [e]
theorem bt_off {w : World} {g i n c : Nat} {a : Option Addr} {v : Value} {f : Nat → Nat} (h : Bt w a n c f) (ho : 0 < n → Off g a) : Bt (w.setCell ⟨g, i, none⟩ v) a n c f := ⟨h.sl.beside (grown_setCell w g i v) ho, h.room, h.nil⟩
theorem vc_off {w : World} {g i b : Nat} {x y v : Value} (h : Vc w b x y) (hne : b ≠ g) : Vc (w.setCell ⟨g, i, none⟩ v) b x y := by
  unfold Vc
  rw [(grown_setCell w g i v).block b h.lt (by simpa using hne)]
  exact h
theorem set_below {w w1 : World} {B g i : Nat} {v : Value} (h : Below B w w1) (hB : B ≤ w1.heap.size) (hg : B ≤ g) : Below B w (w1.setCell ⟨g, i, none⟩ v) := h.trans (jbelow (grown_setCell w1 g i v) hB (fun k e => by cases e; exact hg))
theorem off_old {w : World} {a : Option Addr} {n c g : Nat} {f : Nat → Nat} (h : Bt w a n c f) (hg : w.heap.size ≤ g) : 0 < n → Off g a := fun hn => off_of_lt h.sl hg hn
end Go.Proofs.Ytlfmekjkgegclab
