/-
  Stage 21: the anchor.
-/
import Derived.Test.YthdgpmanijifoaaQbbst00
import Derived.Test.YthdgpmanijifoaaQbbst33
import Derived.Test.YthdgpmanijifoaaQbbst34
set_option maxRecDepth 100000
set_option maxHeartbeats 16000000
namespace Go.Proofs.Ythdgpmanijifoaa
open Go.RowKit
theorem FlR.congr {w : World} {a b c : Option Addr} {F G : Fl} (h : FlR w a b c F) (e : EqF F G) : FlR w a b c G := by
 obtain ⟨⟨e1, e2⟩, ⟨e3, e4⟩, ⟨e5, e6⟩⟩ := e
 refine ⟨by rw [← e1]; exact h.hi, by rw [← e3]; exact h.hn, by rw [← e5]; exact h.ho, fun i hi => ?_, fun i hi => ?_, fun i hi => ?_⟩
 ·obtain ⟨x, o, ee, hc⟩ := h.inp i (by omega)
  exact ⟨x, o, ee, by rw [hc, e2 i (by omega)]⟩
 ·obtain ⟨h1, x, o, t, d, ee, hc, ht⟩ := h.nodes i (by omega)
  obtain ⟨k1, k2⟩ := e4 i (by omega)
  refine ⟨by rw [← k1]; exact h1, x, o, t, d, ee, by rw [← k1]; exact hc, fun j hj => ?_⟩
  obtain ⟨g1, b, o2, e7, c0, c1⟩ := ht j (by rw [k1]; exact hj)
  obtain ⟨k3, k4⟩ := k2 j (by rw [k1]; exact hj)
  exact ⟨by rw [← k4]; exact g1, b, o2, e7, by rw [c0, k3], by rw [c1, k4]⟩
 ·obtain ⟨x, o, ee, hc⟩ := h.outs i (by omega)
  exact ⟨x, o, ee, by rw [hc, e6 i (by omega)]⟩
theorem EqF.refl (F : Fl) : EqF F F := ⟨⟨rfl, fun _ _ => rfl⟩, ⟨rfl, fun _ _ => ⟨rfl, fun _ _ => ⟨rfl, rfl⟩⟩⟩, ⟨rfl, fun _ _ => rfl⟩⟩
end Go.Proofs.Ythdgpmanijifoaa
