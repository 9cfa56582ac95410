/-
  Stage 21: flows with what a copy of them asks; lists of terms and of numbers behind an own one.
-/
import Derived.Test.YthdgpmanijifoaaQbbst00
import Derived.Test.YthdgpmanijifoaaQbbst40
import Derived.Test.YthdgpmanijifoaaQbbst41
set_option maxRecDepth 100000
set_option maxHeartbeats 16000000
namespace Go.Proofs.Ythdgpmanijifoaa
open Go.RowKit
/-- Nodes that can be copied. -/
def Ndx (w : World) (b : Option Addr) (m : Nat) (nt : Nat → Nat) (f : Nat → Nat → Int) (g : Nat → Nat → Nat) : Prop := ∀ i, i < m → nt i * 16 ≤ 140737488351232 ∧ ∃ x o t d, b = some ⟨x, o, none⟩ ∧ w.cell? ⟨x, o + i, none⟩ = some (.slice t (nt i) d) ∧ Tml w t (nt i) (f i) (g i) ∧ (t = none → nt i = 0 ∧ d = 0)
theorem Ndx.later {w w' : World} {b : Option Addr} {m : Nat} {nt : Nat → Nat} {f : Nat → Nat → Int} {g : Nat → Nat → Nat} (h : Ndx w b m nt f g) (hb : Below w.heap.size w w') : Ndx w' b m nt f g := fun i hi => by
 obtain ⟨h1, x, o, t, d, e, c, ht, h0⟩ := h i hi
 exact ⟨h1, x, o, t, d, e, by rw [hb.cell (p := ⟨x, _, none⟩) (qa2 c)]; exact c, ht.later hb, h0⟩
/-- A flow that can be copied. -/
structure FlX (w : World) (a : Option Addr) (p : Nat) (b c : Option Addr) (r : Nat) (F : Fl) : Prop where
 fl : FlR w a b c F
 a0 : a = none → F.ni = 0 ∧ p = 0
 c0 : c = none → F.no = 0 ∧ r = 0
 i8 : F.ni * 8 ≤ 140737488351232
 o8 : F.no * 8 ≤ 140737488351232
 n24 : F.nn * 24 ≤ 140737488351232
 nd : Ndx w b F.nn F.nt F.of F.fc
theorem FlX.later {w w' : World} {a b c : Option Addr} {p r : Nat} {F : Fl} (h : FlX w a p b c r F) (hb : Below w.heap.size w w') : FlX w' a p b c r F := ⟨h.fl.later hb, h.a0, h.c0, h.i8, h.o8, h.n24, h.nd.later hb⟩
end Go.Proofs.Ythdgpmanijifoaa
