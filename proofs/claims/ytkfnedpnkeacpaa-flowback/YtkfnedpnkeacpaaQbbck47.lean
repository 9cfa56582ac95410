/-
  Stage 21: Trim of a flow that may not be.
  Stage 21: what trimming leaves, as one; what comes out of it.
  Stage 21: the law of Less.
  Stage 21: the law of Applies.
-/
import Derived.Test.YtkfnedpnkeacpaaQbbck00
import Derived.Test.YtkfnedpnkeacpaaQbbck28
import Derived.Test.YtkfnedpnkeacpaaQbbck32
import Derived.Test.YtkfnedpnkeacpaaQbbck42
import Derived.Test.YtkfnedpnkeacpaaQbbck29
import Derived.Test.YtkfnedpnkeacpaaQbbck31
import Derived.Test.YtkfnedpnkeacpaaQbbck46
set_option maxRecDepth 100000
set_option maxHeartbeats 16000000
namespace Go.Proofs.Ytkfnedpnkeacpaa
open Go.RowKit
theorem Rl.congr {w : World} {b : Option Addr} {m : Nat} {A : Nat → Option Addr} {L C : Nat → Nat} {f f' : Nat → Nat → Nat} (h : Rl w b m A L C f) (e : ∀ i, i < m → f i = f' i) : Rl w b m A L C f' :=
 ⟨h.at', fun i hi => by rw [← e i hi]; exact h.sl i hi, h.nil⟩
open Go.RowKit
theorem qf6 (w : World) (a b c bl : Option Addr) (p q r nb kb : Nat) (F : Fl) (A : Nat → Option Addr) (L C : Nat → Nat) (bt : Nat → Nat → Nat) (h : FlR w a b c F) (hB : Bw w bl nb A L C bt) (hnb : nb ≤ 140737488351232) (hM : MayP F) (hR : RunP F nb L) :
  Calls Try.prog 15 #[flv a F.ni p b F.nn q c F.no r, .slice bl nb kb] w fun e w' => BkT w' F.no (len1 nb L) (fun o => vlx F bt (F.out o).toNat) 0 e ∧ Below w.heap.size w w' :=
 (qe8 w a b c bl p q r nb kb F A L C bt h hM hB hnb).mono fun e w' hh => by
  obtain ⟨⟨_, g, B, rfl, _, ho⟩ | ⟨hn, _⟩, hb'⟩ := hh
  ·exact ⟨⟨_, _, _, _, rfl, ho.rl fun o i ho' hi => run_lt h hM hB hR (by have := hM.outs o ho'; omega) hi⟩, hb'⟩
  ·exact absurd hR hn
open Go.RowKit
theorem Rl.congr2 {w : World} {b : Option Addr} {m : Nat} {A : Nat → Option Addr} {L C : Nat → Nat} {f f' : Nat → Nat → Nat} (h : Rl w b m A L C f) (e : ∀ i j, i < m → j < L i → f i j = f' i j) : Rl w b m A L C f' :=
 ⟨h.at', fun i hi => (h.sl i hi).congr fun j hj => e i j hi hj, h.nil⟩
end Go.Proofs.Ytkfnedpnkeacpaa
