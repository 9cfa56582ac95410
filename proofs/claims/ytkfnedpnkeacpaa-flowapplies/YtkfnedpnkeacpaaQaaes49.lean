/-
  Stage 21: Trim of a flow that may not be.
  Stage 21: what trimming leaves, as one; what comes out of it.
  Stage 21: the law of Less.
-/
import Derived.Test.YtkfnedpnkeacpaaQaaes00
import Derived.Test.YtkfnedpnkeacpaaQaaes31
import Derived.Test.YtkfnedpnkeacpaaQaaes43
import Derived.Test.YtkfnedpnkeacpaaQaaes44
import Derived.Test.YtkfnedpnkeacpaaQaaes35
import Derived.Test.YtkfnedpnkeacpaaQaaes42
set_option maxRecDepth 100000
set_option maxHeartbeats 16000000
namespace Go.Proofs.Ytkfnedpnkeacpaa
open Go.RowKit
theorem Rl.congr {w : World} {b : Option Addr} {m : Nat} {A : Nat → Option Addr} {L C : Nat → Nat} {f f' : Nat → Nat → Nat} (h : Rl w b m A L C f) (e : ∀ i, i < m → f i = f' i) : Rl w b m A L C f' :=
 ⟨h.at', fun i hi => by rw [← e i hi]; exact h.sl i hi, h.nil⟩
open Go.RowKit
theorem qcl (w : World) (a b c bl : Option Addr) (p q r nb kb : Nat) (F : Fl) (A : Nat → Option Addr) (L C : Nat → Nat) (bt : Nat → Nat → Nat) (h : FlR w a b c F) (hB : Bw w bl nb A L C bt) (hnb : nb ≤ 140737488351232) (hM : MayP F) (hR : RunP F nb L) :
  Calls Try.prog 15 #[flv a F.ni p b F.nn q c F.no r, .slice bl nb kb] w fun e w' => BkT w' F.no (len1 nb L) (fun o => vlx F bt (F.out o).toNat) 0 e ∧ Below w.heap.size w w' :=
 (qbr w a b c bl p q r nb kb F A L C bt h hM hB hnb).mono fun e w' hh => by
  obtain ⟨⟨_, g, B, rfl, _, ho⟩ | ⟨hn, _⟩, hb'⟩ := hh
  ·exact ⟨⟨_, _, _, _, rfl, ho.rl fun o i ho' hi => run_lt h hM hB hR (by have := hM.outs o ho'; omega) hi⟩, hb'⟩
  ·exact absurd hR hn
theorem run21_sh (w : World) (a b c bl : Option Addr) (p q r nb kb : Nat) (F : Fl) (A : Nat → Option Addr) (L C : Nat → Nat) (bt : Nat → Nat → Nat) (h : FlR w a b c F) (hB : Bw w bl nb A L C bt) (hnb : nb ≤ 140737488351232) (hM : MayP F) (hR : ¬ RunP F nb L) :
  Calls Try.prog 15 #[flv a F.ni p b F.nn q c F.no r, .slice bl nb kb] w fun e w' => e = .returned (.tuple #[.slice none 0 0, .int .i64 3]) ∧ Below w.heap.size w w' :=
 (qbr w a b c bl p q r nb kb F A L C bt h hM hB hnb).mono fun e w' hh => by
  obtain ⟨⟨h1, _⟩ | ⟨_, rfl⟩, hb'⟩ := hh
  ·exact absurd h1 hR
  ·exact ⟨rfl, hb'⟩
end Go.Proofs.Ytkfnedpnkeacpaa
