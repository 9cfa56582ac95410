/-
  Stage 21: Blocks; both sides' Run as one.
  Stage 21: the law of Runs.
-/
import Derived.Test.YtkfnedpnkeacpaaQmmde00
import Derived.Test.YtkfnedpnkeacpaaQmmde40
import Derived.Test.YtkfnedpnkeacpaaQmmde32
set_option maxRecDepth 100000
set_option maxHeartbeats 16000000
namespace Go.Proofs.Ytkfnedpnkeacpaa
open Go.RowKit
theorem Rl.zero (w : World) (a : Option Addr) (A : Nat → Option Addr) (L C : Nat → Nat) (x : Nat → Nat → Nat) : Rl w a 0 A L C x := ⟨fun i h => by omega, fun i h => by omega, fun i h => by omega⟩
theorem Ou.rl {w : World} {base g n T : Nat} {B : Nat → Nat} {x : Nat → Nat → Nat} (h : Ou w base g n n T B x) (hx : ∀ o i, o < n → i < T → x o i < 256) : Rl w (some ⟨g, 0, none⟩) n (fun o => some ⟨B o, 0, none⟩) (fun _ => T) (fun _ => T) x :=
 ⟨fun o ho => ⟨g, 0, rfl, by rw [Nat.zero_add, h.ga.cell o ho, if_pos ho]⟩, fun o ho => (h.row o ho).sl fun i hi => hx o i ho hi, fun o ho e => by cases e⟩
end Go.Proofs.Ytkfnedpnkeacpaa
