/-
  A scope with several labels: what holds at each jump, and a measure.
-/
import Derived.Test.YtnjcpmkfghcogaaGreatDoorQbbks00
import Derived.WalkMore
import Derived.ScopeJumps
set_option maxRecDepth 100000
set_option maxHeartbeats 16000000
namespace Go.Proofs.YtnjcpmkfghcogaaGreatDoor
open Go.RowKit
def jumps (J : Nat → Act → World → Prop) (Q : Exit → Act → World → Prop) : Exit → Act → World → Prop
 | .goto l, a, w => J l a w
 | e, a, w => Q e a w
theorem qg0 {J : Nat → Act → World → Prop} {Q : Exit → Act → World → Prop} {a : Act} {w : World} : jumps J Q Exit.ret a w = Q Exit.ret a w := rfl
theorem qep {P : Program} {a : Act} {w : World} {Q : Exit → Act → World → Prop} {c : Code} (rest : Nat → Code) (J : Nat → Act → World → Prop) (m : Nat → Act → World → Nat) (hf : ∀ l a w, J l a w → findLabel c l = some (rest l))
  (first : c.wp P (jumps J Q) a w)
  (pass : ∀ l a w, J l a w → (rest l).wp P (jumps (fun l' a' w' => J l' a' w' ∧ m l' a' w' < m l a w) Q) a w) : (Code.scope c).wp P Q a w := by
 intro b k cs
 have hg : ∀ l a w, J l a w → gotoIn l (.inScope c :: k) = some (.code (rest l) :: .inScope c :: k) := fun l a w h => by simp [gotoIn, hf l a w h]
 have key : ∀ n l a w, m l a w = n → J l a w → ∃ e a' w', Q e a' w' ∧ Arrives P (lone (b.at a (.code (rest l) :: .inScope c :: k)) cs w) b k cs e a' w' := by
  intro n
  induction n using Nat.strongRecOn with
  | _ n ih =>
   intro l a w hn hJ
   obtain ⟨e, a₁, w₁, hq, harr⟩ := pass l a w hJ b (.inScope c :: k) cs
   cases e with
   | normal => exact ⟨.normal, a₁, w₁, hq, Steps.trans harr (.one step_inScope)⟩
   | exit id => exact ⟨.exit id, a₁, w₁, hq, fun k' hk => harr k' (by simp [exitTo, hk])⟩
   | goto l' =>
    obtain ⟨hJ', hlt⟩ := hq
    obtain ⟨e₂, a₂, w₂, hq₂, harr₂⟩ := ih _ (by omega) l' a₁ w₁ rfl hJ'
    exact ⟨e₂, a₂, w₂, hq₂, .of_steps (harr _ (hg l' a₁ w₁ hJ')) harr₂⟩
   | ret => exact ⟨_, a₁, w₁, hq, harr⟩
   | panic ch => exact ⟨_, a₁, w₁, hq, harr⟩
   | outgrown => exact ⟨_, a₁, w₁, hq, harr⟩
 obtain ⟨e, a₁, w₁, hq, harr⟩ := first b (.inScope c :: k) cs
 cases e with
 | normal => exact ⟨.normal, a₁, w₁, hq, .head step_scope (Steps.trans harr (.one step_inScope))⟩
 | exit id => exact ⟨.exit id, a₁, w₁, hq, fun k' hk => .head step_scope (harr k' (by simp [exitTo, hk]))⟩
 | goto l =>
  obtain ⟨e₂, a₂, w₂, hq₂, harr₂⟩ := key _ l a₁ w₁ rfl hq
  exact ⟨e₂, a₂, w₂, hq₂, .of_steps (.head step_scope (harr _ (hg l a₁ w₁ hq))) harr₂⟩
 | ret => exact ⟨_, a₁, w₁, hq, .of_steps (.one step_scope) harr⟩
 | panic ch => exact ⟨_, a₁, w₁, hq, .of_steps (.one step_scope) harr⟩
 | outgrown => exact ⟨_, a₁, w₁, hq, .of_steps (.one step_scope) harr⟩
theorem qeq {P : Program} {a : Act} {w : World} {Q : Exit → Act → World → Prop} {c X r1 r2 r3 r4 r5 r6 : Code} (J : Nat → Act → World → Prop) (m : Nat → World → Nat) (hJ : ∀ l a w, J l a w → l < 7)
  (h0 : findLabel c 0 = some (.seq .skip X)) (h1 : findLabel c 1 = some r1) (h2 : findLabel c 2 = some r2) (h3 : findLabel c 3 = some r3) (h4 : findLabel c 4 = some r4) (h5 : findLabel c 5 = some r5) (h6 : findLabel c 6 = some r6)
  (first : (∀ a w, J 0 a w → X.wp P (jumps J Q) a w) → c.wp P (jumps J Q) a w)
  (p0 : ∀ a w, J 0 a w → X.wp P (jumps (fun l' a' w' => J l' a' w' ∧ m l' w' < m 0 w) Q) a w)
  (p1 : ∀ a w, J 1 a w → r1.wp P (jumps (fun l' a' w' => J l' a' w' ∧ m l' w' < m 1 w) Q) a w)
  (p2 : ∀ a w, J 2 a w → r2.wp P (jumps (fun l' a' w' => J l' a' w' ∧ m l' w' < m 2 w) Q) a w)
  (p3 : ∀ a w, J 3 a w → r3.wp P (jumps (fun l' a' w' => J l' a' w' ∧ m l' w' < m 3 w) Q) a w)
  (p4 : ∀ a w, J 4 a w → r4.wp P (jumps (fun l' a' w' => J l' a' w' ∧ m l' w' < m 4 w) Q) a w)
  (p5 : ∀ a w, J 5 a w → r5.wp P (jumps (fun l' a' w' => J l' a' w' ∧ m l' w' < m 5 w) Q) a w)
  (p6 : ∀ a w, J 6 a w → r6.wp P (jumps (fun l' a' w' => J l' a' w' ∧ m l' w' < m 6 w) Q) a w) : (Code.scope c).wp P Q a w := by
 refine qep (fun l => match l with | 0 => .seq .skip X | 1 => r1 | 2 => r2 | 3 => r3 | 4 => r4 | 5 => r5 | _ => r6) J (fun l _ w => m l w) ?_ (first fun a w h => wp_mono (p0 a w h) ?_) ?_
 ·intro l a w h
  match l, hJ l a w h with
  | 0, _ => exact h0
  | 1, _ => exact h1
  | 2, _ => exact h2
  | 3, _ => exact h3
  | 4, _ => exact h4
  | 5, _ => exact h5
  | 6, _ => exact h6
  | l + 7, hl => omega
 ·intro e a w h
  cases e with
  | goto l => exact h.1
  | normal => exact h
  | exit i => exact h
  | ret => exact h
  | panic ch => exact h
  | outgrown => exact h
 ·intro l a w h
  match l, hJ l a w h with
  | 0, _ => exact wp_seq (wp_skip (p0 a w h))
  | 1, _ => exact p1 a w h
  | 2, _ => exact p2 a w h
  | 3, _ => exact p3 a w h
  | 4, _ => exact p4 a w h
  | 5, _ => exact p5 a w h
  | 6, _ => exact p6 a w h
  | l + 7, hl => omega
end Go.Proofs.YtnjcpmkfghcogaaGreatDoor
