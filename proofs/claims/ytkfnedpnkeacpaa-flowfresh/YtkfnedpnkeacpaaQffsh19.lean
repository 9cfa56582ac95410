/-
  Stage 21: lists of numbers, of terms, of nodes that are the same; Same, of the program.
  Stage 21: Same of both sides.
-/
import Derived.Test.YtkfnedpnkeacpaaQffsh00
import Derived.Test.YtkfnedpnkeacpaaQffsh17
import Derived.Test.YtkfnedpnkeacpaaQffsh18
set_option maxRecDepth 100000
set_option maxHeartbeats 16000000
namespace Go.Proofs.Ytkfnedpnkeacpaa
open Go.RowKit
def EqI (n m : Nat) (q q' : Nat → Int) : Prop := n = m ∧ ∀ i, i < n → q i = q' i
def EqT (n m : Nat) (f f' : Nat → Int) (g g' : Nat → Nat) : Prop := n = m ∧ ∀ i, i < n → f i = f' i ∧ g i = g' i
def EqN (n m : Nat) (t t' : Nat → Nat) (f f' : Nat → Nat → Int) (g g' : Nat → Nat → Nat) : Prop := n = m ∧ ∀ i, i < n → EqT (t i) (t' i) (f i) (f' i) (g i) (g' i)
structure EqF (F G : Fl) : Prop where
 inp : EqI F.ni G.ni F.inp G.inp
 nodes : EqN F.nn G.nn F.nt G.nt F.of G.of F.fc G.fc
 outs : EqI F.no G.no F.out G.out
theorem qdv (w : World) (b b' : Option Addr) (m d m' d' : Nat) (q q' : Nat → Int) (hb : Jl w b .i64 m q) (hb' : Jl w b' .i64 m' q') (hm : m ≤ 140737488351232) :
  Calls Try.prog 39 #[.slice b m d, .slice b' m' d'] w fun e w' => AnsB e (EqI m m' q q') ∧ Below w.heap.size w w' := by
 have HJ := qa0 hb
 have HJ' := qa0 hb'
 clear hb hb'
 by_cases hmm : m = m'
 ·have HM := qa0 hmm
  have g1 : ((m : Int) != (m' : Int)) = false := by simp; omega
  have hm2 : m ≤ m' := by omega
  clear hmm
  go_enter Try.func39, Try.ntmps39
  go_wp2
  go_loopw [5] (fun vi wr => ∃ i : Nat, i ≤ m ∧ vi = .int .i64 (i : Int) ∧ (∀ j, j < i → q j = q' j) ∧ Below w.heap.size w wr) (fun vi _ => m - (intOf vi).toNat)
  case atStart => exact ⟨0, by omega, rfl, fun j hj => by omega, Below.refl _ _⟩
  case round =>
   obtain ⟨i, hi, rfl, hall, hbr⟩ := hrel
   have HL := qa0 hall
   have HB := qa0 hbr
   by_cases hlt : i < m
   ·have hlt2 : (i : Int) < (m : Int) := by omega
    have hlt3 : (i : Int) < (m' : Int) := by omega
    have i0 : (0 : Int) ≤ (i : Int) := Int.natCast_nonneg _
    obtain ⟨x, o, ea, hc⟩ := (HJ.out.later hbr) i hlt
    obtain ⟨x', o', ea', hc'⟩ := (HJ'.out.later hbr) i (by omega)
    obtain ⟨u, HU⟩ : ∃ u, Hid (q i = u) := ⟨_, rfl⟩
    obtain ⟨u', HU'⟩ : ∃ u, Hid (q' i = u) := ⟨_, rfl⟩
    rw [HU.out] at hc
    rw [HU'.out] at hc'
    subst ea ea'
    clear hall hbr
    by_cases he : u = u'
    ·have HE := qa0 he
     have g2 : (u != u') = false := by simp [he]
     clear he
     go_wp2
     go_big_quiet (fail)
     go_wp2
     exact ⟨⟨i + 1, by omega, by go_num, fun j hj => (by
      by_cases e : j = i
      ·subst e; rw [HU.out, HU'.out]; exact HE.out
      ·exact HL.out j (by omega)), below_drewN HB.out _⟩, by simp [intOf]; omega⟩
    ·have g2 : (u != u') = true := by simp [he]
     have HE := qa0 he
     clear he
     go_wp2
     go_big_quiet (fail)
     go_wp2
     go_ret
     exact ⟨AnsB.no fun hx => HE.out (by rw [← HU.out, ← HU'.out]; exact hx.2 i hlt), below_drewN HB.out _⟩
   ·have hlt2 : ¬ (i : Int) < (m : Int) := by omega
    clear hall hbr
    go_wp2
    go_ret
    exact ⟨AnsB.yes ⟨HM.out, fun j hj => HL.out j (by omega)⟩, HB.out⟩
 ·have g1 : ((m : Int) != (m' : Int)) = true := by simp; omega
  have HM := qa0 hmm
  clear hmm
  go_enter Try.func39, Try.ntmps39
  go_wp2
  go_ret
  exact ⟨AnsB.no fun hx => HM.out hx.1, Below.refl _ _⟩
open Go.RowKit
theorem Vf.new1 (w : World) (o : Obj) (T : TypeId) (xs : Array Value) : Vf ((w.alloc o).alloc (.cells xs T)) (w.heap.size + 1) T xs := by
 have := Vf.new (w.alloc o) T xs
 rwa [show (w.alloc o).heap.size = w.heap.size + 1 by simp] at this
end Go.Proofs.Ytkfnedpnkeacpaa
