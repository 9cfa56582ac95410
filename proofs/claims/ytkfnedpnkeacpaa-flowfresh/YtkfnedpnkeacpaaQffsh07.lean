/-
  Drawn regions whose last operation waits for all others: it may be left for behind the region.
-/
import Derived.Test.YtkfnedpnkeacpaaQffsh00
import Derived.OrdersHeld
import Derived.KernelRfl
import Derived.Deep.RegionHeld
set_option maxRecDepth 100000
set_option maxHeartbeats 16000000
namespace Go.Proofs.Ytkfnedpnkeacpaa
variable {P : Program} {ops : Array Oper} {md : Region.Mode}
/-- What is asked of the others: that the last may be carried out. -/
def parkQ (P : Program) (ops : Array Oper) (Q : Exit → Act → World → Prop) (k : Nat) : Exit → Act → World → Prop := fun ex a w =>
 match ex with
 | .normal => wpOp P ops Q k (fun a' w' => Q .normal a' w') a w
 | e => Q e a w
/-- The last waits for all others, nobody waits for it, all wait for earlier ones alone. -/
def parkB (md : Region.Mode) (ops : Array Oper) (k : Nat) : Bool :=
 (List.range ops.size).all fun j =>
  match ops[j]? with
  | none => false
  | some o => (if j = k then (List.range ops.size).all fun i => i == k || o.after.any fun e => Region.binds md e && e.on == i else o.after.all fun e => e.on != k) && o.after.all fun e => decide (e.on < j)
theorem qf2 {Q : Exit → Act → World → Prop} {k : Nat} {o : Oper} {a : Act} {w : World} {K : Act → World → Prop} (h : o.wp P a w K (parkQ P ops Q k)) : o.wp P a w K Q := by
 unfold Oper.wp at *
 generalize (execOp a.eval o).run P w = r at *
 cases r with
 | ok n w' =>
  cases n <;> simp only [Oper.upon] at h ⊢ <;>
   first
    | exact h
    | exact Calls.mono h (fun e w'' he => by cases e <;> exact he)
    | exact Rows.mono h (fun _ _ he => he)
 | halt x w' => cases x <;> simp only [Oper.upon] at h ⊢ <;> exact h
theorem qf3 {Q : Exit → Act → World → Prop} {k i : Nat} {a : Act} {w : World} {K : Act → World → Prop} (h : wpOp P ops (parkQ P ops Q k) i K a w) : wpOp P ops Q i K a w := by
 unfold wpOp at *
 split
 ·simpa [*] using h
 ·rename_i o ho
  simp only [ho] at h
  split
  ·rename_i hw
   simp only [hw, if_true] at h
   exact h.imp qf2 id
  ·rename_i hw
   simp only [hw] at h
   exact h
theorem qas {k : Nat} (h : parkB md ops k = true) (j : Nat) (o : Oper) (ho : ops[j]? = some o) :
  (j = k → ∀ i, i < ops.size → i ≠ k → ∃ e ∈ o.after, Region.binds md e = true ∧ e.on = i) ∧ (j ≠ k → ∀ e ∈ o.after, e.on ≠ k) ∧ ∀ e ∈ o.after, e.on < j := by
 have hlt : j < ops.size := (Array.getElem?_eq_some_iff.1 ho).1
 have := List.all_eq_true.1 h j (by simpa using hlt)
 rw [ho] at this
 simp only [Bool.and_eq_true] at this
 obtain ⟨h1, h2⟩ := this
 refine ⟨fun e i hi hne => ?_, fun hne e he => ?_, fun e he => ?_⟩
 ·rw [if_pos e] at h1
  have := List.all_eq_true.1 h1 i (by simpa using hi)
  simp only [Bool.or_eq_true, beq_iff_eq, hne, false_or] at this
  obtain ⟨x, hx, hb⟩ := Array.any_eq_true.1 this
  simp only [Bool.and_eq_true, beq_iff_eq] at hb
  exact ⟨_, Array.getElem_mem hx, hb.1, hb.2⟩
 ·rw [if_neg hne] at h1
  have := Array.all_eq_true_iff_forall_mem.1 h1 e he
  simpa using this
 ·have := Array.all_eq_true_iff_forall_mem.1 h2 e he
  simpa using this
theorem qbb {listed : Array Bool} {k j : Nat} (d : Bool) (h : j ≠ k) : (listed.setIfInBounds k true).getD j d = listed.getD j d := getD_set_ne d (Ne.symm h)
/-- Ready ones other than the last are the same. -/
theorem qb3 {k : Nat} (h : parkB md ops k = true) {listed : Array Bool} {j : Nat} (hj : j ≠ k) : j ∈ Region.ready md ops (listed.setIfInBounds k true) ↔ j ∈ Region.ready md ops listed := by
 rw [mem_ready, mem_ready, qbb true hj]
 constructor
 ·rintro ⟨h0, o, ho, hall⟩
  exact ⟨h0, o, ho, fun e he hb => by rw [← qbb false ((qas h j o ho).2.1 hj e he)]; exact hall e he hb⟩
 ·rintro ⟨h0, o, ho, hall⟩
  exact ⟨h0, o, ho, fun e he hb => by rw [qbb false ((qas h j o ho).2.1 hj e he)]; exact hall e he hb⟩
/-- Where none of the others is ready all others have come up. -/
theorem qcc {k : Nat} (h : parkB md ops k = true) {listed : Array Bool} (hs : listed.size = ops.size) (hr : ∀ j, j ≠ k → j ∉ Region.ready md ops listed) : ∀ j, j < ops.size → j ≠ k → listed.getD j true = true := by
 intro j
 induction j using Nat.strongRecOn with
 | _ j ih =>
  intro hj hk
  cases hl : listed.getD j true with
  | true => rfl
  | false =>
   exfalso
   apply hr j hk
   rw [mem_ready]
   obtain ⟨o, ho⟩ : ∃ o, ops[j]? = some o := ⟨_, Array.getElem?_eq_getElem hj⟩
   refine ⟨hl, o, ho, fun e he _ => ?_⟩
   have hlt := (qas h j o ho).2.2 e he
   have hne := (qas h j o ho).2.1 hk e he
   have := ih e.on hlt (by omega) hne
   rw [Array.getD_eq_getD_getElem?, Array.getElem?_eq_getElem (by omega)] at this ⊢
   simpa using this
theorem qec {Q : Exit → Act → World → Prop} {k : Nat} (h : parkB md ops k = true) (hk : k < ops.size) : ∀ (fuel : Nat) (listed : Array Bool) (a : Act) (w : World), listed.size = ops.size → listed.getD k true = false →
  wpAny P md ops (parkQ P ops Q k) fuel (listed.setIfInBounds k true) a w → wpAny P md ops Q (fuel + 1) listed a w := by
 intro fuel
 induction fuel with
 | zero =>
  intro listed a w hs hl hw
  obtain ⟨hr, hq⟩ := hw
  have others : ∀ j, j ≠ k → j ∉ Region.ready md ops listed := fun j hj hm => by
   have := (qb3 h hj).2 hm
   rw [hr] at this
   simp at this
  have hall := qcc h hs others
  refine ⟨fun h0 => ?_, fun i hi => ?_⟩
  ·exfalso
   obtain ⟨o, ho⟩ : ∃ o, ops[k]? = some o := ⟨_, Array.getElem?_eq_getElem hk⟩
   have : k ∈ Region.ready md ops listed := by
    rw [mem_ready]
    refine ⟨hl, o, ho, fun e he _ => ?_⟩
    have hlt := (qas h k o ho).2.2 e he
    have := hall e.on (by omega) (by omega)
    rw [Array.getD_eq_getD_getElem?, Array.getElem?_eq_getElem (by omega)] at this ⊢
    simpa using this
   rw [h0] at this
   simp at this
  ·by_cases e : i = k
   ·subst e
    exact wpOp_mono (fun a' w' hq' => wpAny_done hr hq' _) hq
   ·exact absurd hi (others i e)
 | succ f ih =>
  intro listed a w hs hl hw
  obtain ⟨h0, hn⟩ := hw
  by_cases hr : Region.ready md ops (listed.setIfInBounds k true) = []
  ·have others : ∀ j, j ≠ k → j ∉ Region.ready md ops listed := fun j hj hm => by
    have := (qb3 h hj).2 hm
    rw [hr] at this
    simp at this
   have hall := qcc h hs others
   refine ⟨fun h1 => ?_, fun i hi => ?_⟩
   ·exfalso
    obtain ⟨o, ho⟩ : ∃ o, ops[k]? = some o := ⟨_, Array.getElem?_eq_getElem hk⟩
    have : k ∈ Region.ready md ops listed := by
     rw [mem_ready]
     refine ⟨hl, o, ho, fun e he _ => ?_⟩
     have hlt := (qas h k o ho).2.2 e he
     have := hall e.on (by omega) (by omega)
     rw [Array.getD_eq_getD_getElem?, Array.getElem?_eq_getElem (by omega)] at this ⊢
     simpa using this
    rw [h1] at this
    simp at this
   ·by_cases e : i = k
    ·subst e
     exact wpOp_mono (fun a' w' hq' => wpAny_done hr hq' _) (h0 hr)
    ·exact absurd hi (others i e)
  ·obtain ⟨j, hj⟩ := List.exists_mem_of_ne_nil _ hr
   have hjk : j ≠ k := fun e => by
    subst e
    have := (mem_ready.1 hj).1
    rw [Array.getD_eq_getD_getElem?, Array.getElem?_setIfInBounds_self_of_lt (by omega)] at this
    simp at this
   have hjl : listed.getD j true = false := by
    have := (mem_ready.1 hj).1
    rwa [qbb true hjk] at this
   have hjs : j < ops.size := by
    obtain ⟨_, o, ho, _⟩ := mem_ready.1 hj
    exact (Array.getElem?_eq_some_iff.1 ho).1
   have notk : k ∉ Region.ready md ops listed := fun hm => by
    obtain ⟨_, o, ho, hall⟩ := mem_ready.1 hm
    obtain ⟨e, he, hb, rfl⟩ := (qas h k o ho).1 rfl j hjs hjk
    have := hall e he hb
    rw [Array.getD_eq_getD_getElem?, Array.getElem?_eq_getElem (by omega)] at this hjl
    simp at this hjl
    rw [this] at hjl
    cases hjl
   refine ⟨fun h1 => ?_, fun i hi => ?_⟩
   ·exfalso
    have := (qb3 h hjk).1 hj
    rw [h1] at this
    simp at this
   ·have hik : i ≠ k := fun e => notk (e ▸ hi)
    refine wpOp_mono (fun a' w' hq' => ih (listed.setIfInBounds i true) a' w' (by simpa using hs) (by rw [getD_set_ne true hik]; exact hl) ?_) (qf3 (hn i ((qb3 h hik).2 hi)))
    rw [Array.setIfInBounds_comm _ _ (Ne.symm hik)] at hq'
    exact hq'
theorem qa7 {Q : Exit → Act → World → Prop} {id k n : Nat} {a : Act} {w : World} (S : World → Prop) (hm : P.follows .mixedOrders = true) (hp : parkB .any ops k = true) (hk : k < ops.size) (hn : ops.size = n + 1)
  (h : wpAnyH P .any ops (parkQ P ops Q k) S n ((Array.replicate (n + 1) false).setIfInBounds k true) a w.drew) : (Code.region id ops true).wp P Q a w := by
 refine wp_region_any hm ?_
 rw [hn]
 refine qec hp hk n _ a _ (by simp [hn]) ?_ (wpAny_of_held _ _ _ _ h)
 rw [Array.getD_eq_getD_getElem?, Array.getElem?_replicate, if_pos (by omega)]
 rfl
theorem qa3 {Q : Exit → Act → World → Prop} {k : Nat} {o : Oper} {a : Act} {w : World} (ho : ops[k]? = some o)
  (h : ∀ K' : Act → World → Prop, Shut (∀ a w, Q .normal a w → K' a w) → if Region.wanted o (yielded ops a.tmps) = true then Oper.wp P o a w K' Q else K' (a.put o.dst undef) w) : parkQ P ops Q k .normal a w :=
 wpOp_step ho (fun K' hK => h K' (fun a w hQ => hK a w hQ))
end Go.Proofs.Ytkfnedpnkeacpaa
