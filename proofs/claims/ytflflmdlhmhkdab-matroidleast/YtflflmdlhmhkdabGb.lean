/-
  The plain mathematics of sums and of polynomials over the field: no Go in sight. A polynomial is the function of its coefficients.
  Drawn regions whose last operation waits for all others: it may be left for behind the region.
  Contracts of the matrices' reference: Right, At, Zero, Make, Like.
  Contracts of the matrices' reference: Make, Same of lists, Like, Identity, Row.
  Contracts of the matrices' reference: Identity, Row, Same.
  Contracts of the matrices' reference: Row, Same.
  Words for the matrices' products.
  Contract of the matrices' reference: Transpose.
  Contract of the matrices' reference: Mul.
  Contracts of the matrices' reference: what fails in Transpose and Mul; Apply.
  Contract of the matrices' reference: Kron.
  Contracts of the matrices' reference: what fails in Kron; Same.
  Contract of the matrices' reference: Stack.
  Contracts of the matrices' reference: what fails in Stack; Same; Copy.
  Contract of the matrices' reference: Pick.
  Contracts of the matrices' reference: what fails in Pick.
  Contracts of the matrices' reference: Of.
  Contracts of the matrices' reference: Of without rows; what fails in Of.
  Contracts of the matrices' reference: Same, Copy.
  Contract of the matrices' reference: Copy.
  What the laws about matrices ask: two answers, matrix and error, are alike.
  The laws' parameters in the contracts' words: slices of ints; a place where a list of ints leaves its bounds.
-/
import Derived.Test.YtflflmdlhmhkdabGa
import Derived.OrdersHeld
import Derived.KernelRfl
import Derived.Deep.RegionHeld
import Derived.Deep.MidRow
import Derived.Lib.Bytes
import Derived.Deep.AppendLies
import Derived.Laws.AppendOwnNone
namespace Go.Proofs.Ytflflmdlhmhkdab

/-! ### Sums -/
/-- The sum of f 0, .., f (n - 1). -/
def xs (f : Nat → Nat) : Nat → Nat
  | 0 => 0
  | n + 1 => xs f n ^^^ f n
theorem xs_congr {f g : Nat → Nat} {n : Nat} (h : ∀ k, k < n → f k = g k) : xs f n = xs g n := by
  induction n with
  | zero => rfl
  | succ n ih => simp only [xs]; rw [ih (fun k hk => h k (by omega)), h n (by omega)]
theorem xs_zero {f : Nat → Nat} {n : Nat} (h : ∀ k, k < n → f k = 0) : xs f n = 0 := by
  induction n with
  | zero => rfl
  | succ n ih => simp only [xs]; rw [ih (fun k hk => h k (by omega)), h n (by omega)]; rfl
theorem xs_lt {f : Nat → Nat} {n : Nat} (h : ∀ k, k < n → f k < 256) : xs f n < 256 := by
  induction n with
  | zero => simp [xs]
  | succ n ih => exact xor_lt _ _ (ih (fun k hk => h k (by omega))) (h n (by omega))
theorem xs_add (f g : Nat → Nat) (n : Nat) : xs (fun k => f k ^^^ g k) n = xs f n ^^^ xs g n := by
  induction n with
  | zero => simp [xs]
  | succ n ih => simp only [xs]; rw [ih, xor4]
theorem xs_swap (F : Nat → Nat → Nat) (n m : Nat) : xs (fun a => xs (fun b => F a b) m) n = xs (fun b => xs (fun a => F a b) n) m := by
  induction n with
  | zero => exact (xs_zero (fun _ _ => rfl)).symm
  | succ n ih => simp only [xs]; rw [ih, ← xs_add]
theorem xs_one {f : Nat → Nat} {n k0 : Nat} (hk : k0 < n) (h : ∀ k, k < n → k ≠ k0 → f k = 0) : xs f n = f k0 := by
  induction n with
  | zero => omega
  | succ n ih =>
    simp only [xs]
    by_cases e : k0 = n
    · subst e
      rw [xs_zero (fun k hk => h k (by omega) (by omega)), Nat.zero_xor]
    · rw [ih (by omega) (fun k hk => h k (by omega)), h n (by omega) (by omega), Nat.xor_zero]
theorem xs_ext {f : Nat → Nat} {n m : Nat} (hnm : n ≤ m) (h : ∀ k, n ≤ k → k < m → f k = 0) : xs f m = xs f n := by
  induction m with
  | zero => rw [show n = 0 by omega]
  | succ m ih =>
    by_cases e : n = m + 1
    · rw [e]
    · simp only [xs]
      rw [ih (by omega) (fun k h1 h2 => h k h1 (by omega)), h m (by omega) (by omega), Nat.xor_zero]
theorem xs_front (f : Nat → Nat) (n : Nat) : xs f (n + 1) = f 0 ^^^ xs (fun k => f (k + 1)) n := by
  induction n with
  | zero => simp [xs]
  | succ n ih => rw [xs, ih]; simp only [xs]; rw [Nat.xor_assoc]
theorem xs_mul_l (c : Nat) (f : Nat → Nat) (n : Nat) : fm c (xs f n) = xs (fun k => fm c (f k)) n := by
  induction n with
  | zero => exact fm_zero c
  | succ n ih => simp only [xs]; rw [fm_xor, ih]
theorem xs_mul_r (c : Nat) (f : Nat → Nat) (n : Nat) (h : ∀ k, k < n → f k < 256) : fm (xs f n) c = xs (fun k => fm (f k) c) n := by
  induction n with
  | zero => exact zero_fm c
  | succ n ih => simp only [xs]; rw [xor_fm _ _ _ (xs_lt (fun k hk => h k (by omega))) (h n (by omega)), ih (fun k hk => h k (by omega))]
theorem fm_ite (p : Prop) [Decidable p] (a c : Nat) : fm (if p then a else 0) c = if p then fm a c else 0 := by split; rfl; exact zero_fm c
theorem ite_fm (p : Prop) [Decidable p] (a c : Nat) : fm c (if p then a else 0) = if p then fm c a else 0 := by split; rfl; exact fm_zero c
theorem ite_lt (p : Prop) [Decidable p] (a : Nat) (h : a < 256) : (if p then a else 0) < 256 := by split; exact h; decide

/-! ### Products -/
/-- All coefficients are elements. -/
def El (p : Nat → Nat) : Prop := ∀ i, p i < 256
/-- The product of two polynomials. -/
def pm (p q : Nat → Nat) (i : Nat) : Nat := xs (fun k => fm (p k) (q (i - k))) (i + 1)
theorem pm_el {p : Nat → Nat} (q : Nat → Nat) (hp : El p) : El (pm p q) := fun _ => xs_lt (fun k _ => fm_lt _ _ (hp k))
/-- By pairs. -/
theorem pm_pairs (p q : Nat → Nat) (i N : Nat) (h : i < N) : pm p q i = xs (fun a => xs (fun b => if a + b = i then fm (p a) (q b) else 0) N) N := by
  have inner : ∀ a, a < N → xs (fun b => if a + b = i then fm (p a) (q b) else 0) N = if a < i + 1 then fm (p a) (q (i - a)) else 0 := by
    intro a _
    by_cases ha : a < i + 1
    · rw [if_pos ha, xs_one (k0 := i - a) (by omega) (fun k _ hk => if_neg (by omega)), if_pos (by omega)]
    · rw [if_neg ha]
      exact xs_zero (fun k _ => if_neg (by omega))
  rw [xs_congr inner, xs_ext (n := i + 1) (by omega) (fun k h1 _ => if_neg (by omega))]
  unfold pm
  exact xs_congr (fun k hk => by rw [if_pos hk])
theorem pm_comm {p q : Nat → Nat} (hp : El p) (hq : El q) (i : Nat) : pm p q i = pm q p i := by
  rw [pm_pairs p q i (i + 1) (by omega), pm_pairs q p i (i + 1) (by omega), xs_swap]
  refine xs_congr (fun b _ => xs_congr (fun a _ => ?_))
  rw [fm_comm _ _ (hp a) (hq b), Nat.add_comm]
theorem pm_assoc {p q : Nat → Nat} (r : Nat → Nat) (hp : El p) (hq : El q) (i : Nat) : pm (pm p q) r i = pm p (pm q r) i := by
  have N : i < i + 1 := by omega
  -- both sides are the sum over all a, b, c with a + b + c = i
  have L : pm (pm p q) r i = xs (fun c => xs (fun a => xs (fun b => if a + b + c = i then fm (fm (p a) (q b)) (r c) else 0) (i + 1)) (i + 1)) (i + 1) := by
    rw [pm_pairs (pm p q) r i (i + 1) N, xs_swap]
    refine xs_congr (fun c _ => ?_)
    have e : ∀ m, m < i + 1 → (if m + c = i then fm (pm p q m) (r c) else 0) = xs (fun a => xs (fun b => if m + c = i then (if a + b = m then fm (fm (p a) (q b)) (r c) else 0) else 0) (i + 1)) (i + 1) := by
      intro m hm
      by_cases hc : m + c = i
      · simp only [if_pos hc]
        rw [pm_pairs p q m (i + 1) hm, xs_mul_r _ _ _ (fun a _ => xs_lt (fun b _ => ite_lt _ _ (fm_lt _ _ (hp a))))]
        refine xs_congr (fun a _ => ?_)
        rw [xs_mul_r _ _ _ (fun b _ => ite_lt _ _ (fm_lt _ _ (hp a)))]
        exact xs_congr (fun b _ => fm_ite _ _ _)
      · simp only [if_neg hc]
        exact (xs_zero (fun a _ => xs_zero (fun b _ => rfl))).symm
    rw [xs_congr e, xs_swap]
    refine xs_congr (fun a _ => ?_)
    rw [xs_swap]
    refine xs_congr (fun b _ => ?_)
    by_cases h : a + b + c = i
    · rw [if_pos h, xs_one (k0 := a + b) (by omega) (fun m _ hm => by split; exact if_neg (by omega); rfl), if_pos h, if_pos rfl]
    · rw [if_neg h]
      exact xs_zero (fun m _ => by split; exact if_neg (by omega); rfl)
  have R : pm p (pm q r) i = xs (fun a => xs (fun b => xs (fun c => if a + b + c = i then fm (p a) (fm (q b) (r c)) else 0) (i + 1)) (i + 1)) (i + 1) := by
    rw [pm_pairs p (pm q r) i (i + 1) N]
    refine xs_congr (fun a _ => ?_)
    have e : ∀ m, m < i + 1 → (if a + m = i then fm (p a) (pm q r m) else 0) = xs (fun b => xs (fun c => if a + m = i then (if b + c = m then fm (p a) (fm (q b) (r c)) else 0) else 0) (i + 1)) (i + 1) := by
      intro m hm
      by_cases hc : a + m = i
      · simp only [if_pos hc]
        rw [pm_pairs q r m (i + 1) hm, xs_mul_l]
        refine xs_congr (fun b _ => ?_)
        rw [xs_mul_l]
        exact xs_congr (fun c _ => ite_fm _ _ _)
      · simp only [if_neg hc]
        exact (xs_zero (fun a _ => xs_zero (fun b _ => rfl))).symm
    rw [xs_congr e, xs_swap]
    refine xs_congr (fun b _ => ?_)
    rw [xs_swap]
    refine xs_congr (fun c _ => ?_)
    by_cases h : a + b + c = i
    · rw [if_pos h, xs_one (k0 := b + c) (by omega) (fun m _ hm => by split; exact if_neg (by omega); rfl), if_pos (by omega), if_pos rfl]
    · rw [if_neg h]
      exact xs_zero (fun m _ => by split; exact if_neg (by omega); rfl)
  rw [L, R]
  rw [xs_swap]
  refine xs_congr (fun a _ => ?_)
  rw [xs_swap]
  refine xs_congr (fun b _ => xs_congr (fun c _ => ?_))
  rw [fm_assoc _ _ _ (hp a) (hq b)]
/-- The sum of two polynomials. -/
def pa (p q : Nat → Nat) (i : Nat) : Nat := p i ^^^ q i
theorem pa_el {p q : Nat → Nat} (hp : El p) (hq : El q) : El (pa p q) := fun i => xor_lt _ _ (hp i) (hq i)
theorem pm_pa (p q r : Nat → Nat) (i : Nat) : pm p (pa q r) i = pa (pm p q) (pm p r) i := by
  unfold pm pa
  rw [← xs_add]
  exact xs_congr (fun k _ => fm_xor _ _ _)
theorem pa_pm {p q : Nat → Nat} (r : Nat → Nat) (hp : El p) (hq : El q) (i : Nat) : pm (pa p q) r i = pa (pm p r) (pm q r) i := by
  unfold pm pa
  rw [← xs_add]
  exact xs_congr (fun k _ => xor_fm _ _ _ (hp k) (hq k))
end Go.Proofs.Ytflflmdlhmhkdab

namespace Go.Proofs.Ytflflmdlhmhkdab
variable {P : Program} {ops : Array Oper} {md : Region.Mode}
/-- What is asked of the others: that the last may be carried out. -/
def parkQ (P : Program) (ops : Array Oper) (Q : Exit → Act → World → Prop) (k : Nat) : Exit → Act → World → Prop := fun ex a w =>
  match ex with
  | .normal => wpOp P ops Q k (fun a' w' => Q .normal a' w') a w
  | e => Q e a w
/-- The last waits for all others, nobody waits for it, all wait for earlier ones alone. -/
def parkB (md : Region.Mode) (ops : Array Oper) (k : Nat) : Bool :=
  (List.range ops.size).all fun j =>
    match ops[j]? with
    | none => false
    | some o => (if j = k then (List.range ops.size).all fun i => i == k || o.after.any fun e => Region.binds md e && e.on == i else o.after.all fun e => e.on != k) && o.after.all fun e => decide (e.on < j)
theorem upon_park {Q : Exit → Act → World → Prop} {k : Nat} {o : Oper} {a : Act} {w : World} {K : Act → World → Prop} (h : o.wp P a w K (parkQ P ops Q k)) : o.wp P a w K Q := by
  unfold Oper.wp at *
  generalize (execOp a.eval o).run P w = r at *
  cases r with
  | ok n w' =>
    cases n <;> simp only [Oper.upon] at h ⊢ <;>
      first
        | exact h
        | exact Calls.mono h (fun e w'' he => by cases e <;> exact he)
        | exact Rows.mono h (fun _ _ he => he)
  | halt x w' => cases x <;> simp only [Oper.upon] at h ⊢ <;> exact h
theorem wpOp_park {Q : Exit → Act → World → Prop} {k i : Nat} {a : Act} {w : World} {K : Act → World → Prop} (h : wpOp P ops (parkQ P ops Q k) i K a w) : wpOp P ops Q i K a w := by
  unfold wpOp at *
  split
  · simpa [*] using h
  · rename_i o ho
    simp only [ho] at h
    split
    · rename_i hw
      simp only [hw, if_true] at h
      exact h.imp upon_park id
    · rename_i hw
      simp only [hw] at h
      exact h
theorem park_spec {k : Nat} (h : parkB md ops k = true) (j : Nat) (o : Oper) (ho : ops[j]? = some o) :
    (j = k → ∀ i, i < ops.size → i ≠ k → ∃ e ∈ o.after, Region.binds md e = true ∧ e.on = i) ∧ (j ≠ k → ∀ e ∈ o.after, e.on ≠ k) ∧ ∀ e ∈ o.after, e.on < j := by
  have hlt : j < ops.size := (Array.getElem?_eq_some_iff.1 ho).1
  have := List.all_eq_true.1 h j (by simpa using hlt)
  rw [ho] at this
  simp only [Bool.and_eq_true] at this
  obtain ⟨h1, h2⟩ := this
  refine ⟨fun e i hi hne => ?_, fun hne e he => ?_, fun e he => ?_⟩
  · rw [if_pos e] at h1
    have := List.all_eq_true.1 h1 i (by simpa using hi)
    simp only [Bool.or_eq_true, beq_iff_eq, hne, false_or] at this
    obtain ⟨x, hx, hb⟩ := Array.any_eq_true.1 this
    simp only [Bool.and_eq_true, beq_iff_eq] at hb
    exact ⟨_, Array.getElem_mem hx, hb.1, hb.2⟩
  · rw [if_neg hne] at h1
    have := Array.all_eq_true_iff_forall_mem.1 h1 e he
    simpa using this
  · have := Array.all_eq_true_iff_forall_mem.1 h2 e he
    simpa using this
theorem getD_park {listed : Array Bool} {k j : Nat} (d : Bool) (h : j ≠ k) : (listed.setIfInBounds k true).getD j d = listed.getD j d := getD_set_ne d (Ne.symm h)
/-- Ready ones other than the last are the same. -/
theorem ready_park {k : Nat} (h : parkB md ops k = true) {listed : Array Bool} {j : Nat} (hj : j ≠ k) : j ∈ Region.ready md ops (listed.setIfInBounds k true) ↔ j ∈ Region.ready md ops listed := by
  rw [mem_ready, mem_ready, getD_park true hj]
  constructor
  · rintro ⟨h0, o, ho, hall⟩
    exact ⟨h0, o, ho, fun e he hb => by rw [← getD_park false ((park_spec h j o ho).2.1 hj e he)]; exact hall e he hb⟩
  · rintro ⟨h0, o, ho, hall⟩
    exact ⟨h0, o, ho, fun e he hb => by rw [getD_park false ((park_spec h j o ho).2.1 hj e he)]; exact hall e he hb⟩
/-- Where none of the others is ready all others have come up. -/
theorem all_listed {k : Nat} (h : parkB md ops k = true) {listed : Array Bool} (hs : listed.size = ops.size) (hr : ∀ j, j ≠ k → j ∉ Region.ready md ops listed) : ∀ j, j < ops.size → j ≠ k → listed.getD j true = true := by
  intro j
  induction j using Nat.strongRecOn with
  | _ j ih =>
    intro hj hk
    cases hl : listed.getD j true with
    | true => rfl
    | false =>
      exfalso
      apply hr j hk
      rw [mem_ready]
      obtain ⟨o, ho⟩ : ∃ o, ops[j]? = some o := ⟨_, Array.getElem?_eq_getElem hj⟩
      refine ⟨hl, o, ho, fun e he _ => ?_⟩
      have hlt := (park_spec h j o ho).2.2 e he
      have hne := (park_spec h j o ho).2.1 hk e he
      have := ih e.on hlt (by omega) hne
      rw [Array.getD_eq_getD_getElem?, Array.getElem?_eq_getElem (by omega)] at this ⊢
      simpa using this
theorem wpAny_park {Q : Exit → Act → World → Prop} {k : Nat} (h : parkB md ops k = true) (hk : k < ops.size) : ∀ (fuel : Nat) (listed : Array Bool) (a : Act) (w : World), listed.size = ops.size → listed.getD k true = false →
    wpAny P md ops (parkQ P ops Q k) fuel (listed.setIfInBounds k true) a w → wpAny P md ops Q (fuel + 1) listed a w := by
  intro fuel
  induction fuel with
  | zero =>
    intro listed a w hs hl hw
    obtain ⟨hr, hq⟩ := hw
    have others : ∀ j, j ≠ k → j ∉ Region.ready md ops listed := fun j hj hm => by
      have := (ready_park h hj).2 hm
      rw [hr] at this
      simp at this
    have hall := all_listed h hs others
    refine ⟨fun h0 => ?_, fun i hi => ?_⟩
    · exfalso
      obtain ⟨o, ho⟩ : ∃ o, ops[k]? = some o := ⟨_, Array.getElem?_eq_getElem hk⟩
      have : k ∈ Region.ready md ops listed := by
        rw [mem_ready]
        refine ⟨hl, o, ho, fun e he _ => ?_⟩
        have hlt := (park_spec h k o ho).2.2 e he
        have := hall e.on (by omega) (by omega)
        rw [Array.getD_eq_getD_getElem?, Array.getElem?_eq_getElem (by omega)] at this ⊢
        simpa using this
      rw [h0] at this
      simp at this
    · by_cases e : i = k
      · subst e
        exact wpOp_mono (fun a' w' hq' => wpAny_done hr hq' _) hq
      · exact absurd hi (others i e)
  | succ f ih =>
    intro listed a w hs hl hw
    obtain ⟨h0, hn⟩ := hw
    by_cases hr : Region.ready md ops (listed.setIfInBounds k true) = []
    · have others : ∀ j, j ≠ k → j ∉ Region.ready md ops listed := fun j hj hm => by
        have := (ready_park h hj).2 hm
        rw [hr] at this
        simp at this
      have hall := all_listed h hs others
      refine ⟨fun h1 => ?_, fun i hi => ?_⟩
      · exfalso
        obtain ⟨o, ho⟩ : ∃ o, ops[k]? = some o := ⟨_, Array.getElem?_eq_getElem hk⟩
        have : k ∈ Region.ready md ops listed := by
          rw [mem_ready]
          refine ⟨hl, o, ho, fun e he _ => ?_⟩
          have hlt := (park_spec h k o ho).2.2 e he
          have := hall e.on (by omega) (by omega)
          rw [Array.getD_eq_getD_getElem?, Array.getElem?_eq_getElem (by omega)] at this ⊢
          simpa using this
        rw [h1] at this
        simp at this
      · by_cases e : i = k
        · subst e
          exact wpOp_mono (fun a' w' hq' => wpAny_done hr hq' _) (h0 hr)
        · exact absurd hi (others i e)
    · obtain ⟨j, hj⟩ := List.exists_mem_of_ne_nil _ hr
      have hjk : j ≠ k := fun e => by
        subst e
        have := (mem_ready.1 hj).1
        rw [Array.getD_eq_getD_getElem?, Array.getElem?_setIfInBounds_self_of_lt (by omega)] at this
        simp at this
      have hjl : listed.getD j true = false := by
        have := (mem_ready.1 hj).1
        rwa [getD_park true hjk] at this
      have hjs : j < ops.size := by
        obtain ⟨_, o, ho, _⟩ := mem_ready.1 hj
        exact (Array.getElem?_eq_some_iff.1 ho).1
      have notk : k ∉ Region.ready md ops listed := fun hm => by
        obtain ⟨_, o, ho, hall⟩ := mem_ready.1 hm
        obtain ⟨e, he, hb, rfl⟩ := (park_spec h k o ho).1 rfl j hjs hjk
        have := hall e he hb
        rw [Array.getD_eq_getD_getElem?, Array.getElem?_eq_getElem (by omega)] at this hjl
        simp at this hjl
        rw [this] at hjl
        cases hjl
      refine ⟨fun h1 => ?_, fun i hi => ?_⟩
      · exfalso
        have := (ready_park h hjk).1 hj
        rw [h1] at this
        simp at this
      · have hik : i ≠ k := fun e => notk (e ▸ hi)
        refine wpOp_mono (fun a' w' hq' => ih (listed.setIfInBounds i true) a' w' (by simpa using hs) (by rw [getD_set_ne true hik]; exact hl) ?_) (wpOp_park (hn i ((ready_park h hik).2 hi)))
        rw [Array.setIfInBounds_comm _ _ (Ne.symm hik)] at hq'
        exact hq'
theorem wp_region_park {Q : Exit → Act → World → Prop} {id k n : Nat} {a : Act} {w : World} (S : World → Prop) (hm : P.follows .mixedOrders = true) (hp : parkB .any ops k = true) (hk : k < ops.size) (hn : ops.size = n + 1)
    (h : wpAnyH P .any ops (parkQ P ops Q k) S n ((Array.replicate (n + 1) false).setIfInBounds k true) a w.drew) : (Code.region id ops true).wp P Q a w := by
  refine wp_region_any hm ?_
  rw [hn]
  refine wpAny_park hp hk n _ a _ (by simp [hn]) ?_ (wpAny_of_held _ _ _ _ h)
  rw [Array.getD_eq_getD_getElem?, Array.getElem?_replicate, if_pos (by omega)]
  rfl
theorem park_last {Q : Exit → Act → World → Prop} {k : Nat} {o : Oper} {a : Act} {w : World} (ho : ops[k]? = some o)
    (h : ∀ K' : Act → World → Prop, Shut (∀ a w, Q .normal a w → K' a w) → if Region.wanted o (yielded ops a.tmps) = true then Oper.wp P o a w K' Q else K' (a.put o.dst undef) w) : parkQ P ops Q k .normal a w :=
  wpOp_step ho (fun K' hK => h K' (fun a w hQ => hK a w hQ))
end Go.Proofs.Ytflflmdlhmhkdab

namespace Go.Proofs.Ytflflmdlhmhkdab
open Go.RowKit
/-- A matrix as a value. -/
abbrev mv (r c : Int) (a : Option Addr) (n k : Nat) : Value := .agg #[.int .i64 r, .int .i64 c, .slice a n k]
/-- Right, in numbers. -/
def RightP (r c : Int) (n : Nat) : Prop := 0 ≤ r ∧ r ≤ 64 ∧ 0 ≤ c ∧ c ≤ 64 ∧ (n : Int) = r * c
theorem mul_small {r c : Int} (h1 : 0 ≤ r) (h2 : r ≤ 64) (h3 : 0 ≤ c) (h4 : c ≤ 64) : 0 ≤ r * c ∧ r * c ≤ 4096 :=
  ⟨Int.mul_nonneg h1 h3, Int.le_trans (Int.mul_le_mul_of_nonneg_right h2 h3) (by omega)⟩
theorem alloc_low (w : World) (o : Obj) : Below w.heap.size w (w.alloc o) := (Below.refl _ _).alloc (Nat.le_refl _) _
/-- A variable of three cells: a matrix's. -/
def Vr (w : World) (b : Nat) (x y z : Value) : Prop := w.heap[b]? = some (.cells #[x, y, z] 24 (0, 0))
theorem Vr.lt {w : World} {b : Nat} {x y z : Value} (h : Vr w b x y z) : b < w.heap.size := lt_of_block h
theorem Vr.c0 {w : World} {b : Nat} {x y z : Value} (h : Vr w b x y z) : w.cell? ⟨b, 0, none⟩ = some x := by rw [cell_of_row w b 0 _ _ _ h]; rfl
theorem Vr.c1 {w : World} {b : Nat} {x y z : Value} (h : Vr w b x y z) : w.cell? ⟨b, 1, none⟩ = some y := by rw [cell_of_row w b 1 _ _ _ h]; rfl
theorem Vr.c2 {w : World} {b : Nat} {x y z : Value} (h : Vr w b x y z) : w.cell? ⟨b, 2, none⟩ = some z := by rw [cell_of_row w b 2 _ _ _ h]; rfl
theorem Vr.free {w : World} {b : Nat} {x y z : Value} (h : Vr w b x y z) (i : Nat) : w.frozen? ⟨b, i, none⟩ = false := by
  unfold Vr at h
  simp [World.frozen?, h]
theorem Vr.later {w w' : World} {b : Nat} {x y z : Value} (h : Vr w b x y z) (hb : Below w.heap.size w w') : Vr w' b x y z := by unfold Vr; rw [hb.block b h.lt]; exact h
theorem Vr.kept {w w' : World} {b g : Nat} {x y z : Value} (h : Vr w b x y z) (hg : w.grownBy w' (some g)) (hne : b ≠ g) : Vr w' b x y z := by unfold Vr; rw [hg.block b h.lt (by simpa using hne)]; exact h
theorem Vr.new (w : World) (x y z : Value) : Vr (w.alloc (.cells #[x, y, z] 24)) w.heap.size x y z := new_at w _
theorem size24 : (Try.prog.info? 24).map (·.size) = some 3 := by kernel_rfl
theorem Vr.set0 {w : World} {b : Nat} {x y z : Value} (h : Vr w b x y z) (v : Value) : Vr (w.setCell ⟨b, 0, none⟩ v) b v y z := by
  unfold Vr at *
  rw [setCell_eq_setRow w b 0 _ _ (0, 0) _ h, setRow_heap w b _ _ _ (0, 0) h]; rfl
theorem Vr.set1 {w : World} {b : Nat} {x y z : Value} (h : Vr w b x y z) (v : Value) : Vr (w.setCell ⟨b, 1, none⟩ v) b x v z := by
  unfold Vr at *
  rw [setCell_eq_setRow w b 1 _ _ (0, 0) _ h, setRow_heap w b _ _ _ (0, 0) h]; rfl
theorem Vr.set2 {w : World} {b : Nat} {x y z : Value} (h : Vr w b x y z) (v : Value) : Vr (w.setCell ⟨b, 2, none⟩ v) b x y v := by
  unfold Vr at *
  rw [setCell_eq_setRow w b 2 _ _ (0, 0) _ h, setRow_heap w b _ _ _ (0, 0) h]; rfl
theorem Vr.there {w : World} {b : Nat} {x y z : Value} (h : Vr w b x y z) : w.there b 0 3 := by
  intro j hj
  rcases (by omega : j = 0 ∨ j = 1 ∨ j = 2) with rfl | rfl | rfl
  · exact ⟨by rw [Nat.zero_add, h.c0]; rfl, h.free _⟩
  · exact ⟨by rw [Nat.zero_add, h.c1]; rfl, h.free _⟩
  · exact ⟨by rw [Nat.zero_add, h.c2]; rfl, h.free _⟩
theorem wpList_store_var {ops : Array Oper} {rest : List Oper} {op : Oper} {a : Act} {w : World} {Q : Exit → Act → World → Prop} (hgd : op.guard = none) (p q : Operand) (ho : op.op = .store 24 p q)
    (b : Nat) (x y z x' y' z' : Value) (hp : a.eval p = .pointer (some ⟨b, 0, none⟩)) (hq : a.eval q = .agg #[x', y', z']) (hv : Vr w b x y z) (h0 : x'.oneCell' = true) (h1 : y'.oneCell' = true) (h2 : z'.oneCell' = true)
    (h : ∀ w', Hid (Vr w' b x' y' z') → Hid (w.grownBy w' (some b)) → wpList Try.prog ops Q rest (a.put op.dst undef) w') : wpList Try.prog ops Q (op :: rest) a w :=
  wpList_store_mid hgd 24 p q ho b 0 #[x', y', z'] hp hq hv.there size24 (by simp [h0, h1, h2]) (h _ (((hv.set0 x').set1 y').set2 z') (grown_trans (grown_trans (grown_setCell _ _ _ _) (grown_setCell _ _ _ _)) (grown_setCell _ _ _ _)))
set_option maxHeartbeats 400000 in
theorem right_yes (w : World) (r c : Int) (a : Option Addr) (n k : Nat) (h : RightP r c n) :
    Calls Try.prog 39 #[mv r c a n k] w fun e w' => e = .returned (.bool true) ∧ Below w.heap.size w w' := by
  obtain ⟨h1, h2, h3, h4, h5⟩ := h
  have hm := mul_small h1 h2 h3 h4
  have hw : IntKind.i64.wrap (r * c) = r * c := by rw [IntKind.wrap_i64]; omega
  have g1 : decide (0 ≤ r) = true := by simpa using h1
  have g2 : decide (r ≤ 64) = true := by simpa using h2
  have g3 : decide (0 ≤ c) = true := by simpa using h3
  have g4 : decide (c ≤ 64) = true := by simpa using h4
  have g5 : ((n : Int) == r * c) = true := by simpa using h5
  clear h5 hm
  go_enter Try.func39, Try.ntmps39
  go_wp2
  go_ret
  exact ⟨rfl, alloc_low _ _⟩
set_option maxHeartbeats 1000000 in
theorem right_no (w : World) (r c : Int) (a : Option Addr) (n k : Nat) (h : ¬ RightP r c n) :
    Calls Try.prog 39 #[mv r c a n k] w fun e w' => e = .returned (.bool false) ∧ Below w.heap.size w w' := by
  by_cases h1 : 0 ≤ r
  · by_cases h2 : r ≤ 64
    · by_cases h3 : 0 ≤ c
      · by_cases h4 : c ≤ 64
        · have h5 : ¬ ((n : Int) = r * c) := fun e => h ⟨h1, h2, h3, h4, e⟩
          have hm := mul_small h1 h2 h3 h4
          have hw : IntKind.i64.wrap (r * c) = r * c := by rw [IntKind.wrap_i64]; omega
          have g1 : decide (0 ≤ r) = true := by simpa using h1
          have g2 : decide (r ≤ 64) = true := by simpa using h2
          have g3 : decide (0 ≤ c) = true := by simpa using h3
          have g4 : decide (c ≤ 64) = true := by simpa using h4
          have g5 : ((n : Int) == r * c) = false := by simpa using h5
          clear h h5 hm
          go_enter Try.func39, Try.ntmps39
          go_wp2
          go_ret
          exact ⟨rfl, alloc_low _ _⟩
        · have g4 : decide (c ≤ 64) = false := by simpa using h4
          clear h
          go_enter Try.func39, Try.ntmps39
          go_wp2
          go_ret
          exact ⟨rfl, alloc_low _ _⟩
      · have g3 : decide (0 ≤ c) = false := by simpa using h3
        clear h
        go_enter Try.func39, Try.ntmps39
        go_wp2
        go_ret
        exact ⟨rfl, alloc_low _ _⟩
    · have g2 : decide (r ≤ 64) = false := by simpa using h2
      clear h
      go_enter Try.func39, Try.ntmps39
      go_wp2
      go_ret
      exact ⟨rfl, alloc_low _ _⟩
  · have g1 : decide (0 ≤ r) = false := by simpa using h1
    clear h
    go_enter Try.func39, Try.ntmps39
    go_wp2
    go_ret
    exact ⟨rfl, alloc_low _ _⟩
set_option maxHeartbeats 400000 in
theorem at3_any (w : World) (r : Int) (c i j n k v : Nat) (a : Option Addr) (f : Nat → Nat) (h : Sl w a n f) (hi : i * c + j < n) (hn : n ≤ 4096) (HV : Hid (f (i * c + j) = v)) :
    Calls Try.prog 75 #[mv r c a n k, .int .i64 (i : Int), .int .i64 (j : Int)] w fun e w' => e = .returned (.int .u8 (v : Int)) ∧ Below w.heap.size w w' := by
  obtain ⟨b, o, ea, hcl⟩ := h.2 _ hi
  rw [HV.out] at hcl
  have hlt := cell_lt hcl
  obtain ⟨p, HP⟩ : ∃ p, Hid (i * c + j = p) := ⟨_, rfl⟩
  rw [HP.out] at hcl hi
  have hb : i * c ≤ p := by rw [← HP.out]; omega
  have e1 : ((i : Int) * (c : Int)) = ((i * c : Nat) : Int) := by simp
  have w1 : IntKind.i64.wrap ((i : Int) * (c : Int)) = (i : Int) * (c : Int) := by rw [e1, IntKind.wrap_i64]; omega
  have w2 : IntKind.i64.wrap ((i : Int) * (c : Int) + (j : Int)) = (p : Int) := by rw [e1, IntKind.wrap_i64]; have := HP.out; omega
  have hcl2 : (w.alloc (.cells #[.int .i64 r, .int .i64 (c : Int), .slice (some ⟨b, o, none⟩) n k] 24)).cell? ⟨b, o + p, none⟩ = some (.int .u8 (v : Int)) := by rw [(alloc_low w _).cell (p := ⟨b, o + p, none⟩) hlt]; exact hcl
  clear h hcl e1
  subst ea
  go_enter Try.func75, Try.ntmps75
  go_wp2
  go_ret
  exact ⟨rfl, alloc_low _ _⟩
end Go.Proofs.Ytflflmdlhmhkdab

namespace Go.Proofs.Ytflflmdlhmhkdab
open Go.RowKit
/-- Sides that may be. -/
def SideP (r c : Int) : Prop := 0 ≤ r ∧ r ≤ 64 ∧ 0 ≤ c ∧ c ≤ 64
theorem bad_side {r c : Int} (h : ¬ SideP r c) : (decide (r < 0) = true) ∨ (decide (r < 0) = false ∧ decide (64 < r) = true) ∨ (decide (r < 0) = false ∧ decide (64 < r) = false ∧ decide (c < 0) = true) ∨ (decide (r < 0) = false ∧ decide (64 < r) = false ∧ decide (c < 0) = false ∧ decide (64 < c) = true) := by
  simp only [decide_eq_true_eq, decide_eq_false_iff_not, SideP] at *
  omega
/-! Lists that are not the same. -/
/-- Are two lists the same? -/
def sameB (n m : Nat) (f h : Nat → Nat) : Bool := decide (n = m ∧ ∀ i, i < n → f i = h i)
theorem u8_inj {x y : Nat} (hx : x < 256) (hy : y < 256) (e : UInt8.ofNat x = UInt8.ofNat y) : x = y := by
  have := congrArg UInt8.toNat e
  simp at this
  omega
theorem str_list (n : Nat) (f : Nat → Nat) : (strOf n f).toList = (List.range n).map fun i => UInt8.ofNat (f i) := by
  unfold strOf
  rw [Go.Lib.strOfNums_toList]
  simp [Go.Lib.bytesOf]
theorem sameB_str {n m : Nat} {f h : Nat → Nat} (hf : ∀ i, i < n → f i < 256) (hh : ∀ i, i < m → h i < 256) : ((strOf n f).toList == (strOf m h).toList) = sameB n m f h := by
  rw [str_list, str_list, Bool.eq_iff_iff]
  unfold sameB
  rw [decide_eq_true_iff, beq_iff_eq]
  constructor
  · intro e
    have hl : n = m := by simpa using congrArg List.length e
    subst hl
    refine ⟨rfl, fun i hi => ?_⟩
    have := congrArg (fun l => l[i]?) e
    simp [hi] at this
    exact u8_inj (hf i hi) (hh i hi) (by simpa using this)
  · rintro ⟨rfl, e⟩
    apply List.map_congr_left
    intro i hi
    rw [e i (by simpa using hi)]
set_option maxHeartbeats 400000 in
theorem same_exact (w : World) (a b : Option Addr) (n m c d : Nat) (f h : Nat → Nat) (ha : Sl w a n f) (hb : Sl w b m h) :
    Calls Try.prog 20 #[.slice a n c, .slice b m d] w fun e w' => e = .returned (.bool (sameB n m f h)) ∧ w = w' := by
  have h1 : (convert 22 9 (.slice a n c)).run Try.prog w = .ok (.string (strOf n f)) w := sl_string ha
  have h2 : (convert 22 9 (.slice b m d)).run Try.prog w = .ok (.string (strOf m h)) w := sl_string hb
  rw [← sameB_str ha.1 hb.1]
  obtain ⟨s, hs⟩ : ∃ s, strOf n f = s := ⟨_, rfl⟩
  obtain ⟨t, ht⟩ : ∃ s, strOf m h = s := ⟨_, rfl⟩
  rw [hs, ht]
  rw [hs] at h1
  rw [ht] at h2
  clear hs ht ha hb
  go_enter Try.func20, Try.ntmps20
  go_wp2
  go_ret
  exact ⟨rfl, rfl⟩
/-- Alike, in numbers. -/
def likeB (r c r' c' : Int) (n m : Nat) (f h : Nat → Nat) : Bool := (r == r') && ((c == c') && sameB n m f h)
set_option maxHeartbeats 1000000 in
theorem like_exact (w : World) (r c r' c' : Int) (a b : Option Addr) (n m k d : Nat) (f h : Nat → Nat) (ha : Sl w a n f) (hb : Sl w b m h) :
    Calls Try.prog 19 #[mv r c a n k, mv r' c' b m d] w fun e w' => e = .returned (.bool (likeB r c r' c' n m f h)) ∧ Below w.heap.size w w' := by
  have HA : Hid (Sl ((w.alloc (.cells #[.int .i64 r, .int .i64 c, .slice a n k] 24)).alloc (.cells #[.int .i64 r', .int .i64 c', .slice b m d] 24)) a n f) := (ha.later (alloc_low _ _)).later (alloc_low _ _)
  have HB : Hid (Sl ((w.alloc (.cells #[.int .i64 r, .int .i64 c, .slice a n k] 24)).alloc (.cells #[.int .i64 r', .int .i64 c', .slice b m d] 24)) b m h) := (hb.later (alloc_low _ _)).later (alloc_low _ _)
  obtain ⟨s, HS⟩ : ∃ s, Hid (sameB n m f h = s) := ⟨_, rfl⟩
  clear ha hb
  cases g1 : (r == r') with
  | false =>
    rw [show likeB r c r' c' n m f h = false from by unfold likeB; rw [g1]; rfl]
    go_enter Try.func19, Try.ntmps19
    go_wp2
    go_ret
    exact ⟨rfl, two_below (alloc_low _ _) (alloc_low _ _)⟩
  | true =>
    cases g2 : (c == c') with
    | false =>
      rw [show likeB r c r' c' n m f h = false from by unfold likeB; rw [g1, g2]; rfl]
      go_enter Try.func19, Try.ntmps19
      go_wp2
      go_ret
      exact ⟨rfl, two_below (alloc_low _ _) (alloc_low _ _)⟩
    | true =>
      rw [show likeB r c r' c' n m f h = s from by unfold likeB; rw [g1, g2, HS.out]; rfl]
      go_enter Try.func19, Try.ntmps19
      go_wp2_with (go_at_call 20; refine (same_exact _ _ _ _ _ _ _ f h HA.out HB.out).mono ?_; rw [HS.out]; rintro e w' ⟨rfl, rfl⟩)
      go_ret
      exact ⟨rfl, two_below (alloc_low _ _) (alloc_low _ _)⟩
end Go.Proofs.Ytflflmdlhmhkdab

namespace Go.Proofs.Ytflflmdlhmhkdab
open Go.RowKit
/-- The identity's entries, the first k rows of it. -/
def idk (n k p : Nat) : Nat := if p % (n + 1) = 0 ∧ p / (n + 1) < k then 1 else 0
/-- The identity's entries. -/
def idf (n p : Nat) : Nat := if p % (n + 1) = 0 then 1 else 0
theorem idk_step (n k j : Nat) : (if j = k * n + k then 1 else idk n k j) = idk n (k + 1) j := by
  unfold idk
  have e : k * n + k = (n + 1) * k := by rw [Nat.mul_comm k n, Nat.add_mul, Nat.one_mul]
  by_cases h : j = k * n + k
  · rw [if_pos h, h, e, if_pos ⟨Nat.mul_mod_right _ _, by rw [Nat.mul_div_cancel_left _ (by omega)]; omega⟩]
  · rw [if_neg h]
    by_cases h0 : j % (n + 1) = 0
    · have hk : j / (n + 1) ≠ k := fun e2 => h (by have := Nat.div_add_mod j (n + 1); rw [h0, e2] at this; rw [e]; omega)
      by_cases h1 : j / (n + 1) < k
      · rw [if_pos ⟨h0, h1⟩, if_pos ⟨h0, by omega⟩]
      · rw [if_neg (fun x => h1 x.2), if_neg (fun x => by have := x.2; omega)]
    · rw [if_neg (fun x => h0 x.1), if_neg (fun x => h0 x.1)]
theorem idk_all (n j : Nat) (hj : j < n * n) : idk n n j = idf n j := by
  unfold idk idf
  have : j / (n + 1) < n := (Nat.div_lt_iff_lt_mul (by omega)).2 (Nat.lt_of_lt_of_le hj (Nat.mul_le_mul_left n (by omega)))
  by_cases h : j % (n + 1) = 0
  · rw [if_pos ⟨h, this⟩, if_pos h]
  · rw [if_neg (fun x => h x.1), if_neg h]
theorem idf_lt (n p : Nat) : idf n p < 256 := by unfold idf; split <;> decide
/-- The identity's entry (i, j). -/
theorem idf_at (n i j : Nat) (hi : i < n) (hj : j < n) : idf n (i * n + j) = if i = j then 1 else 0 := by
  unfold idf
  by_cases h : i = j
  · subst h
    rw [if_pos rfl, if_pos]
    rw [show i * n + i = (n + 1) * i by rw [Nat.mul_comm i n, Nat.add_mul, Nat.one_mul]]
    exact Nat.mul_mod_right _ _
  · rw [if_neg h, if_neg]
    intro h0
    apply h
    have e := Nat.div_add_mod (i * n + j) (n + 1)
    rw [h0, Nat.add_zero] at e
    obtain ⟨q, hq⟩ : ∃ q, (i * n + j) / (n + 1) = q := ⟨_, rfl⟩
    rw [hq, Nat.add_mul, Nat.one_mul] at e
    rcases Nat.lt_trichotomy q i with hl | he | hg
    · obtain ⟨d, rfl⟩ : ∃ d, i = q + d + 1 := ⟨i - q - 1, by omega⟩
      have h4 : (q + d + 1) * n = n * q + n * d + n := by rw [Nat.add_mul, Nat.add_mul, Nat.one_mul, Nat.mul_comm q, Nat.mul_comm d]
      have h5 : q = n * d + n + j := by omega
      have h6 : 0 ≤ n * d := Nat.zero_le _
      omega
    · subst he
      rw [Nat.mul_comm] at e
      omega
    · obtain ⟨d, rfl⟩ : ∃ d, q = i + d + 1 := ⟨q - i - 1, by omega⟩
      have : n * (i + d + 1) = i * n + n * d + n := by rw [Nat.mul_add, Nat.mul_add, Nat.mul_one, Nat.mul_comm n i]
      omega
end Go.Proofs.Ytflflmdlhmhkdab

namespace Go.Proofs.Ytflflmdlhmhkdab
open Go.RowKit
/-- Numbers of a matrix that is right. -/
structure Rt (r c n : Nat) : Prop where
  r64 : r ≤ 64
  c64 : c ≤ 64
  len : r * c = n
theorem Rt.p {r c n : Nat} (h : Rt r c n) : RightP r c n := ⟨by omega, by have := h.r64; omega, by omega, by have := h.c64; omega, by rw [← h.len]; simp⟩
theorem Rt.le {r c n : Nat} (h : Rt r c n) : n ≤ 4096 := by rw [← h.len]; exact Nat.mul_le_mul h.r64 h.c64
theorem Rt.at {r c n i j : Nat} (h : Rt r c n) (hi : i < r) (hj : j < c) : i * c + j < n := by
  rw [← h.len]
  exact Nat.lt_of_lt_of_le (show i * c + j < (i + 1) * c by rw [Nat.add_mul, Nat.one_mul]; omega) (Nat.mul_le_mul_right c hi)
theorem right_rt {r c : Int} {n : Nat} (h : RightP r c n) : ∃ r' c' : Nat, r = r' ∧ c = c' ∧ Rt r' c' n := by
  obtain ⟨h1, h2, h3, h4, h5⟩ := h
  obtain ⟨r', rfl⟩ := Int.eq_ofNat_of_zero_le h1
  obtain ⟨c', rfl⟩ := Int.eq_ofNat_of_zero_le h3
  exact ⟨r', c', rfl, rfl, by omega, by omega, by rw [← Int.natCast_mul] at h5; omega⟩
set_option maxRecDepth 20000 in
set_option maxHeartbeats 1000000 in
theorem rrow_ok (w : World) (r c n k i : Nat) (a : Option Addr) (F : Nat → Nat) (ha : Sl w a n F) (R : Rt r c n) (hi : i < r) :
    Calls Try.prog 61 #[mv r c a n k, .int .i64 (i : Int)] w fun e w' => ∃ v, e = .returned (.tuple #[v, .int .i64 0]) ∧ w'.ownsRow w.heap.size 5 1 v c (row c (fun j => F (i * c + j))).toList ∧ Below w.heap.size w w' := by
  obtain ⟨i0, hi0, hz0, hz1, hz2⟩ := info_parts info8
  have hc := R.c64
  have hn := R.le
  have hr := R.r64
  have HRt : Hid (Rt r c n) := R
  obtain ⟨p, HP⟩ : ∃ p : Nat → Nat, Hid ((fun j => F (i * c + j)) = p) := ⟨_, rfl⟩
  rw [HP.out]
  obtain ⟨wb, HW⟩ : ∃ wb, Hid (wb = w.alloc (.cells #[.int .i64 (r : Int), .int .i64 (c : Int), .slice a n k] 24)) := ⟨_, rfl⟩
  have HV0 : Hid (Vr wb w.heap.size (.int .i64 (r : Int)) (.int .i64 (c : Int)) (.slice a n k)) := by rw [HW.out]; exact Vr.new w _ _ _
  have HS0 : Hid (Sl wb a n F) := by rw [HW.out]; exact ha.later (alloc_low _ _)
  have HB0 : Hid (Below w.heap.size w wb) := by rw [HW.out]; exact alloc_low _ _
  have g1 : decide ((i : Int) < 0) = false := by simp
  have g2 : decide (r ≤ i) = false := by simp; omega
  clear ha R
  go_enter Try.func61, Try.ntmps61
  go_wp2_with (go_at_call 39; rw [← HW.out]; refine (right_yes _ _ _ _ _ _ HRt.out.p).mono ?_; rintro e w1 ⟨rfl, hb1⟩; have HV1 : Hid (Vr w1 w.heap.size (.int .i64 (r : Int)) (.int .i64 (c : Int)) (.slice a n k)) := HV0.out.later hb1; have HS1 : Hid (Sl w1 a n F) := HS0.out.later hb1; have HB1 : Hid (Below w.heap.size w w1) := two_below HB0.out hb1; have vc0 := HV1.out.c0; clear hb1)
  clear HW HV0 HS0 HB0 vc0
  go_loopw [6, 7] (fun v j wr => ∃ m : Nat, m ≤ c ∧ j = .int .i64 (m : Int) ∧ wr.ownsRow w1.heap.size 5 1 v m (row m p).toList ∧ Vr wr w.heap.size (.int .i64 (r : Int)) (.int .i64 (c : Int)) (.slice a n k) ∧ Below w1.heap.size w1 wr) (fun _ j _ => c - (intOf j).toNat)
  case atStart => exact ⟨0, by omega, rfl, by rw [row_empty]; exact World.ownsRow_nil _ _ _ _, HV1.out, Below.refl _ _⟩
  case round =>
    obtain ⟨m, hm, rfl, hown, hv, hbr⟩ := hrel
    have c0 := hv.c0
    have c1 := hv.c1
    have c2 := hv.c2
    have HO : Hid (wr.ownsRow w1.heap.size 5 1 u6 m (row m p).toList) := hown
    have HB : Hid (Below w1.heap.size w1 wr) := hbr
    have HV : Hid (Vr wr w.heap.size (.int .i64 (r : Int)) (.int .i64 (c : Int)) (.slice a n k)) := hv
    by_cases hlt : m < c
    · have HS : Hid (Sl wr a n F) := HS1.out.later hbr
      obtain ⟨x, HX⟩ : ∃ x, Hid (F (i * c + m) = x) := ⟨_, rfl⟩
      have HXp : Hid (p m = x) := by show _ = _; rw [← HX.out, ← HP.out]
      have hsz := hbr.size
      have vlt := HV1.out.lt
      have hml : m + 1 ≤ maxLen := by unfold maxLen; omega
      clear hown hbr hv
      go_wp2_with (first
        | (go_at_call 75; refine (at3_any _ _ c i m n k x a F HS.out (HRt.out.at hi hlt) hn HX).mono ?_; rintro e w5 ⟨rfl, hb5⟩; have HO5 : Hid (w5.ownsRow w1.heap.size 5 1 u6 m (row m p).toList) := HO.out.kept (grown_none.mpr hb5) (by cases hv : u6.ownBlock <;> simp); have HB5 : Hid (Below w1.heap.size w1 w5) := two_below HB.out hb5; have HV5 : Hid (Vr w5 w.heap.size (.int .i64 (r : Int)) (.int .i64 (c : Int)) (.slice a n k)) := HV.out.later hb5; have hsz5 := HB5.out.size; clear hb5)
        | (at_builtin; refine wpList_append_own _ rfl _ _ 22 rfl w1.heap.size 5 i0 (.int .u8 0) 1 1 Try.underlying22 hi0 hz0 hz1 hz2 rfl (by decide) _ m _ rfl (HO5.out.alloc _) ⟨w5.heap.size, 0, none⟩ 1 1 [.int .u8 (x : Int)] rfl rfl (one_new _ _ _) (one_one _) hml (by omega) (by simp; omega) ?_; intro v' w3 hown' hgrow' _; have HO3 : Hid (w3.ownsRow w1.heap.size 5 1 v' (m + 1) ((row m p).toList ++ [.int .u8 (x : Int)])) := hown'; have HB3 : Hid (Below w1.heap.size w1 w3) := grow_step HB5.out HO5.out hgrow' rfl; have HV3 : Hid (Vr w3 w.heap.size (.int .i64 (r : Int)) (.int .i64 (c : Int)) (.slice a n k)) := (HV1.out).later HB3.out; clear hown' hgrow'))
      exact ⟨⟨m + 1, by omega, by go_num, by rw [← row_snoc, HXp.out]; exact HO3.out, HV3.out, HB3.out⟩, by simp [intOf]; omega⟩
    · obtain rfl : m = c := by omega
      clear hown hbr hv
      go_wp2
      go_ret2
      have l1 := HB1.out.size
      refine ⟨_, rfl, ?_, two_below HB1.out HB.out⟩
      have := HO.out
      refine ⟨this.1, ?_⟩
      rcases this.2 with h' | ⟨g, cap, cur, e, hb, rr⟩
      · exact .inl h'
      · exact .inr ⟨g, cap, cur, e, by omega, rr⟩
set_option maxHeartbeats 400000 in
theorem rrow_shape (w : World) (r c i : Int) (n k : Nat) (a : Option Addr) (h : ¬ RightP r c n) :
    Calls Try.prog 61 #[mv r c a n k, .int .i64 i] w fun e w' => e = .returned (.tuple #[.slice none 0 0, .int .i64 3]) ∧ Below w.heap.size w w' := by
  have HH : Hid (¬ RightP r c n) := h
  clear h
  go_enter Try.func61, Try.ntmps61
  go_wp2_with (go_at_call 39; refine (right_no _ _ _ _ _ _ HH.out).mono ?_; rintro e w1 ⟨rfl, hb1⟩; have HB1 : Hid (Below w.heap.size w w1) := two_below (alloc_low _ _) hb1; clear hb1)
  go_ret2
  exact ⟨rfl, HB1.out⟩
set_option maxHeartbeats 1000000 in
theorem rrow_arg (w : World) (r c n k : Nat) (i : Int) (a : Option Addr) (R : Rt r c n) (hi : ¬ (0 ≤ i ∧ i < r)) :
    Calls Try.prog 61 #[mv r c a n k, .int .i64 i] w fun e w' => e = .returned (.tuple #[.slice none 0 0, .int .i64 2]) ∧ Below w.heap.size w w' := by
  have HRt : Hid (Rt r c n) := R
  obtain ⟨wb, HW⟩ : ∃ wb, Hid (wb = w.alloc (.cells #[.int .i64 (r : Int), .int .i64 (c : Int), .slice a n k] 24)) := ⟨_, rfl⟩
  have HV0 : Hid (Vr wb w.heap.size (.int .i64 (r : Int)) (.int .i64 (c : Int)) (.slice a n k)) := by rw [HW.out]; exact Vr.new w _ _ _
  have HB0 : Hid (Below w.heap.size w wb) := by rw [HW.out]; exact alloc_low _ _
  clear R
  by_cases g0 : i < 0
  · have g1 : decide (i < 0) = true := by simpa using g0
    clear hi g0
    go_enter Try.func61, Try.ntmps61
    go_wp2_with (go_at_call 39; rw [← HW.out]; refine (right_yes _ _ _ _ _ _ HRt.out.p).mono ?_; rintro e w1 ⟨rfl, hb1⟩; have HB1 : Hid (Below w.heap.size w w1) := two_below HB0.out hb1; have vc0 := (HV0.out.later hb1).c0; clear hb1)
    go_ret2
    exact ⟨rfl, HB1.out⟩
  · have g1 : decide (i < 0) = false := by simpa using g0
    have g2 : decide ((r : Int) ≤ i) = true := by simp; omega
    clear hi g0
    go_enter Try.func61, Try.ntmps61
    go_wp2_with (go_at_call 39; rw [← HW.out]; refine (right_yes _ _ _ _ _ _ HRt.out.p).mono ?_; rintro e w1 ⟨rfl, hb1⟩; have HB1 : Hid (Below w.heap.size w w1) := two_below HB0.out hb1; have vc0 := (HV0.out.later hb1).c0; clear hb1)
    go_ret2
    exact ⟨rfl, HB1.out⟩
end Go.Proofs.Ytflflmdlhmhkdab

namespace Go.Proofs.Ytflflmdlhmhkdab
open Go.RowKit
/-- The sum of the first k products of row p / cb and column p % cb. -/
def prk (F G : Nat → Nat) (ca cb k p : Nat) : Nat := xs (fun t => fm (F (p / cb * ca + t)) (G (t * cb + p % cb))) k
/-- The rows so far: all before q, at q the first k products. -/
def mdf (F G : Nat → Nat) (ca cb q k p : Nat) : Nat := if p < q then prk F G ca cb ca p else if p = q then prk F G ca cb k p else 0
theorem mdf_zero (F G : Nat → Nat) (ca cb p : Nat) : mdf F G ca cb 0 0 p = 0 := by
  unfold mdf
  rw [if_neg (by omega)]
  by_cases h : p = 0
  · rw [if_pos h]; rfl
  · rw [if_neg h]
theorem mdf_next (F G : Nat → Nat) (ca cb q p : Nat) : mdf F G ca cb q ca p = mdf F G ca cb (q + 1) 0 p := by
  unfold mdf
  by_cases h1 : p < q
  · rw [if_pos h1, if_pos (by omega)]
  · by_cases h2 : p = q
    · rw [if_neg h1, if_pos h2, if_pos (by omega)]
    · rw [if_neg h1, if_neg h2, if_neg (by omega)]
      by_cases h3 : p = q + 1
      · rw [if_pos h3]; rfl
      · rw [if_neg h3]
theorem mdf_here (F G : Nat → Nat) (ca cb q k : Nat) : mdf F G ca cb q k q = prk F G ca cb k q := by
  unfold mdf
  rw [if_neg (by omega), if_pos rfl]
theorem mdf_step (F G : Nat → Nat) (ca cb q k p : Nat) : (if p = q then prk F G ca cb (k + 1) q else mdf F G ca cb q k p) = mdf F G ca cb q (k + 1) p := by
  unfold mdf
  by_cases h2 : p = q
  · subst h2
    rw [if_pos rfl, if_neg (by omega), if_pos rfl]
  · rw [if_neg h2, if_neg h2, if_neg h2]
theorem prk_succ (F G : Nat → Nat) (ca cb i j k : Nat) (hj : j < cb) : prk F G ca cb (k + 1) (i * cb + j) = prk F G ca cb k (i * cb + j) ^^^ fm (F (i * ca + k)) (G (k * cb + j)) := by
  have h1 : (i * cb + j) / cb = i := by rw [Nat.mul_comm, Nat.mul_add_div (by omega), Nat.div_eq_of_lt hj, Nat.add_zero]
  have h2 : (i * cb + j) % cb = j := by rw [Nat.mul_comm, Nat.mul_add_mod, Nat.mod_eq_of_lt hj]
  unfold prk
  show xs _ k ^^^ _ = _
  rw [h1, h2]
theorem prk_lt {F : Nat → Nat} (G : Nat → Nat) {ra ca cb n i j k : Nat} (hF : ∀ i, i < n → F i < 256) (R : Rt ra ca n) (hi : i < ra) (hj : j < cb) (hk : k ≤ ca) : prk F G ca cb k (i * cb + j) < 256 := by
  have h1 : (i * cb + j) / cb = i := by rw [Nat.mul_comm, Nat.mul_add_div (by omega), Nat.div_eq_of_lt hj, Nat.add_zero]
  unfold prk
  rw [h1]
  exact xs_lt (fun t ht => fm_lt _ _ (hF _ (R.at hi (by omega))))
theorem keepc {w w' : World} {b o : Nat} {v : Value} (hb : Below w.heap.size w w') (h : w.cell? ⟨b, o, none⟩ = some v) : w'.cell? ⟨b, o, none⟩ = some v := by rw [hb.cell (p := ⟨b, o, none⟩) (cell_lt h)]; exact h
theorem keepf {w w' : World} {b o : Nat} {v : Value} (hb : Below w.heap.size w w') (hc : w.cell? ⟨b, o, none⟩ = some v) (h : w.frozen? ⟨b, o, none⟩ = false) : w'.frozen? ⟨b, o, none⟩ = false := by
  unfold World.frozen? at *
  rw [hb.block b (cell_lt hc)]; exact h
theorem keeps {w : World} {b o g p : Nat} {v x : Value} (hne : b ≠ g) (h : w.cell? ⟨b, o, none⟩ = some x) : (w.setCell ⟨g, p, none⟩ v).cell? ⟨b, o, none⟩ = some x := (grown_setCell w g p v).cell h (by intro e; apply hne; simpa using e)
/-- What the loops of a product keep. -/
structure MInv (w wr : World) (gd g6 ra ca rb cb na nb n ka kb : Nat) (a b : Option Addr) (fn : Nat → Nat) : Prop where
  va : Vr wr w.heap.size (.int .i64 (ra : Int)) (.int .i64 (ca : Int)) (.slice a na ka)
  vb : Vr wr (w.heap.size + 1) (.int .i64 (rb : Int)) (.int .i64 (cb : Int)) (.slice b nb kb)
  vr : Vr wr (w.heap.size + 1 + 1) (.int .i64 0) (.int .i64 0) (.slice none 0 0)
  vm : Vr wr g6 (.int .i64 (ra : Int)) (.int .i64 (cb : Int)) (.slice (some ⟨gd, 0, none⟩) n n)
  data : RowAt wr gd 5 n fn
  below : Below w.heap.size w wr
  d6 : gd ≠ g6
  dlow : w.heap.size + 1 + 1 < gd
theorem MInv.congr {w wr : World} {gd g6 ra ca rb cb na nb n ka kb : Nat} {a b : Option Addr} {fn fn' : Nat → Nat} (I : MInv w wr gd g6 ra ca rb cb na nb n ka kb a b fn) (e : ∀ p, p < n → fn p = fn' p) : MInv w wr gd g6 ra ca rb cb na nb n ka kb a b fn' :=
  ⟨I.va, I.vb, I.vr, I.vm, I.data.congr e, I.below, I.d6, I.dlow⟩
theorem MInv.later {w wr w' : World} {gd g6 ra ca rb cb na nb n ka kb : Nat} {a b : Option Addr} {fn : Nat → Nat} (I : MInv w wr gd g6 ra ca rb cb na nb n ka kb a b fn) (hb : Below wr.heap.size wr w') : MInv w w' gd g6 ra ca rb cb na nb n ka kb a b fn :=
  ⟨I.va.later hb, I.vb.later hb, I.vr.later hb, I.vm.later hb, I.data.later hb, two_below I.below hb, I.d6, I.dlow⟩
theorem MInv.set {w wr : World} {gd g6 ra ca rb cb na nb n ka kb q v : Nat} {a b : Option Addr} {fn : Nat → Nat} (I : MInv w wr gd g6 ra ca rb cb na nb n ka kb a b fn) : MInv w (wr.setCell ⟨gd, q, none⟩ (.int .u8 (v : Int))) gd g6 ra ca rb cb na nb n ka kb a b (fun p => if p = q then v else fn p) :=
  have d := I.dlow
  ⟨I.va.kept (grown_setCell _ _ _ _) (by omega), I.vb.kept (grown_setCell _ _ _ _) (by omega), I.vr.kept (grown_setCell _ _ _ _) (by omega), I.vm.kept (grown_setCell _ _ _ _) (Ne.symm I.d6), I.data.set q v, I.below.setCell (by show w.heap.size ≤ gd; omega) _, I.d6, I.dlow⟩
end Go.Proofs.Ytflflmdlhmhkdab

namespace Go.Proofs.Ytflflmdlhmhkdab
open Go.RowKit
/-- The entries transposed: r rows and c columns become c rows and r columns. -/
def trf (F : Nat → Nat) (r c p : Nat) : Nat := F (p % r * c + p / r)
theorem trf_at (F : Nat → Nat) (r c i j : Nat) (hi : i < r) : trf F r c (j * r + i) = F (i * c + j) := by
  unfold trf
  rw [Nat.mul_comm j r, Nat.mul_add_mod, Nat.mod_eq_of_lt hi, Nat.mul_add_div (by omega), Nat.div_eq_of_lt hi, Nat.add_zero]
theorem keepg {w w' : World} {b o : Nat} {x : Value} {row : Option Nat} (hg : w.grownBy w' row) (h : w.cell? ⟨b, o, none⟩ = some x) (hne : row ≠ some b) : w'.cell? ⟨b, o, none⟩ = some x := hg.cell h (fun e => hne e.symm)
theorem keepgf {w w' : World} {b o : Nat} {x : Value} {row : Option Nat} (hg : w.grownBy w' row) (hc : w.cell? ⟨b, o, none⟩ = some x) (h : w.frozen? ⟨b, o, none⟩ = false) (hne : row ≠ some b) : w'.frozen? ⟨b, o, none⟩ = false := by
  unfold World.frozen? at *
  rw [hg.block b (cell_lt hc) (fun e => hne e.symm)]; exact h
theorem Vr.grown {w w' : World} {b : Nat} {x y z : Value} {row : Option Nat} (h : Vr w b x y z) (hg : w.grownBy w' row) (hne : row ≠ some b) : Vr w' b x y z := by unfold Vr; rw [hg.block b h.lt (fun e => hne e.symm)]; exact h
theorem own_sl' {w : World} {base : Nat} {v : Value} {n : Nat} {ls : List Value} (h : w.ownsRow base 5 1 v n ls) : ∃ s d, v = .slice s n d ∧ n ≤ d ∧ True := by
  rcases h.2 with ⟨e, h0⟩ | ⟨g, cap, cur, e, _, _, hc, _⟩
  · subst h0; exact ⟨none, 0, e, Nat.le_refl _, trivial⟩
  · exact ⟨_, cap, e, hc, trivial⟩
/-- What the loops of Transpose keep. -/
structure TInv (w w1 wr : World) (g4 r c n k q : Nat) (a : Option Addr) (F : Nat → Nat) (v : Value) : Prop where
  vb : Vr wr w.heap.size (.int .i64 (r : Int)) (.int .i64 (c : Int)) (.slice a n k)
  vr : Vr wr (w.heap.size + 1) (.int .i64 0) (.int .i64 0) (.slice none 0 0)
  vt : Vr wr g4 (.int .i64 (c : Int)) (.int .i64 (r : Int)) v
  own : wr.ownsRow (g4 + 1) 5 1 v q (row q (trf F r c)).toList
  below : Below w1.heap.size w1 wr
theorem tinv_next {w w1 wr w5 w8 : World} {r c n k q q' p x gg cap : Nat} {a : Option Addr} {F : Nat → Nat} {v : Value} (I : TInv w w1 wr w1.heap.size r c n k q a F v) (hb5 : Below wr.heap.size wr w5)
    (ho : w5.ownsRow (w1.heap.size + 1) 5 1 v p (row p (trf F r c)).toList)
    (hown : w8.ownsRow (w1.heap.size + 1) 5 1 (.slice (some ⟨gg, 0, none⟩) (p + 1) cap) (p + 1) ((row p (trf F r c)).toList ++ [.int .u8 (x : Int)])) (hg : (w5.alloc (.cells #[.int .u8 (x : Int)] 5)).grownBy w8 v.ownBlock) (hx : trf F r c p = x) (hq : p + 1 = q') (hw : w.heap.size + 1 < w1.heap.size) :
    TInv w w1 (w8.setCell ⟨w1.heap.size, 2, none⟩ (.slice (some ⟨gg, 0, none⟩) (p + 1) cap)) w1.heap.size r c n k q' a F (.slice (some ⟨gg, 0, none⟩) (p + 1) cap) := by
  subst hq
  have base := own_base ho
  have gb := (own_block hown).1
  refine ⟨?_, ?_, ?_, ?_, ?_⟩
  · exact (((I.vb.later hb5).later (alloc_low _ _)).grown hg (fun e => by have := base _ e; omega)).kept (grown_setCell _ _ _ _) (by omega)
  · exact (((I.vr.later hb5).later (alloc_low _ _)).grown hg (fun e => by have := base _ e; omega)).kept (grown_setCell _ _ _ _) (by omega)
  · exact Vr.set2 (((I.vt.later hb5).later (alloc_low _ _)).grown hg (fun e => by have := base _ e; omega)) _
  · rw [← row_snoc, hx]
    exact hown.kept (grown_setCell _ _ _ _) (.inr (by simp [Value.ownBlock]; omega))
  · have b8 : Below w1.heap.size w1 w8 := ((two_below I.below hb5).alloc (two_below I.below hb5).size _).grown hg (by have := (two_below I.below hb5).size; simp; omega) (fun k hk => by have := base k hk; omega)
    exact b8.setCell (Nat.le_refl _) _
end Go.Proofs.Ytflflmdlhmhkdab

namespace Go.Proofs.Ytflflmdlhmhkdab
open Go.RowKit
/-- Two that may be multiplied. -/
def FitP (r c : Int) (n : Nat) (r' c' : Int) (m : Nat) : Prop := RightP r c n ∧ RightP r' c' m ∧ c = r'
/-- Each row's Dot with the list. -/
def apf (F X : Nat → Nat) (c i : Nat) : Nat := xs (fun t => fm (F (i * c + t)) (X t)) c
theorem prk_apf (F X : Nat → Nat) (c i : Nat) : prk F X c 1 c i = apf F X c i := by
  unfold prk apf
  refine xs_congr (fun t _ => ?_)
  rw [Nat.div_one, Nat.mod_one, Nat.mul_one, Nat.add_zero]
end Go.Proofs.Ytflflmdlhmhkdab

namespace Go.Proofs.Ytflflmdlhmhkdab
open Go.RowKit
/-- The Kron's entries, CC columns. -/
def krf (F G : Nat → Nat) (ca rb cb CC p : Nat) : Nat := fm (F (p / CC / rb * ca + p % CC / cb)) (G (p / CC % rb * cb + p % CC % cb))
/-- .. those before q. -/
def kdf (F G : Nat → Nat) (ca rb cb CC q p : Nat) : Nat := if p < q then krf F G ca rb cb CC p else 0
theorem kdf_step (F G : Nat → Nat) (ca rb cb CC q p : Nat) : (if p = q then krf F G ca rb cb CC q else kdf F G ca rb cb CC q p) = kdf F G ca rb cb CC (q + 1) p := by
  unfold kdf
  by_cases h : p = q
  · subst h; rw [if_pos rfl, if_pos (by omega)]
  · rw [if_neg h]
    by_cases h1 : p < q
    · rw [if_pos h1, if_pos (by omega)]
    · rw [if_neg h1, if_neg (by omega)]
theorem krf_at (F G : Nat → Nat) (ca rb cb CC i j : Nat) (hj : j < CC) : krf F G ca rb cb CC (i * CC + j) = fm (F (i / rb * ca + j / cb)) (G (i % rb * cb + j % cb)) := by
  have h1 : (i * CC + j) / CC = i := by rw [Nat.mul_comm, Nat.mul_add_div (by omega), Nat.div_eq_of_lt hj, Nat.add_zero]
  have h2 : (i * CC + j) % CC = j := by rw [Nat.mul_comm, Nat.mul_add_mod, Nat.mod_eq_of_lt hj]
  unfold krf
  rw [h1, h2]
/-- What the loops of Kron keep. -/
structure KInv (w wr : World) (gd g6 RR CC ra ca rb cb na nb n ka kb : Nat) (a b : Option Addr) (fn : Nat → Nat) : Prop where
  va : Vr wr w.heap.size (.int .i64 (ra : Int)) (.int .i64 (ca : Int)) (.slice a na ka)
  vb : Vr wr (w.heap.size + 1) (.int .i64 (rb : Int)) (.int .i64 (cb : Int)) (.slice b nb kb)
  vr : Vr wr (w.heap.size + 1 + 1) (.int .i64 0) (.int .i64 0) (.slice none 0 0)
  vm : Vr wr g6 (.int .i64 (RR : Int)) (.int .i64 (CC : Int)) (.slice (some ⟨gd, 0, none⟩) n n)
  data : RowAt wr gd 5 n fn
  below : Below w.heap.size w wr
  d6 : gd ≠ g6
  dlow : w.heap.size + 1 + 1 < gd
theorem KInv.congr {w wr : World} {gd g6 RR CC ra ca rb cb na nb n ka kb : Nat} {a b : Option Addr} {fn fn' : Nat → Nat} (I : KInv w wr gd g6 RR CC ra ca rb cb na nb n ka kb a b fn) (e : ∀ p, p < n → fn p = fn' p) : KInv w wr gd g6 RR CC ra ca rb cb na nb n ka kb a b fn' :=
  ⟨I.va, I.vb, I.vr, I.vm, I.data.congr e, I.below, I.d6, I.dlow⟩
theorem KInv.later {w wr w' : World} {gd g6 RR CC ra ca rb cb na nb n ka kb : Nat} {a b : Option Addr} {fn : Nat → Nat} (I : KInv w wr gd g6 RR CC ra ca rb cb na nb n ka kb a b fn) (hb : Below wr.heap.size wr w') : KInv w w' gd g6 RR CC ra ca rb cb na nb n ka kb a b fn :=
  ⟨I.va.later hb, I.vb.later hb, I.vr.later hb, I.vm.later hb, I.data.later hb, two_below I.below hb, I.d6, I.dlow⟩
theorem KInv.set {w wr : World} {gd g6 RR CC ra ca rb cb na nb n ka kb q v : Nat} {a b : Option Addr} {fn : Nat → Nat} (I : KInv w wr gd g6 RR CC ra ca rb cb na nb n ka kb a b fn) : KInv w (wr.setCell ⟨gd, q, none⟩ (.int .u8 (v : Int))) gd g6 RR CC ra ca rb cb na nb n ka kb a b (fun p => if p = q then v else fn p) :=
  have d := I.dlow
  ⟨I.va.kept (grown_setCell _ _ _ _) (by omega), I.vb.kept (grown_setCell _ _ _ _) (by omega), I.vr.kept (grown_setCell _ _ _ _) (by omega), I.vm.kept (grown_setCell _ _ _ _) (Ne.symm I.d6), I.data.set q v, I.below.setCell (by show w.heap.size ≤ gd; omega) _, I.d6, I.dlow⟩
end Go.Proofs.Ytflflmdlhmhkdab

namespace Go.Proofs.Ytflflmdlhmhkdab
open Go.RowKit
/-- Three boxes: two arguments and a result. -/
structure Box3 (w wb : World) (r c r' c' : Int) (n k m d : Nat) (a b : Option Addr) : Prop where
  va : Vr wb w.heap.size (.int .i64 r) (.int .i64 c) (.slice a n k)
  vb : Vr wb (w.heap.size + 1) (.int .i64 r') (.int .i64 c') (.slice b m d)
  vr : Vr wb (w.heap.size + 1 + 1) (.int .i64 0) (.int .i64 0) (.slice none 0 0)
  below : Below w.heap.size w wb
theorem box3 (w : World) (r c r' c' : Int) (n k m d : Nat) (a b : Option Addr) : Box3 w (((w.alloc (.cells #[.int .i64 r, .int .i64 c, .slice a n k] 24)).alloc (.cells #[.int .i64 r', .int .i64 c', .slice b m d] 24)).alloc (.cells #[.int .i64 0, .int .i64 0, .slice none 0 0] 24)) r c r' c' n k m d a b := by
  refine ⟨((Vr.new w _ _ _).later (alloc_low _ _)).later (alloc_low _ _), ?_, ?_, two_below (two_below (alloc_low _ _) (alloc_low _ _)) (alloc_low _ _)⟩
  · have := (Vr.new (w.alloc (.cells #[.int .i64 r, .int .i64 c, .slice a n k] 24)) (.int .i64 r') (.int .i64 c') (.slice b m d)).later (alloc_low _ (.cells #[.int .i64 0, .int .i64 0, .slice none 0 0] 24))
    simpa using this
  · have := Vr.new ((w.alloc (.cells #[.int .i64 r, .int .i64 c, .slice a n k] 24)).alloc (.cells #[.int .i64 r', .int .i64 c', .slice b m d] 24)) (.int .i64 0) (.int .i64 0) (.slice none 0 0)
    simpa using this
end Go.Proofs.Ytflflmdlhmhkdab

namespace Go.Proofs.Ytflflmdlhmhkdab
open Go.RowKit
theorem step_store_var {ops : Array Oper} {op : Oper} {a : Act} {w : World} {K : Act → World → Prop} {Q : Exit → Act → World → Prop} (hgd : op.guard = none) (p q : Operand) (ho : op.op = .store 24 p q)
    (b : Nat) (x y z x' y' z' : Value) (hp : a.eval p = .pointer (some ⟨b, 0, none⟩)) (hq : a.eval q = .agg #[x', y', z']) (hv : Vr w b x y z) (h0 : x'.oneCell' = true) (h1 : y'.oneCell' = true) (h2 : z'.oneCell' = true)
    (h : ∀ w', Hid (Vr w' b x' y' z') → Hid (w.grownBy w' (some b)) → K (a.put op.dst undef) w') : if Region.wanted op (yielded ops a.tmps) = true then Oper.wp Try.prog op a w K Q else K (a.put op.dst undef) w := by
  have hw : Region.wanted op (yielded ops a.tmps) = true := by simp [Region.wanted, hgd]
  rw [if_pos hw]
  exact wp_store_mid 24 p q ho b 0 #[x', y', z'] hp hq hv.there size24 (by simp [h0, h1, h2]) (h _ (((hv.set0 x').set1 y').set2 z') (grown_trans (grown_trans (grown_setCell _ _ _ _) (grown_setCell _ _ _ _)) (grown_setCell _ _ _ _)))
/-- One list behind the other. -/
def stf (F G : Nat → Nat) (m p : Nat) : Nat := if p < m then F p else G (p - m)
theorem row_stf (F G : Nat → Nat) (m k : Nat) : (row m F).toList ++ (row k G).toList = (row (m + k) (stf F G m)).toList := by
  apply List.ext_getElem?
  intro i
  have hl : (row m F).toList.length = m := by simp [row_size]
  by_cases h1 : i < m
  · rw [List.getElem?_append_left (by omega), Array.getElem?_toList, Array.getElem?_toList, row_get m F i h1, row_get (m + k) _ i (by omega)]
    unfold stf; rw [if_pos h1]
  · rw [List.getElem?_append_right (by omega), hl, Array.getElem?_toList, Array.getElem?_toList]
    by_cases h2 : i < m + k
    · rw [row_get k G (i - m) (by omega), row_get (m + k) _ i h2]
      unfold stf; rw [if_neg h1]
    · rw [Array.getElem?_eq_none (by simp [row_size]; omega), Array.getElem?_eq_none (by simp [row_size]; omega)]
theorem step_append_list {ops : Array Oper} {op : Oper} {a : Act} {w : World} {K : Act → World → Prop} {Q : Exit → Act → World → Prop} (hgd : op.guard = none) (s x : Operand) (ho : op.op = .call { callee := .builtin .append, args := #[s, x], argTypes := #[22, 22] })
    (base n : Nat) (v : Value) (ls : List Value) (hs : a.eval s = v) (hown : w.ownsRow base 5 1 v n ls) (b : Option Addr) (m c : Nat) (G : Nat → Nat) (hx : a.eval x = .slice b m c) (hb : Sl w b m G) (h0 : b = none → m = 0 ∧ c = 0) (h63 : n + m ≤ 140737488351232) (hbase : base ≤ w.heap.size)
    (h : ∀ v' w', w'.ownsRow base 5 1 v' (n + m) (ls ++ (row m G).toList) → w.grownBy w' v.ownBlock → K (a.put op.dst v') w') : if Region.wanted op (yielded ops a.tmps) = true then Oper.wp Try.prog op a w K Q else K (a.put op.dst undef) w := by
  obtain ⟨i0, hi, hz0, hz1, hz2⟩ := info_parts info8
  have hw : Region.wanted op (yielded ops a.tmps) = true := by simp [Region.wanted, hgd]
  rw [if_pos hw]
  cases b with
  | none =>
    obtain ⟨rfl, rfl⟩ := h0 rfl
    have hrun := run_append_owned_none (P := Try.prog) (w := w) base 22 op.type 5 i0 1 Try.underlying22 hi v n ls hown
    unfold Oper.wp
    simp [execOp, ho, resolve, invoke, builtin, hs, hx, hrun, Result.andThen]
    exact h v w (by rw [row_empty, List.append_nil]; exact hown) ⟨rfl, rfl, rfl, Nat.le_refl _, fun _ _ _ => rfl⟩
  | some ad =>
    exact wp_append_own w s x 22 ho base 5 i0 (.int .u8 0) 1 1 Try.underlying22 hi hz0 hz1 hz2 rfl (by decide) v n ls hs hown ad m c (row m G).toList hx (by simp [row_size]) (copy_news hb (Below.refl _ _)) (row_cells m G) (by unfold maxLen; omega) (by omega) hbase (fun v' w' h1 h2 _ => h v' w' h1 h2)
end Go.Proofs.Ytflflmdlhmhkdab

namespace Go.Proofs.Ytflflmdlhmhkdab
open Go.RowKit
/-- A slice of ints reads as q 0, q 1, .. -/
def Il (w : World) (b : Option Addr) (m : Nat) (q : Nat → Int) : Prop := ∀ i, i < m → ∃ x o, b = some ⟨x, o, none⟩ ∧ w.cell? ⟨x, o + i, none⟩ = some (.int .i64 (q i))
theorem Il.later {w w' : World} {b : Option Addr} {m : Nat} {q : Nat → Int} (h : Il w b m q) (hb : Below w.heap.size w w') : Il w' b m q := fun i hi => by
  obtain ⟨x, o, e, hc⟩ := h i hi
  exact ⟨x, o, e, by rw [hb.cell (p := ⟨x, o + i, none⟩) (cell_lt hc)]; exact hc⟩
/-- The picked rows' entries. -/
def pkf (F : Nat → Nat) (z : Nat → Nat) (c p : Nat) : Nat := F (z (p / c) * c + p % c)
theorem pkf_at (F : Nat → Nat) (z : Nat → Nat) (c i j : Nat) (hj : j < c) : pkf F z c (i * c + j) = F (z i * c + j) := by
  unfold pkf
  rw [Nat.mul_comm i c, Nat.mul_add_div (by omega), Nat.div_eq_of_lt hj, Nat.add_zero, Nat.mul_add_mod, Nat.mod_eq_of_lt hj]
theorem row_pkf (F : Nat → Nat) (z : Nat → Nat) (c i : Nat) : (row (i * c) (pkf F z c)).toList ++ (row c (fun j => F (z i * c + j))).toList = (row ((i + 1) * c) (pkf F z c)).toList := by
  rw [row_stf, Nat.add_mul, Nat.one_mul]
  congr 1
  apply row_congr
  intro p hp
  unfold stf
  by_cases h : p < i * c
  · rw [if_pos h]
  · rw [if_neg h]; show F (z i * c + (p - i * c)) = _; rw [← pkf_at F z c i (p - i * c) (by omega)]
    congr 1; omega
theorem wpList_append_list {ops : Array Oper} {rest : List Oper} {op : Oper} {a : Act} {w : World} {Q : Exit → Act → World → Prop} (hgd : op.guard = none) (s x : Operand) (ho : op.op = .call { callee := .builtin .append, args := #[s, x], argTypes := #[22, 22] })
    (base n : Nat) (v : Value) (ls : List Value) (hs : a.eval s = v) (hown : w.ownsRow base 5 1 v n ls) (b : Option Addr) (m c : Nat) (G : Nat → Nat) (hx : a.eval x = .slice b m c) (hb : Sl w b m G) (h0 : b = none → m = 0 ∧ c = 0) (h63 : n + m ≤ 140737488351232) (hbase : base ≤ w.heap.size)
    (h : ∀ v' w', w'.ownsRow base 5 1 v' (n + m) (ls ++ (row m G).toList) → w.grownBy w' v.ownBlock → wpList Try.prog ops Q rest (a.put op.dst v') w') : wpList Try.prog ops Q (op :: rest) a w :=
  wpList_plain hgd fun K hK => by
    have := step_append_list (ops := ops) (K := K) (Q := Q) hgd s x ho base n v ls hs hown b m c G hx hb h0 h63 hbase (fun v' w' h1 h2 => hK _ _ (h v' w' h1 h2))
    rwa [if_pos (by simp [Region.wanted, hgd])] at this
theorem own_none {w : World} {base n d : Nat} {s : Option Addr} {ls : List Value} (h : w.ownsRow base 5 1 (.slice s n d) n ls) : s = none → n = 0 ∧ d = 0 := by
  intro e
  rcases h.2 with ⟨e', h0⟩ | ⟨g, cap, cur, e', _⟩
  · simp at e'; exact ⟨h0, e'.2.2⟩
  · rw [e] at e'; simp at e'
/-- What the loops of Pick keep. -/
structure UInv (w w1 wr : World) (g4 r c n k m q : Nat) (a : Option Addr) (G : Nat → Nat) (v : Value) : Prop where
  vb : Vr wr w.heap.size (.int .i64 (r : Int)) (.int .i64 (c : Int)) (.slice a n k)
  vr : Vr wr (w.heap.size + 1) (.int .i64 0) (.int .i64 0) (.slice none 0 0)
  vt : Vr wr g4 (.int .i64 (m : Int)) (.int .i64 (c : Int)) v
  own : wr.ownsRow (g4 + 1) 5 1 v q (row q G).toList
  below : Below w1.heap.size w1 wr
theorem UInv.later {w w1 wr w5 : World} {r c n k m q : Nat} {a : Option Addr} {G : Nat → Nat} {v : Value} (I : UInv w w1 wr w1.heap.size r c n k m q a G v) (hb5 : Below wr.heap.size wr w5) : UInv w w1 w5 w1.heap.size r c n k m q a G v :=
  ⟨I.vb.later hb5, I.vr.later hb5, I.vt.later hb5, I.own.kept (grown_none.mpr hb5) (by cases hv : v.ownBlock <;> simp), two_below I.below hb5⟩
theorem UInv.grown {w w1 w5 w8 : World} {r c n k m q q' cap : Nat} {gg : Option Addr} {a : Option Addr} {G : Nat → Nat} {v : Value} (I : UInv w w1 w5 w1.heap.size r c n k m q a G v)
    (hown : w8.ownsRow (w1.heap.size + 1) 5 1 (.slice gg q' cap) q' (row q' G).toList) (hg : w5.grownBy w8 v.ownBlock) (hw : w.heap.size + 1 < w1.heap.size) :
    UInv w w1 (w8.setCell ⟨w1.heap.size, 2, none⟩ (.slice gg q' cap)) w1.heap.size r c n k m q' a G (.slice gg q' cap) := by
  have base := own_base I.own
  refine ⟨?_, ?_, ?_, ?_, ?_⟩
  · exact (I.vb.grown hg (fun e => by have := base _ e; omega)).kept (grown_setCell _ _ _ _) (by omega)
  · exact (I.vr.grown hg (fun e => by have := base _ e; omega)).kept (grown_setCell _ _ _ _) (by omega)
  · exact Vr.set2 (I.vt.grown hg (fun e => by have := base _ e; omega)) _
  · exact hown.kept (grown_setCell _ _ _ _) (.inr (fun e => by have := own_base hown _ e; omega))
  · have b8 : Below w1.heap.size w1 w8 := I.below.grown hg I.below.size (fun k hk => by have := base k hk; omega)
    exact b8.setCell (Nat.le_refl _) _
set_option maxRecDepth 20000 in
set_option maxHeartbeats 4000000 in
theorem rpick_ok (w : World) (r c n k m d N : Nat) (a b : Option Addr) (F z : Nat → Nat) (ha : Sl w a n F) (R : Rt r c n) (hb : Il w b m (fun i => (z i : Int))) (hz : ∀ i, i < m → z i < r) (hm : m ≤ 64) (HN : Hid (m * c = N)) :
    Calls Try.prog 41 #[mv r c a n k, .slice b m d] w fun e w' => ∃ s d, e = .returned (.tuple #[mv m c s N d, .int .i64 0]) ∧ w'.ownsRow w.heap.size 5 1 (.slice s N d) N (row N (pkf F z c)).toList ∧ Below w.heap.size w w' := by
  have HRt : Hid (Rt r c n) := R
  have hn := R.le
  have hr := R.r64
  have hc := R.c64
  obtain ⟨wb, HW⟩ : ∃ wb, Hid (wb = (w.alloc (.cells #[.int .i64 (r : Int), .int .i64 (c : Int), .slice a n k] 24)).alloc (.cells #[.int .i64 0, .int .i64 0, .slice none 0 0] 24)) := ⟨_, rfl⟩
  have HVb : Hid (Vr wb w.heap.size (.int .i64 (r : Int)) (.int .i64 (c : Int)) (.slice a n k)) := by rw [HW.out]; exact (Vr.new w _ _ _).later (alloc_low _ _)
  have HVr : Hid (Vr wb (w.heap.size + 1) (.int .i64 0) (.int .i64 0) (.slice none 0 0)) := by show Vr _ _ _ _ _; rw [HW.out]; have := Vr.new (w.alloc (.cells #[.int .i64 (r : Int), .int .i64 (c : Int), .slice a n k] 24)) (.int .i64 0) (.int .i64 0) (.slice none 0 0); simpa using this
  have HB0 : Hid (Below w.heap.size w wb) := by rw [HW.out]; exact two_below (alloc_low _ _) (alloc_low _ _)
  have HSa : Hid (Sl w a n F) := ha
  have HSb : Hid (Il w b m (fun i => (z i : Int))) := hb
  have HZ : Hid (∀ i, i < m → z i < r) := hz
  clear ha R hb hz
  go_enter Try.func41, Try.ntmps41
  go_wp2_with (go_at_call 39; rw [← HW.out]; refine (right_yes _ _ _ _ _ _ HRt.out.p).mono ?_; rintro e w0 ⟨rfl, hb1⟩; have HB1 : Hid (Below wb.heap.size wb w0) := hb1; clear hb1)
  have HBw0 : Hid (Below w.heap.size w w0) := two_below HB0.out HB1.out
  have HV0 : Hid (Vr w0 w.heap.size (.int .i64 (r : Int)) (.int .i64 (c : Int)) (.slice a n k)) := HVb.out.later HB1.out
  have HR0 : Hid (Vr w0 (w.heap.size + 1) (.int .i64 0) (.int .i64 0) (.slice none 0 0)) := HVr.out.later HB1.out
  clear HW HVb HVr HB0 HB1
  go_loopw [6] (fun j wr => ∃ q : Nat, q ≤ m ∧ j = .int .i64 (q : Int) ∧ Below w0.heap.size w0 wr) (fun j _ => m - (intOf j).toNat)
  case atStart => exact ⟨0, by omega, rfl, Below.refl _ _⟩
  case round =>
    obtain ⟨q, hq, rfl, hbr⟩ := hrel
    have HB : Hid (Below w0.heap.size w0 wr) := hbr
    clear hbr
    by_cases hlt : q < m
    · obtain ⟨x, o, eb, hcell⟩ := HSb.out.later (two_below HBw0.out HB.out) q hlt
      have zr := HZ.out q hlt
      dsimp only at hcell
      obtain ⟨y, HY⟩ : ∃ y, Hid (z q = y) := ⟨_, rfl⟩
      rw [HY.out] at hcell zr
      have b0 := (HV0.out.later HB.out).c0
      have g1 : decide ((y : Int) < 0) = false := by simp
      have g2 : decide (r ≤ y) = false := by simp; omega
      subst eb
      go_wp2
      go_region
      go_wp2
      exact ⟨⟨q + 1, by omega, by go_num, by first | exact HB.out | exact HB.out.drew⟩, by simp [intOf]; omega⟩
    · obtain rfl : q = m := by omega
      have b1 := (HV0.out.later HB.out).c1
      have g3 : decide (64 < q) = false := by simp; omega
      have HBw : Hid (Below w.heap.size w wr) := two_below HBw0.out HB.out
      have HVb : Hid (Vr wr w.heap.size (.int .i64 (r : Int)) (.int .i64 (c : Int)) (.slice a n k)) := HV0.out.later HB.out
      have HVr : Hid (Vr wr (w.heap.size + 1) (.int .i64 0) (.int .i64 0) (.slice none 0 0)) := HR0.out.later HB.out
      have hlw := HVr.out.lt
      go_wp2
      have HI0 : Hid (UInv w wr (wr.alloc (.cells #[.int .i64 (q : Int), .int .i64 (c : Int), .slice none 0 0] 24)) wr.heap.size r c n k q 0 a (pkf F z c) (.slice none 0 0)) :=
        ⟨HVb.out.later (alloc_low _ _), HVr.out.later (alloc_low _ _), Vr.new wr _ _ _, by rw [row_empty]; exact World.ownsRow_nil _ _ _ _, alloc_low _ _⟩
      clear HV0 HR0 HB HVb HVr b1 hlt hq HBw0
      obtain ⟨w1, HW1⟩ : ∃ w1, Hid (w1 = wr) := ⟨_, rfl⟩
      rw [← HW1.out] at HI0 HBw hlw
      rw [← HW1.out]
      clear HW1
      go_loopw [8, 9, 10] (fun j _ _ wr => ∃ (t : Nat) (v : Value), t ≤ q ∧ j = .int .i64 (t : Int) ∧ UInv w w1 wr w1.heap.size r c n k q (t * c) a (pkf F z c) v) (fun j _ _ _ => q - (intOf j).toNat)
      case atStart => exact ⟨0, _, by omega, rfl, by rw [Nat.zero_mul]; exact HI0.out⟩
      case round =>
        clear HI0
        obtain ⟨t, v, ht, rfl, I⟩ := hrel
        have HI : Hid (UInv w w1 wr w1.heap.size r c n k q (t * c) a (pkf F z c) v) := I
        clear I
        by_cases hlt : t < q
        · obtain ⟨x, o, eb, hcell⟩ := HSb.out.later (two_below HBw.out HI.out.below) t hlt
          have zr := HZ.out t hlt
          dsimp only at hcell
          obtain ⟨y, HY⟩ : ∃ y, Hid (z t = y) := ⟨_, rfl⟩
          rw [HY.out] at hcell zr
          have b0 := HI.out.vb.c0
          have b1 := HI.out.vb.c1
          have b2 := HI.out.vb.c2
          have HRow : Hid (∀ w', Below wr.heap.size wr w' → Calls Try.prog 61 #[.agg #[.int .i64 (r : Int), .int .i64 (c : Int), .slice a n k], .int .i64 (y : Int)] w' fun e w'' => ∃ v, e = .returned (.tuple #[v, .int .i64 0]) ∧ w''.ownsRow w'.heap.size 5 1 v c (row c (fun j => F (y * c + j))).toList ∧ Below w'.heap.size w' w'') := fun w' h' => rrow_ok w' r c n k y a F (HSa.out.later (two_below (two_below HBw.out HI.out.below) h')) HRt.out zr
          have hsz := HI.out.below.size
          have hFb : Hid (∀ j, j < c → F (y * c + j) < 256) := fun j hj => HSa.out.1 _ (HRt.out.at zr hj)
          subst eb
          go_wp2
          go_region_with (go_at_call 61; refine (HRow.out _ (by first | exact Below.refl _ _ | exact (Below.refl _ _).drew)).mono ?_; rintro e w5 ⟨v5, rfl, ho5, hbk⟩; obtain ⟨s5, d5, e5, hsl5, hfr5⟩ := own_sl ho5 hFb.out; subst e5; have HN5 : Hid (s5 = none → c = 0 ∧ d5 = 0) := own_none ho5; have HS5 : Hid (Sl w5 s5 c (fun j => F (y * c + j))) := hsl5; have HI5 : Hid (UInv w w1 w5 w1.heap.size r c n k q (t * c) a (pkf F z c) v) := HI.out.later (by first | exact hbk | exact two_below (Below.refl _ _).drew hbk); have t2 := HI5.out.vt.c2; have tf := HI5.out.vt.free 2; clear ho5 hsl5 hfr5 hbk)
          go_wp2_with (refine wpList_append_list rfl _ _ rfl (w1.heap.size + 1) (t * c) v _ rfl HI5.out.own s5 c d5 _ rfl HS5.out HN5.out (by have : t * c ≤ 64 * 64 := Nat.mul_le_mul (by omega) hc; omega) (by have := HI5.out.vt.lt; omega) ?_; intro v8 w8 hown8 hgrow8; have HO8 : Hid (w8.ownsRow (w1.heap.size + 1) 5 1 v8 ((t + 1) * c) (row ((t + 1) * c) (pkf F z c)).toList) := (by show World.ownsRow _ _ _ _ _ _ _; rw [← row_pkf, HY.out, Nat.add_mul, Nat.one_mul]; exact hown8); have HG8 : Hid (w5.grownBy w8 v.ownBlock) := hgrow8; have tf8 := keepgf hgrow8 t2 tf (fun e => by { have := own_base HI5.out.own _ e; omega }); have t28 := keepg hgrow8 t2 (fun e => by { have := own_base HI5.out.own _ e; omega }); clear hown8 hgrow8; obtain ⟨s8, d8, e8, _, _⟩ := own_sl' HO8.out; subst e8)
          all_goals exact ⟨⟨t + 1, _, by omega, by go_num, HI5.out.grown HO8.out HG8.out hlw⟩, by simp [intOf]; omega⟩
        · obtain rfl : t = q := by omega
          have hown := HI.out.own
          rw [HN.out] at hown
          obtain ⟨s, e, e3, _, _⟩ := own_sl' hown
          subst e3
          have c0 := HI.out.vt.c0
          have c1 := HI.out.vt.c1
          have c2 := HI.out.vt.c2
          have HVr : Hid (Vr wr (w.heap.size + 1) (.int .i64 0) (.int .i64 0) (.slice none 0 0)) := HI.out.vr
          have HO : Hid (wr.ownsRow (w1.heap.size + 1) 5 1 (.slice s N e) N (row N (pkf F z c)).toList) := hown
          have hsz := HBw.out.size
          clear hown
          go_wp2_with (refine wpList_store_var rfl _ _ rfl (w.heap.size + 1) _ _ _ (.int .i64 (t : Int)) (.int .i64 (c : Int)) (.slice s N e) rfl rfl HVr.out rfl rfl rfl ?_; intro w4 HV4 HG4)
          have d0 := HV4.out.c0
          have d1 := HV4.out.c1
          have d2 := HV4.out.c2
          refine bodyPost_ret (v := .tuple #[mv t c s N e, .int .i64 0]) (by simp [results, Try.results41, go_sem, d0, d1, d2, mv]) rfl ?_
          have own4 := HO.out.kept HG4.out (.inr (fun h => by have := own_base HO.out _ h; omega))
          exact ⟨s, e, rfl, own_mono own4 (by omega), below_row (two_below HBw.out HI.out.below) HG4.out (by omega)⟩
end Go.Proofs.Ytflflmdlhmhkdab

namespace Go.Proofs.Ytflflmdlhmhkdab
open Go.RowKit
/-- Two boxes: an argument and a result. -/
structure Box2 (w wb : World) (r c : Int) (n k : Nat) (a : Option Addr) : Prop where
  va : Vr wb w.heap.size (.int .i64 r) (.int .i64 c) (.slice a n k)
  vr : Vr wb (w.heap.size + 1) (.int .i64 0) (.int .i64 0) (.slice none 0 0)
  below : Below w.heap.size w wb
theorem box2 (w : World) (r c : Int) (n k : Nat) (a : Option Addr) : Box2 w ((w.alloc (.cells #[.int .i64 r, .int .i64 c, .slice a n k] 24)).alloc (.cells #[.int .i64 0, .int .i64 0, .slice none 0 0] 24)) r c n k a := by
  refine ⟨(Vr.new w _ _ _).later (alloc_low _ _), ?_, two_below (alloc_low _ _) (alloc_low _ _)⟩
  have := Vr.new (w.alloc (.cells #[.int .i64 r, .int .i64 c, .slice a n k] 24)) (.int .i64 0) (.int .i64 0) (.slice none 0 0)
  simpa using this
set_option maxRecDepth 20000 in
set_option maxHeartbeats 1000000 in
theorem rpick_shape (w : World) (r c : Int) (n k m d : Nat) (a b : Option Addr) (h : ¬ RightP r c n) :
    Calls Try.prog 41 #[mv r c a n k, .slice b m d] w fun e w' => e = .returned (.tuple #[mv 0 0 none 0 0, .int .i64 3]) ∧ Below w.heap.size w w' := by
  obtain ⟨wb, HW, HX⟩ : ∃ wb, Hid (wb = (w.alloc (.cells #[.int .i64 r, .int .i64 c, .slice a n k] 24)).alloc (.cells #[.int .i64 0, .int .i64 0, .slice none 0 0] 24)) ∧ Hid (Box2 w wb r c n k a) := ⟨_, rfl, box2 w r c n k a⟩
  have H1 : Hid (¬ RightP r c n) := h
  clear h
  go_enter Try.func41, Try.ntmps41
  go_wp2_with (first
    | (go_at_call 39; rw [← HW.out]; refine (right_no _ _ _ _ _ _ H1.out).mono ?_; rintro e w1 ⟨rfl, hb1⟩; have HV2 : Hid (Vr w1 (w.heap.size + 1) (.int .i64 0) (.int .i64 0) (.slice none 0 0)) := HX.out.vr.later hb1; have HBw : Hid (Below w.heap.size w w1) := two_below HX.out.below hb1; clear hb1)
    | (refine wpList_store_var rfl _ _ rfl (w.heap.size + 1) _ _ _ (.int .i64 0) (.int .i64 0) (.slice none 0 0) rfl rfl HV2.out rfl rfl rfl ?_; intro w4 HV4 HG4))
  have c0 := HV4.out.c0
  have c1 := HV4.out.c1
  have c2 := HV4.out.c2
  refine bodyPost_ret (v := .tuple #[mv 0 0 none 0 0, .int .i64 3]) (by simp [results, Try.results41, go_sem, c0, c1, c2, mv]) rfl ?_
  exact ⟨rfl, below_row HBw.out HG4.out (by omega)⟩
set_option maxRecDepth 20000 in
set_option maxHeartbeats 2000000 in
theorem rpick_arg (w : World) (r c n k m d t : Nat) (a b : Option Addr) (q : Nat → Int) (R : Rt r c n) (hm : m ≤ 140737488351232) (hb : Il w b m q) (ht : t < m) (hin : ∀ i, i < t → 0 ≤ q i ∧ q i < r) (hbad : ¬ (0 ≤ q t ∧ q t < r)) :
    Calls Try.prog 41 #[mv r c a n k, .slice b m d] w fun e w' => e = .returned (.tuple #[mv 0 0 none 0 0, .int .i64 2]) ∧ Below w.heap.size w w' := by
  obtain ⟨wb, HW, HX⟩ : ∃ wb, Hid (wb = (w.alloc (.cells #[.int .i64 (r : Int), .int .i64 (c : Int), .slice a n k] 24)).alloc (.cells #[.int .i64 0, .int .i64 0, .slice none 0 0] 24)) ∧ Hid (Box2 w wb r c n k a) := ⟨_, rfl, box2 w r c n k a⟩
  have HRt : Hid (Rt r c n) := R
  have HSb : Hid (Il w b m q) := hb
  have HZ : Hid (∀ i, i < t → 0 ≤ q i ∧ q i < r) := hin
  have HY : Hid (¬ (0 ≤ q t ∧ q t < r)) := hbad
  clear R hb hin hbad
  go_enter Try.func41, Try.ntmps41
  go_wp2_with (go_at_call 39; rw [← HW.out]; refine (right_yes _ _ _ _ _ _ HRt.out.p).mono ?_; rintro e w0 ⟨rfl, hb1⟩; have HB1 : Hid (Below wb.heap.size wb w0) := hb1; clear hb1)
  have HBw0 : Hid (Below w.heap.size w w0) := two_below HX.out.below HB1.out
  have HV0 : Hid (Vr w0 w.heap.size (.int .i64 (r : Int)) (.int .i64 (c : Int)) (.slice a n k)) := HX.out.va.later HB1.out
  have HR0 : Hid (Vr w0 (w.heap.size + 1) (.int .i64 0) (.int .i64 0) (.slice none 0 0)) := HX.out.vr.later HB1.out
  clear HW HX HB1
  go_loopw [6] (fun j wr => ∃ i : Nat, i ≤ t ∧ j = .int .i64 (i : Int) ∧ Below w0.heap.size w0 wr) (fun j _ => t - (intOf j).toNat)
  case atStart => exact ⟨0, by omega, rfl, Below.refl _ _⟩
  case round =>
    obtain ⟨i, hi, rfl, hbr⟩ := hrel
    have HB : Hid (Below w0.heap.size w0 wr) := hbr
    clear hbr
    have him : i < m := by omega
    obtain ⟨x, o, eb, hcell⟩ := HSb.out.later (two_below HBw0.out HB.out) i him
    have b0 := (HV0.out.later HB.out).c0
    by_cases hlt : i < t
    · obtain ⟨z1, z2⟩ := HZ.out i hlt
      obtain ⟨y, hy⟩ := Int.eq_ofNat_of_zero_le z1
      rw [hy] at hcell z2
      have g1 : decide ((y : Int) < 0) = false := by simp
      have g2 : decide (r ≤ y) = false := by simp; omega
      subst eb
      clear z1 hy
      go_wp2
      go_region
      go_wp2
      exact ⟨⟨i + 1, by omega, by go_num, by first | exact HB.out | exact HB.out.drew⟩, by simp [intOf]; omega⟩
    · obtain rfl : i = t := by omega
      obtain ⟨y, Hy⟩ : ∃ y, Hid (q i = y) := ⟨_, rfl⟩
      rw [Hy.out] at hcell
      have hbad := HY.out
      rw [Hy.out] at hbad
      have HVr : Hid (Vr wr (w.heap.size + 1) (.int .i64 0) (.int .i64 0) (.slice none 0 0)) := HR0.out.later HB.out
      have HBw : Hid (Below w.heap.size w wr) := two_below HBw0.out HB.out
      have HVd : Hid (Vr wr.drew (w.heap.size + 1) (.int .i64 0) (.int .i64 0) (.slice none 0 0)) := HVr.out
      have HBd : Hid (Below w.heap.size w wr.drew) := HBw.out.drew
      subst eb
      by_cases g0 : y < 0
      · have g1 : decide (y < 0) = true := by simpa using g0
        clear g0 hbad
        go_wp2
        go_region
        go_wp2_with (refine wpList_store_var rfl _ _ rfl (w.heap.size + 1) _ _ _ (.int .i64 0) (.int .i64 0) (.slice none 0 0) rfl rfl (by first | exact HVr.out | exact HVd.out) rfl rfl rfl ?_; intro w4 HV4 HG4)
        have c0 := HV4.out.c0
        have c1 := HV4.out.c1
        have c2 := HV4.out.c2
        refine bodyPost_ret (v := .tuple #[mv 0 0 none 0 0, .int .i64 2]) (by simp [results, Try.results41, go_sem, c0, c1, c2, mv]) rfl ?_
        exact ⟨rfl, below_row (by first | exact HBw.out | exact HBd.out) HG4.out (by omega)⟩
      · have g1 : decide (y < 0) = false := by simpa using g0
        have g2 : decide ((r : Int) ≤ y) = true := by simp; omega
        clear g0 hbad
        go_wp2
        go_region
        go_wp2_with (refine wpList_store_var rfl _ _ rfl (w.heap.size + 1) _ _ _ (.int .i64 0) (.int .i64 0) (.slice none 0 0) rfl rfl (by first | exact HVr.out | exact HVd.out) rfl rfl rfl ?_; intro w4 HV4 HG4)
        have c0 := HV4.out.c0
        have c1 := HV4.out.c1
        have c2 := HV4.out.c2
        refine bodyPost_ret (v := .tuple #[mv 0 0 none 0 0, .int .i64 2]) (by simp [results, Try.results41, go_sem, c0, c1, c2, mv]) rfl ?_
        exact ⟨rfl, below_row (by first | exact HBw.out | exact HBd.out) HG4.out (by omega)⟩
set_option maxRecDepth 20000 in
set_option maxHeartbeats 2000000 in
theorem rpick_limit (w : World) (r c n k m d : Nat) (a b : Option Addr) (q : Nat → Int) (R : Rt r c n) (hm : m ≤ 140737488351232) (hb : Il w b m q) (hin : ∀ i, i < m → 0 ≤ q i ∧ q i < r) (hl : 64 < m) :
    Calls Try.prog 41 #[mv r c a n k, .slice b m d] w fun e w' => e = .returned (.tuple #[mv 0 0 none 0 0, .int .i64 4]) ∧ Below w.heap.size w w' := by
  obtain ⟨wb, HW, HX⟩ : ∃ wb, Hid (wb = (w.alloc (.cells #[.int .i64 (r : Int), .int .i64 (c : Int), .slice a n k] 24)).alloc (.cells #[.int .i64 0, .int .i64 0, .slice none 0 0] 24)) ∧ Hid (Box2 w wb r c n k a) := ⟨_, rfl, box2 w r c n k a⟩
  have HRt : Hid (Rt r c n) := R
  have HSb : Hid (Il w b m q) := hb
  have HZ : Hid (∀ i, i < m → 0 ≤ q i ∧ q i < r) := hin
  clear R hb hin
  go_enter Try.func41, Try.ntmps41
  go_wp2_with (go_at_call 39; rw [← HW.out]; refine (right_yes _ _ _ _ _ _ HRt.out.p).mono ?_; rintro e w0 ⟨rfl, hb1⟩; have HB1 : Hid (Below wb.heap.size wb w0) := hb1; clear hb1)
  have HBw0 : Hid (Below w.heap.size w w0) := two_below HX.out.below HB1.out
  have HV0 : Hid (Vr w0 w.heap.size (.int .i64 (r : Int)) (.int .i64 (c : Int)) (.slice a n k)) := HX.out.va.later HB1.out
  have HR0 : Hid (Vr w0 (w.heap.size + 1) (.int .i64 0) (.int .i64 0) (.slice none 0 0)) := HX.out.vr.later HB1.out
  clear HW HX HB1
  go_loopw [6] (fun j wr => ∃ i : Nat, i ≤ m ∧ j = .int .i64 (i : Int) ∧ Below w0.heap.size w0 wr) (fun j _ => m - (intOf j).toNat)
  case atStart => exact ⟨0, by omega, rfl, Below.refl _ _⟩
  case round =>
    obtain ⟨i, hi, rfl, hbr⟩ := hrel
    have HB : Hid (Below w0.heap.size w0 wr) := hbr
    clear hbr
    by_cases hlt : i < m
    · obtain ⟨x, o, eb, hcell⟩ := HSb.out.later (two_below HBw0.out HB.out) i hlt
      have b0 := (HV0.out.later HB.out).c0
      obtain ⟨z1, z2⟩ := HZ.out i hlt
      obtain ⟨y, hy⟩ := Int.eq_ofNat_of_zero_le z1
      rw [hy] at hcell z2
      have g1 : decide ((y : Int) < 0) = false := by simp
      have g2 : decide (r ≤ y) = false := by simp; omega
      subst eb
      clear z1 hy
      go_wp2
      go_region
      go_wp2
      exact ⟨⟨i + 1, by omega, by go_num, by first | exact HB.out | exact HB.out.drew⟩, by simp [intOf]; omega⟩
    · obtain rfl : i = m := by omega
      have HVr : Hid (Vr wr (w.heap.size + 1) (.int .i64 0) (.int .i64 0) (.slice none 0 0)) := HR0.out.later HB.out
      have HBw : Hid (Below w.heap.size w wr) := two_below HBw0.out HB.out
      have g3 : decide (64 < i) = true := by simpa using hl
      go_wp2_with (refine wpList_store_var rfl _ _ rfl (w.heap.size + 1) _ _ _ (.int .i64 0) (.int .i64 0) (.slice none 0 0) rfl rfl HVr.out rfl rfl rfl ?_; intro w4 HV4 HG4)
      have c0 := HV4.out.c0
      have c1 := HV4.out.c1
      have c2 := HV4.out.c2
      refine bodyPost_ret (v := .tuple #[mv 0 0 none 0 0, .int .i64 4]) (by simp [results, Try.results41, go_sem, c0, c1, c2, mv]) rfl ?_
      exact ⟨rfl, below_row HBw.out HG4.out (by omega)⟩
end Go.Proofs.Ytflflmdlhmhkdab

namespace Go.Proofs.Ytflflmdlhmhkdab
open Go.RowKit
/-- A slice of lists: the i-th lies at A i, has the length L i and the room C i, and reads as f i 0, f i 1, .. -/
structure Rl (w : World) (b : Option Addr) (m : Nat) (A : Nat → Option Addr) (L C : Nat → Nat) (f : Nat → Nat → Nat) : Prop where
  at' : ∀ i, i < m → ∃ x o, b = some ⟨x, o, none⟩ ∧ w.cell? ⟨x, o + i, none⟩ = some (.slice (A i) (L i) (C i))
  sl : ∀ i, i < m → Sl w (A i) (L i) (f i)
  nil : ∀ i, i < m → A i = none → L i = 0 ∧ C i = 0
theorem Rl.later {w w' : World} {b : Option Addr} {m : Nat} {A : Nat → Option Addr} {L C : Nat → Nat} {f : Nat → Nat → Nat} (h : Rl w b m A L C f) (hb : Below w.heap.size w w') : Rl w' b m A L C f :=
  ⟨fun i hi => by
    obtain ⟨x, o, e, hc⟩ := h.at' i hi
    exact ⟨x, o, e, by rw [hb.cell (p := ⟨x, o + i, none⟩) (cell_lt hc)]; exact hc⟩, fun i hi => (h.sl i hi).later hb, h.nil⟩
/-- The rows' entries, one behind the other. -/
def off (f : Nat → Nat → Nat) (c p : Nat) : Nat := f (p / c) (p % c)
theorem off_at (f : Nat → Nat → Nat) (c i j : Nat) (hj : j < c) : off f c (i * c + j) = f i j := by
  unfold off
  rw [Nat.mul_comm i c, Nat.mul_add_div (by omega), Nat.div_eq_of_lt hj, Nat.add_zero, Nat.mul_add_mod, Nat.mod_eq_of_lt hj]
theorem row_off (f : Nat → Nat → Nat) (c i : Nat) : (row (i * c) (off f c)).toList ++ (row c (f i)).toList = (row ((i + 1) * c) (off f c)).toList := by
  rw [row_stf, Nat.add_mul, Nat.one_mul]
  congr 1
  apply row_congr
  intro p hp
  unfold stf
  by_cases h : p < i * c
  · rw [if_pos h]
  · rw [if_neg h, ← off_at f c i (p - i * c) (by omega)]
    congr 1; omega
/-- What the loop of Of keeps. -/
structure OInv (w wr : World) (m c q : Nat) (G : Nat → Nat) (v : Value) : Prop where
  vr : Vr wr w.heap.size (.int .i64 0) (.int .i64 0) (.slice none 0 0)
  vt : Vr wr (w.heap.size + 1) (.int .i64 (m : Int)) (.int .i64 (c : Int)) v
  own : wr.ownsRow (w.heap.size + 1 + 1) 5 1 v q (row q G).toList
  below : Below w.heap.size w wr
theorem OInv.grown {w w5 w8 : World} {m c q q' cap : Nat} {gg : Option Addr} {G : Nat → Nat} {v : Value} (I : OInv w w5 m c q G v)
    (hown : w8.ownsRow (w.heap.size + 1 + 1) 5 1 (.slice gg q' cap) q' (row q' G).toList) (hg : w5.grownBy w8 v.ownBlock) :
    OInv w (w8.setCell ⟨w.heap.size + 1, 2, none⟩ (.slice gg q' cap)) m c q' G (.slice gg q' cap) := by
  have base := own_base I.own
  refine ⟨?_, ?_, ?_, ?_⟩
  · exact (I.vr.grown hg (fun e => by have := base _ e; omega)).kept (grown_setCell _ _ _ _) (by omega)
  · exact Vr.set2 (I.vt.grown hg (fun e => by have := base _ e; omega)) _
  · exact hown.kept (grown_setCell _ _ _ _) (.inr (fun e => by have := own_base hown _ e; omega))
  · have b8 : Below w.heap.size w w8 := I.below.grown hg I.below.size (fun k hk => by have := base k hk; omega)
    exact b8.setCell (show w.heap.size ≤ w.heap.size + 1 by omega) _
theorem oinv_drew {w wr : World} {m c q : Nat} {G : Nat → Nat} {v : Value} (I : OInv w wr m c q G v) : OInv w wr.drew m c q G v :=
  ⟨I.vr, I.vt, I.own, I.below.drew⟩
end Go.Proofs.Ytflflmdlhmhkdab

namespace Go.Proofs.Ytflflmdlhmhkdab
open Go.RowKit
/-- Two boxes: two arguments. -/
structure Box2m (w wb : World) (r c r' c' : Int) (n k m d : Nat) (a b : Option Addr) : Prop where
  va : Vr wb w.heap.size (.int .i64 r) (.int .i64 c) (.slice a n k)
  vb : Vr wb (w.heap.size + 1) (.int .i64 r') (.int .i64 c') (.slice b m d)
  below : Below w.heap.size w wb
theorem box2m (w : World) (r c r' c' : Int) (n k m d : Nat) (a b : Option Addr) : Box2m w ((w.alloc (.cells #[.int .i64 r, .int .i64 c, .slice a n k] 24)).alloc (.cells #[.int .i64 r', .int .i64 c', .slice b m d] 24)) r c r' c' n k m d a b := by
  refine ⟨(Vr.new w _ _ _).later (alloc_low _ _), ?_, two_below (alloc_low _ _) (alloc_low _ _)⟩
  have := Vr.new (w.alloc (.cells #[.int .i64 r, .int .i64 c, .slice a n k] 24)) (.int .i64 r') (.int .i64 c') (.slice b m d)
  simpa using this
end Go.Proofs.Ytflflmdlhmhkdab

namespace Go.Proofs.Ytflflmdlhmhkdab
open Go.RowKit
set_option maxRecDepth 20000 in
set_option maxHeartbeats 1000000 in
theorem rcopy3_any (w : World) (r c : Int) (n k : Nat) (a : Option Addr) (F : Nat → Nat) (ha : Sl w a n F) (hn : n ≤ 140737488351232) (h0 : a = none → n = 0 ∧ k = 0) :
    Calls Try.prog 16 #[mv r c a n k] w fun e w' => ∃ s d, e = .returned (mv r c s n d) ∧ w'.ownsRow w.heap.size 5 1 (.slice s n d) n (row n F).toList ∧ Below w.heap.size w w' := by
  obtain ⟨wb, HW, HX⟩ : ∃ wb, Hid (wb = (w.alloc (.cells #[.int .i64 r, .int .i64 c, .slice a n k] 24)).alloc (.cells #[.int .i64 0, .int .i64 0, .slice none 0 0] 24)) ∧ Hid (Box2 w wb r c n k a) := ⟨_, rfl, box2 w r c n k a⟩
  have HCp : Hid (∀ w', Below w.heap.size w w' → Calls Try.prog 35 #[.slice a n k] w' fun e w'' => ∃ v, e = .returned v ∧ w''.ownsRow w'.heap.size 5 1 v n (row n F).toList ∧ Below w'.heap.size w' w'') := fun w' h' => rcopy_any w' a n k F (ha.later h') hn h0
  have v2 := HX.out.va.c2
  have v1 := HX.out.va.c1
  have v0 := HX.out.va.c0
  clear ha
  go_enter Try.func16, Try.ntmps16
  go_wp2_with (first
    | (go_at_call 35; rw [← HW.out]; refine (HCp.out _ HX.out.below).mono ?_; rintro e w1 ⟨v, rfl, ho, hb1⟩; obtain ⟨s, d, e3, _, _⟩ := own_sl' ho; subst e3; have HO : Hid (w1.ownsRow wb.heap.size 5 1 (.slice s n d) n (row n F).toList) := ho; have HB1 : Hid (Below wb.heap.size wb w1) := hb1; have HVa : Hid (Vr w1 w.heap.size (.int .i64 r) (.int .i64 c) (.slice a n k)) := HX.out.va.later hb1; have HVr : Hid (Vr w1 (w.heap.size + 1) (.int .i64 0) (.int .i64 0) (.slice none 0 0)) := HX.out.vr.later hb1; have u2 := HVa.out.c2; have uf := HVa.out.free 2; have u0 := HVa.out.c0; have u1 := HVa.out.c1; have HVa2 : Hid (Vr (w1.setCell ⟨w.heap.size, 2, none⟩ (.slice s n d)) w.heap.size (.int .i64 r) (.int .i64 c) (.slice s n d)) := HVa.out.set2 (.slice s n d); have z0 := HVa2.out.c0; have z1 := HVa2.out.c1; have z2 := HVa2.out.c2; clear ho hb1)
    | (refine wpList_store_var rfl _ _ rfl (w.heap.size + 1) _ _ _ (.int .i64 r) (.int .i64 c) (.slice s n d) rfl rfl (HVr.out.kept (grown_setCell _ _ _ _) (by omega)) rfl rfl rfl ?_; intro w4 HV4 HG4))
  have d0 := HV4.out.c0
  have d1 := HV4.out.c1
  have d2 := HV4.out.c2
  refine bodyPost_ret (v := mv r c s n d) (by simp [results, Try.results16, go_sem, d0, d1, d2, mv]) rfl ?_
  have hsz := HX.out.below.size
  have hlt := HX.out.vr.lt
  have o1 := HO.out.kept (grown_setCell w1 w.heap.size 2 (.slice s n d)) (.inr (fun h => by have := own_base HO.out _ h; omega))
  have o2 := o1.kept HG4.out (.inr (fun h => by have := own_base HO.out _ h; omega))
  exact ⟨s, d, rfl, own_mono o2 hsz, below_row ((two_below HX.out.below HB1.out).setCell (Nat.le_refl _) _) HG4.out (by omega)⟩
end Go.Proofs.Ytflflmdlhmhkdab

namespace Go.Proofs.Ytflflmdlhmhkdab
open Go.RowKit
theorem likeB_true {r c : Int} {n : Nat} {f h : Nat → Nat} (e : ∀ i, i < n → f i = h i) : likeB r c r c n n f h = true := by
  unfold likeB sameB
  simp
  exact e
end Go.Proofs.Ytflflmdlhmhkdab

namespace Go.Proofs.Ytflflmdlhmhkdab
open Go.RowKit
theorem il_of_row (w : World) (a : Option Addr) (len cap : Nat) (zs : List Int)
    (h : (a = none ∧ len = 0 ∧ cap = 0 ∧ zs = []) ∨ ∃ x, a = some x ∧ len ≤ cap ∧ cap ≤ 140737488351232 ∧ zs.length = cap ∧ (∀ i, i < zs.length → w.cell? (x.add i) = some (.int .i64 (zs.getD i 0))) ∧ ∀ n ∈ zs, (Lit.int .i64 n).wf = true) :
    Il w a len (fun i => zs.getD i 0) ∧ len ≤ 140737488351232 := by
  rcases h with ⟨rfl, rfl, rfl, rfl⟩ | ⟨x, rfl, hl, hm, hz, hcell, _⟩
  · exact ⟨fun i hi => by omega, by omega⟩
  · refine ⟨?_, by omega⟩
    intro i hi
    have hc := hcell i (by omega)
    obtain ⟨b, off, spot⟩ := x
    have hspot : spot = none := by
      have h0 := hcell 0 (by omega)
      simpa [Addr.add] using World.cell?_spot h0
    subst hspot
    refine ⟨b, off, rfl, ?_⟩
    have hplain : (⟨b, off, none⟩ : Addr).add i = ⟨b, off + i, none⟩ := by unfold Addr.add; split <;> simp_all
    rw [hplain] at hc
    exact hc
/-- Either all of the first m keep P, or there is a first that does not. -/
theorem first_bad (P : Nat → Prop) (m : Nat) : (∀ i, i < m → P i) ∨ ∃ t, t < m ∧ (∀ i, i < t → P i) ∧ ¬ P t := by
  induction m with
  | zero => exact .inl fun i hi => by omega
  | succ k ih =>
    rcases ih with h | ⟨t, ht, h1, h2⟩
    · by_cases hk : P k
      · exact .inl fun i hi => by
          rcases Nat.lt_or_ge i k with h' | h'
          · exact h i h'
          · obtain rfl : i = k := by omega
            exact hk
      · exact .inr ⟨k, by omega, h, hk⟩
    · exact .inr ⟨t, by omega, h1, h2⟩
theorem Il.nat {w : World} {b : Option Addr} {m r : Nat} {q : Nat → Int} (h : Il w b m q) (hin : ∀ i, i < m → 0 ≤ q i ∧ q i < r) : ∃ z : Nat → Nat, Il w b m (fun i => (z i : Int)) ∧ ∀ i, i < m → z i < r := by
  refine ⟨fun i => (q i).toNat, fun i hi => ?_, fun i hi => by have := hin i hi; show (q i).toNat < r; omega⟩
  obtain ⟨x, o, e, hc⟩ := h i hi
  refine ⟨x, o, e, ?_⟩
  show _ = some (Value.int .i64 (((q i).toNat : Nat) : Int))
  rw [Int.toNat_of_nonneg (hin i hi).1]
  exact hc
theorem own_sl2 {w : World} {base n d : Nat} {s : Option Addr} {f : Nat → Nat} (h : w.ownsRow base 5 1 (.slice s n d) n (row n f).toList) (hf : ∀ i, i < n → f i < 256) : Sl w s n f := by
  obtain ⟨a, c, e, hs, _⟩ := own_sl h hf
  cases e
  exact hs
theorem pkf_lt {F z : Nat → Nat} {r c n m : Nat} (hF : ∀ i, i < n → F i < 256) (R : Rt r c n) (hz : ∀ i, i < m → z i < r) (p : Nat) (hp : p < m * c) : pkf F z c p < 256 := by
  have hc : 0 < c := by
    rcases Nat.eq_zero_or_pos c with rfl | h
    · simp at hp
    · exact h
  exact hF _ (R.at (hz _ (Nat.div_lt_of_lt_mul (by rw [Nat.mul_comm]; exact hp))) (Nat.mod_lt _ hc))
end Go.Proofs.Ytflflmdlhmhkdab
