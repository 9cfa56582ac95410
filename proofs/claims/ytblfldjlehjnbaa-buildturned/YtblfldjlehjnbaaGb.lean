/-
  The plain mathematics of sums and of polynomials over the field: no Go in sight. A polynomial is the function of its coefficients.
  Drawn regions whose last operation waits for all others: it may be left for behind the region.
  Contracts of the matrices' reference: Right, At, Zero, Make, Like.
  Contracts of the matrices' reference: Make, Same of lists, Like, Identity, Row.
  Contracts of the matrices' reference: Identity, Row, Same.
  Contracts of the matrices' reference: Row, Same.
  Words for the matrices' products.
  Contract of the matrices' reference: Transpose.
  Contract of the matrices' reference: Mul.
  Contracts of the matrices' reference: what fails in Transpose and Mul; Apply.
  Contract of the matrices' reference: Kron.
  Contracts of the matrices' reference: what fails in Kron; Same.
  Contract of the matrices' reference: Stack.
  Contracts of the matrices' reference: what fails in Stack; Same; Copy.
  Contract of the matrices' reference: Pick.
  Contracts of the matrices' reference: what fails in Pick.
  Contracts of the matrices' reference: Of.
  Contracts of the matrices' reference: Of without rows; what fails in Of.
  Contracts of the matrices' reference: Same, Copy.
  Contract of the matrices' reference: Copy.
  What the laws about matrices ask: two answers, matrix and error, are alike.
  The laws' parameters in the contracts' words: slices of ints; a place where a list of ints leaves its bounds.
-/
import Derived.Test.YtblfldjlehjnbaaGa
import Derived.OrdersHeld
import Derived.KernelRfl
import Derived.Deep.RegionHeld
import Derived.Deep.MidRow
import Derived.Lib.Bytes
import Derived.Deep.AppendLies
import Derived.Laws.AppendOwnNone
namespace Go.Proofs.Ytblfldjlehjnbaa

/-! ### Sums -/
/-- The sum of f 0, .., f (n - 1). -/
def xs (f : Nat → Nat) : Nat → Nat
  | 0 => 0
  | n + 1 => xs f n ^^^ f n
theorem xs_congr {f g : Nat → Nat} {n : Nat} (h : ∀ k, k < n → f k = g k) : xs f n = xs g n := by
  induction n with
  | zero => rfl
  | succ n ih => simp only [xs]; rw [ih (fun k hk => h k (by omega)), h n (by omega)]
theorem xs_zero {f : Nat → Nat} {n : Nat} (h : ∀ k, k < n → f k = 0) : xs f n = 0 := by
  induction n with
  | zero => rfl
  | succ n ih => simp only [xs]; rw [ih (fun k hk => h k (by omega)), h n (by omega)]; rfl
theorem xs_lt {f : Nat → Nat} {n : Nat} (h : ∀ k, k < n → f k < 256) : xs f n < 256 := by
  induction n with
  | zero => simp [xs]
  | succ n ih => exact xor_lt _ _ (ih (fun k hk => h k (by omega))) (h n (by omega))
theorem xs_add (f g : Nat → Nat) (n : Nat) : xs (fun k => f k ^^^ g k) n = xs f n ^^^ xs g n := by
  induction n with
  | zero => simp [xs]
  | succ n ih => simp only [xs]; rw [ih, xor4]
theorem xs_swap (F : Nat → Nat → Nat) (n m : Nat) : xs (fun a => xs (fun b => F a b) m) n = xs (fun b => xs (fun a => F a b) n) m := by
  induction n with
  | zero => exact (xs_zero (fun _ _ => rfl)).symm
  | succ n ih => simp only [xs]; rw [ih, ← xs_add]
theorem xs_one {f : Nat → Nat} {n k0 : Nat} (hk : k0 < n) (h : ∀ k, k < n → k ≠ k0 → f k = 0) : xs f n = f k0 := by
  induction n with
  | zero => omega
  | succ n ih =>
    simp only [xs]
    by_cases e : k0 = n
    · subst e
      rw [xs_zero (fun k hk => h k (by omega) (by omega)), Nat.zero_xor]
    · rw [ih (by omega) (fun k hk => h k (by omega)), h n (by omega) (by omega), Nat.xor_zero]
theorem xs_ext {f : Nat → Nat} {n m : Nat} (hnm : n ≤ m) (h : ∀ k, n ≤ k → k < m → f k = 0) : xs f m = xs f n := by
  induction m with
  | zero => rw [show n = 0 by omega]
  | succ m ih =>
    by_cases e : n = m + 1
    · rw [e]
    · simp only [xs]
      rw [ih (by omega) (fun k h1 h2 => h k h1 (by omega)), h m (by omega) (by omega), Nat.xor_zero]
theorem xs_front (f : Nat → Nat) (n : Nat) : xs f (n + 1) = f 0 ^^^ xs (fun k => f (k + 1)) n := by
  induction n with
  | zero => simp [xs]
  | succ n ih => rw [xs, ih]; simp only [xs]; rw [Nat.xor_assoc]
theorem xs_mul_l (c : Nat) (f : Nat → Nat) (n : Nat) : fm c (xs f n) = xs (fun k => fm c (f k)) n := by
  induction n with
  | zero => exact fm_zero c
  | succ n ih => simp only [xs]; rw [fm_xor, ih]
theorem xs_mul_r (c : Nat) (f : Nat → Nat) (n : Nat) (h : ∀ k, k < n → f k < 256) : fm (xs f n) c = xs (fun k => fm (f k) c) n := by
  induction n with
  | zero => exact zero_fm c
  | succ n ih => simp only [xs]; rw [xor_fm _ _ _ (xs_lt (fun k hk => h k (by omega))) (h n (by omega)), ih (fun k hk => h k (by omega))]
theorem fm_ite (p : Prop) [Decidable p] (a c : Nat) : fm (if p then a else 0) c = if p then fm a c else 0 := by split; rfl; exact zero_fm c
theorem ite_fm (p : Prop) [Decidable p] (a c : Nat) : fm c (if p then a else 0) = if p then fm c a else 0 := by split; rfl; exact fm_zero c
theorem ite_lt (p : Prop) [Decidable p] (a : Nat) (h : a < 256) : (if p then a else 0) < 256 := by split; exact h; decide

/-! ### Products -/
/-- All coefficients are elements. -/
def El (p : Nat → Nat) : Prop := ∀ i, p i < 256
/-- The product of two polynomials. -/
def pm (p q : Nat → Nat) (i : Nat) : Nat := xs (fun k => fm (p k) (q (i - k))) (i + 1)
theorem pm_el {p : Nat → Nat} (q : Nat → Nat) (hp : El p) : El (pm p q) := fun _ => xs_lt (fun k _ => fm_lt _ _ (hp k))
/-- By pairs. -/
theorem pm_pairs (p q : Nat → Nat) (i N : Nat) (h : i < N) : pm p q i = xs (fun a => xs (fun b => if a + b = i then fm (p a) (q b) else 0) N) N := by
  have inner : ∀ a, a < N → xs (fun b => if a + b = i then fm (p a) (q b) else 0) N = if a < i + 1 then fm (p a) (q (i - a)) else 0 := by
    intro a _
    by_cases ha : a < i + 1
    · rw [if_pos ha, xs_one (k0 := i - a) (by omega) (fun k _ hk => if_neg (by omega)), if_pos (by omega)]
    · rw [if_neg ha]
      exact xs_zero (fun k _ => if_neg (by omega))
  rw [xs_congr inner, xs_ext (n := i + 1) (by omega) (fun k h1 _ => if_neg (by omega))]
  unfold pm
  exact xs_congr (fun k hk => by rw [if_pos hk])
theorem pm_comm {p q : Nat → Nat} (hp : El p) (hq : El q) (i : Nat) : pm p q i = pm q p i := by
  rw [pm_pairs p q i (i + 1) (by omega), pm_pairs q p i (i + 1) (by omega), xs_swap]
  refine xs_congr (fun b _ => xs_congr (fun a _ => ?_))
  rw [fm_comm _ _ (hp a) (hq b), Nat.add_comm]
theorem pm_assoc {p q : Nat → Nat} (r : Nat → Nat) (hp : El p) (hq : El q) (i : Nat) : pm (pm p q) r i = pm p (pm q r) i := by
  have N : i < i + 1 := by omega
  -- both sides are the sum over all a, b, c with a + b + c = i
  have L : pm (pm p q) r i = xs (fun c => xs (fun a => xs (fun b => if a + b + c = i then fm (fm (p a) (q b)) (r c) else 0) (i + 1)) (i + 1)) (i + 1) := by
    rw [pm_pairs (pm p q) r i (i + 1) N, xs_swap]
    refine xs_congr (fun c _ => ?_)
    have e : ∀ m, m < i + 1 → (if m + c = i then fm (pm p q m) (r c) else 0) = xs (fun a => xs (fun b => if m + c = i then (if a + b = m then fm (fm (p a) (q b)) (r c) else 0) else 0) (i + 1)) (i + 1) := by
      intro m hm
      by_cases hc : m + c = i
      · simp only [if_pos hc]
        rw [pm_pairs p q m (i + 1) hm, xs_mul_r _ _ _ (fun a _ => xs_lt (fun b _ => ite_lt _ _ (fm_lt _ _ (hp a))))]
        refine xs_congr (fun a _ => ?_)
        rw [xs_mul_r _ _ _ (fun b _ => ite_lt _ _ (fm_lt _ _ (hp a)))]
        exact xs_congr (fun b _ => fm_ite _ _ _)
      · simp only [if_neg hc]
        exact (xs_zero (fun a _ => xs_zero (fun b _ => rfl))).symm
    rw [xs_congr e, xs_swap]
    refine xs_congr (fun a _ => ?_)
    rw [xs_swap]
    refine xs_congr (fun b _ => ?_)
    by_cases h : a + b + c = i
    · rw [if_pos h, xs_one (k0 := a + b) (by omega) (fun m _ hm => by split; exact if_neg (by omega); rfl), if_pos h, if_pos rfl]
    · rw [if_neg h]
      exact xs_zero (fun m _ => by split; exact if_neg (by omega); rfl)
  have R : pm p (pm q r) i = xs (fun a => xs (fun b => xs (fun c => if a + b + c = i then fm (p a) (fm (q b) (r c)) else 0) (i + 1)) (i + 1)) (i + 1) := by
    rw [pm_pairs p (pm q r) i (i + 1) N]
    refine xs_congr (fun a _ => ?_)
    have e : ∀ m, m < i + 1 → (if a + m = i then fm (p a) (pm q r m) else 0) = xs (fun b => xs (fun c => if a + m = i then (if b + c = m then fm (p a) (fm (q b) (r c)) else 0) else 0) (i + 1)) (i + 1) := by
      intro m hm
      by_cases hc : a + m = i
      · simp only [if_pos hc]
        rw [pm_pairs q r m (i + 1) hm, xs_mul_l]
        refine xs_congr (fun b _ => ?_)
        rw [xs_mul_l]
        exact xs_congr (fun c _ => ite_fm _ _ _)
      · simp only [if_neg hc]
        exact (xs_zero (fun a _ => xs_zero (fun b _ => rfl))).symm
    rw [xs_congr e, xs_swap]
    refine xs_congr (fun b _ => ?_)
    rw [xs_swap]
    refine xs_congr (fun c _ => ?_)
    by_cases h : a + b + c = i
    · rw [if_pos h, xs_one (k0 := b + c) (by omega) (fun m _ hm => by split; exact if_neg (by omega); rfl), if_pos (by omega), if_pos rfl]
    · rw [if_neg h]
      exact xs_zero (fun m _ => by split; exact if_neg (by omega); rfl)
  rw [L, R]
  rw [xs_swap]
  refine xs_congr (fun a _ => ?_)
  rw [xs_swap]
  refine xs_congr (fun b _ => xs_congr (fun c _ => ?_))
  rw [fm_assoc _ _ _ (hp a) (hq b)]
/-- The sum of two polynomials. -/
def pa (p q : Nat → Nat) (i : Nat) : Nat := p i ^^^ q i
theorem pa_el {p q : Nat → Nat} (hp : El p) (hq : El q) : El (pa p q) := fun i => xor_lt _ _ (hp i) (hq i)
theorem pm_pa (p q r : Nat → Nat) (i : Nat) : pm p (pa q r) i = pa (pm p q) (pm p r) i := by
  unfold pm pa
  rw [← xs_add]
  exact xs_congr (fun k _ => fm_xor _ _ _)
end Go.Proofs.Ytblfldjlehjnbaa

namespace Go.Proofs.Ytblfldjlehjnbaa
variable {P : Program} {ops : Array Oper} {md : Region.Mode}
/-- What is asked of the others: that the last may be carried out. -/
def parkQ (P : Program) (ops : Array Oper) (Q : Exit → Act → World → Prop) (k : Nat) : Exit → Act → World → Prop := fun ex a w =>
  match ex with
  | .normal => wpOp P ops Q k (fun a' w' => Q .normal a' w') a w
  | e => Q e a w
/-- The last waits for all others, nobody waits for it, all wait for earlier ones alone. -/
def parkB (md : Region.Mode) (ops : Array Oper) (k : Nat) : Bool :=
  (List.range ops.size).all fun j =>
    match ops[j]? with
    | none => false
    | some o => (if j = k then (List.range ops.size).all fun i => i == k || o.after.any fun e => Region.binds md e && e.on == i else o.after.all fun e => e.on != k) && o.after.all fun e => decide (e.on < j)
theorem upon_park {Q : Exit → Act → World → Prop} {k : Nat} {o : Oper} {a : Act} {w : World} {K : Act → World → Prop} (h : o.wp P a w K (parkQ P ops Q k)) : o.wp P a w K Q := by
  unfold Oper.wp at *
  generalize (execOp a.eval o).run P w = r at *
  cases r with
  | ok n w' =>
    cases n <;> simp only [Oper.upon] at h ⊢ <;>
      first
        | exact h
        | exact Calls.mono h (fun e w'' he => by cases e <;> exact he)
        | exact Rows.mono h (fun _ _ he => he)
  | halt x w' => cases x <;> simp only [Oper.upon] at h ⊢ <;> exact h
theorem wpOp_park {Q : Exit → Act → World → Prop} {k i : Nat} {a : Act} {w : World} {K : Act → World → Prop} (h : wpOp P ops (parkQ P ops Q k) i K a w) : wpOp P ops Q i K a w := by
  unfold wpOp at *
  split
  · simpa [*] using h
  · rename_i o ho
    simp only [ho] at h
    split
    · rename_i hw
      simp only [hw, if_true] at h
      exact h.imp upon_park id
    · rename_i hw
      simp only [hw] at h
      exact h
theorem park_spec {k : Nat} (h : parkB md ops k = true) (j : Nat) (o : Oper) (ho : ops[j]? = some o) :
    (j = k → ∀ i, i < ops.size → i ≠ k → ∃ e ∈ o.after, Region.binds md e = true ∧ e.on = i) ∧ (j ≠ k → ∀ e ∈ o.after, e.on ≠ k) ∧ ∀ e ∈ o.after, e.on < j := by
  have hlt : j < ops.size := (Array.getElem?_eq_some_iff.1 ho).1
  have := List.all_eq_true.1 h j (by simpa using hlt)
  rw [ho] at this
  simp only [Bool.and_eq_true] at this
  obtain ⟨h1, h2⟩ := this
  refine ⟨fun e i hi hne => ?_, fun hne e he => ?_, fun e he => ?_⟩
  · rw [if_pos e] at h1
    have := List.all_eq_true.1 h1 i (by simpa using hi)
    simp only [Bool.or_eq_true, beq_iff_eq, hne, false_or] at this
    obtain ⟨x, hx, hb⟩ := Array.any_eq_true.1 this
    simp only [Bool.and_eq_true, beq_iff_eq] at hb
    exact ⟨_, Array.getElem_mem hx, hb.1, hb.2⟩
  · rw [if_neg hne] at h1
    have := Array.all_eq_true_iff_forall_mem.1 h1 e he
    simpa using this
  · have := Array.all_eq_true_iff_forall_mem.1 h2 e he
    simpa using this
theorem getD_park {listed : Array Bool} {k j : Nat} (d : Bool) (h : j ≠ k) : (listed.setIfInBounds k true).getD j d = listed.getD j d := getD_set_ne d (Ne.symm h)
/-- Ready ones other than the last are the same. -/
theorem ready_park {k : Nat} (h : parkB md ops k = true) {listed : Array Bool} {j : Nat} (hj : j ≠ k) : j ∈ Region.ready md ops (listed.setIfInBounds k true) ↔ j ∈ Region.ready md ops listed := by
  rw [mem_ready, mem_ready, getD_park true hj]
  constructor
  · rintro ⟨h0, o, ho, hall⟩
    exact ⟨h0, o, ho, fun e he hb => by rw [← getD_park false ((park_spec h j o ho).2.1 hj e he)]; exact hall e he hb⟩
  · rintro ⟨h0, o, ho, hall⟩
    exact ⟨h0, o, ho, fun e he hb => by rw [getD_park false ((park_spec h j o ho).2.1 hj e he)]; exact hall e he hb⟩
/-- Where none of the others is ready all others have come up. -/
theorem all_listed {k : Nat} (h : parkB md ops k = true) {listed : Array Bool} (hs : listed.size = ops.size) (hr : ∀ j, j ≠ k → j ∉ Region.ready md ops listed) : ∀ j, j < ops.size → j ≠ k → listed.getD j true = true := by
  intro j
  induction j using Nat.strongRecOn with
  | _ j ih =>
    intro hj hk
    cases hl : listed.getD j true with
    | true => rfl
    | false =>
      exfalso
      apply hr j hk
      rw [mem_ready]
      obtain ⟨o, ho⟩ : ∃ o, ops[j]? = some o := ⟨_, Array.getElem?_eq_getElem hj⟩
      refine ⟨hl, o, ho, fun e he _ => ?_⟩
      have hlt := (park_spec h j o ho).2.2 e he
      have hne := (park_spec h j o ho).2.1 hk e he
      have := ih e.on hlt (by omega) hne
      rw [Array.getD_eq_getD_getElem?, Array.getElem?_eq_getElem (by omega)] at this ⊢
      simpa using this
theorem wpAny_park {Q : Exit → Act → World → Prop} {k : Nat} (h : parkB md ops k = true) (hk : k < ops.size) : ∀ (fuel : Nat) (listed : Array Bool) (a : Act) (w : World), listed.size = ops.size → listed.getD k true = false →
    wpAny P md ops (parkQ P ops Q k) fuel (listed.setIfInBounds k true) a w → wpAny P md ops Q (fuel + 1) listed a w := by
  intro fuel
  induction fuel with
  | zero =>
    intro listed a w hs hl hw
    obtain ⟨hr, hq⟩ := hw
    have others : ∀ j, j ≠ k → j ∉ Region.ready md ops listed := fun j hj hm => by
      have := (ready_park h hj).2 hm
      rw [hr] at this
      simp at this
    have hall := all_listed h hs others
    refine ⟨fun h0 => ?_, fun i hi => ?_⟩
    · exfalso
      obtain ⟨o, ho⟩ : ∃ o, ops[k]? = some o := ⟨_, Array.getElem?_eq_getElem hk⟩
      have : k ∈ Region.ready md ops listed := by
        rw [mem_ready]
        refine ⟨hl, o, ho, fun e he _ => ?_⟩
        have hlt := (park_spec h k o ho).2.2 e he
        have := hall e.on (by omega) (by omega)
        rw [Array.getD_eq_getD_getElem?, Array.getElem?_eq_getElem (by omega)] at this ⊢
        simpa using this
      rw [h0] at this
      simp at this
    · by_cases e : i = k
      · subst e
        exact wpOp_mono (fun a' w' hq' => wpAny_done hr hq' _) hq
      · exact absurd hi (others i e)
  | succ f ih =>
    intro listed a w hs hl hw
    obtain ⟨h0, hn⟩ := hw
    by_cases hr : Region.ready md ops (listed.setIfInBounds k true) = []
    · have others : ∀ j, j ≠ k → j ∉ Region.ready md ops listed := fun j hj hm => by
        have := (ready_park h hj).2 hm
        rw [hr] at this
        simp at this
      have hall := all_listed h hs others
      refine ⟨fun h1 => ?_, fun i hi => ?_⟩
      · exfalso
        obtain ⟨o, ho⟩ : ∃ o, ops[k]? = some o := ⟨_, Array.getElem?_eq_getElem hk⟩
        have : k ∈ Region.ready md ops listed := by
          rw [mem_ready]
          refine ⟨hl, o, ho, fun e he _ => ?_⟩
          have hlt := (park_spec h k o ho).2.2 e he
          have := hall e.on (by omega) (by omega)
          rw [Array.getD_eq_getD_getElem?, Array.getElem?_eq_getElem (by omega)] at this ⊢
          simpa using this
        rw [h1] at this
        simp at this
      · by_cases e : i = k
        · subst e
          exact wpOp_mono (fun a' w' hq' => wpAny_done hr hq' _) (h0 hr)
        · exact absurd hi (others i e)
    · obtain ⟨j, hj⟩ := List.exists_mem_of_ne_nil _ hr
      have hjk : j ≠ k := fun e => by
        subst e
        have := (mem_ready.1 hj).1
        rw [Array.getD_eq_getD_getElem?, Array.getElem?_setIfInBounds_self_of_lt (by omega)] at this
        simp at this
      have hjl : listed.getD j true = false := by
        have := (mem_ready.1 hj).1
        rwa [getD_park true hjk] at this
      have hjs : j < ops.size := by
        obtain ⟨_, o, ho, _⟩ := mem_ready.1 hj
        exact (Array.getElem?_eq_some_iff.1 ho).1
      have notk : k ∉ Region.ready md ops listed := fun hm => by
        obtain ⟨_, o, ho, hall⟩ := mem_ready.1 hm
        obtain ⟨e, he, hb, rfl⟩ := (park_spec h k o ho).1 rfl j hjs hjk
        have := hall e he hb
        rw [Array.getD_eq_getD_getElem?, Array.getElem?_eq_getElem (by omega)] at this hjl
        simp at this hjl
        rw [this] at hjl
        cases hjl
      refine ⟨fun h1 => ?_, fun i hi => ?_⟩
      · exfalso
        have := (ready_park h hjk).1 hj
        rw [h1] at this
        simp at this
      · have hik : i ≠ k := fun e => notk (e ▸ hi)
        refine wpOp_mono (fun a' w' hq' => ih (listed.setIfInBounds i true) a' w' (by simpa using hs) (by rw [getD_set_ne true hik]; exact hl) ?_) (wpOp_park (hn i ((ready_park h hik).2 hi)))
        rw [Array.setIfInBounds_comm _ _ (Ne.symm hik)] at hq'
        exact hq'
theorem wp_region_park {Q : Exit → Act → World → Prop} {id k n : Nat} {a : Act} {w : World} (S : World → Prop) (hm : P.follows .mixedOrders = true) (hp : parkB .any ops k = true) (hk : k < ops.size) (hn : ops.size = n + 1)
    (h : wpAnyH P .any ops (parkQ P ops Q k) S n ((Array.replicate (n + 1) false).setIfInBounds k true) a w.drew) : (Code.region id ops true).wp P Q a w := by
  refine wp_region_any hm ?_
  rw [hn]
  refine wpAny_park hp hk n _ a _ (by simp [hn]) ?_ (wpAny_of_held _ _ _ _ h)
  rw [Array.getD_eq_getD_getElem?, Array.getElem?_replicate, if_pos (by omega)]
  rfl
theorem park_last {Q : Exit → Act → World → Prop} {k : Nat} {o : Oper} {a : Act} {w : World} (ho : ops[k]? = some o)
    (h : ∀ K' : Act → World → Prop, Shut (∀ a w, Q .normal a w → K' a w) → if Region.wanted o (yielded ops a.tmps) = true then Oper.wp P o a w K' Q else K' (a.put o.dst undef) w) : parkQ P ops Q k .normal a w :=
  wpOp_step ho (fun K' hK => h K' (fun a w hQ => hK a w hQ))
end Go.Proofs.Ytblfldjlehjnbaa

namespace Go.Proofs.Ytblfldjlehjnbaa
open Go.RowKit
/-- A matrix as a value. -/
abbrev mv (r c : Int) (a : Option Addr) (n k : Nat) : Value := .agg #[.int .i64 r, .int .i64 c, .slice a n k]
/-- Right, in numbers. -/
def RightP (r c : Int) (n : Nat) : Prop := 0 ≤ r ∧ r ≤ 64 ∧ 0 ≤ c ∧ c ≤ 64 ∧ (n : Int) = r * c
theorem mul_small {r c : Int} (h1 : 0 ≤ r) (h2 : r ≤ 64) (h3 : 0 ≤ c) (h4 : c ≤ 64) : 0 ≤ r * c ∧ r * c ≤ 4096 :=
  ⟨Int.mul_nonneg h1 h3, Int.le_trans (Int.mul_le_mul_of_nonneg_right h2 h3) (by omega)⟩
theorem alloc_low (w : World) (o : Obj) : Below w.heap.size w (w.alloc o) := (Below.refl _ _).alloc (Nat.le_refl _) _
/-- A variable of three cells: a matrix's. -/
def Vr (w : World) (b : Nat) (x y z : Value) : Prop := w.heap[b]? = some (.cells #[x, y, z] 24 (0, 0))
theorem Vr.lt {w : World} {b : Nat} {x y z : Value} (h : Vr w b x y z) : b < w.heap.size := lt_of_block h
theorem Vr.c0 {w : World} {b : Nat} {x y z : Value} (h : Vr w b x y z) : w.cell? ⟨b, 0, none⟩ = some x := by rw [cell_of_row w b 0 _ _ _ h]; rfl
theorem Vr.c1 {w : World} {b : Nat} {x y z : Value} (h : Vr w b x y z) : w.cell? ⟨b, 1, none⟩ = some y := by rw [cell_of_row w b 1 _ _ _ h]; rfl
theorem Vr.c2 {w : World} {b : Nat} {x y z : Value} (h : Vr w b x y z) : w.cell? ⟨b, 2, none⟩ = some z := by rw [cell_of_row w b 2 _ _ _ h]; rfl
theorem Vr.free {w : World} {b : Nat} {x y z : Value} (h : Vr w b x y z) (i : Nat) : w.frozen? ⟨b, i, none⟩ = false := by
  unfold Vr at h
  simp [World.frozen?, h]
theorem Vr.later {w w' : World} {b : Nat} {x y z : Value} (h : Vr w b x y z) (hb : Below w.heap.size w w') : Vr w' b x y z := by unfold Vr; rw [hb.block b h.lt]; exact h
theorem Vr.kept {w w' : World} {b g : Nat} {x y z : Value} (h : Vr w b x y z) (hg : w.grownBy w' (some g)) (hne : b ≠ g) : Vr w' b x y z := by unfold Vr; rw [hg.block b h.lt (by simpa using hne)]; exact h
theorem Vr.new (w : World) (x y z : Value) : Vr (w.alloc (.cells #[x, y, z] 24)) w.heap.size x y z := new_at w _
theorem size24 : (Try.prog.info? 24).map (·.size) = some 3 := by kernel_rfl
theorem Vr.set0 {w : World} {b : Nat} {x y z : Value} (h : Vr w b x y z) (v : Value) : Vr (w.setCell ⟨b, 0, none⟩ v) b v y z := by
  unfold Vr at *
  rw [setCell_eq_setRow w b 0 _ _ (0, 0) _ h, setRow_heap w b _ _ _ (0, 0) h]; rfl
theorem Vr.set1 {w : World} {b : Nat} {x y z : Value} (h : Vr w b x y z) (v : Value) : Vr (w.setCell ⟨b, 1, none⟩ v) b x v z := by
  unfold Vr at *
  rw [setCell_eq_setRow w b 1 _ _ (0, 0) _ h, setRow_heap w b _ _ _ (0, 0) h]; rfl
theorem Vr.set2 {w : World} {b : Nat} {x y z : Value} (h : Vr w b x y z) (v : Value) : Vr (w.setCell ⟨b, 2, none⟩ v) b x y v := by
  unfold Vr at *
  rw [setCell_eq_setRow w b 2 _ _ (0, 0) _ h, setRow_heap w b _ _ _ (0, 0) h]; rfl
theorem Vr.there {w : World} {b : Nat} {x y z : Value} (h : Vr w b x y z) : w.there b 0 3 := by
  intro j hj
  rcases (by omega : j = 0 ∨ j = 1 ∨ j = 2) with rfl | rfl | rfl
  · exact ⟨by rw [Nat.zero_add, h.c0]; rfl, h.free _⟩
  · exact ⟨by rw [Nat.zero_add, h.c1]; rfl, h.free _⟩
  · exact ⟨by rw [Nat.zero_add, h.c2]; rfl, h.free _⟩
theorem wpList_store_var {ops : Array Oper} {rest : List Oper} {op : Oper} {a : Act} {w : World} {Q : Exit → Act → World → Prop} (hgd : op.guard = none) (p q : Operand) (ho : op.op = .store 24 p q)
    (b : Nat) (x y z x' y' z' : Value) (hp : a.eval p = .pointer (some ⟨b, 0, none⟩)) (hq : a.eval q = .agg #[x', y', z']) (hv : Vr w b x y z) (h0 : x'.oneCell' = true) (h1 : y'.oneCell' = true) (h2 : z'.oneCell' = true)
    (h : ∀ w', Hid (Vr w' b x' y' z') → Hid (w.grownBy w' (some b)) → wpList Try.prog ops Q rest (a.put op.dst undef) w') : wpList Try.prog ops Q (op :: rest) a w :=
  wpList_store_mid hgd 24 p q ho b 0 #[x', y', z'] hp hq hv.there size24 (by simp [h0, h1, h2]) (h _ (((hv.set0 x').set1 y').set2 z') (grown_trans (grown_trans (grown_setCell _ _ _ _) (grown_setCell _ _ _ _)) (grown_setCell _ _ _ _)))
set_option maxHeartbeats 400000 in
theorem right_yes (w : World) (r c : Int) (a : Option Addr) (n k : Nat) (h : RightP r c n) :
    Calls Try.prog 30 #[mv r c a n k] w fun e w' => e = .returned (.bool true) ∧ Below w.heap.size w w' := by
  obtain ⟨h1, h2, h3, h4, h5⟩ := h
  have hm := mul_small h1 h2 h3 h4
  have hw : IntKind.i64.wrap (r * c) = r * c := by rw [IntKind.wrap_i64]; omega
  have g1 : decide (0 ≤ r) = true := by simpa using h1
  have g2 : decide (r ≤ 64) = true := by simpa using h2
  have g3 : decide (0 ≤ c) = true := by simpa using h3
  have g4 : decide (c ≤ 64) = true := by simpa using h4
  have g5 : ((n : Int) == r * c) = true := by simpa using h5
  clear h5 hm
  go_enter Try.func30, Try.ntmps30
  go_wp2
  go_ret
  exact ⟨rfl, alloc_low _ _⟩
set_option maxHeartbeats 1000000 in
theorem right_no (w : World) (r c : Int) (a : Option Addr) (n k : Nat) (h : ¬ RightP r c n) :
    Calls Try.prog 30 #[mv r c a n k] w fun e w' => e = .returned (.bool false) ∧ Below w.heap.size w w' := by
  by_cases h1 : 0 ≤ r
  · by_cases h2 : r ≤ 64
    · by_cases h3 : 0 ≤ c
      · by_cases h4 : c ≤ 64
        · have h5 : ¬ ((n : Int) = r * c) := fun e => h ⟨h1, h2, h3, h4, e⟩
          have hm := mul_small h1 h2 h3 h4
          have hw : IntKind.i64.wrap (r * c) = r * c := by rw [IntKind.wrap_i64]; omega
          have g1 : decide (0 ≤ r) = true := by simpa using h1
          have g2 : decide (r ≤ 64) = true := by simpa using h2
          have g3 : decide (0 ≤ c) = true := by simpa using h3
          have g4 : decide (c ≤ 64) = true := by simpa using h4
          have g5 : ((n : Int) == r * c) = false := by simpa using h5
          clear h h5 hm
          go_enter Try.func30, Try.ntmps30
          go_wp2
          go_ret
          exact ⟨rfl, alloc_low _ _⟩
        · have g4 : decide (c ≤ 64) = false := by simpa using h4
          clear h
          go_enter Try.func30, Try.ntmps30
          go_wp2
          go_ret
          exact ⟨rfl, alloc_low _ _⟩
      · have g3 : decide (0 ≤ c) = false := by simpa using h3
        clear h
        go_enter Try.func30, Try.ntmps30
        go_wp2
        go_ret
        exact ⟨rfl, alloc_low _ _⟩
    · have g2 : decide (r ≤ 64) = false := by simpa using h2
      clear h
      go_enter Try.func30, Try.ntmps30
      go_wp2
      go_ret
      exact ⟨rfl, alloc_low _ _⟩
  · have g1 : decide (0 ≤ r) = false := by simpa using h1
    clear h
    go_enter Try.func30, Try.ntmps30
    go_wp2
    go_ret
    exact ⟨rfl, alloc_low _ _⟩
set_option maxHeartbeats 400000 in
theorem at3_any (w : World) (r : Int) (c i j n k v : Nat) (a : Option Addr) (f : Nat → Nat) (h : Sl w a n f) (hi : i * c + j < n) (hn : n ≤ 4096) (HV : Hid (f (i * c + j) = v)) :
    Calls Try.prog 32 #[mv r c a n k, .int .i64 (i : Int), .int .i64 (j : Int)] w fun e w' => e = .returned (.int .u8 (v : Int)) ∧ Below w.heap.size w w' := by
  obtain ⟨b, o, ea, hcl⟩ := h.2 _ hi
  rw [HV.out] at hcl
  have hlt := cell_lt hcl
  obtain ⟨p, HP⟩ : ∃ p, Hid (i * c + j = p) := ⟨_, rfl⟩
  rw [HP.out] at hcl hi
  have hb : i * c ≤ p := by rw [← HP.out]; omega
  have e1 : ((i : Int) * (c : Int)) = ((i * c : Nat) : Int) := by simp
  have w1 : IntKind.i64.wrap ((i : Int) * (c : Int)) = (i : Int) * (c : Int) := by rw [e1, IntKind.wrap_i64]; omega
  have w2 : IntKind.i64.wrap ((i : Int) * (c : Int) + (j : Int)) = (p : Int) := by rw [e1, IntKind.wrap_i64]; have := HP.out; omega
  have hcl2 : (w.alloc (.cells #[.int .i64 r, .int .i64 (c : Int), .slice (some ⟨b, o, none⟩) n k] 24)).cell? ⟨b, o + p, none⟩ = some (.int .u8 (v : Int)) := by rw [(alloc_low w _).cell (p := ⟨b, o + p, none⟩) hlt]; exact hcl
  clear h hcl e1
  subst ea
  go_enter Try.func32, Try.ntmps32
  go_wp2
  go_ret
  exact ⟨rfl, alloc_low _ _⟩
set_option maxHeartbeats 400000 in
theorem zero_any (w : World) (r c n : Nat) (hr : r ≤ 64) (hc : c ≤ 64) (HN : Hid (r * c = n)) :
    Calls Try.prog 51 #[.int .i64 (r : Int), .int .i64 (c : Int)] w fun e w' => ∃ g, e = .returned (mv r c (some ⟨g, 0, none⟩) n n) ∧ RowAt w' g 5 n (fun _ => 0) ∧ w.heap.size ≤ g ∧ Below w.heap.size w w' := by
  obtain ⟨i0, hi, hz0, hz1, hz2⟩ := info_parts info8
  have hn : n ≤ 4096 := by rw [← HN.out]; exact Nat.mul_le_mul hr hc
  have e1 : ((r : Int) * (c : Int)) = (n : Int) := by rw [← HN.out]; simp
  have hw : IntKind.i64.wrap (n : Int) = (n : Int) := by rw [IntKind.wrap_i64]; omega
  have hml : n ≤ maxLen := by unfold maxLen; omega
  go_enter Try.func51, Try.ntmps51
  go_wp2_with (first
    | (at_make; refine wpList_make_full _ rfl _ _ 22 rfl (w.heap.size + 1) 5 i0 (.int .u8 0) 1 Try.underlying22 hi hz0 hz1 .i64 .i64 _ _ n rfl rfl rfl rfl (by rw [hz2]; omega) hml (by simp) ?_; intro w1 hown hgrow; have HR : Hid (RowAt w1 (w.heap.size + 1) 5 n (fun _ => 0)) := by { show RowAt _ _ _ _ _; have := made_at hown; simpa using this }; have HB : Hid (Below w.heap.size w w1) := two_below (alloc_low _ _) (grown_none.mp hgrow); have HV : Hid (Vr w1 w.heap.size (.int .i64 0) (.int .i64 0) (.slice none 0 0)) := (Vr.new w _ _ _).later (grown_none.mp hgrow); clear hown hgrow)
    | (refine wpList_store_var rfl _ _ rfl w.heap.size _ _ _ (.int .i64 (r : Int)) (.int .i64 (c : Int)) (.slice (some ⟨w.heap.size + 1, 0, none⟩) n n) rfl rfl HV.out rfl rfl rfl ?_; intro w2 HV2 HG2))
  have c0 := HV2.out.c0
  have c1 := HV2.out.c1
  have c2 := HV2.out.c2
  refine bodyPost_ret (v := mv r c (some ⟨w.heap.size + 1, 0, none⟩) n n) (by simp [results, Try.results51, go_sem, c0, c1, c2, mv]) rfl ?_
  exact ⟨_, rfl, HR.out.kept HG2.out (by omega), by omega, below_row HB.out HG2.out (Nat.le_refl _)⟩
end Go.Proofs.Ytblfldjlehjnbaa

namespace Go.Proofs.Ytblfldjlehjnbaa
open Go.RowKit
/-! Lists that are not the same. -/
/-- Are two lists the same? -/
def sameB (n m : Nat) (f h : Nat → Nat) : Bool := decide (n = m ∧ ∀ i, i < n → f i = h i)
theorem u8_inj {x y : Nat} (hx : x < 256) (hy : y < 256) (e : UInt8.ofNat x = UInt8.ofNat y) : x = y := by
  have := congrArg UInt8.toNat e
  simp at this
  omega
theorem str_list (n : Nat) (f : Nat → Nat) : (strOf n f).toList = (List.range n).map fun i => UInt8.ofNat (f i) := by
  unfold strOf
  rw [Go.Lib.strOfNums_toList]
  simp [Go.Lib.bytesOf]
theorem sameB_str {n m : Nat} {f h : Nat → Nat} (hf : ∀ i, i < n → f i < 256) (hh : ∀ i, i < m → h i < 256) : ((strOf n f).toList == (strOf m h).toList) = sameB n m f h := by
  rw [str_list, str_list, Bool.eq_iff_iff]
  unfold sameB
  rw [decide_eq_true_iff, beq_iff_eq]
  constructor
  · intro e
    have hl : n = m := by simpa using congrArg List.length e
    subst hl
    refine ⟨rfl, fun i hi => ?_⟩
    have := congrArg (fun l => l[i]?) e
    simp [hi] at this
    exact u8_inj (hf i hi) (hh i hi) (by simpa using this)
  · rintro ⟨rfl, e⟩
    apply List.map_congr_left
    intro i hi
    rw [e i (by simpa using hi)]
set_option maxHeartbeats 400000 in
theorem same_exact (w : World) (a b : Option Addr) (n m c d : Nat) (f h : Nat → Nat) (ha : Sl w a n f) (hb : Sl w b m h) :
    Calls Try.prog 34 #[.slice a n c, .slice b m d] w fun e w' => e = .returned (.bool (sameB n m f h)) ∧ w = w' := by
  have h1 : (convert 22 9 (.slice a n c)).run Try.prog w = .ok (.string (strOf n f)) w := sl_string ha
  have h2 : (convert 22 9 (.slice b m d)).run Try.prog w = .ok (.string (strOf m h)) w := sl_string hb
  rw [← sameB_str ha.1 hb.1]
  obtain ⟨s, hs⟩ : ∃ s, strOf n f = s := ⟨_, rfl⟩
  obtain ⟨t, ht⟩ : ∃ s, strOf m h = s := ⟨_, rfl⟩
  rw [hs, ht]
  rw [hs] at h1
  rw [ht] at h2
  clear hs ht ha hb
  go_enter Try.func34, Try.ntmps34
  go_wp2
  go_ret
  exact ⟨rfl, rfl⟩
/-- Alike, in numbers. -/
def likeB (r c r' c' : Int) (n m : Nat) (f h : Nat → Nat) : Bool := (r == r') && ((c == c') && sameB n m f h)
set_option maxHeartbeats 1000000 in
theorem like_exact (w : World) (r c r' c' : Int) (a b : Option Addr) (n m k d : Nat) (f h : Nat → Nat) (ha : Sl w a n f) (hb : Sl w b m h) :
    Calls Try.prog 29 #[mv r c a n k, mv r' c' b m d] w fun e w' => e = .returned (.bool (likeB r c r' c' n m f h)) ∧ Below w.heap.size w w' := by
  have HA : Hid (Sl ((w.alloc (.cells #[.int .i64 r, .int .i64 c, .slice a n k] 24)).alloc (.cells #[.int .i64 r', .int .i64 c', .slice b m d] 24)) a n f) := (ha.later (alloc_low _ _)).later (alloc_low _ _)
  have HB : Hid (Sl ((w.alloc (.cells #[.int .i64 r, .int .i64 c, .slice a n k] 24)).alloc (.cells #[.int .i64 r', .int .i64 c', .slice b m d] 24)) b m h) := (hb.later (alloc_low _ _)).later (alloc_low _ _)
  obtain ⟨s, HS⟩ : ∃ s, Hid (sameB n m f h = s) := ⟨_, rfl⟩
  clear ha hb
  cases g1 : (r == r') with
  | false =>
    rw [show likeB r c r' c' n m f h = false from by unfold likeB; rw [g1]; rfl]
    go_enter Try.func29, Try.ntmps29
    go_wp2
    go_ret
    exact ⟨rfl, two_below (alloc_low _ _) (alloc_low _ _)⟩
  | true =>
    cases g2 : (c == c') with
    | false =>
      rw [show likeB r c r' c' n m f h = false from by unfold likeB; rw [g1, g2]; rfl]
      go_enter Try.func29, Try.ntmps29
      go_wp2
      go_ret
      exact ⟨rfl, two_below (alloc_low _ _) (alloc_low _ _)⟩
    | true =>
      rw [show likeB r c r' c' n m f h = s from by unfold likeB; rw [g1, g2, HS.out]; rfl]
      go_enter Try.func29, Try.ntmps29
      go_wp2_with (go_at_call 34; refine (same_exact _ _ _ _ _ _ _ f h HA.out HB.out).mono ?_; rw [HS.out]; rintro e w' ⟨rfl, rfl⟩)
      go_ret
      exact ⟨rfl, two_below (alloc_low _ _) (alloc_low _ _)⟩
end Go.Proofs.Ytblfldjlehjnbaa

namespace Go.Proofs.Ytblfldjlehjnbaa
open Go.RowKit
/-- The identity's entries, the first k rows of it. -/
def idk (n k p : Nat) : Nat := if p % (n + 1) = 0 ∧ p / (n + 1) < k then 1 else 0
/-- The identity's entries. -/
def idf (n p : Nat) : Nat := if p % (n + 1) = 0 then 1 else 0
theorem idk_step (n k j : Nat) : (if j = k * n + k then 1 else idk n k j) = idk n (k + 1) j := by
  unfold idk
  have e : k * n + k = (n + 1) * k := by rw [Nat.mul_comm k n, Nat.add_mul, Nat.one_mul]
  by_cases h : j = k * n + k
  · rw [if_pos h, h, e, if_pos ⟨Nat.mul_mod_right _ _, by rw [Nat.mul_div_cancel_left _ (by omega)]; omega⟩]
  · rw [if_neg h]
    by_cases h0 : j % (n + 1) = 0
    · have hk : j / (n + 1) ≠ k := fun e2 => h (by have := Nat.div_add_mod j (n + 1); rw [h0, e2] at this; rw [e]; omega)
      by_cases h1 : j / (n + 1) < k
      · rw [if_pos ⟨h0, h1⟩, if_pos ⟨h0, by omega⟩]
      · rw [if_neg (fun x => h1 x.2), if_neg (fun x => by have := x.2; omega)]
    · rw [if_neg (fun x => h0 x.1), if_neg (fun x => h0 x.1)]
theorem idk_all (n j : Nat) (hj : j < n * n) : idk n n j = idf n j := by
  unfold idk idf
  have : j / (n + 1) < n := (Nat.div_lt_iff_lt_mul (by omega)).2 (Nat.lt_of_lt_of_le hj (Nat.mul_le_mul_left n (by omega)))
  by_cases h : j % (n + 1) = 0
  · rw [if_pos ⟨h, this⟩, if_pos h]
  · rw [if_neg (fun x => h x.1), if_neg h]
/-- The identity's entry (i, j). -/
theorem idf_at (n i j : Nat) (hi : i < n) (hj : j < n) : idf n (i * n + j) = if i = j then 1 else 0 := by
  unfold idf
  by_cases h : i = j
  · subst h
    rw [if_pos rfl, if_pos]
    rw [show i * n + i = (n + 1) * i by rw [Nat.mul_comm i n, Nat.add_mul, Nat.one_mul]]
    exact Nat.mul_mod_right _ _
  · rw [if_neg h, if_neg]
    intro h0
    apply h
    have e := Nat.div_add_mod (i * n + j) (n + 1)
    rw [h0, Nat.add_zero] at e
    obtain ⟨q, hq⟩ : ∃ q, (i * n + j) / (n + 1) = q := ⟨_, rfl⟩
    rw [hq, Nat.add_mul, Nat.one_mul] at e
    rcases Nat.lt_trichotomy q i with hl | he | hg
    · obtain ⟨d, rfl⟩ : ∃ d, i = q + d + 1 := ⟨i - q - 1, by omega⟩
      have h4 : (q + d + 1) * n = n * q + n * d + n := by rw [Nat.add_mul, Nat.add_mul, Nat.one_mul, Nat.mul_comm q, Nat.mul_comm d]
      have h5 : q = n * d + n + j := by omega
      have h6 : 0 ≤ n * d := Nat.zero_le _
      omega
    · subst he
      rw [Nat.mul_comm] at e
      omega
    · obtain ⟨d, rfl⟩ : ∃ d, q = i + d + 1 := ⟨q - i - 1, by omega⟩
      have : n * (i + d + 1) = i * n + n * d + n := by rw [Nat.mul_add, Nat.mul_add, Nat.mul_one, Nat.mul_comm n i]
      omega
end Go.Proofs.Ytblfldjlehjnbaa

namespace Go.Proofs.Ytblfldjlehjnbaa
open Go.RowKit
/-- Numbers of a matrix that is right. -/
structure Rt (r c n : Nat) : Prop where
  r64 : r ≤ 64
  c64 : c ≤ 64
  len : r * c = n
theorem Rt.p {r c n : Nat} (h : Rt r c n) : RightP r c n := ⟨by omega, by have := h.r64; omega, by omega, by have := h.c64; omega, by rw [← h.len]; simp⟩
theorem Rt.le {r c n : Nat} (h : Rt r c n) : n ≤ 4096 := by rw [← h.len]; exact Nat.mul_le_mul h.r64 h.c64
theorem Rt.at {r c n i j : Nat} (h : Rt r c n) (hi : i < r) (hj : j < c) : i * c + j < n := by
  rw [← h.len]
  exact Nat.lt_of_lt_of_le (show i * c + j < (i + 1) * c by rw [Nat.add_mul, Nat.one_mul]; omega) (Nat.mul_le_mul_right c hi)
theorem right_rt {r c : Int} {n : Nat} (h : RightP r c n) : ∃ r' c' : Nat, r = r' ∧ c = c' ∧ Rt r' c' n := by
  obtain ⟨h1, h2, h3, h4, h5⟩ := h
  obtain ⟨r', rfl⟩ := Int.eq_ofNat_of_zero_le h1
  obtain ⟨c', rfl⟩ := Int.eq_ofNat_of_zero_le h3
  exact ⟨r', c', rfl, rfl, by omega, by omega, by rw [← Int.natCast_mul] at h5; omega⟩
set_option maxRecDepth 20000 in
set_option maxHeartbeats 1000000 in
theorem rrow_ok (w : World) (r c n k i : Nat) (a : Option Addr) (F : Nat → Nat) (ha : Sl w a n F) (R : Rt r c n) (hi : i < r) :
    Calls Try.prog 68 #[mv r c a n k, .int .i64 (i : Int)] w fun e w' => ∃ v, e = .returned (.tuple #[v, .int .i64 0]) ∧ w'.ownsRow w.heap.size 5 1 v c (row c (fun j => F (i * c + j))).toList ∧ Below w.heap.size w w' := by
  obtain ⟨i0, hi0, hz0, hz1, hz2⟩ := info_parts info8
  have hc := R.c64
  have hn := R.le
  have hr := R.r64
  have HRt : Hid (Rt r c n) := R
  obtain ⟨p, HP⟩ : ∃ p : Nat → Nat, Hid ((fun j => F (i * c + j)) = p) := ⟨_, rfl⟩
  rw [HP.out]
  obtain ⟨wb, HW⟩ : ∃ wb, Hid (wb = w.alloc (.cells #[.int .i64 (r : Int), .int .i64 (c : Int), .slice a n k] 24)) := ⟨_, rfl⟩
  have HV0 : Hid (Vr wb w.heap.size (.int .i64 (r : Int)) (.int .i64 (c : Int)) (.slice a n k)) := by rw [HW.out]; exact Vr.new w _ _ _
  have HS0 : Hid (Sl wb a n F) := by rw [HW.out]; exact ha.later (alloc_low _ _)
  have HB0 : Hid (Below w.heap.size w wb) := by rw [HW.out]; exact alloc_low _ _
  have g1 : decide ((i : Int) < 0) = false := by simp
  have g2 : decide (r ≤ i) = false := by simp; omega
  clear ha R
  go_enter Try.func68, Try.ntmps68
  go_wp2_with (go_at_call 30; rw [← HW.out]; refine (right_yes _ _ _ _ _ _ HRt.out.p).mono ?_; rintro e w1 ⟨rfl, hb1⟩; have HV1 : Hid (Vr w1 w.heap.size (.int .i64 (r : Int)) (.int .i64 (c : Int)) (.slice a n k)) := HV0.out.later hb1; have HS1 : Hid (Sl w1 a n F) := HS0.out.later hb1; have HB1 : Hid (Below w.heap.size w w1) := two_below HB0.out hb1; have vc0 := HV1.out.c0; clear hb1)
  clear HW HV0 HS0 HB0 vc0
  go_loopw [6, 7] (fun v j wr => ∃ m : Nat, m ≤ c ∧ j = .int .i64 (m : Int) ∧ wr.ownsRow w1.heap.size 5 1 v m (row m p).toList ∧ Vr wr w.heap.size (.int .i64 (r : Int)) (.int .i64 (c : Int)) (.slice a n k) ∧ Below w1.heap.size w1 wr) (fun _ j _ => c - (intOf j).toNat)
  case atStart => exact ⟨0, by omega, rfl, by rw [row_empty]; exact World.ownsRow_nil _ _ _ _, HV1.out, Below.refl _ _⟩
  case round =>
    obtain ⟨m, hm, rfl, hown, hv, hbr⟩ := hrel
    have c0 := hv.c0
    have c1 := hv.c1
    have c2 := hv.c2
    have HO : Hid (wr.ownsRow w1.heap.size 5 1 u6 m (row m p).toList) := hown
    have HB : Hid (Below w1.heap.size w1 wr) := hbr
    have HV : Hid (Vr wr w.heap.size (.int .i64 (r : Int)) (.int .i64 (c : Int)) (.slice a n k)) := hv
    by_cases hlt : m < c
    · have HS : Hid (Sl wr a n F) := HS1.out.later hbr
      obtain ⟨x, HX⟩ : ∃ x, Hid (F (i * c + m) = x) := ⟨_, rfl⟩
      have HXp : Hid (p m = x) := by show _ = _; rw [← HX.out, ← HP.out]
      have hsz := hbr.size
      have vlt := HV1.out.lt
      have hml : m + 1 ≤ maxLen := by unfold maxLen; omega
      clear hown hbr hv
      go_wp2_with (first
        | (go_at_call 32; refine (at3_any _ _ c i m n k x a F HS.out (HRt.out.at hi hlt) hn HX).mono ?_; rintro e w5 ⟨rfl, hb5⟩; have HO5 : Hid (w5.ownsRow w1.heap.size 5 1 u6 m (row m p).toList) := HO.out.kept (grown_none.mpr hb5) (by cases hv : u6.ownBlock <;> simp); have HB5 : Hid (Below w1.heap.size w1 w5) := two_below HB.out hb5; have HV5 : Hid (Vr w5 w.heap.size (.int .i64 (r : Int)) (.int .i64 (c : Int)) (.slice a n k)) := HV.out.later hb5; have hsz5 := HB5.out.size; clear hb5)
        | (at_builtin; refine wpList_append_own _ rfl _ _ 22 rfl w1.heap.size 5 i0 (.int .u8 0) 1 1 Try.underlying22 hi0 hz0 hz1 hz2 rfl (by decide) _ m _ rfl (HO5.out.alloc _) ⟨w5.heap.size, 0, none⟩ 1 1 [.int .u8 (x : Int)] rfl rfl (one_new _ _ _) (one_one _) hml (by omega) (by simp; omega) ?_; intro v' w3 hown' hgrow' _; have HO3 : Hid (w3.ownsRow w1.heap.size 5 1 v' (m + 1) ((row m p).toList ++ [.int .u8 (x : Int)])) := hown'; have HB3 : Hid (Below w1.heap.size w1 w3) := grow_step HB5.out HO5.out hgrow' rfl; have HV3 : Hid (Vr w3 w.heap.size (.int .i64 (r : Int)) (.int .i64 (c : Int)) (.slice a n k)) := (HV1.out).later HB3.out; clear hown' hgrow'))
      exact ⟨⟨m + 1, by omega, by go_num, by rw [← row_snoc, HXp.out]; exact HO3.out, HV3.out, HB3.out⟩, by simp [intOf]; omega⟩
    · obtain rfl : m = c := by omega
      clear hown hbr hv
      go_wp2
      go_ret2
      have l1 := HB1.out.size
      refine ⟨_, rfl, ?_, two_below HB1.out HB.out⟩
      have := HO.out
      refine ⟨this.1, ?_⟩
      rcases this.2 with h' | ⟨g, cap, cur, e, hb, rr⟩
      · exact .inl h'
      · exact .inr ⟨g, cap, cur, e, by omega, rr⟩
end Go.Proofs.Ytblfldjlehjnbaa

namespace Go.Proofs.Ytblfldjlehjnbaa
open Go.RowKit
/-- The sum of the first k products of row p / cb and column p % cb. -/
def prk (F G : Nat → Nat) (ca cb k p : Nat) : Nat := xs (fun t => fm (F (p / cb * ca + t)) (G (t * cb + p % cb))) k
/-- The rows so far: all before q, at q the first k products. -/
def mdf (F G : Nat → Nat) (ca cb q k p : Nat) : Nat := if p < q then prk F G ca cb ca p else if p = q then prk F G ca cb k p else 0
theorem mdf_zero (F G : Nat → Nat) (ca cb p : Nat) : mdf F G ca cb 0 0 p = 0 := by
  unfold mdf
  rw [if_neg (by omega)]
  by_cases h : p = 0
  · rw [if_pos h]; rfl
  · rw [if_neg h]
theorem mdf_next (F G : Nat → Nat) (ca cb q p : Nat) : mdf F G ca cb q ca p = mdf F G ca cb (q + 1) 0 p := by
  unfold mdf
  by_cases h1 : p < q
  · rw [if_pos h1, if_pos (by omega)]
  · by_cases h2 : p = q
    · rw [if_neg h1, if_pos h2, if_pos (by omega)]
    · rw [if_neg h1, if_neg h2, if_neg (by omega)]
      by_cases h3 : p = q + 1
      · rw [if_pos h3]; rfl
      · rw [if_neg h3]
theorem mdf_here (F G : Nat → Nat) (ca cb q k : Nat) : mdf F G ca cb q k q = prk F G ca cb k q := by
  unfold mdf
  rw [if_neg (by omega), if_pos rfl]
theorem mdf_step (F G : Nat → Nat) (ca cb q k p : Nat) : (if p = q then prk F G ca cb (k + 1) q else mdf F G ca cb q k p) = mdf F G ca cb q (k + 1) p := by
  unfold mdf
  by_cases h2 : p = q
  · subst h2
    rw [if_pos rfl, if_neg (by omega), if_pos rfl]
  · rw [if_neg h2, if_neg h2, if_neg h2]
theorem prk_succ (F G : Nat → Nat) (ca cb i j k : Nat) (hj : j < cb) : prk F G ca cb (k + 1) (i * cb + j) = prk F G ca cb k (i * cb + j) ^^^ fm (F (i * ca + k)) (G (k * cb + j)) := by
  have h1 : (i * cb + j) / cb = i := by rw [Nat.mul_comm, Nat.mul_add_div (by omega), Nat.div_eq_of_lt hj, Nat.add_zero]
  have h2 : (i * cb + j) % cb = j := by rw [Nat.mul_comm, Nat.mul_add_mod, Nat.mod_eq_of_lt hj]
  unfold prk
  show xs _ k ^^^ _ = _
  rw [h1, h2]
theorem prk_lt {F : Nat → Nat} (G : Nat → Nat) {ra ca cb n i j k : Nat} (hF : ∀ i, i < n → F i < 256) (R : Rt ra ca n) (hi : i < ra) (hj : j < cb) (hk : k ≤ ca) : prk F G ca cb k (i * cb + j) < 256 := by
  have h1 : (i * cb + j) / cb = i := by rw [Nat.mul_comm, Nat.mul_add_div (by omega), Nat.div_eq_of_lt hj, Nat.add_zero]
  unfold prk
  rw [h1]
  exact xs_lt (fun t ht => fm_lt _ _ (hF _ (R.at hi (by omega))))
theorem keepc {w w' : World} {b o : Nat} {v : Value} (hb : Below w.heap.size w w') (h : w.cell? ⟨b, o, none⟩ = some v) : w'.cell? ⟨b, o, none⟩ = some v := by rw [hb.cell (p := ⟨b, o, none⟩) (cell_lt h)]; exact h
theorem keepf {w w' : World} {b o : Nat} {v : Value} (hb : Below w.heap.size w w') (hc : w.cell? ⟨b, o, none⟩ = some v) (h : w.frozen? ⟨b, o, none⟩ = false) : w'.frozen? ⟨b, o, none⟩ = false := by
  unfold World.frozen? at *
  rw [hb.block b (cell_lt hc)]; exact h
theorem keeps {w : World} {b o g p : Nat} {v x : Value} (hne : b ≠ g) (h : w.cell? ⟨b, o, none⟩ = some x) : (w.setCell ⟨g, p, none⟩ v).cell? ⟨b, o, none⟩ = some x := (grown_setCell w g p v).cell h (by intro e; apply hne; simpa using e)
/-- What the loops of a product keep. -/
structure MInv (w wr : World) (gd g6 ra ca rb cb na nb n ka kb : Nat) (a b : Option Addr) (fn : Nat → Nat) : Prop where
  va : Vr wr w.heap.size (.int .i64 (ra : Int)) (.int .i64 (ca : Int)) (.slice a na ka)
  vb : Vr wr (w.heap.size + 1) (.int .i64 (rb : Int)) (.int .i64 (cb : Int)) (.slice b nb kb)
  vr : Vr wr (w.heap.size + 1 + 1) (.int .i64 0) (.int .i64 0) (.slice none 0 0)
  vm : Vr wr g6 (.int .i64 (ra : Int)) (.int .i64 (cb : Int)) (.slice (some ⟨gd, 0, none⟩) n n)
  data : RowAt wr gd 5 n fn
  below : Below w.heap.size w wr
  d6 : gd ≠ g6
  dlow : w.heap.size + 1 + 1 < gd
theorem MInv.congr {w wr : World} {gd g6 ra ca rb cb na nb n ka kb : Nat} {a b : Option Addr} {fn fn' : Nat → Nat} (I : MInv w wr gd g6 ra ca rb cb na nb n ka kb a b fn) (e : ∀ p, p < n → fn p = fn' p) : MInv w wr gd g6 ra ca rb cb na nb n ka kb a b fn' :=
  ⟨I.va, I.vb, I.vr, I.vm, I.data.congr e, I.below, I.d6, I.dlow⟩
theorem MInv.later {w wr w' : World} {gd g6 ra ca rb cb na nb n ka kb : Nat} {a b : Option Addr} {fn : Nat → Nat} (I : MInv w wr gd g6 ra ca rb cb na nb n ka kb a b fn) (hb : Below wr.heap.size wr w') : MInv w w' gd g6 ra ca rb cb na nb n ka kb a b fn :=
  ⟨I.va.later hb, I.vb.later hb, I.vr.later hb, I.vm.later hb, I.data.later hb, two_below I.below hb, I.d6, I.dlow⟩
theorem MInv.set {w wr : World} {gd g6 ra ca rb cb na nb n ka kb q v : Nat} {a b : Option Addr} {fn : Nat → Nat} (I : MInv w wr gd g6 ra ca rb cb na nb n ka kb a b fn) : MInv w (wr.setCell ⟨gd, q, none⟩ (.int .u8 (v : Int))) gd g6 ra ca rb cb na nb n ka kb a b (fun p => if p = q then v else fn p) :=
  have d := I.dlow
  ⟨I.va.kept (grown_setCell _ _ _ _) (by omega), I.vb.kept (grown_setCell _ _ _ _) (by omega), I.vr.kept (grown_setCell _ _ _ _) (by omega), I.vm.kept (grown_setCell _ _ _ _) (Ne.symm I.d6), I.data.set q v, I.below.setCell (by show w.heap.size ≤ gd; omega) _, I.d6, I.dlow⟩
end Go.Proofs.Ytblfldjlehjnbaa

namespace Go.Proofs.Ytblfldjlehjnbaa
open Go.RowKit
/-- The entries transposed: r rows and c columns become c rows and r columns. -/
def trf (F : Nat → Nat) (r c p : Nat) : Nat := F (p % r * c + p / r)
theorem trf_at (F : Nat → Nat) (r c i j : Nat) (hi : i < r) : trf F r c (j * r + i) = F (i * c + j) := by
  unfold trf
  rw [Nat.mul_comm j r, Nat.mul_add_mod, Nat.mod_eq_of_lt hi, Nat.mul_add_div (by omega), Nat.div_eq_of_lt hi, Nat.add_zero]
theorem keepg {w w' : World} {b o : Nat} {x : Value} {row : Option Nat} (hg : w.grownBy w' row) (h : w.cell? ⟨b, o, none⟩ = some x) (hne : row ≠ some b) : w'.cell? ⟨b, o, none⟩ = some x := hg.cell h (fun e => hne e.symm)
theorem keepgf {w w' : World} {b o : Nat} {x : Value} {row : Option Nat} (hg : w.grownBy w' row) (hc : w.cell? ⟨b, o, none⟩ = some x) (h : w.frozen? ⟨b, o, none⟩ = false) (hne : row ≠ some b) : w'.frozen? ⟨b, o, none⟩ = false := by
  unfold World.frozen? at *
  rw [hg.block b (cell_lt hc) (fun e => hne e.symm)]; exact h
theorem Vr.grown {w w' : World} {b : Nat} {x y z : Value} {row : Option Nat} (h : Vr w b x y z) (hg : w.grownBy w' row) (hne : row ≠ some b) : Vr w' b x y z := by unfold Vr; rw [hg.block b h.lt (fun e => hne e.symm)]; exact h
theorem own_sl' {w : World} {base : Nat} {v : Value} {n : Nat} {ls : List Value} (h : w.ownsRow base 5 1 v n ls) : ∃ s d, v = .slice s n d ∧ n ≤ d ∧ True := by
  rcases h.2 with ⟨e, h0⟩ | ⟨g, cap, cur, e, _, _, hc, _⟩
  · subst h0; exact ⟨none, 0, e, Nat.le_refl _, trivial⟩
  · exact ⟨_, cap, e, hc, trivial⟩
/-- What the loops of Transpose keep. -/
structure TInv (w w1 wr : World) (g4 r c n k q : Nat) (a : Option Addr) (F : Nat → Nat) (v : Value) : Prop where
  vb : Vr wr w.heap.size (.int .i64 (r : Int)) (.int .i64 (c : Int)) (.slice a n k)
  vr : Vr wr (w.heap.size + 1) (.int .i64 0) (.int .i64 0) (.slice none 0 0)
  vt : Vr wr g4 (.int .i64 (c : Int)) (.int .i64 (r : Int)) v
  own : wr.ownsRow (g4 + 1) 5 1 v q (row q (trf F r c)).toList
  below : Below w1.heap.size w1 wr
theorem tinv_next {w w1 wr w5 w8 : World} {r c n k q q' p x gg cap : Nat} {a : Option Addr} {F : Nat → Nat} {v : Value} (I : TInv w w1 wr w1.heap.size r c n k q a F v) (hb5 : Below wr.heap.size wr w5)
    (ho : w5.ownsRow (w1.heap.size + 1) 5 1 v p (row p (trf F r c)).toList)
    (hown : w8.ownsRow (w1.heap.size + 1) 5 1 (.slice (some ⟨gg, 0, none⟩) (p + 1) cap) (p + 1) ((row p (trf F r c)).toList ++ [.int .u8 (x : Int)])) (hg : (w5.alloc (.cells #[.int .u8 (x : Int)] 5)).grownBy w8 v.ownBlock) (hx : trf F r c p = x) (hq : p + 1 = q') (hw : w.heap.size + 1 < w1.heap.size) :
    TInv w w1 (w8.setCell ⟨w1.heap.size, 2, none⟩ (.slice (some ⟨gg, 0, none⟩) (p + 1) cap)) w1.heap.size r c n k q' a F (.slice (some ⟨gg, 0, none⟩) (p + 1) cap) := by
  subst hq
  have base := own_base ho
  have gb := (own_block hown).1
  refine ⟨?_, ?_, ?_, ?_, ?_⟩
  · exact (((I.vb.later hb5).later (alloc_low _ _)).grown hg (fun e => by have := base _ e; omega)).kept (grown_setCell _ _ _ _) (by omega)
  · exact (((I.vr.later hb5).later (alloc_low _ _)).grown hg (fun e => by have := base _ e; omega)).kept (grown_setCell _ _ _ _) (by omega)
  · exact Vr.set2 (((I.vt.later hb5).later (alloc_low _ _)).grown hg (fun e => by have := base _ e; omega)) _
  · rw [← row_snoc, hx]
    exact hown.kept (grown_setCell _ _ _ _) (.inr (by simp [Value.ownBlock]; omega))
  · have b8 : Below w1.heap.size w1 w8 := ((two_below I.below hb5).alloc (two_below I.below hb5).size _).grown hg (by have := (two_below I.below hb5).size; simp; omega) (fun k hk => by have := base k hk; omega)
    exact b8.setCell (Nat.le_refl _) _
set_option maxRecDepth 20000 in
set_option maxHeartbeats 4000000 in
theorem rtrans_ok (w : World) (r c n k : Nat) (a : Option Addr) (F : Nat → Nat) (ha : Sl w a n F) (R : Rt r c n) :
    Calls Try.prog 35 #[mv r c a n k] w fun e w' => ∃ s d, e = .returned (.tuple #[mv c r s n d, .int .i64 0]) ∧ w'.ownsRow w.heap.size 5 1 (.slice s n d) n (row n (trf F r c)).toList ∧ Below w.heap.size w w' := by
  obtain ⟨i0, hi0, hz0, hz1, hz2⟩ := info_parts info8
  have HRt : Hid (Rt r c n) := R
  have hn := R.le
  have hr := R.r64
  have hc := R.c64
  obtain ⟨wb, HW⟩ : ∃ wb, Hid (wb = (w.alloc (.cells #[.int .i64 (r : Int), .int .i64 (c : Int), .slice a n k] 24)).alloc (.cells #[.int .i64 0, .int .i64 0, .slice none 0 0] 24)) := ⟨_, rfl⟩
  have HVb : Hid (Vr wb w.heap.size (.int .i64 (r : Int)) (.int .i64 (c : Int)) (.slice a n k)) := by rw [HW.out]; exact (Vr.new w _ _ _).later (alloc_low _ _)
  have HVr : Hid (Vr wb (w.heap.size + 1) (.int .i64 0) (.int .i64 0) (.slice none 0 0)) := by show Vr _ _ _ _ _; rw [HW.out]; have := Vr.new (w.alloc (.cells #[.int .i64 (r : Int), .int .i64 (c : Int), .slice a n k] 24)) (.int .i64 0) (.int .i64 0) (.slice none 0 0); simpa using this
  have HB0 : Hid (Below w.heap.size w wb) := by rw [HW.out]; exact two_below (alloc_low _ _) (alloc_low _ _)
  have HSa : Hid (Sl w a n F) := ha
  clear ha R
  go_enter Try.func35, Try.ntmps35
  go_wp2_with (go_at_call 30; rw [← HW.out]; refine (right_yes _ _ _ _ _ _ HRt.out.p).mono ?_; rintro e w1 ⟨rfl, hb1⟩; have HB1 : Hid (Below wb.heap.size wb w1) := hb1; have b0 := (HVb.out.later hb1).c0; have b1 := (HVb.out.later hb1).c1; clear hb1)
  have HI0 : Hid (TInv w w1 (w1.alloc (.cells #[.int .i64 (c : Int), .int .i64 (r : Int), .slice none 0 0] 24)) w1.heap.size r c n k 0 a F (.slice none 0 0)) :=
    ⟨(HVb.out.later HB1.out).later (alloc_low _ _), (HVr.out.later HB1.out).later (alloc_low _ _), Vr.new w1 _ _ _, by rw [row_empty]; exact World.ownsRow_nil _ _ _ _, alloc_low _ _⟩
  have HBw : Hid (Below w.heap.size w w1) := two_below HB0.out HB1.out
  have l1 := HVr.out.lt
  have l2 := HB1.out.size
  have l3 := HB0.out.size
  clear HW HVb HVr HB0 HB1 b0 b1
  go_loopw [5] (fun j wr => ∃ (m : Nat) (v : Value), m ≤ c ∧ j = .int .i64 (m : Int) ∧ TInv w w1 wr w1.heap.size r c n k (m * r) a F v) (fun j _ => c - (intOf j).toNat)
  case atStart => exact ⟨0, _, by omega, rfl, by rw [Nat.zero_mul]; exact HI0.out⟩
  case round =>
    clear HI0
    obtain ⟨m, v, hm, rfl, I⟩ := hrel
    have HI : Hid (TInv w w1 wr w1.heap.size r c n k (m * r) a F v) := I
    have b1 := I.vb.c1
    clear I
    by_cases hlt : m < c
    · go_wp2
      go_loopw [6] (fun i wi => ∃ (q : Nat) (v : Value), q ≤ r ∧ i = .int .i64 (q : Int) ∧ TInv w w1 wi w1.heap.size r c n k (m * r + q) a F v) (fun i _ => r - (intOf i).toNat)
      case atStart => exact ⟨0, v, by omega, rfl, HI.out⟩
      case round =>
        clear HI b1
        obtain ⟨q, v, hq, rfl, I⟩ := hrel
        have HI : Hid (TInv w w1 wr w1.heap.size r c n k (m * r + q) a F v) := I
        have b0 := I.vb.c0
        by_cases hlq : q < r
        · have b1 := I.vb.c1
          have b2 := I.vb.c2
          have t2 := I.vt.c2
          have tf := I.vt.free 2
          obtain ⟨p, HP⟩ : ∃ p, Hid (m * r + q = p) := ⟨_, rfl⟩
          have hpn : p < n := by
            rw [← HP.out, ← HRt.out.len, Nat.mul_comm r c]
            exact Nat.lt_of_lt_of_le (show m * r + q < (m + 1) * r by rw [Nat.add_mul, Nat.one_mul]; omega) (Nat.mul_le_mul_right r hlt)
          obtain ⟨x, HX⟩ : ∃ x, Hid (F (q * c + m) = x) := ⟨_, rfl⟩
          have HXt : Hid (trf F r c p = x) := by show _ = _; rw [← HP.out, trf_at F r c q m hlq, HX.out]
          have HO : Hid (wr.ownsRow (w1.heap.size + 1) 5 1 v p (row p (trf F r c)).toList) := by rw [← HP.out]; exact I.own
          have hml : p + 1 ≤ maxLen := by unfold maxLen; omega
          have HAt : Hid (Calls Try.prog 32 #[.agg #[.int .i64 (r : Int), .int .i64 (c : Int), .slice a n k], .int .i64 (q : Int), .int .i64 (m : Int)] wr.drew fun e w'' => e = .returned (.int .u8 (x : Int)) ∧ Below wr.drew.heap.size wr.drew w'') := at3_any wr.drew _ c q m n k x a F (HSa.out.later (two_below HBw.out (I.below.drew))) (HRt.out.at hlq hlt) hn HX
          have t2d : wr.drew.cell? ⟨w1.heap.size, 2, none⟩ = some v := t2
          have tfd : wr.drew.frozen? ⟨w1.heap.size, 2, none⟩ = false := tf
          have b0d : wr.drew.cell? ⟨w.heap.size, 0, none⟩ = some (.int .i64 (r : Int)) := b0
          have b1d : wr.drew.cell? ⟨w.heap.size, 1, none⟩ = some (.int .i64 (c : Int)) := b1
          have b2d : wr.drew.cell? ⟨w.heap.size, 2, none⟩ = some (.slice a n k) := b2
          have hsz := I.below.size
          have hg4 := I.vt.lt
          have HD : Hid ((fun w' => w'.cell? ⟨w1.heap.size, 2, none⟩ = some v ∧ w'.frozen? ⟨w1.heap.size, 2, none⟩ = false ∧ w'.cell? ⟨w.heap.size, 0, none⟩ = some (.int .i64 (r : Int)) ∧ w'.cell? ⟨w.heap.size, 1, none⟩ = some (.int .i64 (c : Int)) ∧ w'.cell? ⟨w.heap.size, 2, none⟩ = some (.slice a n k)) wr.drew) := ⟨t2, tf, b0, b1, b2⟩
          clear I
          go_wp2
          refine wp_region_park (k := 9) (n := 9) (fun w' => w'.cell? ⟨w1.heap.size, 2, none⟩ = some v ∧ w'.frozen? ⟨w1.heap.size, 2, none⟩ = false ∧ w'.cell? ⟨w.heap.size, 0, none⟩ = some (.int .i64 (r : Int)) ∧ w'.cell? ⟨w.heap.size, 1, none⟩ = some (.int .i64 (c : Int)) ∧ w'.cell? ⟨w.heap.size, 2, none⟩ = some (.slice a n k)) (by kernel_rfl) (by kernel_rfl) (by decide) (by rfl) ?_
          refine wpAnyH_take (i := 0) (v := ?v0) rfl (by kernel_rfl) (by kernel_rfl) (by kernel_rfl) (fun _ _ _ h => h) (Or.inl ⟨by rfl, ?y0⟩) HD.out ?z0
          case y0 => (intro w hSw; (try dsimp only at hSw); go_simp; try with_reducible rfl)
          try simp only [List.getElem_toArray, List.getElem_cons_zero, Act.put, List.setIfInBounds_toArray, List.set_cons_zero, List.set_cons_succ]
          refine wpAnyH_take (i := 1) (v := ?v1) rfl (by kernel_rfl) (by kernel_rfl) (by kernel_rfl) (fun _ _ _ h => h) (Or.inl ⟨by rfl, ?y1⟩) HD.out ?z1
          case y1 => (intro w hSw; (try dsimp only at hSw); go_simp; try with_reducible rfl)
          try simp only [List.getElem_toArray, List.getElem_cons_succ, List.getElem_cons_zero, Act.put, List.setIfInBounds_toArray, List.set_cons_zero, List.set_cons_succ]
          refine wpAnyH_take (i := 2) (v := ?v2) rfl (by kernel_rfl) (by kernel_rfl) (by kernel_rfl) (fun _ _ _ h => h) (Or.inl ⟨by rfl, ?y2⟩) HD.out ?z2
          case y2 => (intro w hSw; (try dsimp only at hSw); go_simp; try with_reducible rfl)
          try simp only [List.getElem_toArray, List.getElem_cons_succ, List.getElem_cons_zero, Act.put, List.setIfInBounds_toArray, List.set_cons_zero, List.set_cons_succ]
          refine wpAnyH_take (i := 3) (v := ?v3) rfl (by kernel_rfl) (by kernel_rfl) (by kernel_rfl) (fun _ _ _ h => h) (Or.inl ⟨by rfl, ?y3⟩) HD.out ?z3
          case y3 => (intro w hSw; (try dsimp only at hSw); go_simp; try with_reducible rfl)
          try simp only [List.getElem_toArray, List.getElem_cons_succ, List.getElem_cons_zero, Act.put, List.setIfInBounds_toArray, List.set_cons_zero, List.set_cons_succ]
          refine wpAnyH_take (i := 4) (v := ?v4) rfl (by kernel_rfl) (by kernel_rfl) (by kernel_rfl) (fun _ _ _ h => h) (Or.inl ⟨by rfl, ?y4⟩) HD.out ?z4
          case y4 => (intro w hSw; (try dsimp only at hSw); go_simp; try with_reducible rfl)
          try simp only [List.getElem_toArray, List.getElem_cons_succ, List.getElem_cons_zero, Act.put, List.setIfInBounds_toArray, List.set_cons_zero, List.set_cons_succ]
          refine wpAnyH_ready (rs := [5]) (by kernel_rfl) (by simp) ?_
          refine AllReadyH.cons rfl (fun K hK => ?_) AllReadyH.nil
          go_simp
          refine HAt.out.mono ?_; rintro e w5 ⟨rfl, hbk⟩; have t25 := keepc hbk t2d; have tf5 := keepf hbk t2d tfd; have b05 := keepc hbk b0d; have b15 := keepc hbk b1d; have b25 := keepc hbk b2d; have HB5 : Hid (Below wr.heap.size wr w5) := two_below (Below.refl _ _).drew hbk; have HO5 : Hid (w5.ownsRow (w1.heap.size + 1) 5 1 v p (row p (trf F r c)).toList) := HO.out.kept (grown_none.mpr HB5.out) (by cases hv : v.ownBlock <;> simp); have hs5 := HB5.out.size; clear hbk; dsimp only
          refine hK.out _ _ ⟨t25, tf5, b05, b15, b25⟩ (fun _ => ?_)
          clear hK K
          try simp only [List.getElem_toArray, List.getElem_cons_succ, List.getElem_cons_zero, Act.put, List.setIfInBounds_toArray, List.set_cons_zero, List.set_cons_succ]
          refine wpAnyH_ready (rs := [6]) (by kernel_rfl) (by simp) ?_
          refine AllReadyH.cons rfl (fun K hK => ?_) AllReadyH.nil
          go_simp
          refine hK.out _ _ ⟨keepc (alloc_low _ _) t25, keepf (alloc_low _ _) t25 tf5, keepc (alloc_low _ _) b05, keepc (alloc_low _ _) b15, keepc (alloc_low _ _) b25⟩ (fun _ => ?_)
          clear hK K
          try simp only [List.getElem_toArray, List.getElem_cons_succ, List.getElem_cons_zero, Act.put, List.setIfInBounds_toArray, List.set_cons_zero, List.set_cons_succ]
          refine wpAnyH_ready (rs := [7]) (by kernel_rfl) (by simp) ?_
          refine AllReadyH.cons rfl (fun K hK => ?_) AllReadyH.nil
          refine step_append_lies _ (by rfl) _ _ _ (by rfl) (w1.heap.size + 1) 5 i0 _ 1 1 Try.underlying22 hi0 hz0 hz1 hz2 rfl (by omega) v p (row p (trf F r c)).toList (by rfl) (HO5.out.alloc _) ⟨w5.heap.size, 0, none⟩ 1 1 [.int .u8 (x : Int)] (by rfl) (by rfl) (one_new _ _ _) (one_one _) (by omega) hml (by omega) (by simp; omega) (w5.heap.size + 1) (by simp) ?_; intro gg cap w8 hown8 hgrow8 hat8 hlt8; have hva : v.ownBlock ≠ some w1.heap.size := (fun e => by { have := own_base HO5.out _ e; omega }); have hvb : v.ownBlock ≠ some w.heap.size := (fun e => by { have := own_base HO5.out _ e; omega }); have hal := alloc_low w5 (.cells #[.int .u8 (x : Int)] 5); have t28 := keepg hgrow8 (keepc hal t25) hva; have tf8 := keepgf hgrow8 (keepc hal t25) (keepf hal t25 tf5) hva; have b08 := keepg hgrow8 (keepc hal b05) hvb; have b18 := keepg hgrow8 (keepc hal b15) hvb; have b28 := keepg hgrow8 (keepc hal b25) hvb
          refine hK.out _ _ ⟨t28, tf8, b08, b18, b28⟩ (fun _ => ?_)
          clear hK K
          try simp only [List.getElem_toArray, List.getElem_cons_succ, List.getElem_cons_zero, Act.put, List.setIfInBounds_toArray, List.set_cons_zero, List.set_cons_succ]
          refine wpAnyH_take (i := 8) (v := ?v8) rfl (by kernel_rfl) (by kernel_rfl) (by kernel_rfl) (fun _ _ _ h => h) (Or.inl ⟨by rfl, ?y8⟩) ⟨t28, tf8, b08, b18, b28⟩ ?z8
          case y8 => (intro w hSw; (try dsimp only at hSw); go_simp; try with_reducible rfl)
          try simp only [List.getElem_toArray, List.getElem_cons_succ, List.getElem_cons_zero, Act.put, List.setIfInBounds_toArray, List.set_cons_zero, List.set_cons_succ]
          refine wpAnyH_done (by kernel_rfl) ?_ _
          refine park_last rfl (fun K hK => ?_)
          go_simp
          refine hK.out _ _ ?_
          clear hK K
          try simp only [List.getElem_toArray, List.getElem_cons_succ, List.getElem_cons_zero, Act.put, List.setIfInBounds_toArray, List.set_cons_zero, List.set_cons_succ]
          have HN : Hid (TInv w w1 (w8.setCell ⟨w1.heap.size, 2, none⟩ (.slice (some ⟨gg, 0, none⟩) (p + 1) cap)) w1.heap.size r c n k (m * r + (q + 1)) a F (.slice (some ⟨gg, 0, none⟩) (p + 1) cap)) := tinv_next HI.out HB5.out HO5.out hown8 hgrow8 HXt.out (by rw [← HP.out]; omega) (by omega)
          clear hown8 hgrow8 hat8 hlt8 t28 tf8 b08 b18 b28 hal
          go_wp2
          exact ⟨⟨q + 1, _, by omega, by go_num, HN.out⟩, by simp [intOf]; omega⟩
        · obtain rfl : q = r := by omega
          clear I
          go_wp2
          exact ⟨⟨m + 1, v, by omega, by go_num, by rw [Nat.add_mul, Nat.one_mul]; exact HI.out⟩, by simp [intOf]; omega⟩
    · obtain rfl : m = c := by omega
      have e1 : m * r = n := by rw [Nat.mul_comm]; exact HRt.out.len
      have hown := HI.out.own
      rw [e1] at hown
      obtain ⟨s, d, e3, _, _⟩ := own_sl' hown
      subst e3
      have c0 := HI.out.vt.c0
      have c1 := HI.out.vt.c1
      have c2 := HI.out.vt.c2
      have HVr : Hid (Vr wr (w.heap.size + 1) (.int .i64 0) (.int .i64 0) (.slice none 0 0)) := HI.out.vr
      have HO : Hid (wr.ownsRow (w1.heap.size + 1) 5 1 (.slice s n d) n (row n (trf F r m)).toList) := hown
      clear hown
      go_wp2_with (refine wpList_store_var rfl _ _ rfl (w.heap.size + 1) _ _ _ (.int .i64 (m : Int)) (.int .i64 (r : Int)) (.slice s n d) rfl rfl HVr.out rfl rfl rfl ?_; intro w4 HV4 HG4)
      have d0 := HV4.out.c0
      have d1 := HV4.out.c1
      have d2 := HV4.out.c2
      refine bodyPost_ret (v := .tuple #[mv m r s n d, .int .i64 0]) (by simp [results, Try.results35, go_sem, d0, d1, d2, mv]) rfl ?_
      have own4 := HO.out.kept HG4.out (.inr (fun e => by have := own_base HO.out _ e; omega))
      refine ⟨s, d, rfl, ⟨own4.1, ?_⟩, below_row (two_below HBw.out HI.out.below) HG4.out (by omega)⟩
      rcases own4.2 with h' | ⟨g, cp, cur, e, hb, rr⟩
      · exact .inl h'
      · exact .inr ⟨g, cp, cur, e, by omega, rr⟩
end Go.Proofs.Ytblfldjlehjnbaa

namespace Go.Proofs.Ytblfldjlehjnbaa
open Go.RowKit
set_option maxRecDepth 20000 in
set_option maxHeartbeats 4000000 in
theorem rmmul_ok (w : World) (ra ca cb na nb n ka kb : Nat) (a b : Option Addr) (F G : Nat → Nat) (ha : Sl w a na F) (hb : Sl w b nb G) (RA : Rt ra ca na) (RB : Rt ca cb nb) (RC : Rt ra cb n) :
    Calls Try.prog 60 #[mv ra ca a na ka, mv ca cb b nb kb] w fun e w' => ∃ g, e = .returned (.tuple #[mv ra cb (some ⟨g, 0, none⟩) n n, .int .i64 0]) ∧ RowAt w' g 5 n (prk F G ca cb ca) ∧ w.heap.size ≤ g ∧ Below w.heap.size w w' := by
  have HRA : Hid (Rt ra ca na) := RA
  have HRB : Hid (Rt ca cb nb) := RB
  have HRC : Hid (Rt ra cb n) := RC
  have la := RA.le
  have lb := RB.le
  have lc := RC.le
  have ra64 := RA.r64
  have ca64 := RA.c64
  have cb64 := RB.c64
  obtain ⟨wb, HW⟩ : ∃ wb, Hid (wb = ((w.alloc (.cells #[.int .i64 (ra : Int), .int .i64 (ca : Int), .slice a na ka] 24)).alloc (.cells #[.int .i64 (ca : Int), .int .i64 (cb : Int), .slice b nb kb] 24)).alloc (.cells #[.int .i64 0, .int .i64 0, .slice none 0 0] 24)) := ⟨_, rfl⟩
  have HVa : Hid (Vr wb w.heap.size (.int .i64 (ra : Int)) (.int .i64 (ca : Int)) (.slice a na ka)) := by rw [HW.out]; exact ((Vr.new w _ _ _).later (alloc_low _ _)).later (alloc_low _ _)
  have HVb : Hid (Vr wb (w.heap.size + 1) (.int .i64 (ca : Int)) (.int .i64 (cb : Int)) (.slice b nb kb)) := by show Vr _ _ _ _ _; rw [HW.out]; have := (Vr.new (w.alloc (.cells #[.int .i64 (ra : Int), .int .i64 (ca : Int), .slice a na ka] 24)) (.int .i64 (ca : Int)) (.int .i64 (cb : Int)) (.slice b nb kb)).later (alloc_low _ (.cells #[.int .i64 0, .int .i64 0, .slice none 0 0] 24)); simpa using this
  have HVr : Hid (Vr wb (w.heap.size + 1 + 1) (.int .i64 0) (.int .i64 0) (.slice none 0 0)) := by show Vr _ _ _ _ _; rw [HW.out]; have := Vr.new ((w.alloc (.cells #[.int .i64 (ra : Int), .int .i64 (ca : Int), .slice a na ka] 24)).alloc (.cells #[.int .i64 (ca : Int), .int .i64 (cb : Int), .slice b nb kb] 24)) (.int .i64 0) (.int .i64 0) (.slice none 0 0); simpa using this
  have HB0 : Hid (Below w.heap.size w wb) := by rw [HW.out]; exact two_below (two_below (alloc_low _ _) (alloc_low _ _)) (alloc_low _ _)
  have HSa : Hid (Sl w a na F) := ha
  have HSb : Hid (Sl w b nb G) := hb
  clear ha hb RA RB RC
  go_enter Try.func60, Try.ntmps60
  go_wp2_with (first
    | (go_at_call 30; have _x := HB1; refine (right_yes _ _ _ _ _ _ HRB.out.p).mono ?_; rintro e w2 ⟨rfl, hb2⟩; have HB2 : Hid (Below wb.heap.size wb w2) := two_below HB1.out hb2; have a1 := (HVa.out.later HB2.out).c1; have b0 := (HVb.out.later HB2.out).c0; have a0 := (HVa.out.later HB2.out).c0; have b1 := (HVb.out.later HB2.out).c1; clear hb2)
    | (go_at_call 30; rw [← HW.out]; refine (right_yes _ _ _ _ _ _ HRA.out.p).mono ?_; rintro e w1 ⟨rfl, hb1⟩; have HB1 : Hid (Below wb.heap.size wb w1) := hb1; have b0 := (HVb.out.later hb1).c0; have b1 := (HVb.out.later hb1).c1; have b2 := (HVb.out.later hb1).c2; clear hb1)
    | (go_at_call 51; refine (zero_any _ ra cb n ra64 cb64 HRC.out.len).mono ?_; rintro e w3 ⟨gd, rfl, hr3, hg3, hb3⟩; have HR3 : Hid (RowAt w3 gd 5 n (fun _ => 0)) := hr3; have HB3 : Hid (Below wb.heap.size wb w3) := two_below HB2.out hb3; have l2 := HB2.out.size; clear hr3 hb3))
  have HI0 : Hid (MInv w (w3.alloc (.cells #[.int .i64 (ra : Int), .int .i64 (cb : Int), .slice (some ⟨gd, 0, none⟩) n n] 24)) gd w3.heap.size ra ca ca cb na nb n ka kb a b (fun _ => 0)) := by
    have l0 := HVr.out.lt
    have l3 := HR3.out.lt
    exact ⟨(HVa.out.later HB3.out).later (alloc_low _ _), (HVb.out.later HB3.out).later (alloc_low _ _), (HVr.out.later HB3.out).later (alloc_low _ _), Vr.new w3 _ _ _, HR3.out.later (alloc_low _ _), two_below (two_below HB0.out HB3.out) (alloc_low _ _), by omega, by omega⟩
  clear HW HVa HVb HVr HB0 HB1 HB2 HR3 HB3 a0 a1 b0 b1 b2
  go_loopw [7] (fun i wr => ∃ m : Nat, m ≤ ra ∧ i = .int .i64 (m : Int) ∧ MInv w wr gd w3.heap.size ra ca ca cb na nb n ka kb a b (mdf F G ca cb (m * cb) 0)) (fun i _ => ra - (intOf i).toNat)
  case atStart => exact ⟨0, by omega, rfl, HI0.out.congr (fun p _ => by rw [Nat.zero_mul, mdf_zero])⟩
  case round =>
    clear HI0
    obtain ⟨m, hm, rfl, I⟩ := hrel
    have HI : Hid (MInv w wr gd w3.heap.size ra ca ca cb na nb n ka kb a b (mdf F G ca cb (m * cb) 0)) := I
    have a0 := I.va.c0
    clear I
    by_cases hlt : m < ra
    · go_wp2
      go_loopw [8] (fun j wi => ∃ q : Nat, q ≤ cb ∧ j = .int .i64 (q : Int) ∧ MInv w wi gd w3.heap.size ra ca ca cb na nb n ka kb a b (mdf F G ca cb (m * cb + q) 0)) (fun j _ => cb - (intOf j).toNat)
      case atStart => exact ⟨0, by omega, rfl, HI.out⟩
      case round =>
        clear HI a0
        obtain ⟨q, hq, rfl, I⟩ := hrel
        have HI : Hid (MInv w wr gd w3.heap.size ra ca ca cb na nb n ka kb a b (mdf F G ca cb (m * cb + q) 0)) := I
        have b1 := I.vb.c1
        clear I
        by_cases hlq : q < cb
        · go_wp2
          go_loopw [9] (fun t wk => ∃ s : Nat, s ≤ ca ∧ t = .int .i64 (s : Int) ∧ MInv w wk gd w3.heap.size ra ca ca cb na nb n ka kb a b (mdf F G ca cb (m * cb + q) s)) (fun t _ => ca - (intOf t).toNat)
          case atStart => exact ⟨0, by omega, rfl, HI.out⟩
          case round =>
            clear HI b1
            obtain ⟨s, hs, rfl, I⟩ := hrel
            have HI : Hid (MInv w wr gd w3.heap.size ra ca ca cb na nb n ka kb a b (mdf F G ca cb (m * cb + q) s)) := I
            have a0 := I.va.c0
            have a1 := I.va.c1
            have a2 := I.va.c2
            by_cases hls : s < ca
            · have b0 := I.vb.c0
              have b1 := I.vb.c1
              have b2 := I.vb.c2
              have m1 := I.vm.c1
              have m2 := I.vm.c2
              obtain ⟨p, HP⟩ : ∃ p, Hid (m * cb + q = p) := ⟨_, rfl⟩
              have hpn : p < n := by rw [← HP.out]; exact HRC.out.at hlt hlq
              have hd := I.data.cell p hpn
              have hf := I.data.free p
              obtain ⟨x, HX⟩ : ∃ x, Hid (prk F G ca cb s p = x) := ⟨_, rfl⟩
              rw [show mdf F G ca cb (m * cb + q) s p = x from by rw [HP.out, mdf_here, HX.out]] at hd
              have hx : x < 256 := by rw [← HX.out, ← HP.out]; exact prk_lt G HSa.out.1 HRA.out hlt hlq hs
              obtain ⟨y, HY⟩ : ∃ y, Hid (F (m * ca + s) = y) := ⟨_, rfl⟩
              obtain ⟨z, HZ⟩ : ∃ z, Hid (G (s * cb + q) = z) := ⟨_, rfl⟩
              have hy : y < 256 := by rw [← HY.out]; exact HSa.out.1 _ (HRA.out.at hlt hls)
              have hz : z < 256 := by rw [← HZ.out]; exact HSb.out.1 _ (HRB.out.at hls hlq)
              obtain ⟨v, HV⟩ : ∃ v, Hid (fm y z = v) := ⟨_, rfl⟩
              have hv : v < 256 := by rw [← HV.out]; exact fm_lt _ _ hy
              have hxo : bits .xor .u8 (x : Int) (v : Int) = ((x ^^^ v : Nat) : Int) := u8_xor_nat _ _ hx hv
              have HNx : Hid (prk F G ca cb (s + 1) p = x ^^^ v) := by show _ = _; rw [← HP.out, prk_succ F G ca cb m q s hlq, HP.out, HX.out, HY.out, HZ.out, HV.out]
              have HMul : Hid (∀ w, Calls Try.prog 31 #[.int .u8 (y : Int), .int .u8 (z : Int)] w fun e w' => e = .returned (.int .u8 (v : Int)) ∧ w = w') := by rw [← HV.out]; exact fun w => rmul_at y z w hy hz
              have e1 : ((m : Int) * (cb : Int)) = ((m * cb : Nat) : Int) := by simp
              have hmp : m * cb ≤ p := by rw [← HP.out]; omega
              have w1' : IntKind.i64.wrap ((m : Int) * (cb : Int)) = (m : Int) * (cb : Int) := by rw [e1, IntKind.wrap_i64]; omega
              have w2' : IntKind.i64.wrap ((m : Int) * (cb : Int) + (q : Int)) = (p : Int) := by rw [e1, IntKind.wrap_i64]; have := HP.out; omega
              have p0 : (0 : Int) ≤ (p : Int) := by omega
              have p1 : (p : Int) < (n : Int) := by omega
              have bel : Below wr.heap.size wr wr.drew := (Below.refl _ _).drew
              have HD : Hid ((fun w' => w'.cell? ⟨w3.heap.size, 1, none⟩ = some (.int .i64 (cb : Int)) ∧ w'.cell? ⟨w3.heap.size, 2, none⟩ = some (.slice (some ⟨gd, 0, none⟩) n n) ∧ w'.cell? ⟨w.heap.size, 0, none⟩ = some (.int .i64 (ra : Int)) ∧ w'.cell? ⟨w.heap.size, 1, none⟩ = some (.int .i64 (ca : Int)) ∧ w'.cell? ⟨w.heap.size, 2, none⟩ = some (.slice a na ka) ∧ w'.cell? ⟨w.heap.size + 1, 0, none⟩ = some (.int .i64 (ca : Int)) ∧ w'.cell? ⟨w.heap.size + 1, 1, none⟩ = some (.int .i64 (cb : Int)) ∧ w'.cell? ⟨w.heap.size + 1, 2, none⟩ = some (.slice b nb kb) ∧ w'.cell? ⟨gd, p, none⟩ = some (.int .u8 (x : Int)) ∧ w'.frozen? ⟨gd, p, none⟩ = false) wr.drew) := ⟨m1, m2, a0, a1, a2, b0, b1, b2, hd, hf⟩
              have HAa : Hid (∀ w', Below wr.heap.size wr w' → Calls Try.prog 32 #[.agg #[.int .i64 (ra : Int), .int .i64 (ca : Int), .slice a na ka], .int .i64 (m : Int), .int .i64 (s : Int)] w' fun e w'' => e = .returned (.int .u8 (y : Int)) ∧ Below w'.heap.size w' w'') := fun w' h' => at3_any w' _ ca m s na ka y a F (HSa.out.later (two_below HI.out.below h')) (HRA.out.at hlt hls) la HY
              have HAb : Hid (∀ w', (Below wr.heap.size wr w') → Calls Try.prog 32 #[.agg #[.int .i64 (ca : Int), .int .i64 (cb : Int), .slice b nb kb], .int .i64 (s : Int), .int .i64 (q : Int)] w' fun e w'' => e = .returned (.int .u8 (z : Int)) ∧ Below w'.heap.size w' w'') := fun w' h' => at3_any w' _ cb s q nb kb z b G (HSb.out.later (two_below HI.out.below h')) (HRB.out.at hls hlq) lb HZ
              have n6 : w3.heap.size ≠ gd := Ne.symm I.d6
              have n0 : w.heap.size ≠ gd := by have := I.dlow; omega
              have n1 : w.heap.size + 1 ≠ gd := by have := I.dlow; omega
              clear I e1 bel
              go_wp2
              refine wp_region_park (k := 21) (n := 21) (fun w' => w'.cell? ⟨w3.heap.size, 1, none⟩ = some (.int .i64 (cb : Int)) ∧ w'.cell? ⟨w3.heap.size, 2, none⟩ = some (.slice (some ⟨gd, 0, none⟩) n n) ∧ w'.cell? ⟨w.heap.size, 0, none⟩ = some (.int .i64 (ra : Int)) ∧ w'.cell? ⟨w.heap.size, 1, none⟩ = some (.int .i64 (ca : Int)) ∧ w'.cell? ⟨w.heap.size, 2, none⟩ = some (.slice a na ka) ∧ w'.cell? ⟨w.heap.size + 1, 0, none⟩ = some (.int .i64 (ca : Int)) ∧ w'.cell? ⟨w.heap.size + 1, 1, none⟩ = some (.int .i64 (cb : Int)) ∧ w'.cell? ⟨w.heap.size + 1, 2, none⟩ = some (.slice b nb kb) ∧ w'.cell? ⟨gd, p, none⟩ = some (.int .u8 (x : Int)) ∧ w'.frozen? ⟨gd, p, none⟩ = false) (by kernel_rfl) (by kernel_rfl) (by decide) (by rfl) ?_
              refine wpAnyH_take (i := 0) (v := ?v0) rfl (by kernel_rfl) (by kernel_rfl) (by kernel_rfl) (fun _ _ _ h => h) (Or.inl ⟨by rfl, ?y0⟩) HD.out ?z0
              case y0 => (intro w hSw; (try dsimp only at hSw); go_simp; try with_reducible rfl)
              try simp only [List.getElem_toArray, List.getElem_cons_zero, Act.put, List.setIfInBounds_toArray, List.set_cons_zero, List.set_cons_succ]
              refine wpAnyH_take (i := 1) (v := ?v1) rfl (by kernel_rfl) (by kernel_rfl) (by kernel_rfl) (fun _ _ _ h => h) (Or.inl ⟨by rfl, ?y1⟩) HD.out ?z1
              case y1 => (intro w hSw; (try dsimp only at hSw); go_simp; try with_reducible rfl)
              try simp only [List.getElem_toArray, List.getElem_cons_succ, List.getElem_cons_zero, Act.put, List.setIfInBounds_toArray, List.set_cons_zero, List.set_cons_succ]
              refine wpAnyH_take (i := 2) (v := ?v2) rfl (by kernel_rfl) (by kernel_rfl) (by kernel_rfl) (fun _ _ _ h => h) (Or.inl ⟨by rfl, ?y2⟩) HD.out ?z2
              case y2 => (intro w hSw; (try dsimp only at hSw); go_simp; try with_reducible rfl)
              try simp only [List.getElem_toArray, List.getElem_cons_succ, List.getElem_cons_zero, Act.put, List.setIfInBounds_toArray, List.set_cons_zero, List.set_cons_succ]
              refine wpAnyH_take (i := 3) (v := ?v3) rfl (by kernel_rfl) (by kernel_rfl) (by kernel_rfl) (fun _ _ _ h => h) (Or.inl ⟨by rfl, ?y3⟩) HD.out ?z3
              case y3 => (intro w hSw; (try dsimp only at hSw); go_simp; try with_reducible rfl)
              try simp only [List.getElem_toArray, List.getElem_cons_succ, List.getElem_cons_zero, Act.put, List.setIfInBounds_toArray, List.set_cons_zero, List.set_cons_succ]
              refine wpAnyH_take (i := 4) (v := ?v4) rfl (by kernel_rfl) (by kernel_rfl) (by kernel_rfl) (fun _ _ _ h => h) (Or.inl ⟨by rfl, ?y4⟩) HD.out ?z4
              case y4 => (intro w hSw; (try dsimp only at hSw); go_simp; try with_reducible rfl)
              try simp only [List.getElem_toArray, List.getElem_cons_succ, List.getElem_cons_zero, Act.put, List.setIfInBounds_toArray, List.set_cons_zero, List.set_cons_succ]
              refine wpAnyH_take (i := 5) (v := ?v5) rfl (by kernel_rfl) (by kernel_rfl) (by kernel_rfl) (fun _ _ _ h => h) (Or.inl ⟨by rfl, ?y5⟩) HD.out ?z5
              case y5 => (intro w hSw; (try dsimp only at hSw); go_simp; try with_reducible rfl)
              try simp only [List.getElem_toArray, List.getElem_cons_succ, List.getElem_cons_zero, Act.put, List.setIfInBounds_toArray, List.set_cons_zero, List.set_cons_succ]
              refine wpAnyH_take (i := 6) (v := ?v6) rfl (by kernel_rfl) (by kernel_rfl) (by kernel_rfl) (fun _ _ _ h => h) (Or.inl ⟨by rfl, ?y6⟩) HD.out ?z6
              case y6 => (intro w hSw; (try dsimp only at hSw); go_simp; try with_reducible rfl)
              try simp only [List.getElem_toArray, List.getElem_cons_succ, List.getElem_cons_zero, Act.put, List.setIfInBounds_toArray, List.set_cons_zero, List.set_cons_succ]
              refine wpAnyH_take (i := 7) (v := ?v7) rfl (by kernel_rfl) (by kernel_rfl) (by kernel_rfl) (fun _ _ _ h => h) (Or.inl ⟨by rfl, ?y7⟩) HD.out ?z7
              case y7 => (intro w hSw; (try dsimp only at hSw); go_simp; try with_reducible rfl)
              try simp only [List.getElem_toArray, List.getElem_cons_succ, List.getElem_cons_zero, Act.put, List.setIfInBounds_toArray, List.set_cons_zero, List.set_cons_succ]
              refine wpAnyH_take (i := 8) (v := ?v8) rfl (by kernel_rfl) (by kernel_rfl) (by kernel_rfl) (fun _ _ _ h => h) (Or.inl ⟨by rfl, ?y8⟩) HD.out ?z8
              case y8 => (intro w hSw; (try dsimp only at hSw); go_simp; try with_reducible rfl)
              try simp only [List.getElem_toArray, List.getElem_cons_succ, List.getElem_cons_zero, Act.put, List.setIfInBounds_toArray, List.set_cons_zero, List.set_cons_succ]
              refine wpAnyH_take (i := 9) (v := ?v9) rfl (by kernel_rfl) (by kernel_rfl) (by kernel_rfl) (fun _ _ _ h => h) (Or.inl ⟨by rfl, ?y9⟩) HD.out ?z9
              case y9 => (intro w hSw; (try dsimp only at hSw); go_simp; try with_reducible rfl)
              try simp only [List.getElem_toArray, List.getElem_cons_succ, List.getElem_cons_zero, Act.put, List.setIfInBounds_toArray, List.set_cons_zero, List.set_cons_succ]
              refine wpAnyH_take (i := 10) (v := ?v10) rfl (by kernel_rfl) (by kernel_rfl) (by kernel_rfl) (fun _ _ _ h => h) (Or.inl ⟨by rfl, ?y10⟩) HD.out ?z10
              case y10 => (intro w hSw; (try dsimp only at hSw); go_simp; try with_reducible rfl)
              try simp only [List.getElem_toArray, List.getElem_cons_succ, List.getElem_cons_zero, Act.put, List.setIfInBounds_toArray, List.set_cons_zero, List.set_cons_succ]
              refine wpAnyH_take (i := 11) (v := ?v11) rfl (by kernel_rfl) (by kernel_rfl) (by kernel_rfl) (fun _ _ _ h => h) (Or.inl ⟨by rfl, ?y11⟩) HD.out ?z11
              case y11 => (intro w hSw; (try dsimp only at hSw); go_simp; try with_reducible rfl)
              try simp only [List.getElem_toArray, List.getElem_cons_succ, List.getElem_cons_zero, Act.put, List.setIfInBounds_toArray, List.set_cons_zero, List.set_cons_succ]
              refine wpAnyH_take (i := 12) (v := ?v12) rfl (by kernel_rfl) (by kernel_rfl) (by kernel_rfl) (fun _ _ _ h => h) (Or.inl ⟨by rfl, ?y12⟩) HD.out ?z12
              case y12 => (intro w hSw; (try dsimp only at hSw); go_simp; try with_reducible rfl)
              try simp only [List.getElem_toArray, List.getElem_cons_succ, List.getElem_cons_zero, Act.put, List.setIfInBounds_toArray, List.set_cons_zero, List.set_cons_succ]
              refine wpAnyH_take (i := 14) (v := ?v14) rfl (by kernel_rfl) (by kernel_rfl) (by kernel_rfl) (fun _ _ _ h => h) (Or.inl ⟨by rfl, ?y14⟩) HD.out ?z14
              case y14 => (intro w hSw; (try dsimp only at hSw); go_simp; try with_reducible rfl)
              try simp only [List.getElem_toArray, List.getElem_cons_succ, List.getElem_cons_zero, Act.put, List.setIfInBounds_toArray, List.set_cons_zero, List.set_cons_succ]
              refine wpAnyH_take (i := 15) (v := ?v15) rfl (by kernel_rfl) (by kernel_rfl) (by kernel_rfl) (fun _ _ _ h => h) (Or.inl ⟨by rfl, ?y15⟩) HD.out ?z15
              case y15 => (intro w hSw; (try dsimp only at hSw); go_simp; try with_reducible rfl)
              try simp only [List.getElem_toArray, List.getElem_cons_succ, List.getElem_cons_zero, Act.put, List.setIfInBounds_toArray, List.set_cons_zero, List.set_cons_succ]
              refine wpAnyH_take (i := 16) (v := ?v16) rfl (by kernel_rfl) (by kernel_rfl) (by kernel_rfl) (fun _ _ _ h => h) (Or.inl ⟨by rfl, ?y16⟩) HD.out ?z16
              case y16 => (intro w hSw; (try dsimp only at hSw); go_simp; try with_reducible rfl)
              try simp only [List.getElem_toArray, List.getElem_cons_succ, List.getElem_cons_zero, Act.put, List.setIfInBounds_toArray, List.set_cons_zero, List.set_cons_succ]
              refine wpAnyH_ready (rs := [13]) (by kernel_rfl) (by simp) ?_
              refine AllReadyH.cons rfl (fun K hK => ?_) AllReadyH.nil
              go_simp
              refine (HAa.out wr.drew (Below.refl _ _).drew).mono ?_; rintro e w5 ⟨rfl, hbk⟩; have HD5 : Hid ((fun w' => w'.cell? ⟨w3.heap.size, 1, none⟩ = some (.int .i64 (cb : Int)) ∧ w'.cell? ⟨w3.heap.size, 2, none⟩ = some (.slice (some ⟨gd, 0, none⟩) n n) ∧ w'.cell? ⟨w.heap.size, 0, none⟩ = some (.int .i64 (ra : Int)) ∧ w'.cell? ⟨w.heap.size, 1, none⟩ = some (.int .i64 (ca : Int)) ∧ w'.cell? ⟨w.heap.size, 2, none⟩ = some (.slice a na ka) ∧ w'.cell? ⟨w.heap.size + 1, 0, none⟩ = some (.int .i64 (ca : Int)) ∧ w'.cell? ⟨w.heap.size + 1, 1, none⟩ = some (.int .i64 (cb : Int)) ∧ w'.cell? ⟨w.heap.size + 1, 2, none⟩ = some (.slice b nb kb) ∧ w'.cell? ⟨gd, p, none⟩ = some (.int .u8 (x : Int)) ∧ w'.frozen? ⟨gd, p, none⟩ = false) w5) := ⟨keepc hbk HD.out.1, keepc hbk HD.out.2.1, keepc hbk HD.out.2.2.1, keepc hbk HD.out.2.2.2.1, keepc hbk HD.out.2.2.2.2.1, keepc hbk HD.out.2.2.2.2.2.1, keepc hbk HD.out.2.2.2.2.2.2.1, keepc hbk HD.out.2.2.2.2.2.2.2.1, keepc hbk HD.out.2.2.2.2.2.2.2.2.1, keepf hbk HD.out.2.2.2.2.2.2.2.2.1 HD.out.2.2.2.2.2.2.2.2.2⟩; have HB5 : Hid (Below wr.heap.size wr w5) := two_below (Below.refl _ _).drew hbk; clear hbk; dsimp only
              refine hK.out _ _ HD5.out (fun _ => ?_)
              clear hK K
              try simp only [List.getElem_toArray, List.getElem_cons_succ, List.getElem_cons_zero, Act.put, List.setIfInBounds_toArray, List.set_cons_zero, List.set_cons_succ]
              refine wpAnyH_ready (rs := [17]) (by kernel_rfl) (by simp) ?_
              refine AllReadyH.cons rfl (fun K hK => ?_) AllReadyH.nil
              go_simp
              refine (HAb.out _ HB5.out).mono ?_; rintro e w6 ⟨rfl, hbk⟩; have HD6 : Hid ((fun w' => w'.cell? ⟨w3.heap.size, 1, none⟩ = some (.int .i64 (cb : Int)) ∧ w'.cell? ⟨w3.heap.size, 2, none⟩ = some (.slice (some ⟨gd, 0, none⟩) n n) ∧ w'.cell? ⟨w.heap.size, 0, none⟩ = some (.int .i64 (ra : Int)) ∧ w'.cell? ⟨w.heap.size, 1, none⟩ = some (.int .i64 (ca : Int)) ∧ w'.cell? ⟨w.heap.size, 2, none⟩ = some (.slice a na ka) ∧ w'.cell? ⟨w.heap.size + 1, 0, none⟩ = some (.int .i64 (ca : Int)) ∧ w'.cell? ⟨w.heap.size + 1, 1, none⟩ = some (.int .i64 (cb : Int)) ∧ w'.cell? ⟨w.heap.size + 1, 2, none⟩ = some (.slice b nb kb) ∧ w'.cell? ⟨gd, p, none⟩ = some (.int .u8 (x : Int)) ∧ w'.frozen? ⟨gd, p, none⟩ = false) w6) := ⟨keepc hbk HD5.out.1, keepc hbk HD5.out.2.1, keepc hbk HD5.out.2.2.1, keepc hbk HD5.out.2.2.2.1, keepc hbk HD5.out.2.2.2.2.1, keepc hbk HD5.out.2.2.2.2.2.1, keepc hbk HD5.out.2.2.2.2.2.2.1, keepc hbk HD5.out.2.2.2.2.2.2.2.1, keepc hbk HD5.out.2.2.2.2.2.2.2.2.1, keepf hbk HD5.out.2.2.2.2.2.2.2.2.1 HD5.out.2.2.2.2.2.2.2.2.2⟩; have HB6 : Hid (Below wr.heap.size wr w6) := two_below HB5.out hbk; have hd6 := HD6.out.2.2.2.2.2.2.2.2.1; have hf6 := HD6.out.2.2.2.2.2.2.2.2.2; clear hbk; dsimp only
              refine hK.out _ _ HD6.out (fun _ => ?_)
              clear hK K
              try simp only [List.getElem_toArray, List.getElem_cons_succ, List.getElem_cons_zero, Act.put, List.setIfInBounds_toArray, List.set_cons_zero, List.set_cons_succ]
              refine wpAnyH_ready (rs := [18]) (by kernel_rfl) (by simp) ?_
              refine AllReadyH.cons rfl (fun K hK => ?_) AllReadyH.nil
              go_simp
              refine (HMul.out _).mono ?_; rintro e w' ⟨rfl, rfl⟩; dsimp only
              refine hK.out _ _ HD6.out (fun _ => ?_)
              clear hK K
              try simp only [List.getElem_toArray, List.getElem_cons_succ, List.getElem_cons_zero, Act.put, List.setIfInBounds_toArray, List.set_cons_zero, List.set_cons_succ]
              refine wpAnyH_take (i := 19) (v := ?v19) rfl (by kernel_rfl) (by kernel_rfl) (by kernel_rfl) (fun _ _ _ h => h) (Or.inl ⟨by rfl, ?y19⟩) HD6.out ?z19
              case y19 => (intro w hSw; (try dsimp only at hSw); go_simp; try with_reducible rfl)
              try simp only [List.getElem_toArray, List.getElem_cons_succ, List.getElem_cons_zero, Act.put, List.setIfInBounds_toArray, List.set_cons_zero, List.set_cons_succ]
              refine wpAnyH_take (i := 20) (v := ?v20) rfl (by kernel_rfl) (by kernel_rfl) (by kernel_rfl) (fun _ _ _ h => h) (Or.inl ⟨by rfl, ?y20⟩) HD6.out ?z20
              case y20 => (intro w hSw; (try dsimp only at hSw); go_simp; try with_reducible rfl)
              try simp only [List.getElem_toArray, List.getElem_cons_succ, List.getElem_cons_zero, Act.put, List.setIfInBounds_toArray, List.set_cons_zero, List.set_cons_succ]
              refine wpAnyH_done (by kernel_rfl) ?_ _
              refine park_last rfl (fun K hK => ?_)
              go_simp
              refine hK.out _ _ ?_
              clear hK K
              try simp only [List.getElem_toArray, List.getElem_cons_succ, List.getElem_cons_zero, Act.put, List.setIfInBounds_toArray, List.set_cons_zero, List.set_cons_succ]
              go_wp2
              exact ⟨⟨s + 1, by omega, by go_num, ((HI.out.later HB6.out).set (q := p) (v := x ^^^ v)).congr (fun t _ => by rw [← HNx.out, ← HP.out, mdf_step])⟩, by simp [intOf]; omega⟩
            · obtain rfl : s = ca := by omega
              clear I
              go_wp2
              exact ⟨⟨q + 1, by omega, by go_num, HI.out.congr (fun p _ => mdf_next F G s cb (m * cb + q) p)⟩, by simp [intOf]; omega⟩
        · obtain rfl : q = cb := by omega
          go_wp2
          exact ⟨⟨m + 1, by omega, by go_num, HI.out.congr (fun p _ => by rw [Nat.add_mul, Nat.one_mul])⟩, by simp [intOf]; omega⟩
    · obtain rfl : m = ra := by omega
      have c0 := HI.out.vm.c0
      have c1 := HI.out.vm.c1
      have c2 := HI.out.vm.c2
      have HVr : Hid (Vr wr (w.heap.size + 1 + 1) (.int .i64 0) (.int .i64 0) (.slice none 0 0)) := HI.out.vr
      go_wp2_with (refine wpList_store_var rfl _ _ rfl (w.heap.size + 1 + 1) _ _ _ (.int .i64 (m : Int)) (.int .i64 (cb : Int)) (.slice (some ⟨gd, 0, none⟩) n n) rfl rfl HVr.out rfl rfl rfl ?_; intro w4 HV4 HG4)
      have d0 := HV4.out.c0
      have d1 := HV4.out.c1
      have d2 := HV4.out.c2
      have dl := HI.out.dlow
      refine bodyPost_ret (v := .tuple #[mv m cb (some ⟨gd, 0, none⟩) n n, .int .i64 0]) (by simp [results, Try.results60, go_sem, d0, d1, d2, mv]) rfl ?_
      exact ⟨gd, rfl, (HI.out.data.kept HG4.out (by omega)).congr (fun p hp => by unfold mdf; rw [if_pos (by rw [HRC.out.len]; exact hp)]), by omega, below_row HI.out.below HG4.out (by omega)⟩
end Go.Proofs.Ytblfldjlehjnbaa

namespace Go.Proofs.Ytblfldjlehjnbaa
open Go.RowKit
/-- Each row's Dot with the list. -/
def apf (F X : Nat → Nat) (c i : Nat) : Nat := xs (fun t => fm (F (i * c + t)) (X t)) c
end Go.Proofs.Ytblfldjlehjnbaa

namespace Go.Proofs.Ytblfldjlehjnbaa
open Go.RowKit
/-- What the loops of Kron keep. -/
structure KInv (w wr : World) (gd g6 RR CC ra ca rb cb na nb n ka kb : Nat) (a b : Option Addr) (fn : Nat → Nat) : Prop where
  va : Vr wr w.heap.size (.int .i64 (ra : Int)) (.int .i64 (ca : Int)) (.slice a na ka)
  vb : Vr wr (w.heap.size + 1) (.int .i64 (rb : Int)) (.int .i64 (cb : Int)) (.slice b nb kb)
  vr : Vr wr (w.heap.size + 1 + 1) (.int .i64 0) (.int .i64 0) (.slice none 0 0)
  vm : Vr wr g6 (.int .i64 (RR : Int)) (.int .i64 (CC : Int)) (.slice (some ⟨gd, 0, none⟩) n n)
  data : RowAt wr gd 5 n fn
  below : Below w.heap.size w wr
  d6 : gd ≠ g6
  dlow : w.heap.size + 1 + 1 < gd
theorem KInv.congr {w wr : World} {gd g6 RR CC ra ca rb cb na nb n ka kb : Nat} {a b : Option Addr} {fn fn' : Nat → Nat} (I : KInv w wr gd g6 RR CC ra ca rb cb na nb n ka kb a b fn) (e : ∀ p, p < n → fn p = fn' p) : KInv w wr gd g6 RR CC ra ca rb cb na nb n ka kb a b fn' :=
  ⟨I.va, I.vb, I.vr, I.vm, I.data.congr e, I.below, I.d6, I.dlow⟩
theorem KInv.later {w wr w' : World} {gd g6 RR CC ra ca rb cb na nb n ka kb : Nat} {a b : Option Addr} {fn : Nat → Nat} (I : KInv w wr gd g6 RR CC ra ca rb cb na nb n ka kb a b fn) (hb : Below wr.heap.size wr w') : KInv w w' gd g6 RR CC ra ca rb cb na nb n ka kb a b fn :=
  ⟨I.va.later hb, I.vb.later hb, I.vr.later hb, I.vm.later hb, I.data.later hb, two_below I.below hb, I.d6, I.dlow⟩
theorem KInv.set {w wr : World} {gd g6 RR CC ra ca rb cb na nb n ka kb q v : Nat} {a b : Option Addr} {fn : Nat → Nat} (I : KInv w wr gd g6 RR CC ra ca rb cb na nb n ka kb a b fn) : KInv w (wr.setCell ⟨gd, q, none⟩ (.int .u8 (v : Int))) gd g6 RR CC ra ca rb cb na nb n ka kb a b (fun p => if p = q then v else fn p) :=
  have d := I.dlow
  ⟨I.va.kept (grown_setCell _ _ _ _) (by omega), I.vb.kept (grown_setCell _ _ _ _) (by omega), I.vr.kept (grown_setCell _ _ _ _) (by omega), I.vm.kept (grown_setCell _ _ _ _) (Ne.symm I.d6), I.data.set q v, I.below.setCell (by show w.heap.size ≤ gd; omega) _, I.d6, I.dlow⟩
end Go.Proofs.Ytblfldjlehjnbaa

namespace Go.Proofs.Ytblfldjlehjnbaa
open Go.RowKit
/-- Three boxes: two arguments and a result. -/
structure Box3 (w wb : World) (r c r' c' : Int) (n k m d : Nat) (a b : Option Addr) : Prop where
  va : Vr wb w.heap.size (.int .i64 r) (.int .i64 c) (.slice a n k)
  vb : Vr wb (w.heap.size + 1) (.int .i64 r') (.int .i64 c') (.slice b m d)
  vr : Vr wb (w.heap.size + 1 + 1) (.int .i64 0) (.int .i64 0) (.slice none 0 0)
  below : Below w.heap.size w wb
theorem box3 (w : World) (r c r' c' : Int) (n k m d : Nat) (a b : Option Addr) : Box3 w (((w.alloc (.cells #[.int .i64 r, .int .i64 c, .slice a n k] 24)).alloc (.cells #[.int .i64 r', .int .i64 c', .slice b m d] 24)).alloc (.cells #[.int .i64 0, .int .i64 0, .slice none 0 0] 24)) r c r' c' n k m d a b := by
  refine ⟨((Vr.new w _ _ _).later (alloc_low _ _)).later (alloc_low _ _), ?_, ?_, two_below (two_below (alloc_low _ _) (alloc_low _ _)) (alloc_low _ _)⟩
  · have := (Vr.new (w.alloc (.cells #[.int .i64 r, .int .i64 c, .slice a n k] 24)) (.int .i64 r') (.int .i64 c') (.slice b m d)).later (alloc_low _ (.cells #[.int .i64 0, .int .i64 0, .slice none 0 0] 24))
    simpa using this
  · have := Vr.new ((w.alloc (.cells #[.int .i64 r, .int .i64 c, .slice a n k] 24)).alloc (.cells #[.int .i64 r', .int .i64 c', .slice b m d] 24)) (.int .i64 0) (.int .i64 0) (.slice none 0 0)
    simpa using this
end Go.Proofs.Ytblfldjlehjnbaa

namespace Go.Proofs.Ytblfldjlehjnbaa
open Go.RowKit
theorem step_store_var {ops : Array Oper} {op : Oper} {a : Act} {w : World} {K : Act → World → Prop} {Q : Exit → Act → World → Prop} (hgd : op.guard = none) (p q : Operand) (ho : op.op = .store 24 p q)
    (b : Nat) (x y z x' y' z' : Value) (hp : a.eval p = .pointer (some ⟨b, 0, none⟩)) (hq : a.eval q = .agg #[x', y', z']) (hv : Vr w b x y z) (h0 : x'.oneCell' = true) (h1 : y'.oneCell' = true) (h2 : z'.oneCell' = true)
    (h : ∀ w', Hid (Vr w' b x' y' z') → Hid (w.grownBy w' (some b)) → K (a.put op.dst undef) w') : if Region.wanted op (yielded ops a.tmps) = true then Oper.wp Try.prog op a w K Q else K (a.put op.dst undef) w := by
  have hw : Region.wanted op (yielded ops a.tmps) = true := by simp [Region.wanted, hgd]
  rw [if_pos hw]
  exact wp_store_mid 24 p q ho b 0 #[x', y', z'] hp hq hv.there size24 (by simp [h0, h1, h2]) (h _ (((hv.set0 x').set1 y').set2 z') (grown_trans (grown_trans (grown_setCell _ _ _ _) (grown_setCell _ _ _ _)) (grown_setCell _ _ _ _)))
/-- One list behind the other. -/
def stf (F G : Nat → Nat) (m p : Nat) : Nat := if p < m then F p else G (p - m)
theorem row_stf (F G : Nat → Nat) (m k : Nat) : (row m F).toList ++ (row k G).toList = (row (m + k) (stf F G m)).toList := by
  apply List.ext_getElem?
  intro i
  have hl : (row m F).toList.length = m := by simp [row_size]
  by_cases h1 : i < m
  · rw [List.getElem?_append_left (by omega), Array.getElem?_toList, Array.getElem?_toList, row_get m F i h1, row_get (m + k) _ i (by omega)]
    unfold stf; rw [if_pos h1]
  · rw [List.getElem?_append_right (by omega), hl, Array.getElem?_toList, Array.getElem?_toList]
    by_cases h2 : i < m + k
    · rw [row_get k G (i - m) (by omega), row_get (m + k) _ i h2]
      unfold stf; rw [if_neg h1]
    · rw [Array.getElem?_eq_none (by simp [row_size]; omega), Array.getElem?_eq_none (by simp [row_size]; omega)]
theorem step_append_list {ops : Array Oper} {op : Oper} {a : Act} {w : World} {K : Act → World → Prop} {Q : Exit → Act → World → Prop} (hgd : op.guard = none) (s x : Operand) (ho : op.op = .call { callee := .builtin .append, args := #[s, x], argTypes := #[22, 22] })
    (base n : Nat) (v : Value) (ls : List Value) (hs : a.eval s = v) (hown : w.ownsRow base 5 1 v n ls) (b : Option Addr) (m c : Nat) (G : Nat → Nat) (hx : a.eval x = .slice b m c) (hb : Sl w b m G) (h0 : b = none → m = 0 ∧ c = 0) (h63 : n + m ≤ 140737488351232) (hbase : base ≤ w.heap.size)
    (h : ∀ v' w', w'.ownsRow base 5 1 v' (n + m) (ls ++ (row m G).toList) → w.grownBy w' v.ownBlock → K (a.put op.dst v') w') : if Region.wanted op (yielded ops a.tmps) = true then Oper.wp Try.prog op a w K Q else K (a.put op.dst undef) w := by
  obtain ⟨i0, hi, hz0, hz1, hz2⟩ := info_parts info8
  have hw : Region.wanted op (yielded ops a.tmps) = true := by simp [Region.wanted, hgd]
  rw [if_pos hw]
  cases b with
  | none =>
    obtain ⟨rfl, rfl⟩ := h0 rfl
    have hrun := run_append_owned_none (P := Try.prog) (w := w) base 22 op.type 5 i0 1 Try.underlying22 hi v n ls hown
    unfold Oper.wp
    simp [execOp, ho, resolve, invoke, builtin, hs, hx, hrun, Result.andThen]
    exact h v w (by rw [row_empty, List.append_nil]; exact hown) ⟨rfl, rfl, rfl, Nat.le_refl _, fun _ _ _ => rfl⟩
  | some ad =>
    exact wp_append_own w s x 22 ho base 5 i0 (.int .u8 0) 1 1 Try.underlying22 hi hz0 hz1 hz2 rfl (by decide) v n ls hs hown ad m c (row m G).toList hx (by simp [row_size]) (copy_news hb (Below.refl _ _)) (row_cells m G) (by unfold maxLen; omega) (by omega) hbase (fun v' w' h1 h2 _ => h v' w' h1 h2)
end Go.Proofs.Ytblfldjlehjnbaa

namespace Go.Proofs.Ytblfldjlehjnbaa
open Go.RowKit
end Go.Proofs.Ytblfldjlehjnbaa

namespace Go.Proofs.Ytblfldjlehjnbaa
open Go.RowKit
/-- A slice of ints reads as q 0, q 1, .. -/
def Il (w : World) (b : Option Addr) (m : Nat) (q : Nat → Int) : Prop := ∀ i, i < m → ∃ x o, b = some ⟨x, o, none⟩ ∧ w.cell? ⟨x, o + i, none⟩ = some (.int .i64 (q i))
theorem Il.later {w w' : World} {b : Option Addr} {m : Nat} {q : Nat → Int} (h : Il w b m q) (hb : Below w.heap.size w w') : Il w' b m q := fun i hi => by
  obtain ⟨x, o, e, hc⟩ := h i hi
  exact ⟨x, o, e, by rw [hb.cell (p := ⟨x, o + i, none⟩) (cell_lt hc)]; exact hc⟩
/-- The picked rows' entries. -/
def pkf (F : Nat → Nat) (z : Nat → Nat) (c p : Nat) : Nat := F (z (p / c) * c + p % c)
theorem pkf_at (F : Nat → Nat) (z : Nat → Nat) (c i j : Nat) (hj : j < c) : pkf F z c (i * c + j) = F (z i * c + j) := by
  unfold pkf
  rw [Nat.mul_comm i c, Nat.mul_add_div (by omega), Nat.div_eq_of_lt hj, Nat.add_zero, Nat.mul_add_mod, Nat.mod_eq_of_lt hj]
theorem row_pkf (F : Nat → Nat) (z : Nat → Nat) (c i : Nat) : (row (i * c) (pkf F z c)).toList ++ (row c (fun j => F (z i * c + j))).toList = (row ((i + 1) * c) (pkf F z c)).toList := by
  rw [row_stf, Nat.add_mul, Nat.one_mul]
  congr 1
  apply row_congr
  intro p hp
  unfold stf
  by_cases h : p < i * c
  · rw [if_pos h]
  · rw [if_neg h]; show F (z i * c + (p - i * c)) = _; rw [← pkf_at F z c i (p - i * c) (by omega)]
    congr 1; omega
theorem wpList_append_list {ops : Array Oper} {rest : List Oper} {op : Oper} {a : Act} {w : World} {Q : Exit → Act → World → Prop} (hgd : op.guard = none) (s x : Operand) (ho : op.op = .call { callee := .builtin .append, args := #[s, x], argTypes := #[22, 22] })
    (base n : Nat) (v : Value) (ls : List Value) (hs : a.eval s = v) (hown : w.ownsRow base 5 1 v n ls) (b : Option Addr) (m c : Nat) (G : Nat → Nat) (hx : a.eval x = .slice b m c) (hb : Sl w b m G) (h0 : b = none → m = 0 ∧ c = 0) (h63 : n + m ≤ 140737488351232) (hbase : base ≤ w.heap.size)
    (h : ∀ v' w', w'.ownsRow base 5 1 v' (n + m) (ls ++ (row m G).toList) → w.grownBy w' v.ownBlock → wpList Try.prog ops Q rest (a.put op.dst v') w') : wpList Try.prog ops Q (op :: rest) a w :=
  wpList_plain hgd fun K hK => by
    have := step_append_list (ops := ops) (K := K) (Q := Q) hgd s x ho base n v ls hs hown b m c G hx hb h0 h63 hbase (fun v' w' h1 h2 => hK _ _ (h v' w' h1 h2))
    rwa [if_pos (by simp [Region.wanted, hgd])] at this
theorem own_none {w : World} {base n d : Nat} {s : Option Addr} {ls : List Value} (h : w.ownsRow base 5 1 (.slice s n d) n ls) : s = none → n = 0 ∧ d = 0 := by
  intro e
  rcases h.2 with ⟨e', h0⟩ | ⟨g, cap, cur, e', _⟩
  · simp at e'; exact ⟨h0, e'.2.2⟩
  · rw [e] at e'; simp at e'
/-- What the loops of Pick keep. -/
structure UInv (w w1 wr : World) (g4 r c n k m q : Nat) (a : Option Addr) (G : Nat → Nat) (v : Value) : Prop where
  vb : Vr wr w.heap.size (.int .i64 (r : Int)) (.int .i64 (c : Int)) (.slice a n k)
  vr : Vr wr (w.heap.size + 1) (.int .i64 0) (.int .i64 0) (.slice none 0 0)
  vt : Vr wr g4 (.int .i64 (m : Int)) (.int .i64 (c : Int)) v
  own : wr.ownsRow (g4 + 1) 5 1 v q (row q G).toList
  below : Below w1.heap.size w1 wr
theorem UInv.later {w w1 wr w5 : World} {r c n k m q : Nat} {a : Option Addr} {G : Nat → Nat} {v : Value} (I : UInv w w1 wr w1.heap.size r c n k m q a G v) (hb5 : Below wr.heap.size wr w5) : UInv w w1 w5 w1.heap.size r c n k m q a G v :=
  ⟨I.vb.later hb5, I.vr.later hb5, I.vt.later hb5, I.own.kept (grown_none.mpr hb5) (by cases hv : v.ownBlock <;> simp), two_below I.below hb5⟩
theorem UInv.grown {w w1 w5 w8 : World} {r c n k m q q' cap : Nat} {gg : Option Addr} {a : Option Addr} {G : Nat → Nat} {v : Value} (I : UInv w w1 w5 w1.heap.size r c n k m q a G v)
    (hown : w8.ownsRow (w1.heap.size + 1) 5 1 (.slice gg q' cap) q' (row q' G).toList) (hg : w5.grownBy w8 v.ownBlock) (hw : w.heap.size + 1 < w1.heap.size) :
    UInv w w1 (w8.setCell ⟨w1.heap.size, 2, none⟩ (.slice gg q' cap)) w1.heap.size r c n k m q' a G (.slice gg q' cap) := by
  have base := own_base I.own
  refine ⟨?_, ?_, ?_, ?_, ?_⟩
  · exact (I.vb.grown hg (fun e => by have := base _ e; omega)).kept (grown_setCell _ _ _ _) (by omega)
  · exact (I.vr.grown hg (fun e => by have := base _ e; omega)).kept (grown_setCell _ _ _ _) (by omega)
  · exact Vr.set2 (I.vt.grown hg (fun e => by have := base _ e; omega)) _
  · exact hown.kept (grown_setCell _ _ _ _) (.inr (fun e => by have := own_base hown _ e; omega))
  · have b8 : Below w1.heap.size w1 w8 := I.below.grown hg I.below.size (fun k hk => by have := base k hk; omega)
    exact b8.setCell (Nat.le_refl _) _
set_option maxRecDepth 20000 in
set_option maxHeartbeats 4000000 in
theorem rpick_ok (w : World) (r c n k m d N : Nat) (a b : Option Addr) (F z : Nat → Nat) (ha : Sl w a n F) (R : Rt r c n) (hb : Il w b m (fun i => (z i : Int))) (hz : ∀ i, i < m → z i < r) (hm : m ≤ 64) (HN : Hid (m * c = N)) :
    Calls Try.prog 26 #[mv r c a n k, .slice b m d] w fun e w' => ∃ s d, e = .returned (.tuple #[mv m c s N d, .int .i64 0]) ∧ w'.ownsRow w.heap.size 5 1 (.slice s N d) N (row N (pkf F z c)).toList ∧ Below w.heap.size w w' := by
  have HRt : Hid (Rt r c n) := R
  have hn := R.le
  have hr := R.r64
  have hc := R.c64
  obtain ⟨wb, HW⟩ : ∃ wb, Hid (wb = (w.alloc (.cells #[.int .i64 (r : Int), .int .i64 (c : Int), .slice a n k] 24)).alloc (.cells #[.int .i64 0, .int .i64 0, .slice none 0 0] 24)) := ⟨_, rfl⟩
  have HVb : Hid (Vr wb w.heap.size (.int .i64 (r : Int)) (.int .i64 (c : Int)) (.slice a n k)) := by rw [HW.out]; exact (Vr.new w _ _ _).later (alloc_low _ _)
  have HVr : Hid (Vr wb (w.heap.size + 1) (.int .i64 0) (.int .i64 0) (.slice none 0 0)) := by show Vr _ _ _ _ _; rw [HW.out]; have := Vr.new (w.alloc (.cells #[.int .i64 (r : Int), .int .i64 (c : Int), .slice a n k] 24)) (.int .i64 0) (.int .i64 0) (.slice none 0 0); simpa using this
  have HB0 : Hid (Below w.heap.size w wb) := by rw [HW.out]; exact two_below (alloc_low _ _) (alloc_low _ _)
  have HSa : Hid (Sl w a n F) := ha
  have HSb : Hid (Il w b m (fun i => (z i : Int))) := hb
  have HZ : Hid (∀ i, i < m → z i < r) := hz
  clear ha R hb hz
  go_enter Try.func26, Try.ntmps26
  go_wp2_with (go_at_call 30; rw [← HW.out]; refine (right_yes _ _ _ _ _ _ HRt.out.p).mono ?_; rintro e w0 ⟨rfl, hb1⟩; have HB1 : Hid (Below wb.heap.size wb w0) := hb1; clear hb1)
  have HBw0 : Hid (Below w.heap.size w w0) := two_below HB0.out HB1.out
  have HV0 : Hid (Vr w0 w.heap.size (.int .i64 (r : Int)) (.int .i64 (c : Int)) (.slice a n k)) := HVb.out.later HB1.out
  have HR0 : Hid (Vr w0 (w.heap.size + 1) (.int .i64 0) (.int .i64 0) (.slice none 0 0)) := HVr.out.later HB1.out
  clear HW HVb HVr HB0 HB1
  go_loopw [6] (fun j wr => ∃ q : Nat, q ≤ m ∧ j = .int .i64 (q : Int) ∧ Below w0.heap.size w0 wr) (fun j _ => m - (intOf j).toNat)
  case atStart => exact ⟨0, by omega, rfl, Below.refl _ _⟩
  case round =>
    obtain ⟨q, hq, rfl, hbr⟩ := hrel
    have HB : Hid (Below w0.heap.size w0 wr) := hbr
    clear hbr
    by_cases hlt : q < m
    · obtain ⟨x, o, eb, hcell⟩ := HSb.out.later (two_below HBw0.out HB.out) q hlt
      have zr := HZ.out q hlt
      dsimp only at hcell
      obtain ⟨y, HY⟩ : ∃ y, Hid (z q = y) := ⟨_, rfl⟩
      rw [HY.out] at hcell zr
      have b0 := (HV0.out.later HB.out).c0
      have g1 : decide ((y : Int) < 0) = false := by simp
      have g2 : decide (r ≤ y) = false := by simp; omega
      subst eb
      go_wp2
      go_region
      go_wp2
      exact ⟨⟨q + 1, by omega, by go_num, by first | exact HB.out | exact HB.out.drew⟩, by simp [intOf]; omega⟩
    · obtain rfl : q = m := by omega
      have b1 := (HV0.out.later HB.out).c1
      have g3 : decide (64 < q) = false := by simp; omega
      have HBw : Hid (Below w.heap.size w wr) := two_below HBw0.out HB.out
      have HVb : Hid (Vr wr w.heap.size (.int .i64 (r : Int)) (.int .i64 (c : Int)) (.slice a n k)) := HV0.out.later HB.out
      have HVr : Hid (Vr wr (w.heap.size + 1) (.int .i64 0) (.int .i64 0) (.slice none 0 0)) := HR0.out.later HB.out
      have hlw := HVr.out.lt
      go_wp2
      have HI0 : Hid (UInv w wr (wr.alloc (.cells #[.int .i64 (q : Int), .int .i64 (c : Int), .slice none 0 0] 24)) wr.heap.size r c n k q 0 a (pkf F z c) (.slice none 0 0)) :=
        ⟨HVb.out.later (alloc_low _ _), HVr.out.later (alloc_low _ _), Vr.new wr _ _ _, by rw [row_empty]; exact World.ownsRow_nil _ _ _ _, alloc_low _ _⟩
      clear HV0 HR0 HB HVb HVr b1 hlt hq HBw0
      obtain ⟨w1, HW1⟩ : ∃ w1, Hid (w1 = wr) := ⟨_, rfl⟩
      rw [← HW1.out] at HI0 HBw hlw
      rw [← HW1.out]
      clear HW1
      go_loopw [8, 9, 10] (fun j _ _ wr => ∃ (t : Nat) (v : Value), t ≤ q ∧ j = .int .i64 (t : Int) ∧ UInv w w1 wr w1.heap.size r c n k q (t * c) a (pkf F z c) v) (fun j _ _ _ => q - (intOf j).toNat)
      case atStart => exact ⟨0, _, by omega, rfl, by rw [Nat.zero_mul]; exact HI0.out⟩
      case round =>
        clear HI0
        obtain ⟨t, v, ht, rfl, I⟩ := hrel
        have HI : Hid (UInv w w1 wr w1.heap.size r c n k q (t * c) a (pkf F z c) v) := I
        clear I
        by_cases hlt : t < q
        · obtain ⟨x, o, eb, hcell⟩ := HSb.out.later (two_below HBw.out HI.out.below) t hlt
          have zr := HZ.out t hlt
          dsimp only at hcell
          obtain ⟨y, HY⟩ : ∃ y, Hid (z t = y) := ⟨_, rfl⟩
          rw [HY.out] at hcell zr
          have b0 := HI.out.vb.c0
          have b1 := HI.out.vb.c1
          have b2 := HI.out.vb.c2
          have HRow : Hid (∀ w', Below wr.heap.size wr w' → Calls Try.prog 68 #[.agg #[.int .i64 (r : Int), .int .i64 (c : Int), .slice a n k], .int .i64 (y : Int)] w' fun e w'' => ∃ v, e = .returned (.tuple #[v, .int .i64 0]) ∧ w''.ownsRow w'.heap.size 5 1 v c (row c (fun j => F (y * c + j))).toList ∧ Below w'.heap.size w' w'') := fun w' h' => rrow_ok w' r c n k y a F (HSa.out.later (two_below (two_below HBw.out HI.out.below) h')) HRt.out zr
          have hsz := HI.out.below.size
          have hFb : Hid (∀ j, j < c → F (y * c + j) < 256) := fun j hj => HSa.out.1 _ (HRt.out.at zr hj)
          subst eb
          go_wp2
          go_region_with (go_at_call 68; refine (HRow.out _ (by first | exact Below.refl _ _ | exact (Below.refl _ _).drew)).mono ?_; rintro e w5 ⟨v5, rfl, ho5, hbk⟩; obtain ⟨s5, d5, e5, hsl5, hfr5⟩ := own_sl ho5 hFb.out; subst e5; have HN5 : Hid (s5 = none → c = 0 ∧ d5 = 0) := own_none ho5; have HS5 : Hid (Sl w5 s5 c (fun j => F (y * c + j))) := hsl5; have HI5 : Hid (UInv w w1 w5 w1.heap.size r c n k q (t * c) a (pkf F z c) v) := HI.out.later (by first | exact hbk | exact two_below (Below.refl _ _).drew hbk); have t2 := HI5.out.vt.c2; have tf := HI5.out.vt.free 2; clear ho5 hsl5 hfr5 hbk)
          go_wp2_with (refine wpList_append_list rfl _ _ rfl (w1.heap.size + 1) (t * c) v _ rfl HI5.out.own s5 c d5 _ rfl HS5.out HN5.out (by have : t * c ≤ 64 * 64 := Nat.mul_le_mul (by omega) hc; omega) (by have := HI5.out.vt.lt; omega) ?_; intro v8 w8 hown8 hgrow8; have HO8 : Hid (w8.ownsRow (w1.heap.size + 1) 5 1 v8 ((t + 1) * c) (row ((t + 1) * c) (pkf F z c)).toList) := (by show World.ownsRow _ _ _ _ _ _ _; rw [← row_pkf, HY.out, Nat.add_mul, Nat.one_mul]; exact hown8); have HG8 : Hid (w5.grownBy w8 v.ownBlock) := hgrow8; have tf8 := keepgf hgrow8 t2 tf (fun e => by { have := own_base HI5.out.own _ e; omega }); have t28 := keepg hgrow8 t2 (fun e => by { have := own_base HI5.out.own _ e; omega }); clear hown8 hgrow8; obtain ⟨s8, d8, e8, _, _⟩ := own_sl' HO8.out; subst e8)
          all_goals exact ⟨⟨t + 1, _, by omega, by go_num, HI5.out.grown HO8.out HG8.out hlw⟩, by simp [intOf]; omega⟩
        · obtain rfl : t = q := by omega
          have hown := HI.out.own
          rw [HN.out] at hown
          obtain ⟨s, e, e3, _, _⟩ := own_sl' hown
          subst e3
          have c0 := HI.out.vt.c0
          have c1 := HI.out.vt.c1
          have c2 := HI.out.vt.c2
          have HVr : Hid (Vr wr (w.heap.size + 1) (.int .i64 0) (.int .i64 0) (.slice none 0 0)) := HI.out.vr
          have HO : Hid (wr.ownsRow (w1.heap.size + 1) 5 1 (.slice s N e) N (row N (pkf F z c)).toList) := hown
          have hsz := HBw.out.size
          clear hown
          go_wp2_with (refine wpList_store_var rfl _ _ rfl (w.heap.size + 1) _ _ _ (.int .i64 (t : Int)) (.int .i64 (c : Int)) (.slice s N e) rfl rfl HVr.out rfl rfl rfl ?_; intro w4 HV4 HG4)
          have d0 := HV4.out.c0
          have d1 := HV4.out.c1
          have d2 := HV4.out.c2
          refine bodyPost_ret (v := .tuple #[mv t c s N e, .int .i64 0]) (by simp [results, Try.results26, go_sem, d0, d1, d2, mv]) rfl ?_
          have own4 := HO.out.kept HG4.out (.inr (fun h => by have := own_base HO.out _ h; omega))
          exact ⟨s, e, rfl, own_mono own4 (by omega), below_row (two_below HBw.out HI.out.below) HG4.out (by omega)⟩
end Go.Proofs.Ytblfldjlehjnbaa

namespace Go.Proofs.Ytblfldjlehjnbaa
open Go.RowKit
/-- Two boxes: an argument and a result. -/
structure Box2 (w wb : World) (r c : Int) (n k : Nat) (a : Option Addr) : Prop where
  va : Vr wb w.heap.size (.int .i64 r) (.int .i64 c) (.slice a n k)
  vr : Vr wb (w.heap.size + 1) (.int .i64 0) (.int .i64 0) (.slice none 0 0)
  below : Below w.heap.size w wb
theorem box2 (w : World) (r c : Int) (n k : Nat) (a : Option Addr) : Box2 w ((w.alloc (.cells #[.int .i64 r, .int .i64 c, .slice a n k] 24)).alloc (.cells #[.int .i64 0, .int .i64 0, .slice none 0 0] 24)) r c n k a := by
  refine ⟨(Vr.new w _ _ _).later (alloc_low _ _), ?_, two_below (alloc_low _ _) (alloc_low _ _)⟩
  have := Vr.new (w.alloc (.cells #[.int .i64 r, .int .i64 c, .slice a n k] 24)) (.int .i64 0) (.int .i64 0) (.slice none 0 0)
  simpa using this
end Go.Proofs.Ytblfldjlehjnbaa

namespace Go.Proofs.Ytblfldjlehjnbaa
open Go.RowKit
/-- A slice of lists: the i-th lies at A i, has the length L i and the room C i, and reads as f i 0, f i 1, .. -/
structure Rl (w : World) (b : Option Addr) (m : Nat) (A : Nat → Option Addr) (L C : Nat → Nat) (f : Nat → Nat → Nat) : Prop where
  at' : ∀ i, i < m → ∃ x o, b = some ⟨x, o, none⟩ ∧ w.cell? ⟨x, o + i, none⟩ = some (.slice (A i) (L i) (C i))
  sl : ∀ i, i < m → Sl w (A i) (L i) (f i)
  nil : ∀ i, i < m → A i = none → L i = 0 ∧ C i = 0
theorem Rl.later {w w' : World} {b : Option Addr} {m : Nat} {A : Nat → Option Addr} {L C : Nat → Nat} {f : Nat → Nat → Nat} (h : Rl w b m A L C f) (hb : Below w.heap.size w w') : Rl w' b m A L C f :=
  ⟨fun i hi => by
    obtain ⟨x, o, e, hc⟩ := h.at' i hi
    exact ⟨x, o, e, by rw [hb.cell (p := ⟨x, o + i, none⟩) (cell_lt hc)]; exact hc⟩, fun i hi => (h.sl i hi).later hb, h.nil⟩
/-- The rows' entries, one behind the other. -/
def off (f : Nat → Nat → Nat) (c p : Nat) : Nat := f (p / c) (p % c)
/-- What the loop of Of keeps. -/
structure OInv (w wr : World) (m c q : Nat) (G : Nat → Nat) (v : Value) : Prop where
  vr : Vr wr w.heap.size (.int .i64 0) (.int .i64 0) (.slice none 0 0)
  vt : Vr wr (w.heap.size + 1) (.int .i64 (m : Int)) (.int .i64 (c : Int)) v
  own : wr.ownsRow (w.heap.size + 1 + 1) 5 1 v q (row q G).toList
  below : Below w.heap.size w wr
theorem OInv.grown {w w5 w8 : World} {m c q q' cap : Nat} {gg : Option Addr} {G : Nat → Nat} {v : Value} (I : OInv w w5 m c q G v)
    (hown : w8.ownsRow (w.heap.size + 1 + 1) 5 1 (.slice gg q' cap) q' (row q' G).toList) (hg : w5.grownBy w8 v.ownBlock) :
    OInv w (w8.setCell ⟨w.heap.size + 1, 2, none⟩ (.slice gg q' cap)) m c q' G (.slice gg q' cap) := by
  have base := own_base I.own
  refine ⟨?_, ?_, ?_, ?_⟩
  · exact (I.vr.grown hg (fun e => by have := base _ e; omega)).kept (grown_setCell _ _ _ _) (by omega)
  · exact Vr.set2 (I.vt.grown hg (fun e => by have := base _ e; omega)) _
  · exact hown.kept (grown_setCell _ _ _ _) (.inr (fun e => by have := own_base hown _ e; omega))
  · have b8 : Below w.heap.size w w8 := I.below.grown hg I.below.size (fun k hk => by have := base k hk; omega)
    exact b8.setCell (show w.heap.size ≤ w.heap.size + 1 by omega) _
end Go.Proofs.Ytblfldjlehjnbaa

namespace Go.Proofs.Ytblfldjlehjnbaa
open Go.RowKit
end Go.Proofs.Ytblfldjlehjnbaa

namespace Go.Proofs.Ytblfldjlehjnbaa
open Go.RowKit
set_option maxRecDepth 20000 in
set_option maxHeartbeats 1000000 in
theorem rcopy3_any (w : World) (r c : Int) (n k : Nat) (a : Option Addr) (F : Nat → Nat) (ha : Sl w a n F) (hn : n ≤ 140737488351232) (h0 : a = none → n = 0 ∧ k = 0) :
    Calls Try.prog 95 #[mv r c a n k] w fun e w' => ∃ s d, e = .returned (mv r c s n d) ∧ w'.ownsRow w.heap.size 5 1 (.slice s n d) n (row n F).toList ∧ Below w.heap.size w w' := by
  obtain ⟨wb, HW, HX⟩ : ∃ wb, Hid (wb = (w.alloc (.cells #[.int .i64 r, .int .i64 c, .slice a n k] 24)).alloc (.cells #[.int .i64 0, .int .i64 0, .slice none 0 0] 24)) ∧ Hid (Box2 w wb r c n k a) := ⟨_, rfl, box2 w r c n k a⟩
  have HCp : Hid (∀ w', Below w.heap.size w w' → Calls Try.prog 50 #[.slice a n k] w' fun e w'' => ∃ v, e = .returned v ∧ w''.ownsRow w'.heap.size 5 1 v n (row n F).toList ∧ Below w'.heap.size w' w'') := fun w' h' => rcopy_any w' a n k F (ha.later h') hn h0
  have v2 := HX.out.va.c2
  have v1 := HX.out.va.c1
  have v0 := HX.out.va.c0
  clear ha
  go_enter Try.func95, Try.ntmps95
  go_wp2_with (first
    | (go_at_call 50; rw [← HW.out]; refine (HCp.out _ HX.out.below).mono ?_; rintro e w1 ⟨v, rfl, ho, hb1⟩; obtain ⟨s, d, e3, _, _⟩ := own_sl' ho; subst e3; have HO : Hid (w1.ownsRow wb.heap.size 5 1 (.slice s n d) n (row n F).toList) := ho; have HB1 : Hid (Below wb.heap.size wb w1) := hb1; have HVa : Hid (Vr w1 w.heap.size (.int .i64 r) (.int .i64 c) (.slice a n k)) := HX.out.va.later hb1; have HVr : Hid (Vr w1 (w.heap.size + 1) (.int .i64 0) (.int .i64 0) (.slice none 0 0)) := HX.out.vr.later hb1; have u2 := HVa.out.c2; have uf := HVa.out.free 2; have u0 := HVa.out.c0; have u1 := HVa.out.c1; have HVa2 : Hid (Vr (w1.setCell ⟨w.heap.size, 2, none⟩ (.slice s n d)) w.heap.size (.int .i64 r) (.int .i64 c) (.slice s n d)) := HVa.out.set2 (.slice s n d); have z0 := HVa2.out.c0; have z1 := HVa2.out.c1; have z2 := HVa2.out.c2; clear ho hb1)
    | (refine wpList_store_var rfl _ _ rfl (w.heap.size + 1) _ _ _ (.int .i64 r) (.int .i64 c) (.slice s n d) rfl rfl (HVr.out.kept (grown_setCell _ _ _ _) (by omega)) rfl rfl rfl ?_; intro w4 HV4 HG4))
  have d0 := HV4.out.c0
  have d1 := HV4.out.c1
  have d2 := HV4.out.c2
  refine bodyPost_ret (v := mv r c s n d) (by simp [results, Try.results95, go_sem, d0, d1, d2, mv]) rfl ?_
  have hsz := HX.out.below.size
  have hlt := HX.out.vr.lt
  have o1 := HO.out.kept (grown_setCell w1 w.heap.size 2 (.slice s n d)) (.inr (fun h => by have := own_base HO.out _ h; omega))
  have o2 := o1.kept HG4.out (.inr (fun h => by have := own_base HO.out _ h; omega))
  exact ⟨s, d, rfl, own_mono o2 hsz, below_row ((two_below HX.out.below HB1.out).setCell (Nat.le_refl _) _) HG4.out (by omega)⟩
end Go.Proofs.Ytblfldjlehjnbaa

namespace Go.Proofs.Ytblfldjlehjnbaa
open Go.RowKit
theorem likeB_true {r c : Int} {n : Nat} {f h : Nat → Nat} (e : ∀ i, i < n → f i = h i) : likeB r c r c n n f h = true := by
  unfold likeB sameB
  simp
  exact e
end Go.Proofs.Ytblfldjlehjnbaa

namespace Go.Proofs.Ytblfldjlehjnbaa
open Go.RowKit
theorem own_sl2 {w : World} {base n d : Nat} {s : Option Addr} {f : Nat → Nat} (h : w.ownsRow base 5 1 (.slice s n d) n (row n f).toList) (hf : ∀ i, i < n → f i < 256) : Sl w s n f := by
  obtain ⟨a, c, e, hs, _⟩ := own_sl h hf
  cases e
  exact hs
theorem pkf_lt {F z : Nat → Nat} {r c n m : Nat} (hF : ∀ i, i < n → F i < 256) (R : Rt r c n) (hz : ∀ i, i < m → z i < r) (p : Nat) (hp : p < m * c) : pkf F z c p < 256 := by
  have hc : 0 < c := by
    rcases Nat.eq_zero_or_pos c with rfl | h
    · simp at hp
    · exact h
  exact hF _ (R.at (hz _ (Nat.div_lt_of_lt_mul (by rw [Nat.mul_comm]; exact hp))) (Nat.mod_lt _ hc))
end Go.Proofs.Ytblfldjlehjnbaa
