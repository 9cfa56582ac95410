/-
  Stage 21: what comes out of a flow, whatever the values are, and what trimming leaves of it.
  Stage 21: the sum of terms, place by place; values of pieces of blocks.
-/
import Derived.Test.YtkfnedpnkeacpaaQllss38
import Derived.Test.YtkfnedpnkeacpaaQllss00
set_option maxRecDepth 100000
set_option maxHeartbeats 16000000
namespace Go.Proofs.Ytkfnedpnkeacpaa
open Go.RowKit
/-- The value with the number v: b gives the inputs, op makes a node's value of those of its terms. -/
def evl {α : Type} (F : Fl) (b : Nat → α) (op : List (α × Nat) → α) : Nat → Nat → α
 | 0, _ => op []
 | d + 1, v => if v < F.ni then b (F.inp v).toNat else op ((List.range (tn F v)).map fun j => (evl F b op d (tv F v j), F.fc (v - F.ni) j))
theorem qct {α : Type} {F : Fl} {b : Nat → α} {op : List (α × Nat) → α} {d v : Nat} (h : v < F.ni) : evl F b op (d + 1) v = b (F.inp v).toNat := if_pos h
theorem qb3 {α : Type} {F : Fl} {b : Nat → α} {op : List (α × Nat) → α} {d v : Nat} (h : F.ni ≤ v) : evl F b op (d + 1) v = op ((List.range (tn F v)).map fun j => (evl F b op d (tv F v j), F.fc (v - F.ni) j)) := if_neg (by omega)
/-- More steps than the number change nothing. -/
theorem qdq {α : Type} {F : Fl} (hM : MayP F) (b : Nat → α) (op : List (α × Nat) → α) : ∀ d d' v, v < F.ni + F.nn → v < d → v < d' → evl F b op d v = evl F b op d' v := by
 intro d
 induction d with
 | zero => intro d' v _ h; omega
 | succ d ih =>
  intro d' v hv h1 h2
  cases d' with
  | zero => omega
  | succ d' =>
   by_cases e : v < F.ni
   ·rw [qct e, qct e]
   ·rw [qb3 (by omega), qb3 (by omega)]
    congr 1
    apply List.map_congr_left
    intro j hj
    have h3 := (hM.term hv (List.mem_range.1 hj)).2.1
    rw [ih d' _ (by omega) (by omega) (by omega)]
/-- What is kept has its value under its new number. -/
theorem evl_tr {α : Type} {F : Fl} (hM : MayP F) {m : Nat → Bool} {N k : Nat} {g : Nat → Nat} (hN : F.ni + F.nn = N) (he : En (fun x => m x = true) F.ni k g) (hm : ∀ u, m u = true ↔ NeedP F u) (b : Nat → α) (op : List (α × Nat) → α) :
  ∀ d v, v < N → m v = true → evl (trF F m N k g) b op d (ct m v) = evl F b op d v := by
 have hk := qf0 _ _ _ he
 intro d
 induction d with
 | zero => intro v _ _; rfl
 | succ d ih =>
  intro v hv hmv
  by_cases e : v < F.ni
  ·have h1 := qcq hmv e
   obtain ⟨i, hi, hg⟩ := he.all v e hmv
   have h2 := qdo he i hi
   rw [hg] at h2
   rw [qct e, qct (show ct m v < (trF F m N k g).ni by show _ < k; omega)]
   show b ((((F.inp (g (ct m v))).toNat : Nat) : Int)).toNat = _
   rw [h2, hg, Int.toNat_natCast]
  ·obtain ⟨h1, h2, h3⟩ := qf2 (F := F) (N := N) (show F.ni ≤ v by omega) hv hmv
   rw [qb3 (F := trF F m N k g) (show (trF F m N k g).ni ≤ ct m v by show k ≤ _; omega), qb3 (F := F) (by omega), tn_tr hk hv hmv]
   congr 1
   apply List.map_congr_left
   intro j hj
   have hj2 := List.mem_range.1 hj
   have h4 := (hM.term (v := v) (j := j) (by omega) hj2).2.1
   rw [tv_tr hk hv hmv hj2, ih _ (by omega) ((hm _).2 (((hm v).1 hmv).step hj2))]
   have h5 : (trF F m N k g).fc (ct m v - (trF F m N k g).ni) j = F.fc (v - F.ni) j := by
    show (((nlm F m N).getD (ct m v - k) []).getD j (0, 0)).2 = _
    rw [← hk, h3, qb8 hj2]
   rw [h5]
/-- What comes out stays. -/
theorem evl_out {α : Type} {F : Fl} (hM : MayP F) {m : Nat → Bool} {N k : Nat} {g : Nat → Nat} (hN : F.ni + F.nn = N) (he : En (fun x => m x = true) F.ni k g) (hm : ∀ u, m u = true ↔ NeedP F u) (b : Nat → α) (op : List (α × Nat) → α) (d o : Nat) (ho : o < F.no) :
  evl (trF F m N k g) b op d ((trF F m N k g).out o).toNat = evl F b op d (F.out o).toNat := by
 show evl (trF F m N k g) b op d (((ct m (F.out o).toNat : Nat) : Int)).toNat = _
 rw [Int.toNat_natCast]
 exact evl_tr hM hN he hm b op d _ (by have := hM.outLt ho; omega) ((hm _).2 ⟨o, ho, Hng.self _ _⟩)
/-- The inputs of a trimmed flow are among the flow's. -/
theorem trF_inp {F : Fl} (hM : MayP F) {m : Nat → Bool} {N k : Nat} {g : Nat → Nat} (he : En (fun x => m x = true) F.ni k g) (i : Nat) (hi : i < k) : (trF F m N k g).inp i = F.inp (g i) ∧ g i < F.ni := by
 have h1 := he.lt i hi
 have h2 := hM.inp (g i) h1
 refine ⟨?_, h1⟩
 show (((F.inp (g i)).toNat : Nat) : Int) = _
 omega
open Go.RowKit
/-- The sum of the first n terms, at a place. -/
def sx (x : Nat → Nat → Nat) (g : Nat → Nat) : Nat → Nat → Nat
 | 0, _ => 0
 | n + 1, i => sx x g n i ^^^ fm (g n) (x n i)
/-- A node's block. -/
def opx (l : List ((Nat → Nat) × Nat)) : Nat → Nat := fun i => l.foldl (fun s p => s ^^^ fm p.2 (p.1 i)) 0
theorem opx_sx (x : Nat → Nat → Nat) (g : Nat → Nat) : ∀ n, opx ((List.range n).map fun j => (x j, g j)) = sx x g n := by
 intro n
 induction n with
 | zero => rfl
 | succ n ih =>
  funext i
  have := congrFun ih i
  unfold opx at *
  rw [List.range_succ, List.map_append, List.foldl_append, this]
  rfl
theorem sx_lt {x : Nat → Nat → Nat} {g : Nat → Nat} {i : Nat} : ∀ n, (∀ j, j < n → g j < 256) → sx x g n i < 256 := by
 intro n
 induction n with
 | zero => intro _; show 0 < 256; omega
 | succ n ih =>
  intro h
  exact qdb _ _ (ih fun j hj => h j (by omega)) (qc8 _ _ (h n (by omega)))
/-- What a flow's value is, at each place, of blocks b. -/
def vlx (F : Fl) (b : Nat → Nat → Nat) (v : Nat) : Nat → Nat := evl F b opx (v + 1) v
theorem qf8 {F : Fl} {b : Nat → Nat → Nat} {v : Nat} (h : v < F.ni) : vlx F b v = b (F.inp v).toNat := qct h
theorem qce {F : Fl} (hM : MayP F) {b : Nat → Nat → Nat} {v : Nat} (h : F.ni ≤ v) (hv : v < F.ni + F.nn) : vlx F b v = sx (fun j => vlx F b (tv F v j)) (F.fc (v - F.ni)) (tn F v) := by
 unfold vlx
 rw [qb3 h, ← opx_sx]
 congr 1
 apply List.map_congr_left
 intro j hj
 have h3 := (hM.term hv (List.mem_range.1 hj)).2.1
 rw [qdq hM b opx v (tv F v j + 1) _ (by omega) (by omega) (by omega)]
theorem vlx_lt {F : Fl} (hM : MayP F) (hf : ∀ v j, F.ni ≤ v → v < F.ni + F.nn → j < tn F v → F.fc (v - F.ni) j < 256) {b : Nat → Nat → Nat} {i v : Nat} (hb : ∀ v, v < F.ni → b (F.inp v).toNat i < 256) (hN : v < F.ni + F.nn) : vlx F b v i < 256 := by
 by_cases e : v < F.ni
 ·rw [qf8 e]; exact hb v e
 ·rw [qce hM (by omega) hN]
  exact sx_lt _ fun j hj => hf v j (by omega) hN hj
end Go.Proofs.Ytkfnedpnkeacpaa
