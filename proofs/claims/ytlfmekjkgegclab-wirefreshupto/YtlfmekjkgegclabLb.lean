/-
  Contracts of copyOf, Sum, Dot.
-/
import Derived.Test.YtlfmekjkgegclabLa
import Derived.Laws.CopyOwn
namespace Go.Proofs.Ytlfmekjkgegclab
open Go.RowKit
theorem info8 : (Try.prog.info? 5).map (fun i => (i.zero, i.size, i.bytes)) = some (some (.int .u8 0), 1, 1) := by kernel_rfl
theorem row_copy (n : Nat) (f h : Nat → Nat) : splice (row n f).toList 0 (row n h).toList = (row n h).toList := by
  unfold splice
  rw [List.take_zero, List.nil_append, List.drop_of_length_le (by simp [row_size]), List.append_nil]
theorem row_listget (n : Nat) (f : Nat → Nat) (j : Nat) (v : Value) (h : (row n f).toList[j]? = some v) : j < n ∧ v = .int .u8 (f j : Nat) := by
  have hj : j < (row n f).toList.length := (List.getElem?_eq_some_iff.1 h).1
  have hj' : j < n := by simpa [row_size] using hj
  refine ⟨hj', ?_⟩
  have e := row_get n f j hj'
  rw [← Array.getElem?_toList] at e
  rw [e] at h
  simpa using h.symm
theorem made_at {w1 : World} {base g n : Nat} (h : w1.ownsRow base 5 1 (.slice (some ⟨g, 0, none⟩) n n) n (madeCells (Value.int .u8 0).cells (n * 1)).toList) : RowAt w1 g 5 n (fun _ => 0) := by
  refine owned_row h ?_
  rw [Nat.mul_one]
  exact congrArg Array.toList (made_row n)
theorem row_list {w1 : World} {g n : Nat} {t : TypeId} {f : Nat → Nat} {zs : List Value} (h : RowAt w1 g t n f) (hz : zs = (row n f).toList) : w1.heap[g]? = some (.cells zs.toArray t (0, 0)) := by
  rw [hz, Array.toArray_toList]; exact h
theorem copy_src {w w1 : World} {a : Option Addr} {n : Nat} {f : Nat → Nat} {xs : List Value} (ha : Sl w a n f) (hb : Below w.heap.size w w1) (hx : xs = (row n f).toList) (g : Nat) :
    0 < xs.length → some (⟨g, 0, none⟩ : Addr) = some ⟨g, 0, none⟩ ∧ ∃ ad, a = some ad ∧ ∀ j v, xs[j]? = some v → w1.cell? (ad.add j) = some v := by
  intro h0
  have hn : 0 < n := by rw [hx] at h0; simpa [row_size] using h0
  obtain ⟨b, o, e, _⟩ := ha.2 0 hn
  refine ⟨rfl, ⟨b, o, none⟩, e, ?_⟩
  intro j v hj
  rw [hx] at hj
  obtain ⟨hjn, rfl⟩ := row_listget n f j v hj
  obtain ⟨b', o', e', hc⟩ := (ha.later hb).2 j hjn
  rw [e] at e'
  cases e'
  have hplain : (⟨b, o, none⟩ : Addr).add j = ⟨b, o + j, none⟩ := by unfold Addr.add; split <;> simp_all
  rw [hplain]
  exact hc
theorem copied_row {w2 : World} {g n : Nat} {t : TypeId} {f : Nat → Nat} {zs xs : List Value} (h : Hid (w2.heap[g]? = some (.cells (splice zs 0 xs).toArray t (0, 0)))) (hz : zs = (row n fun _ => 0).toList) (hx : xs = (row n f).toList) : RowAt w2 g t n f := by
  have h := h.out
  rw [hz, hx, row_copy, Array.toArray_toList] at h
  exact h
theorem row_step {wr : World} {g k n : Nat} {t : TypeId} {f f' : Nat → Nat} (h : RowAt wr g t n (fun j => if j < k then f' j else f j)) :
    RowAt (wr.setCell ⟨g, k, none⟩ (.int .u8 (f' k : Nat))) g t n (fun j => if j < k + 1 then f' j else f j) :=
  (h.set k (f' k)).congr (by
    intro i _
    by_cases e : i = k
    · subst e; simp
    · by_cases e2 : i < k
      · simp [e, e2, show i < k + 1 by omega]
      · simp [e, e2, show ¬ i < k + 1 by omega])
theorem row_full {wr : World} {g k n : Nat} {t : TypeId} {f f' : Nat → Nat} (h : RowAt wr g t n (fun j => if j < k then f' j else f j)) (hk : n ≤ k) : RowAt wr g t n f' :=
  h.congr (by intro i hi; simp [show i < k by omega])
theorem row_none {wr : World} {g n : Nat} {t : TypeId} {f f' : Nat → Nat} (h : RowAt wr g t n f) : RowAt wr g t n (fun j => if j < 0 then f' j else f j) :=
  h.congr (by intro i hi; simp)
theorem row_here {wr : World} {g k n : Nat} {t : TypeId} {f f' : Nat → Nat} (h : RowAt wr g t n (fun j => if j < k then f' j else f j)) (hk : k < n) : wr.cell? ⟨g, k, none⟩ = some (.int .u8 (f k : Nat)) := by
  have := h.cell k hk
  simpa using this
/-- The sum of the first k products. -/
def dot (f h : Nat → Nat) : Nat → Nat
  | 0 => 0
  | k + 1 => dot f h k ^^^ fm (f k) (h k)
theorem dot_lt (f h : Nat → Nat) (n : Nat) (hf : ∀ i, i < n → f i < 256) : ∀ k, k ≤ n → dot f h k < 256 := by
  intro k
  induction k with
  | zero => intro _; simp [dot]
  | succ k ih => intro hk; exact xor_lt _ _ (ih (by omega)) (fm_lt _ _ (hf k (by omega)))
end Go.Proofs.Ytlfmekjkgegclab
