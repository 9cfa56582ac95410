/-
  Contracts of copyOf, Sum, Dot.
-/
import Derived.Test.YtaoehildaenbnabLa
import Derived.Laws.CopyOwn
namespace Go.Proofs.Ytaoehildaenbnab
open Go.RowKit
theorem info8 : (Try.prog.info? 5).map (fun i => (i.zero, i.size, i.bytes)) = some (some (.int .u8 0), 1, 1) := by kernel_rfl
theorem row_copy (n : Nat) (f h : Nat → Nat) : splice (row n f).toList 0 (row n h).toList = (row n h).toList := by
  unfold splice
  rw [List.take_zero, List.nil_append, List.drop_of_length_le (by simp [row_size]), List.append_nil]
theorem row_listget (n : Nat) (f : Nat → Nat) (j : Nat) (v : Value) (h : (row n f).toList[j]? = some v) : j < n ∧ v = .int .u8 (f j : Nat) := by
  have hj : j < (row n f).toList.length := (List.getElem?_eq_some_iff.1 h).1
  have hj' : j < n := by simpa [row_size] using hj
  refine ⟨hj', ?_⟩
  have e := row_get n f j hj'
  rw [← Array.getElem?_toList] at e
  rw [e] at h
  simpa using h.symm
theorem made_at {w1 : World} {base g n : Nat} (h : w1.ownsRow base 5 1 (.slice (some ⟨g, 0, none⟩) n n) n (madeCells (Value.int .u8 0).cells (n * 1)).toList) : RowAt w1 g 5 n (fun _ => 0) := by
  refine owned_row h ?_
  rw [Nat.mul_one]
  exact congrArg Array.toList (made_row n)
theorem row_list {w1 : World} {g n : Nat} {t : TypeId} {f : Nat → Nat} {zs : List Value} (h : RowAt w1 g t n f) (hz : zs = (row n f).toList) : w1.heap[g]? = some (.cells zs.toArray t (0, 0)) := by
  rw [hz, Array.toArray_toList]; exact h
theorem copy_src {w w1 : World} {a : Option Addr} {n : Nat} {f : Nat → Nat} {xs : List Value} (ha : Sl w a n f) (hb : Below w.heap.size w w1) (hx : xs = (row n f).toList) (g : Nat) :
    0 < xs.length → some (⟨g, 0, none⟩ : Addr) = some ⟨g, 0, none⟩ ∧ ∃ ad, a = some ad ∧ ∀ j v, xs[j]? = some v → w1.cell? (ad.add j) = some v := by
  intro h0
  have hn : 0 < n := by rw [hx] at h0; simpa [row_size] using h0
  obtain ⟨b, o, e, _⟩ := ha.2 0 hn
  refine ⟨rfl, ⟨b, o, none⟩, e, ?_⟩
  intro j v hj
  rw [hx] at hj
  obtain ⟨hjn, rfl⟩ := row_listget n f j v hj
  obtain ⟨b', o', e', hc⟩ := (ha.later hb).2 j hjn
  rw [e] at e'
  cases e'
  have hplain : (⟨b, o, none⟩ : Addr).add j = ⟨b, o + j, none⟩ := by unfold Addr.add; split <;> simp_all
  rw [hplain]
  exact hc
theorem copied_row {w2 : World} {g n : Nat} {t : TypeId} {f : Nat → Nat} {zs xs : List Value} (h : Hid (w2.heap[g]? = some (.cells (splice zs 0 xs).toArray t (0, 0)))) (hz : zs = (row n fun _ => 0).toList) (hx : xs = (row n f).toList) : RowAt w2 g t n f := by
  have h := h.out
  rw [hz, hx, row_copy, Array.toArray_toList] at h
  exact h
set_option maxHeartbeats 400000 in
theorem copy_any (w : World) (a : Option Addr) (n c : Nat) (f : Nat → Nat) (ha : Sl w a n f) (hn : n ≤ 140737488351232) :
    Calls Try.prog 42 #[.slice a n c] w fun e w' => e = .returned (.slice (some ⟨w.heap.size, 0, none⟩) n n) ∧ RowAt w' w.heap.size 5 n f ∧ Below w.heap.size w w' := by
  obtain ⟨i0, hi, hz0, hz1, hz2⟩ := info_parts info8
  have hml : n ≤ maxLen := by unfold maxLen; omega
  have hsz : (Try.prog.info? 5).map (·.size) = some 1 := info5
  obtain ⟨zs, HZ⟩ : ∃ zs, Hid (zs = (row n fun _ => 0).toList) := ⟨_, rfl⟩
  obtain ⟨xs, HX⟩ : ∃ xs, Hid (xs = (row n f).toList) := ⟨_, rfl⟩
  have hlen : xs.length = n := by rw [HX.out]; simp [row_size]
  have hzlen : zs.length = n := by rw [HZ.out]; simp [row_size]
  have hmin : xs.length = Nat.min n n := by rw [hlen]; exact (Nat.min_self n).symm
  have hfit : 0 + xs.length ≤ zs.length := by omega
  have hone : ∀ v ∈ xs, v.oneCell' = true := by
    rw [HX.out]
    intro v hv
    obtain ⟨j, hj⟩ := List.getElem?_of_mem hv
    rw [(row_listget n f j v hj).2]; rfl
  have HA : Hid (Sl w a n f) := ha
  have HM : Hid (xs.length = Nat.min n n) := hmin
  clear ha hlen hzlen hmin
  go_enter Try.func42, Try.ntmps42
  go_wp2_with (first
    | (at_make; refine wpList_make_full _ rfl _ _ 22 rfl w.heap.size 5 i0 (.int .u8 0) 1 Try.underlying22 hi hz0 hz1 .i64 .i64 _ _ n rfl rfl rfl rfl (by rw [hz2]; omega) hml (Nat.le_refl _) ?_; intro w1 hown hgrow; have HR : Hid _ := row_list (made_at hown) HZ.out; have HB : Hid _ := grown_none.mp hgrow; clear hown hgrow)
    | (refine wpList_copy_splice rfl _ _ 22 22 rfl 5 Try.underlying22 hsz _ _ n n n c rfl rfl w.heap.size 0 zs 5 HR.out xs HM.out (copy_src HA.out HB.out HX.out w.heap.size) hfit hone w.heap.size w HB.out (Nat.le_refl _) ?_; intro w2 HG2 hB2))
  go_ret
  exact ⟨rfl, copied_row (by assumption) HZ.out HX.out, by assumption⟩
theorem row_step {wr : World} {g k n : Nat} {t : TypeId} {f f' : Nat → Nat} (h : RowAt wr g t n (fun j => if j < k then f' j else f j)) :
    RowAt (wr.setCell ⟨g, k, none⟩ (.int .u8 (f' k : Nat))) g t n (fun j => if j < k + 1 then f' j else f j) :=
  (h.set k (f' k)).congr (by
    intro i _
    by_cases e : i = k
    · subst e; simp
    · by_cases e2 : i < k
      · simp [e, e2, show i < k + 1 by omega]
      · simp [e, e2, show ¬ i < k + 1 by omega])
theorem row_full {wr : World} {g k n : Nat} {t : TypeId} {f f' : Nat → Nat} (h : RowAt wr g t n (fun j => if j < k then f' j else f j)) (hk : n ≤ k) : RowAt wr g t n f' :=
  h.congr (by intro i hi; simp [show i < k by omega])
theorem row_none {wr : World} {g n : Nat} {t : TypeId} {f f' : Nat → Nat} (h : RowAt wr g t n f) : RowAt wr g t n (fun j => if j < 0 then f' j else f j) :=
  h.congr (by intro i hi; simp)
theorem row_here {wr : World} {g k n : Nat} {t : TypeId} {f f' : Nat → Nat} (h : RowAt wr g t n (fun j => if j < k then f' j else f j)) (hk : k < n) : wr.cell? ⟨g, k, none⟩ = some (.int .u8 (f k : Nat)) := by
  have := h.cell k hk
  simpa using this
/-- The sum of the first k products. -/
def dot (f h : Nat → Nat) : Nat → Nat
  | 0 => 0
  | k + 1 => dot f h k ^^^ fm (f k) (h k)
theorem dot_lt (f h : Nat → Nat) (n : Nat) (hf : ∀ i, i < n → f i < 256) : ∀ k, k ≤ n → dot f h k < 256 := by
  intro k
  induction k with
  | zero => intro _; simp [dot]
  | succ k ih => intro hk; exact xor_lt _ _ (ih (by omega)) (fm_lt _ _ (hf k (by omega)))
set_option maxHeartbeats 400000 in
theorem dot_any (w : World) (a b : Option Addr) (n c d : Nat) (f h : Nat → Nat) (ha : Sl w a n f) (hb : Sl w b n h) (hn : n ≤ 140737488351232) :
    Calls Try.prog 29 #[.slice a n c, .slice b n d] w fun e w' => e = .returned (.tuple #[.int .u8 (dot f h n : Nat), .int .i64 0]) ∧ w' = w := by
  have HA : Hid (Sl w a n f) := ha
  have HB : Hid (Sl w b n h) := hb
  clear ha hb
  go_enter Try.func29, Try.ntmps29
  go_wp2
  go_loop [6, 16] (fun s i => ∃ k : Nat, k ≤ n ∧ i = .int .i64 (k : Int) ∧ s = .int .u8 ((dot f h k : Nat) : Int)) (fun _ i => n - (intOf i).toNat)
  case atStart => exact ⟨0, by omega, rfl, rfl⟩
  case round =>
    obtain ⟨k, hk, rfl, rfl⟩ := hrel
    by_cases hlt : k < n
    · obtain ⟨ba, oa, ea, hca⟩ := HA.out.2 k hlt
      obtain ⟨bb, ob, eb, hcb⟩ := HB.out.2 k hlt
      have hx := HA.out.1 k hlt
      have hy := HB.out.1 k hlt
      have hs := dot_lt f h n HA.out.1 k hk
      have hp := fm_lt (f k) (h k) hx
      have hxo : bits .xor .u8 (dot f h k : Int) (fm (f k) (h k) : Int) = ((dot f h (k + 1) : Nat) : Int) := u8_xor_nat _ _ hs hp
      clear HA HB
      subst ea eb
      go_wp2_with (go_at_call 41; refine (mul_nat _ _ _ hx hy).mono ?_; rintro e w' ⟨rfl, rfl⟩)
      exact ⟨⟨k + 1, by omega, by go_num, rfl⟩, by simp [intOf]; omega⟩
    · obtain rfl : k = n := by omega
      go_wp2
      go_ret2
      exact ⟨rfl, rfl⟩
set_option maxHeartbeats 400000 in
theorem dot_bad (w : World) (a b : Option Addr) (n m c d : Nat) (hn : n ≠ m) :
    Calls Try.prog 29 #[.slice a n c, .slice b m d] w fun e w' => e = .returned (.tuple #[.int .u8 0, .int .i64 3]) ∧ w' = w := by
  have t : ((n : Int) != (m : Int)) = true := by simp; omega
  go_enter Try.func29, Try.ntmps29
  go_wp2
  go_ret2
  exact ⟨rfl, rfl⟩
end Go.Proofs.Ytaoehildaenbnab
