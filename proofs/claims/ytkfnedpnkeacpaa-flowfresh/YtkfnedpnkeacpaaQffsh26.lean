/-
  Stage 21: numbersAnew, renumbered.
-/
import Derived.Test.YtkfnedpnkeacpaaQffsh00
import Derived.Test.YtkfnedpnkeacpaaQffsh25
import Derived.Test.YtkfnedpnkeacpaaQffsh20
set_option maxRecDepth 100000
set_option maxHeartbeats 16000000
namespace Go.Proofs.Ytkfnedpnkeacpaa
open Go.RowKit
/-- How many of the first i are marked. -/
def ct (m : Nat → Bool) : Nat → Nat
 | 0 => 0
 | i + 1 => ct m i + (if m i = true then 1 else 0)
theorem ct_le (m : Nat → Bool) : ∀ i, ct m i ≤ i := by
 intro i
 induction i with
 | zero => exact Nat.le_refl _
 | succ i ih =>
  show ct m i + (if m i = true then 1 else 0) ≤ i + 1
  split <;> omega
/-- A list in a new block is answered. -/
def GaA (w0 w : World) (T : TypeId) (N : Nat) (v : Nat → Value) (e : Ending) : Prop := ∃ g : Nat, e = .returned (.slice (some ⟨g, 0, none⟩) N N) ∧ w0.heap.size ≤ g ∧ Ga w g T N v
theorem fnum_any (w : World) (gm N : Nat) (m : Nat → Bool) (h : Ga w gm 4 N (fun i => .bool (m i))) (hN : N ≤ 4160) :
  Calls Try.prog 43 #[.slice (some ⟨gm, 0, none⟩) N N] w fun e w' => GaA w w' 3 N (fun i => .int .i64 (ct m i : Nat)) e ∧ Below w.heap.size w w' := by
 obtain ⟨i0, hi0, hz0, hz1, hz2⟩ := info_parts ji64
 have HG := qa0 h
 have hgm := h.lt
 have hml : N ≤ maxLen := by unfold maxLen; omega
 obtain ⟨Q, HQ⟩ : ∃ Q : World → Ending → Prop, Hid ((fun w2 e => GaA w w2 3 N (fun i => .int .i64 (ct m i : Nat)) e) = Q) := ⟨_, rfl⟩
 have HQ2 : Hid (∀ (w2 : World) (g : Nat), w.heap.size ≤ g → Ga w2 g 3 N (fun i => .int .i64 (ct m i : Nat)) → Q w2 (.returned (.slice (some ⟨g, 0, none⟩) N N))) := fun w2 g h1 h2 => by
  rw [← HQ.out]
  exact ⟨g, rfl, h1, h2⟩
 show Calls _ _ _ _ fun e w' => (fun w2 e => GaA w w2 3 N (fun i => .int .i64 (ct m i : Nat)) e) w' e ∧ _
 rw [HQ.out]
 clear h HQ
 go_enter Try.func43, Try.ntmps43
 go_wp2_with (at_make; refine wpList_make_full _ rfl _ _ 25 rfl w.heap.size 3 i0 (.int .i64 0) 1 Try.underlying25 hi0 hz0 hz1 .i64 .i64 _ _ N rfl rfl rfl rfl (by rw [hz2]; omega) hml (Nat.le_refl _) ?_; intro w2 hown hgrow; have HG2 : Hid (Ga w2 w.heap.size 3 N (fun _ => .int .i64 0)) := qbi rfl hown; have HB2 := qa0 (qag.mp hgrow); clear hown hgrow)
 go_loopw [4, 12] (fun vn vi wr => ∃ j : Nat, j ≤ N ∧ vi = .int .i64 (j : Int) ∧ vn = .int .i64 (ct m j : Nat) ∧ Ga wr w.heap.size 3 N (fun i => .int .i64 (if i < j then (ct m i : Nat) else 0)) ∧ Below w.heap.size w wr) (fun _ vi _ => N - (intOf vi).toNat)
 case atStart => exact ⟨0, by omega, rfl, rfl, HG2.out.congr (fun i _ => by simp), HB2.out⟩
 case round =>
  clear HG2 HB2
  obtain ⟨j, hj, rfl, rfl, hg, hb⟩ := hrel
  have HG3 := qa0 hg
  have HB := qa0 hb
  have hcl := ct_le m j
  obtain ⟨n, HNn⟩ : ∃ n, Hid (ct m j = n) := ⟨_, rfl⟩
  rw [HNn.out] at hcl ⊢
  by_cases hlt : j < N
  ·have c0 := (HG.out.later hb).cell j hlt
   have c1 := hg.cell j hlt
   have f1 := hg.free j
   rw [if_neg (by omega)] at c1
   have q0 : (0 : Int) ≤ (j : Int) := by omega
   have q1 : (j : Int) < (N : Int) := by omega
   have HS : Hid (Ga (wr.setCell ⟨w.heap.size, j, none⟩ (.int .i64 (n : Int))) w.heap.size 3 N (fun i => .int .i64 (if i < j + 1 then (ct m i : Nat) else 0))) := (hg.set j _).congr (fun i _ => by
    by_cases e : i = j
    ·rw [if_pos e, if_pos (by omega), e, HNn.out]
    ·rw [if_neg e]
     by_cases e2 : i < j
     ·rw [if_pos e2, if_pos (by omega)]
     ·rw [if_neg e2, if_neg (by omega)])
   have HB3 : Hid (Below w.heap.size w (wr.setCell ⟨w.heap.size, j, none⟩ (.int .i64 (n : Int)))) := hb.setCell (Nat.le_refl _) _
   clear hg hb
   cases hmj : m j with
   | true =>
    rw [hmj] at c0
    have HC : Hid (ct m (j + 1) = n + 1) := by show ct m j + (if m j = true then 1 else 0) = _; rw [HNn.out, hmj, if_pos rfl]
    have w1 : IntKind.i64.wrap ((n : Int) + 1) = (n : Int) + 1 := by rw [IntKind.wrap_i64]; omega
    clear hmj
    go_wp2
    exact ⟨⟨j + 1, by omega, by go_num, by rw [HC.out]; simp, HS.out, HB3.out⟩, by simp [intOf]; omega⟩
   | false =>
    rw [hmj] at c0
    have HC : Hid (ct m (j + 1) = n) := by show ct m j + (if m j = true then 1 else 0) = _; rw [HNn.out, hmj]; rfl
    clear hmj
    go_wp2
    exact ⟨⟨j + 1, by omega, by go_num, by rw [HC.out], HS.out, HB3.out⟩, by simp [intOf]; omega⟩
  ·obtain rfl : j = N := by omega
   clear hg hb
   go_wp2
   go_ret
   exact ⟨HQ2.out _ _ (Nat.le_refl _) (HG3.out.congr (fun i hi => by rw [if_pos hi])), HB.out⟩
/-- The cells of n terms at a block. -/
def Tb (w : World) (g n : Nat) (h : Nat → Trm) : Prop := w.heap[g]? = some (.cells (trow ((List.range n).map h)).toArray 61 (0, 0))
theorem Tb.lt {w : World} {g n : Nat} {h : Nat → Trm} (k : Tb w g n h) : g < w.heap.size := lt_of_block k
theorem Tb.later {w w' : World} {g n : Nat} {h : Nat → Trm} (k : Tb w g n h) (hb : Below w.heap.size w w') : Tb w' g n h := by unfold Tb; rw [hb.block g k.lt]; exact k
theorem Tb.congr {w : World} {g n : Nat} {h h' : Nat → Trm} (k : Tb w g n h) (e : ∀ i, i < n → h i = h' i) : Tb w g n h' := by
 unfold Tb
 rw [← List.map_congr_left (fun i hi => e i (by simpa using hi))]
 exact k
theorem qb4 (L : List Trm) : (trow L).length = L.length * 2 := by
 induction L with
 | nil => rfl
 | cons x L ih =>
  show (trow L).length + 1 + 1 = (L.length + 1) * 2
  omega
theorem Tb.cell {w : World} {g n : Nat} {h : Nat → Trm} (k : Tb w g n h) (i : Nat) (hi : i < n) : w.cell? ⟨g, i * 2, none⟩ = some (.int .i64 (h i).1) ∧ w.cell? ⟨g, i * 2 + 1, none⟩ = some (.int .u8 ((h i).2 : Int)) := by
 have hg : ((List.range n).map h)[i]? = some (h i) := by simp [hi]
 obtain ⟨h0, h1⟩ := qbq _ i _ hg
 exact ⟨by rw [cell_of_row w g _ _ _ _ k, List.getElem?_toArray]; exact h0, by rw [cell_of_row w g _ _ _ _ k, List.getElem?_toArray]; exact h1⟩
theorem Tb.free {w : World} {g n : Nat} {h : Nat → Trm} (k : Tb w g n h) (i : Nat) : w.frozen? ⟨g, i, none⟩ = false := by
 unfold Tb at k
 simp [World.frozen?, k]
theorem Tb.tw {w : World} {g n B : Nat} {h : Nat → Trm} (k : Tb w g n h) (hB : B ≤ g) (hn : n ≤ maxLen) : Tw w B (.slice (some ⟨g, 0, none⟩) n n) ((List.range n).map h) := by
 refine ⟨qb4 _, .inr ⟨g, n, (trow ((List.range n).map h)).toArray, by simp, hB, k, by simp, hn, by rw [List.size_toArray, qb4]; simp, ?_⟩⟩
 rw [List.take_of_length_le (by rw [qb4]; simp)]
theorem trow_set : ∀ (L : List Trm) (i : Nat) (c : Trm), i < L.length → ((trow L).set (i * 2) (.int .i64 c.1)).set (i * 2 + 1) (.int .u8 (c.2 : Int)) = trow (L.set i c) := by
 intro L
 induction L with
 | nil => intro i c h; simp at h
 | cons x L ih =>
  intro i c h
  cases i with
  | zero => rfl
  | succ i =>
   have e : (i + 1) * 2 = i * 2 + 1 + 1 := by omega
   rw [e]
   have := ih i c (by simpa using h)
   show Value.int .i64 x.1 :: Value.int .u8 (x.2 : Int) :: (((trow L).set (i * 2) (.int .i64 c.1)).set (i * 2 + 1) (.int .u8 (c.2 : Int))) = _
   rw [this]
   rfl
theorem Tb.set {w : World} {g n : Nat} {h : Nat → Trm} (k : Tb w g n h) (i : Nat) (c : Trm) (hi : i < n) : Tb ((w.setCell ⟨g, i * 2, none⟩ (.int .i64 c.1)).setCell ⟨g, i * 2 + 1, none⟩ (.int .u8 (c.2 : Int))) g n (fun j => if j = i then c else h j) := by
 have e : ((List.range n).map h).set i c = (List.range n).map (fun j => if j = i then c else h j) := by
  apply List.ext_getElem
  ·simp
  ·intro j h1 h2
   by_cases e : i = j
   ·subst e; simp
   ·rw [List.getElem_set_ne (by exact e)]; simp [Ne.symm e]
 have h1 : (w.setCell ⟨g, i * 2, none⟩ (.int .i64 c.1)).heap[g]? = some (.cells ((trow ((List.range n).map h)).set (i * 2) (.int .i64 c.1)).toArray 61 (0, 0)) := by
  rw [setCell_eq_setRow w g _ _ _ (0, 0) _ k, setRow_heap w g _ _ _ (0, 0) k, List.setIfInBounds_toArray]
 unfold Tb
 rw [setCell_eq_setRow _ g _ _ _ (0, 0) _ h1, setRow_heap _ g _ _ _ (0, 0) h1, List.setIfInBounds_toArray, trow_set _ _ _ (by simpa using hi), e]
theorem tb_row (n : Nat) : (madeCells (Value.agg #[.int .i64 0, .int .u8 0]).cells (n * 2)).toList = trow ((List.range n).map fun _ => ((0 : Int), (0 : Nat))) := by
 apply List.ext_getElem
 ·rw [qb4, Array.length_toList, size_madeCells]; simp
 ·intro i h1 h2
  have hi : i < n * 2 := by rw [Array.length_toList, size_madeCells] at h1; exact h1
  have hg : ((List.range n).map fun _ => ((0 : Int), (0 : Nat)))[i / 2]? = some (0, 0) := by
   have h3 : i / 2 < n := by omega
   simp [h3]
  obtain ⟨t0, t1⟩ := qbq _ _ _ hg
  by_cases e : i % 2 = 0
  ·have e2 : i / 2 * 2 = i := by omega
   rw [e2] at t0
   rw [List.getElem?_eq_getElem h2] at t0
   rw [Option.some.inj t0]
   simp [madeCells, Value.cells, e]
  ·have e2 : i / 2 * 2 + 1 = i := by omega
   have e3 : i % 2 = 1 := by omega
   rw [e2] at t1
   rw [List.getElem?_eq_getElem h2] at t1
   rw [Option.some.inj t1]
   simp [madeCells, Value.cells, e3]
theorem tb_made {w1 : World} {base g n : Nat} (h : w1.ownsRow base 61 2 (.slice (some ⟨g, 0, none⟩) n n) n (madeCells (Value.agg #[.int .i64 0, .int .u8 0]).cells (n * 2)).toList) : Tb w1 g n (fun _ => (0, 0)) := by
 rcases h.2 with ⟨h', _⟩ | ⟨g', cap', cur, h', _, hg, _, _, hs, htake⟩
 ·simp at h'
 ·simp only [Value.slice.injEq, Option.some.injEq, Addr.mk.injEq, and_true, true_and] at h'
  obtain ⟨rfl, rfl⟩ := h'
  unfold Tb
  rw [hg]
  congr 2
  apply Array.toList_inj.mp
  rw [List.take_of_length_le (by simp; omega)] at htake
  rw [htake, tb_row]
theorem InP.ge {n : Nat} {q : Nat → Int} (h : InP n q) : ∀ i, i < n → (i : Int) ≤ q i := by
 intro i
 induction i with
 | zero => intro hi; exact (h 0 hi).1
 | succ i ih =>
  intro hi
  have h1 := ih (by omega)
  have h2 := (h (i + 1) hi).2.2 (by omega)
  rw [Nat.add_sub_cancel] at h2
  omega
theorem InP.le {n : Nat} {q : Nat → Int} (h : InP n q) : n ≤ 64 := by
 by_cases h0 : n = 0
 ·omega
 ·have h1 := h.ge (n - 1) (by omega)
  have h2 := (h (n - 1) (by omega)).2.1
  omega
/-- The terms with new numbers. -/
theorem fren_any (w : World) (t : Option Addr) (n d gn N : Nat) (f : Nat → Int) (y : Nat → Nat) (z : Nat → Nat) (v : Nat → Nat) (ht : Tml w t n f z) (hf : ∀ j, j < n → f j = (y j : Int) ∧ y j < N) (hG : Ga w gn 3 N (fun i => .int .i64 (v i : Nat))) (hn : n ≤ 4160) :
  Calls Try.prog 44 #[.slice t n d, .slice (some ⟨gn, 0, none⟩) N N] w fun e w' => (∃ u, e = .returned u ∧ Tw w' w.heap.size u ((List.range n).map fun j => (((v (y j) : Nat) : Int), z j))) ∧ Below w.heap.size w w' := by
 obtain ⟨i0, hi0, hz0, hz1, hz2⟩ := info_parts jtrm
 have HT := qa0 ht
 have HF := qa0 hf
 have HG := qa0 hG
 have hml : n ≤ maxLen := by unfold maxLen; omega
 clear ht hf hG
 go_enter Try.func44, Try.ntmps44
 go_wp2_with (at_make; refine wpList_make_full _ rfl _ _ 59 rfl w.heap.size 61 i0 (.agg #[.int .i64 0, .int .u8 0]) 2 Try.underlying59 hi0 hz0 hz1 .i64 .i64 _ _ n rfl rfl rfl rfl (by rw [hz2]; omega) hml (Nat.le_refl _) ?_; intro w2 hown hgrow; have HG2 : Hid (Tb w2 w.heap.size n (fun _ => (0, 0))) := tb_made hown; have HB2 := qa0 (qag.mp hgrow); clear hown hgrow)
 go_loopw [13] (fun vi wr => ∃ j : Nat, j ≤ n ∧ vi = .int .i64 (j : Int) ∧ Tb wr w.heap.size n (fun i => if i < j then (((v (y i) : Nat) : Int), z i) else (0, 0)) ∧ Below w.heap.size w wr) (fun vi _ => n - (intOf vi).toNat)
 case atStart => exact ⟨0, by omega, rfl, HG2.out.congr (fun i _ => by simp), HB2.out⟩
 case round =>
  clear HG2 HB2
  obtain ⟨j, hj, rfl, hg, hb⟩ := hrel
  have HG3 := qa0 hg
  have HB := qa0 hb
  by_cases hlt : j < n
  ·obtain ⟨hz8, x, o, rfl, t0, t1⟩ := (HT.out.later hb) j hlt
   obtain ⟨e1, e2⟩ := HF.out j hlt
   rw [e1] at t0
   obtain ⟨yj, HY⟩ : ∃ k, Hid (y j = k) := ⟨_, rfl⟩
   obtain ⟨zj, HZ⟩ : ∃ k, Hid (z j = k) := ⟨_, rfl⟩
   rw [HY.out] at t0 e2
   rw [HZ.out] at t1
   obtain ⟨vj, HVj⟩ : ∃ k, Hid (v yj = k) := ⟨_, rfl⟩
   have hl := jlow wr (.cells #[.int .i64 (yj : Int), .int .u8 (zj : Int)] 61)
   have c0 := ((HG.out.later hb).later hl).cell yj e2
   rw [HVj.out] at c0
   have q0 : (0 : Int) ≤ (j : Int) := by omega
   have q1 : (j : Int) < (n : Int) := by omega
   have r0 : (0 : Int) ≤ (yj : Int) := by omega
   have r1 : (yj : Int) < (N : Int) := by omega
   have k3 := HG3.out.later hl
   obtain ⟨d0, d1⟩ := k3.cell j hlt
   have f0 := k3.free (j * 2)
   have f1 := k3.free (j * 2 + 1)
   clear hg hb
   go_wp2
   have hv0 := (Vf.new wr 61 #[.int .i64 (yj : Int), .int .u8 (zj : Int)]).cell 0 (.int .i64 (yj : Int)) rfl
   have hv1 := (Vf.new wr 61 #[.int .i64 (yj : Int), .int .u8 (zj : Int)]).cell 1 (.int .u8 (zj : Int)) rfl
   have HD : Hid ((fun w' => w'.cell? ⟨wr.heap.size, 0, none⟩ = some (.int .i64 (yj : Int)) ∧ w'.cell? ⟨wr.heap.size, 1, none⟩ = some (.int .u8 (zj : Int)) ∧ w'.cell? ⟨gn, yj, none⟩ = some (.int .i64 (vj : Int))) (wr.alloc (.cells #[.int .i64 (yj : Int), .int .u8 (zj : Int)] 61)).drew) := ⟨hv0, hv1, c0⟩
   rw [if_neg (by omega)] at d0 d1
   refine qa7 (k := 11) (n := 11) (fun w' => w'.cell? ⟨wr.heap.size, 0, none⟩ = some (.int .i64 (yj : Int)) ∧ w'.cell? ⟨wr.heap.size, 1, none⟩ = some (.int .u8 (zj : Int)) ∧ w'.cell? ⟨gn, yj, none⟩ = some (.int .i64 (vj : Int))) (by kernel_rfl) (by kernel_rfl) (by decide) (by rfl) ?_
   refine wtkq 0 ?vt0 rfl (by kernel_rfl) (fun _ _ _ h => h) (by rfl) ?yt0 HD.out ?zt0
   case yt0 => (intro w hSw; (try dsimp only at hSw); go_simp; try with_reducible rfl)
   try simp only [mz1, mz3, Act.put, mz4, mz5, mz6]
   refine wtkq 1 ?vt1 rfl (by kernel_rfl) (fun _ _ _ h => h) (by rfl) ?yt1 HD.out ?zt1
   case yt1 => (intro w hSw; (try dsimp only at hSw); go_simp; try with_reducible rfl)
   try simp only [mz1, mz2, mz3, Act.put, mz4, mz5, mz6]
   refine wtkq 2 ?vt2 rfl (by kernel_rfl) (fun _ _ _ h => h) (by rfl) ?yt2 HD.out ?zt2
   case yt2 => (intro w hSw; (try dsimp only at hSw); go_simp; try with_reducible rfl)
   try simp only [mz1, mz2, mz3, Act.put, mz4, mz5, mz6]
   refine wtkq 3 ?vt3 rfl (by kernel_rfl) (fun _ _ _ h => h) (by rfl) ?yt3 HD.out ?zt3
   case yt3 => (intro w hSw; (try dsimp only at hSw); go_simp; try with_reducible rfl)
   try simp only [mz1, mz2, mz3, Act.put, mz4, mz5, mz6]
   refine wtkq 4 ?vt4 rfl (by kernel_rfl) (fun _ _ _ h => h) (by rfl) ?yt4 HD.out ?zt4
   case yt4 => (intro w hSw; (try dsimp only at hSw); go_simp; try with_reducible rfl)
   try simp only [mz1, mz2, mz3, Act.put, mz4, mz5, mz6]
   refine wtkq 5 ?vt5 rfl (by kernel_rfl) (fun _ _ _ h => h) (by rfl) ?yt5 HD.out ?zt5
   case yt5 => (intro w hSw; (try dsimp only at hSw); go_simp; try with_reducible rfl)
   try simp only [mz1, mz2, mz3, Act.put, mz4, mz5, mz6]
   refine wtkq 6 ?vt6 rfl (by kernel_rfl) (fun _ _ _ h => h) (by rfl) ?yt6 HD.out ?zt6
   case yt6 => (intro w hSw; (try dsimp only at hSw); go_simp; try with_reducible rfl)
   try simp only [mz1, mz2, mz3, Act.put, mz4, mz5, mz6]
   refine wtkq 7 ?vt7 rfl (by kernel_rfl) (fun _ _ _ h => h) (by rfl) ?yt7 HD.out ?zt7
   case yt7 => (intro w hSw; (try dsimp only at hSw); go_simp; try with_reducible rfl)
   try simp only [mz1, mz2, mz3, Act.put, mz4, mz5, mz6]
   refine wtkq 8 ?vt8 rfl (by kernel_rfl) (fun _ _ _ h => h) (by rfl) ?yt8 HD.out ?zt8
   case yt8 => (intro w hSw; (try dsimp only at hSw); go_simp; try with_reducible rfl)
   try simp only [mz1, mz2, mz3, Act.put, mz4, mz5, mz6]
   refine wtkq 9 ?vt9 rfl (by kernel_rfl) (fun _ _ _ h => h) (by rfl) ?yt9 HD.out ?zt9
   case yt9 => (intro w hSw; (try dsimp only at hSw); go_simp; try with_reducible rfl)
   try simp only [mz1, mz2, mz3, Act.put, mz4, mz5, mz6]
   refine wtkq 10 ?vt10 rfl (by kernel_rfl) (fun _ _ _ h => h) (by rfl) ?yt10 HD.out ?zt10
   case yt10 => (intro w hSw; (try dsimp only at hSw); go_simp; try with_reducible rfl)
   try simp only [mz1, mz2, mz3, Act.put, mz4, mz5, mz6]
   refine wpAnyH_done (by kernel_rfl) ?_ _
   refine qa3 rfl (fun KK hKK => ?_)
   go_simp
   refine hKK.out _ _ ?_
   clear hKK KK
   try simp only [mz1, mz2, mz3, Act.put, mz4, mz5, mz6]
   have hz2' := (jtwo HB.out hl).size
   have HK5 : Hid (Tb ((((wr.alloc (.cells #[.int .i64 (yj : Int), .int .u8 (zj : Int)] 61)).setCell ⟨w.heap.size, j * 2, none⟩ (.int .i64 (vj : Int))).setCell ⟨w.heap.size, j * 2 + 1, none⟩ (.int .u8 (zj : Int))).drew) w.heap.size n (fun i => if i < j + 1 then (((v (y i) : Nat) : Int), z i) else (0, 0))) := ((k3.set j ((vj : Int), zj) hlt).later (qal _)).congr (fun i _ => by
    by_cases e : i = j
    ·rw [if_pos e, if_pos (by omega), e, HY.out, HVj.out, HZ.out]
    ·rw [if_neg e]
     by_cases e3 : i < j
     ·rw [if_pos e3, if_pos (by omega)]
     ·rw [if_neg e3, if_neg (by omega)])
   have HB5 : Hid (Below w.heap.size w ((((wr.alloc (.cells #[.int .i64 (yj : Int), .int .u8 (zj : Int)] 61)).setCell ⟨w.heap.size, j * 2, none⟩ (.int .i64 (vj : Int))).setCell ⟨w.heap.size, j * 2 + 1, none⟩ (.int .u8 (zj : Int))).drew)) := (((jtwo HB.out hl).setCell (Nat.le_refl _) _).setCell (Nat.le_refl _) _).drew
   clear hl k3 hz2'
   go_wp2
   exact ⟨⟨j + 1, by omega, by go_num, HK5.out, HB5.out⟩, by simp [intOf]; omega⟩
  ·obtain rfl : j = n := by omega
   clear hg hb
   go_wp2
   go_ret
   exact ⟨⟨_, rfl, (HG3.out.congr (fun i hi => by rw [if_pos hi])).tw (Nat.le_refl _) hml⟩, HB.out⟩
end Go.Proofs.Ytkfnedpnkeacpaa
