/-
  A list of sets that is sorted in its place: which numbers stand there stays.
  slices.Sort of a list of sets: the pieces insertionSort, reverseRange, siftDown, heapSort end, stay in their bounds and keep which sets there are.
  slices.Sort of a list of sets: siftDown, heapSort.
-/
import Derived.Test.YtblagbghpfopcaaGreatQwwin00
import Derived.Test.YtblagbghpfopcaaGreatQwwin02
import Derived.CellFam
set_option maxRecDepth 100000
set_option maxHeartbeats 16000000
namespace Go.Proofs.YtblagbghpfopcaaGreat
open Go.RowKit
theorem qe8 {a b c : World} {row : Option Nat} (h : a.grownBy b row) (k : b.grownBy c row) : a.grownBy c row :=
 ⟨k.os.trans h.os, k.tape.trans h.tape, k.output.trans h.output, Nat.le_trans h.size k.size, fun j hj hr => (k.block j (Nat.lt_of_lt_of_le hj h.size) hr).trans (h.block j hj hr)⟩
theorem qcz (w : World) (g i : Nat) (v : Value) : w.grownBy (w.setCell ⟨g, i, none⟩ v) (some g) :=
 ⟨rfl, rfl, rfl, by simp, fun k _ hk => Below.heap_setCell w ⟨g, i, none⟩ v k (by intro e; apply hk; simpa using e)⟩
/-- In both lists stand the same numbers. -/
def Hs (n : Nat) (q f : Nat → Nat) : Prop := ∀ v, (∃ i, i < n ∧ q i = v) ↔ ∃ i, i < n ∧ f i = v
theorem Hs.refl (n : Nat) (q : Nat → Nat) : Hs n q q := fun _ => Iff.rfl
theorem Hs.swap {n : Nat} {q f f' : Nat → Nat} (h : Hs n q f) {i j : Nat} (hi : i < n) (hj : j < n) (e1 : f' i = f j) (e2 : f' j = f i) (e3 : ∀ t, t ≠ i → t ≠ j → f' t = f t) : Hs n q f' := fun v => by
 rw [h v]
 constructor
 ·rintro ⟨t, ht, e⟩
  by_cases h1 : t = i
  ·subst h1; exact ⟨j, hj, by rw [e2, e]⟩
  ·by_cases h2 : t = j
   ·subst h2; exact ⟨i, hi, by rw [e1, e]⟩
   ·exact ⟨t, ht, by rw [e3 t h1 h2, e]⟩
 ·rintro ⟨t, ht, e⟩
  by_cases h1 : t = i
  ·subst h1; exact ⟨j, hj, by rw [← e1, e]⟩
  ·by_cases h2 : t = j
   ·subst h2; exact ⟨i, hi, by rw [← e2, e]⟩
   ·exact ⟨t, ht, by rw [← e3 t h1 h2, e]⟩
/-- The list as it is being sorted: n numbers in the block g from the place o on. -/
structure Sq (w0 w : World) (g o n c : Nat) (q f : Nat → Nat) : Prop where
 cell : ∀ t, t < n → w.cell? ⟨g, o + t, none⟩ = some (.int .u64 (f t : Nat))
 sh : ∃ cur, w.heap[g]? = some (.cells cur 26 (0, 0)) ∧ cur.size = c
 hs : Hs n q f
 gr : w0.grownBy w (some g)
theorem Sq.free {w0 w : World} {g o n c : Nat} {q f : Nat → Nat} (h : Sq w0 w g o n c q f) (t : Nat) : w.frozen? ⟨g, o + t, none⟩ = false := by
 obtain ⟨cur, hc, _⟩ := h.sh
 simp [World.frozen?, hc]
theorem Sq.lt {w0 w : World} {g o n c : Nat} {q f : Nat → Nat} (h : Sq w0 w g o n c q f) : g < w.heap.size := by
 obtain ⟨cur, hc, _⟩ := h.sh
 exact lt_of_block hc
theorem Sq.below {w0 w w' : World} {g o n c : Nat} {q f : Nat → Nat} (h : Sq w0 w g o n c q f) (hb : Below w.heap.size w w') : Sq w0 w' g o n c q f := by
 have hl := h.lt
 refine ⟨fun t ht => ?_, ?_, h.hs, qe8 h.gr (World.grownBy.mk hb.os hb.tape hb.output hb.size (fun k hk _ => hb.block k hk))⟩
 ·rw [hb.cell (p := ⟨g, o + t, none⟩) hl]; exact h.cell t ht
 ·obtain ⟨cur, hc, hs⟩ := h.sh
  exact ⟨cur, by rw [hb.block g hl]; exact hc, hs⟩
theorem Sq.drew {w0 w : World} {g o n c : Nat} {q f : Nat → Nat} (h : Sq w0 w g o n c q f) : Sq w0 w.drew g o n c q f := h.below (Below.refl _ _).drew
theorem Sq.drewN {w0 w : World} {g o n c : Nat} {q f : Nat → Nat} (h : Sq w0 w g o n c q f) (m : Nat) : Sq w0 (w.drewN m) g o n c q f := h.below (below_drewN (Below.refl _ _) m)
theorem Sq.start {w : World} {g o n c : Nat} {f : Nat → Nat} (hc : ∀ t, t < n → w.cell? ⟨g, o + t, none⟩ = some (.int .u64 (f t : Nat))) (hs : ∃ cur, w.heap[g]? = some (.cells cur 26 (0, 0)) ∧ cur.size = c) : Sq w w g o n c f f := ⟨hc, hs, Hs.refl _ _, ⟨rfl, rfl, rfl, Nat.le_refl _, fun _ _ _ => rfl⟩⟩
theorem Sq.set {w : World} {g o n c : Nat} {f : Nat → Nat} (hc : ∀ t, t < n → w.cell? ⟨g, o + t, none⟩ = some (.int .u64 (f t : Nat))) (hs : ∃ cur, w.heap[g]? = some (.cells cur 26 (0, 0)) ∧ cur.size = c) (i v : Nat) (hi : i < n) :
  (∀ t, t < n → (w.setCell ⟨g, o + i, none⟩ (.int .u64 (v : Int))).cell? ⟨g, o + t, none⟩ = some (.int .u64 ((if t = i then v else f t : Nat) : Int))) ∧ ∃ cur, (w.setCell ⟨g, o + i, none⟩ (.int .u64 (v : Int))).heap[g]? = some (.cells cur 26 (0, 0)) ∧ cur.size = c := by
 obtain ⟨cur, hb, hz⟩ := hs
 have hlt : o + i < cur.size := by
  have := hc i hi
  rw [cell_of_row w g (o + i) _ _ _ hb] at this
  exact (Array.getElem?_eq_some_iff.1 this).1
 have hb' : (w.setCell ⟨g, o + i, none⟩ (.int .u64 (v : Int))).heap[g]? = some (.cells (cur.setIfInBounds (o + i) (.int .u64 (v : Int))) 26 (0, 0)) := by
  rw [setCell_eq_setRow w g (o + i) _ _ (0, 0) _ hb, setRow_heap w g _ _ _ (0, 0) hb]
 refine ⟨fun t ht => ?_, _, hb', by simpa using hz⟩
 rw [cell_of_row _ g (o + t) _ _ _ hb']
 by_cases e : t = i
 ·subst e
  rw [if_pos rfl, Array.getElem?_setIfInBounds_self_of_lt hlt]
 ·rw [if_neg e, Array.getElem?_setIfInBounds_ne (by omega), ← cell_of_row w g (o + t) _ _ _ hb]
  exact hc t ht
/-- Two numbers change places. -/
theorem Sq.swap {w0 w : World} {g o n c : Nat} {q f : Nat → Nat} (h : Sq w0 w g o n c q f) {i j : Nat} (hi : i < n) (hj : j < n) :
  ∃ f', Sq w0 ((w.setCell ⟨g, o + i, none⟩ (.int .u64 (f j : Nat))).setCell ⟨g, o + j, none⟩ (.int .u64 (f i : Nat))) g o n c q f' := by
 obtain ⟨c1, s1⟩ := Sq.set h.cell h.sh i (f j) hi
 obtain ⟨c2, s2⟩ := Sq.set c1 s1 j (f i) hj
 refine ⟨fun t => if t = j then f i else if t = i then f j else f t, c2, s2, h.hs.swap hi hj ?_ ?_ ?_, qe8 h.gr (qe8 (qcz _ _ _ _) (qcz _ _ _ _))⟩
 ·by_cases e : i = j
  ·subst e; simp
  ·simp [e]
 ·simp
 ·intro t h1 h2; simp [h1, h2]
/-- What the second store of an exchange meets. -/
theorem Sq.mid {w0 w : World} {g o n c : Nat} {q f : Nat → Nat} (h : Sq w0 w g o n c q f) {i : Nat} (hi : i < n) (v : Nat) :
  (∀ t, t < n → ∃ z : Nat, (w.setCell ⟨g, o + i, none⟩ (.int .u64 (v : Int))).cell? ⟨g, o + t, none⟩ = some (.int .u64 (z : Int))) ∧ ∀ t, (w.setCell ⟨g, o + i, none⟩ (.int .u64 (v : Int))).frozen? ⟨g, o + t, none⟩ = false := by
 obtain ⟨c1, cur, s1, _⟩ := Sq.set h.cell h.sh i v hi
 exact ⟨fun t ht => ⟨_, c1 t ht⟩, fun t => by simp [World.frozen?, s1]⟩
open Go.RowKit
/-- The list, with the same numbers in some order. -/
def Sx (w0 : World) (g o n c : Nat) (q : Nat → Nat) (w : World) : Prop := ∃ f, Sq w0 w g o n c q f
theorem Sx.drewN {w0 w : World} {g o n c : Nat} {q : Nat → Nat} (h : Sx w0 g o n c q w) (m : Nat) : Sx w0 g o n c q (w.drewN m) := let ⟨f, hf⟩ := h; ⟨f, hf.drewN m⟩
theorem Sx.drew {w0 w : World} {g o n c : Nat} {q : Nat → Nat} (h : Sx w0 g o n c q w) : Sx w0 g o n c q w.drew := let ⟨f, hf⟩ := h; ⟨f, hf.drew⟩
theorem Sx.below {w0 w w' : World} {g o n c : Nat} {q : Nat → Nat} (h : Sx w0 g o n c q w) (hb : Below w.heap.size w w') : Sx w0 g o n c q w' := let ⟨f, hf⟩ := h; ⟨f, hf.below hb⟩
theorem nan16 (x : Nat) (w : World) : Calls Tryz.prog 164 #[.int .u64 (x : Int)] w fun e w' => e = .returned (.bool false) ∧ w' = w := by
 go_enter Tryz.func164, Tryz.ntmps164
 go_wp2
 go_ret
 exact ⟨by simp, rfl⟩
theorem qak (x y : Nat) (w : World) : Calls Tryz.prog 148 #[.int .u64 (x : Int), .int .u64 (y : Int)] w fun e w' => e = .returned (.bool (decide (x < y))) ∧ w' = w := by
 go_enter Tryz.func148, Tryz.ntmps148
 go_wp2_with (go_at_call 164; refine (nan16 _ _).mono ?_; rintro e w' ⟨rfl, rfl⟩)
 go_ret
 exact ⟨rfl, rfl⟩
theorem ins16 (w0 w : World) (g o n c cap a b : Nat) (q : Nat → Nat) (h : Sx w0 g o n c q w) (hab : a ≤ b) (hb : b ≤ n) (hn : n ≤ 17592186044416) :
  Calls Tryz.prog 142 #[.slice (some ⟨g, o, none⟩) n cap, .int .i64 (a : Int), .int .i64 (b : Int)] w fun e w' => e = .returned (.tuple #[]) ∧ Sx w0 g o n c q w' := by
 have H0 : Hid (Sx w0 g o n c q w) := h
 clear h
 go_enter Tryz.func142, Tryz.ntmps142
 go_wp2
 go_loopw [6] (fun vi wr => ∃ i : Nat, vi = .int .i64 (i : Int) ∧ a < i ∧ i ≤ b + 1 ∧ Sx w0 g o n c q wr) (fun vi _ => b + 1 - (intOf vi).toNat)
 case atStart => exact ⟨a + 1, by go_num, by omega, by omega, H0.out⟩
 case round =>
  obtain ⟨i, rfl, hai, hib, hS⟩ := hrel
  have HS : Hid (Sx w0 g o n c q wr) := hS
  clear hS H0
  by_cases hlt : i < b
  ·go_wp2
   go_loopw [7] (fun vj wr2 => ∃ j : Nat, vj = .int .i64 (j : Int) ∧ a ≤ j ∧ j ≤ i ∧ Sx w0 g o n c q wr2) (fun vj _ => (intOf vj).toNat)
   case atStart => exact ⟨i, rfl, by omega, by omega, HS.out⟩
   case round =>
    obtain ⟨j, rfl, haj, hji, f, hS⟩ := hrel
    have hcw := hS.cell
    have hfw : ∀ t, t < n → wr.frozen? ⟨g, o + t, none⟩ = false := fun t _ => hS.free t
    have HQ : Hid (Sq w0 wr g o n c q f) := hS
    clear hS HS
    by_cases hja : a < j
    ·go_wp2
     go_quiet ((go_at_call 148; refine Calls.quiet_of_same (qak _ _ _)))
     go_wp2
     ·go_region
      all_goals go_wp2
      exact ⟨⟨j - 1, by congr 1; omega, by omega, by omega, (HQ.out.drewN _).swap (by omega) (by omega)⟩, by simp [intOf]; omega⟩
     ·exact ⟨⟨i + 1, by go_num, by omega, by omega, f, HQ.out.drewN _⟩, by simp [intOf]; omega⟩
    ·go_wp2; go_quiet ((go_at_call 148; refine Calls.quiet_of_same (qak _ _ _))); go_wp2; exact ⟨⟨i + 1, by go_num, by omega, by omega, f, HQ.out.drewN _⟩, by simp [intOf]; omega⟩
  ·go_wp2
   go_end0
   exact ⟨rfl, HS.out⟩
theorem rev16 (w0 w : World) (g o n c cap a b : Nat) (q : Nat → Nat) (h : Sx w0 g o n c q w) (hab : a < b) (hb : b ≤ n) (hn : n ≤ 17592186044416) :
  Calls Tryz.prog 146 #[.slice (some ⟨g, o, none⟩) n cap, .int .i64 (a : Int), .int .i64 (b : Int)] w fun e w' => e = .returned (.tuple #[]) ∧ Sx w0 g o n c q w' := by
 have H0 : Hid (Sx w0 g o n c q w) := h
 clear h
 go_enter Tryz.func146, Tryz.ntmps146
 go_wp2
 go_loopw [6, 7] (fun vi vj wr => ∃ i j : Nat, vi = .int .i64 (i : Int) ∧ vj = .int .i64 ((j : Int) - 1) ∧ j ≤ b ∧ i ≤ b ∧ Sx w0 g o n c q wr) (fun vi _ _ => b - (intOf vi).toNat)
 case atStart => exact ⟨a, b, rfl, rfl, by omega, by omega, H0.out⟩
 case round =>
  obtain ⟨i, j, rfl, rfl, hjb, hib, f, hS⟩ := hrel
  have hcw := hS.cell
  have hfw : ∀ t, t < n → wr.frozen? ⟨g, o + t, none⟩ = false := fun t _ => hS.free t
  have HQ : Hid (Sq w0 wr g o n c q f) := hS
  clear hS H0
  by_cases hlt : (i : Int) < (j : Int) - 1
  ·obtain ⟨m, hm⟩ : ∃ m : Nat, j = m + 1 := ⟨j - 1, by omega⟩
   subst hm
   have em : ((m + 1 : Nat) : Int) - 1 = (m : Int) := by omega
   rw [em] at hlt ⊢
   have hl2 : i < m := by omega
   go_wp2
   go_region
   all_goals go_wp2
   exact ⟨⟨i + 1, m, by go_num, by go_num, by omega, by omega, HQ.out.drew.swap (by omega) (by omega)⟩, by simp [intOf]; omega⟩
  ·go_wp2
   go_end0
   exact ⟨rfl, f, HQ.out⟩
open Go.RowKit
theorem sift16 (w0 w : World) (g o n c cap lo hi fi : Nat) (q : Nat → Nat) (h : Sx w0 g o n c q w) (hlo : lo ≤ n) (hb : fi + hi ≤ n) (hn : n ≤ 17592186044416) :
  Calls Tryz.prog 159 #[.slice (some ⟨g, o, none⟩) n cap, .int .i64 (lo : Int), .int .i64 (hi : Int), .int .i64 (fi : Int)] w fun e w' => e = .returned (.tuple #[]) ∧ Sx w0 g o n c q w' := by
 have H0 : Hid (Sx w0 g o n c q w) := h
 clear h
 go_enter Tryz.func159, Tryz.ntmps159
 go_wp2
 go_loopw [8] (fun vi wr => ∃ i : Nat, vi = .int .i64 (i : Int) ∧ i ≤ n ∧ Sx w0 g o n c q wr) (fun vi _ => n - (intOf vi).toNat)
 case atStart => exact ⟨lo, rfl, hlo, H0.out⟩
 case round =>
  obtain ⟨i, rfl, hin, f, hS⟩ := hrel
  have hcw := hS.cell
  have hfw : ∀ t, t < n → wr.frozen? ⟨g, o + t, none⟩ = false := fun t _ => hS.free t
  have HQ : Hid (Sq w0 wr g o n c q f) := hS
  clear hS H0
  obtain ⟨ch, hch⟩ : ∃ ch : Nat, ch = 2 * i + 1 := ⟨_, rfl⟩
  have HE : Hid (2 * (i : Int) + 1 = (ch : Int)) := by show _ = _; omega
  have hci : i < ch := by omega
  by_cases hc1 : ch < hi
  ·have hc0 : ¬ ((hi : Int) ≤ 2 * (i : Int) + 1) := by omega
   clear hch
   by_cases hc2 : ch + 1 < hi
   ·have hc3 : (ch : Int) + 1 < (hi : Int) := by omega
    go_wp2
    rw [HE.out]
    go_quiet ((go_at_call 148; refine Calls.quiet_of_same (qak _ _ _)))
    go_wp2
    ·have HQ1 : Hid (Sq w0 (wr.drewN nq) g o n c q f) := HQ.out.drewN nq
     generalize wr.drewN nq = w1 at HQ1 ⊢
     have hcw1 := HQ1.out.cell
     have hfw1 : ∀ t, t < n → w1.frozen? ⟨g, o + t, none⟩ = false := fun t _ => HQ1.out.free t
     clear hcw hfw HQ
     go_quiet ((go_at_call 148; refine Calls.quiet_of_same (qak _ _ _)))
     go_wp2
     ·refine bodyPost_ret (v := .tuple #[]) (by simp [results, Tryz.results159, go_sem]) rfl ?_
      exact ⟨rfl, f, HQ1.out.drewN _⟩
     ·go_region
      all_goals go_wp2
      exact ⟨⟨ch + 1, by go_num, by omega, (HQ1.out.drewN _).swap (by omega) (by omega)⟩, by simp [intOf]; omega⟩
    ·have HQ1 : Hid (Sq w0 (wr.drewN nq) g o n c q f) := HQ.out.drewN nq
     generalize wr.drewN nq = w1 at HQ1 ⊢
     have hcw1 := HQ1.out.cell
     have hfw1 : ∀ t, t < n → w1.frozen? ⟨g, o + t, none⟩ = false := fun t _ => HQ1.out.free t
     clear hcw hfw HQ
     go_quiet ((go_at_call 148; refine Calls.quiet_of_same (qak _ _ _)))
     go_wp2
     ·refine bodyPost_ret (v := .tuple #[]) (by simp [results, Tryz.results159, go_sem]) rfl ?_
      exact ⟨rfl, f, HQ1.out.drewN _⟩
     ·go_region
      all_goals go_wp2
      exact ⟨⟨ch, by go_num, by omega, (HQ1.out.drewN _).swap (by omega) (by omega)⟩, by simp [intOf]; omega⟩
   ·have hc4 : decide ((ch : Int) + 1 < (hi : Int)) = false := by simp; omega
    have hc5 : decide (ch + 1 < hi) = false := by simp; omega
    go_wp2
    rw [HE.out]
    go_quiet ((go_at_call 148; refine Calls.quiet_of_same (qak _ _ _)))
    go_wp2
    have HQ1 : Hid (Sq w0 (wr.drewN nq) g o n c q f) := HQ.out.drewN nq
    generalize wr.drewN nq = w1 at HQ1 ⊢
    have hcw1 := HQ1.out.cell
    have hfw1 : ∀ t, t < n → w1.frozen? ⟨g, o + t, none⟩ = false := fun t _ => HQ1.out.free t
    clear hcw hfw HQ
    go_quiet ((go_at_call 148; refine Calls.quiet_of_same (qak _ _ _)))
    go_wp2
    ·refine bodyPost_ret (v := .tuple #[]) (by simp [results, Tryz.results159, go_sem]) rfl ?_
     exact ⟨rfl, f, HQ1.out.drewN _⟩
    ·go_region
     all_goals go_wp2
     exact ⟨⟨ch, by go_num, by omega, (HQ1.out.drewN _).swap (by omega) (by omega)⟩, by simp [intOf]; omega⟩
  ·have hc0 : (hi : Int) ≤ 2 * (i : Int) + 1 := by omega
   clear hch
   go_wp2
   go_end0
   exact ⟨rfl, f, HQ.out⟩
theorem heap16 (w0 w : World) (g o n c cap a b hi : Nat) (q : Nat → Nat) (h : Sx w0 g o n c q w) (hab : a + hi = b) (h1 : 1 ≤ hi) (hb : b ≤ n) (hn : n ≤ 17592186044416) :
  Calls Tryz.prog 143 #[.slice (some ⟨g, o, none⟩) n cap, .int .i64 (a : Int), .int .i64 (b : Int)] w fun e w' => e = .returned (.tuple #[]) ∧ Sx w0 g o n c q w' := by
 have H0 : Hid (Sx w0 g o n c q w) := h
 have HE : Hid ((b : Int) - (a : Int) = (hi : Int)) := by show _ = _; omega
 have hf : a + hi ≤ n := by omega
 have hhn : hi ≤ n := by omega
 have han : a ≤ n := by omega
 have hab2 : a ≤ b := by omega
 clear h hab
 go_enter Tryz.func143, Tryz.ntmps143
 go_wp2
 rw [HE.out]
 go_loopw [9] (fun vi wr => ∃ m : Nat, vi = .int .i64 ((m : Int) - 1) ∧ m ≤ hi ∧ Sx w0 g o n c q wr) (fun vi _ => (intOf vi + 1).toNat)
 case atStart => exact ⟨(hi - 1) / 2 + 1, by congr 1; rw [Int.tdiv_eq_ediv_of_nonneg (by omega)]; omega, by omega, H0.out⟩
 case round =>
  obtain ⟨m, rfl, hm, hS⟩ := hrel
  have HS : Hid (Sx w0 g o n c q wr) := hS
  clear hS H0
  cases m with
  | succ m =>
   have em : ((m + 1 : Nat) : Int) - 1 = (m : Int) := by omega
   rw [em]
   clear em
   go_wp2_with (go_at_call 159; refine (sift16 w0 _ g o n c cap m hi a q HS.out (by omega) hf hn).mono ?_; rintro e w1 ⟨rfl, hs1⟩; have HS1 : Hid (Sx w0 g o n c q w1) := hs1; clear hs1)
   exact ⟨⟨m, by go_num, by omega, HS1.out⟩, by simp [intOf]⟩
  | zero =>
   rw [show ((0 : Nat) : Int) - 1 = -1 by rfl]
   go_wp2
   go_loopw [10] (fun vi wr => ∃ m : Nat, vi = .int .i64 ((m : Int) - 1) ∧ m ≤ hi ∧ Sx w0 g o n c q wr) (fun vi _ => (intOf vi + 1).toNat)
   case atStart => exact ⟨hi, by congr 1, by omega, HS.out⟩
   case round =>
    obtain ⟨m, rfl, hm, f, hS⟩ := hrel
    have hcw := hS.cell
    have hfw : ∀ t, t < n → wr.frozen? ⟨g, o + t, none⟩ = false := fun t _ => hS.free t
    have HQ : Hid (Sq w0 wr g o n c q f) := hS
    clear hS HS
    cases m with
    | succ m =>
     have em : ((m + 1 : Nat) : Int) - 1 = (m : Int) := by omega
     rw [em]
     clear em
     have HX : Hid (Sx w0 g o n c q ((wr.setCell ⟨g, o + a, none⟩ (.int .u64 (f (a + m) : Nat))).setCell ⟨g, o + (a + m), none⟩ (.int .u64 (f a : Nat)))) := HQ.out.swap (by omega) (by omega)
     obtain ⟨hz, hfz⟩ := HQ.out.mid (i := a) (by omega) (f (a + m))
     obtain ⟨z, hz⟩ := hz (a + m) (by omega)
     have hfz := hfz (a + m)
     go_wp2
     go_region
     have HZ : Hid (∀ w1, Sx w0 g o n c q w1 → Calls Tryz.prog 159 #[.slice (some ⟨g, o, none⟩) n cap, .int .i64 0, .int .i64 (m : Int), .int .i64 (a : Int)] w1 fun e w' => e = .returned (.tuple #[]) ∧ Sx w0 g o n c q w') := fun w1 h1 => sift16 w0 w1 g o n c cap 0 m a q h1 (by omega) (by omega) hn
     go_wp2_with (go_at_call 159; refine (HZ.out _ HX.out.drew).mono ?_; rintro e w1 ⟨rfl, hs1⟩; have HS1 : Hid (Sx w0 g o n c q w1) := hs1; clear hs1)
     exact ⟨⟨m, by go_num, by omega, HS1.out⟩, by simp [intOf]⟩
    | zero =>
     rw [show ((0 : Nat) : Int) - 1 = -1 by rfl]
     go_wp2
     go_end0
     exact ⟨rfl, f, HQ.out⟩
end Go.Proofs.YtblagbghpfopcaaGreat
