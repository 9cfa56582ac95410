/-
  Contracts of the program's build: numbers, elements, isTall, areCounts.
  Contracts of the program's build: writePowers, Vandermonde.
  Contracts of the program's build: Vandermonde.
  Contracts of the program's build: anyTwice.
  Contracts of the program's build: Cauchy.
-/
import Derived.Test.YtblfldjlehjnbaaGt
import Derived.Test.YtblfldjlehjnbaaGc
namespace Go.Proofs.Ytblfldjlehjnbaa
open Go.RowKit
set_option maxRecDepth 20000 in
set_option maxHeartbeats 1000000 in
theorem nums_any (w : World) (f t n : Nat) (HN : Hid (f + n = t)) (ht : t ≤ 1000) :
    Calls Try.prog 55 #[.int .i64 (f : Int), .int .i64 (t : Int)] w fun e w' => ∃ s d, e = .returned (.slice s n d) ∧ Oi w' w.heap.size (.slice s n d) n (fun i => f + i) ∧ Below w.heap.size w w' := by
  obtain ⟨i0, hi0, hz0, hz1, hz2⟩ := info_parts infoI
  have hn := HN.out
  have hml : n ≤ maxLen := by unfold maxLen; omega
  have e0 : IntKind.i64.wrap ((t : Int) - (f : Int)) = (n : Int) := by rw [IntKind.wrap_i64]; omega
  go_enter Try.func55, Try.ntmps55
  go_wp2_with (at_make; refine wpList_make_own _ rfl _ _ 43 rfl w.heap.size 3 i0 (.int .i64 0) 1 Try.underlying43 hi0 hz0 hz1 .i64 .i64 _ n rfl rfl rfl (by rw [hz2]; omega) hml (Nat.le_refl _) ?_; intro w1 hown hgrow; have HO : Hid (Oi w1 w.heap.size (.slice (some ⟨w.heap.size, 0, none⟩) 0 n) 0 (fun i => f + i)) := (by { show World.ownsRow _ _ _ _ _ _ _; simpa [irow] using hown }); have HB : Hid (Below w.heap.size w w1) := grown_none.mp hgrow; clear hown hgrow)
  go_loopw [5, 6] (fun sv sj wr => ∃ j : Nat, sj = .int .i64 ((f + j : Nat) : Int) ∧ j ≤ n ∧ Hid (Oi wr w.heap.size sv j (fun i => f + i)) ∧ Hid (Below w.heap.size w wr)) (fun _ sj _ => t - (intOf sj).toNat)
  case atStart => exact ⟨0, rfl, by omega, HO, HB⟩
  case round =>
    clear HO HB
    obtain ⟨j, rfl, hjc, HO, HB⟩ := hrel
    obtain ⟨fs, fd, rfl, _⟩ := HO.out.form
    obtain ⟨p, HP⟩ : ∃ p, Hid (f + j = p) := ⟨_, rfl⟩
    have hp := HP.out
    rw [hp]
    by_cases hlt : p < t
    · have hml2 : j + 1 ≤ maxLen := by unfold maxLen; omega
      have hsz : w.heap.size ≤ wr.heap.size := HB.out.size
      go_wp2_with (at_builtin; refine wpList_append_own _ rfl _ _ 43 rfl w.heap.size 3 i0 (.int .i64 0) 1 8 Try.underlying43 hi0 hz0 hz1 hz2 rfl (by decide) _ j _ rfl (World.ownsRow.alloc HO.out _) ⟨wr.heap.size, 0, none⟩ 1 1 [.int .i64 (p : Int)] rfl rfl (ione_new _ _ _) (ione_one _) hml2 (by omega) (by simp; omega) ?_; intro v3 w3 hown3 hgrow3 _; have HO3 : Hid (w3.ownsRow w.heap.size 3 1 v3 (j + 1) ((irow j (fun i => f + i)).toList ++ [.int .i64 (p : Int)])) := hown3; have HG3 : Hid ((wr.alloc (.cells #[.int .i64 (p : Int)] 3)).grownBy w3 (Value.slice fs j fd).ownBlock) := hgrow3; clear hown3 hgrow3)
      refine ⟨⟨j + 1, by rw [← Nat.add_assoc, hp]; go_num, by omega, ?_, ?_⟩, by simp [intOf]; omega⟩
      · have h3 := HO3.out
        rw [irow_push] at h3
        exact Oi.congr (f := fun i => if i = j then p else f + i) h3 (fun u _ => by
          by_cases e : u = j
          · rw [if_pos e, e, hp]
          · rw [if_neg e])
      · have h3 := HG3.out
        have hal := two_below HB.out (alloc_low wr (.cells #[.int .i64 (p : Int)] 3))
        cases hv : (Value.slice fs j fd).ownBlock with
        | none => rw [hv] at h3; exact two_below hal (grown_none.mp h3)
        | some g => rw [hv] at h3; exact below_row hal h3 (HO.out.base hv).1
    · obtain rfl : j = n := by omega
      go_wp2
      go_ret
      exact ⟨fs, fd, rfl, HO.out, HB.out⟩
set_option maxRecDepth 20000 in
theorem tall_yes (w : World) (r c : Int) (n k : Nat) (a : Option Addr) (h : RightP r c n) (hc : c ≤ r) : Calls Try.prog 53 #[mv r c a n k] w fun e w' => e = .returned (.bool true) ∧ Below w.heap.size w w' := by
  have H1 : Hid (RightP r c n) := h
  have g1 : decide (c ≤ r) = true := by simpa using hc
  clear h
  go_enter Try.func53, Try.ntmps53
  go_wp2_with (go_at_call 82; refine (mright_yes _ _ _ _ _ _ H1.out).mono ?_; rintro e w1 ⟨rfl, hb1⟩; have HB1 : Hid (Below w.heap.size w w1) := two_below (alloc_low _ _) hb1; have va := (Vr.new w (.int .i64 r) (.int .i64 c) (.slice a n k)).later hb1; have a0 := va.c0; have a1 := va.c1; clear hb1 va)
  go_ret
  exact ⟨rfl, HB1.out⟩
set_option maxRecDepth 20000 in
theorem tall_no (w : World) (r c : Int) (n k : Nat) (a : Option Addr) (h : ¬ (RightP r c n ∧ c ≤ r)) : Calls Try.prog 53 #[mv r c a n k] w fun e w' => e = .returned (.bool false) ∧ Below w.heap.size w w' := by
  by_cases hr : RightP r c n
  · have H1 : Hid (RightP r c n) := hr
    have g1 : decide (c ≤ r) = false := by have : ¬ c ≤ r := fun x => h ⟨hr, x⟩; simp; omega
    clear h hr
    go_enter Try.func53, Try.ntmps53
    go_wp2_with (go_at_call 82; refine (mright_yes _ _ _ _ _ _ H1.out).mono ?_; rintro e w1 ⟨rfl, hb1⟩; have HB1 : Hid (Below w.heap.size w w1) := two_below (alloc_low _ _) hb1; have va := (Vr.new w (.int .i64 r) (.int .i64 c) (.slice a n k)).later hb1; have a0 := va.c0; have a1 := va.c1; clear hb1 va)
    go_ret
    exact ⟨rfl, HB1.out⟩
  · have H1 : Hid (¬ RightP r c n) := hr
    clear h hr
    go_enter Try.func53, Try.ntmps53
    go_wp2_with (go_at_call 82; refine (mright_no _ _ _ _ _ _ H1.out).mono ?_; rintro e w1 ⟨rfl, hb1⟩; have HB1 : Hid (Below w.heap.size w w1) := two_below (alloc_low _ _) hb1; clear hb1)
    go_ret
    exact ⟨rfl, HB1.out⟩
end Go.Proofs.Ytblfldjlehjnbaa

namespace Go.Proofs.Ytblfldjlehjnbaa
open Go.RowKit
end Go.Proofs.Ytblfldjlehjnbaa

namespace Go.Proofs.Ytblfldjlehjnbaa
open Go.RowKit
end Go.Proofs.Ytblfldjlehjnbaa

namespace Go.Proofs.Ytblfldjlehjnbaa
open Go.RowKit
/-- The cells of an array of truth values. -/
def brow (n : Nat) (f : Nat → Bool) : Array Value := (Array.range n).map fun i => .bool (f i)
theorem brow_size (n : Nat) (f : Nat → Bool) : (brow n f).size = n := by simp [brow]
theorem brow_get (n : Nat) (f : Nat → Bool) (i : Nat) (h : i < n) : (brow n f)[i]? = some (.bool (f i)) := by simp [brow, h]
theorem brow_set (n : Nat) (f : Nat → Bool) (i : Nat) (v : Bool) : (brow n f).setIfInBounds i (.bool v) = brow n (fun j => if j = i then v else f j) := by
  apply Array.ext
  · simp [brow]
  · intro j h1 h2
    by_cases e : i = j
    · subst e; simp [brow]
    · rw [Array.getElem_setIfInBounds_ne (by simpa using h1) e]; simp [brow, Ne.symm e]
theorem brow_congr (n : Nat) (f f' : Nat → Bool) (h : ∀ i, i < n → f i = f' i) : brow n f = brow n f' := by
  apply Array.ext
  · simp [brow]
  · intro j h1 h2
    simp [brow_size] at h1
    simp [brow, h j h1]
def BRowAt (w : World) (b n : Nat) (f : Nat → Bool) : Prop := w.heap[b]? = some (.cells (brow n f) 95 (0, 0))
theorem BRowAt.cell {w : World} {b n : Nat} {f : Nat → Bool} (h : BRowAt w b n f) (i : Nat) (hi : i < n) : w.cell? ⟨b, i, none⟩ = some (.bool (f i)) := by
  rw [cell_of_row w b i _ _ _ h, brow_get n f i hi]
theorem BRowAt.free {w : World} {b n : Nat} {f : Nat → Bool} (h : BRowAt w b n f) (i : Nat) : w.frozen? ⟨b, i, none⟩ = false := by
  unfold BRowAt at h
  simp [World.frozen?, h]
theorem BRowAt.set {w : World} {b n : Nat} {f : Nat → Bool} (h : BRowAt w b n f) (i : Nat) (v : Bool) : BRowAt (w.setCell ⟨b, i, none⟩ (.bool v)) b n (fun j => if j = i then v else f j) := by
  unfold BRowAt at *
  rw [setCell_eq_setRow w b i _ _ (0, 0) _ h, setRow_heap w b _ _ _ (0, 0) h, brow_set]
theorem BRowAt.congr {w : World} {b n : Nat} {f f' : Nat → Bool} (h : BRowAt w b n f) (e : ∀ i, i < n → f i = f' i) : BRowAt w b n f' := by
  unfold BRowAt at *
  rw [h, brow_congr n f f' e]
def Lst2 (w : World) (g : Nat) (a : Option Addr) (n k : Nat) (b : Option Addr) (m d : Nat) : Prop := w.heap[g]? = some (.cells #[.slice a n k, .slice b m d] 22 (0, 0))
theorem Lst2.c0 {w : World} {g : Nat} {a : Option Addr} {n k : Nat} {b : Option Addr} {m d : Nat} (h : Lst2 w g a n k b m d) : w.cell? ⟨g, 0, none⟩ = some (.slice a n k) := by rw [cell_of_row w g 0 _ _ _ h]; rfl
theorem Lst2.c1 {w : World} {g : Nat} {a : Option Addr} {n k : Nat} {b : Option Addr} {m d : Nat} (h : Lst2 w g a n k b m d) : w.cell? ⟨g, 1, none⟩ = some (.slice b m d) := by rw [cell_of_row w g 1 _ _ _ h]; rfl
theorem Lst2.later {w w' : World} {g : Nat} {a : Option Addr} {n k : Nat} {b : Option Addr} {m d : Nat} (h : Lst2 w g a n k b m d) (hb : Below w.heap.size w w') : Lst2 w' g a n k b m d := by unfold Lst2; rw [hb.block g (lt_of_block h)]; exact h
end Go.Proofs.Ytblfldjlehjnbaa

namespace Go.Proofs.Ytblfldjlehjnbaa
open Go.RowKit
end Go.Proofs.Ytblfldjlehjnbaa
