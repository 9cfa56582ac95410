/-
  Contracts of the program's matrices: allRight, Make, Identity.
-/
import Derived.Test.YtaoehildaenbnabMb
namespace Go.Proofs.Ytaoehildaenbnab
open Go.RowKit
/-- Two matrices in a row. -/
def Two (w : World) (g : Nat) (r c : Int) (a : Option Addr) (n k : Nat) (r' c' : Int) (b : Option Addr) (m d : Nat) : Prop := w.heap[g]? = some (.cells #[.int .i64 r, .int .i64 c, .slice a n k, .int .i64 r', .int .i64 c', .slice b m d] 24 (0, 0))
theorem Two.lt {w : World} {g : Nat} {r c : Int} {a : Option Addr} {n k : Nat} {r' c' : Int} {b : Option Addr} {m d : Nat} (h : Two w g r c a n k r' c' b m d) : g < w.heap.size := lt_of_block h
theorem Two.later {w w' : World} {g : Nat} {r c : Int} {a : Option Addr} {n k : Nat} {r' c' : Int} {b : Option Addr} {m d : Nat} (h : Two w g r c a n k r' c' b m d) (hb : Below w.heap.size w w') : Two w' g r c a n k r' c' b m d := by unfold Two; rw [hb.block g h.lt]; exact h
theorem Two.c0 {w : World} {g : Nat} {r c : Int} {a : Option Addr} {n k : Nat} {r' c' : Int} {b : Option Addr} {m d : Nat} (h : Two w g r c a n k r' c' b m d) : w.cell? ⟨g, 0, none⟩ = some (.int .i64 r) := by rw [cell_of_row w g 0 _ _ _ h]; rfl
theorem Two.c1 {w : World} {g : Nat} {r c : Int} {a : Option Addr} {n k : Nat} {r' c' : Int} {b : Option Addr} {m d : Nat} (h : Two w g r c a n k r' c' b m d) : w.cell? ⟨g, 1, none⟩ = some (.int .i64 c) := by rw [cell_of_row w g 1 _ _ _ h]; rfl
theorem Two.c2 {w : World} {g : Nat} {r c : Int} {a : Option Addr} {n k : Nat} {r' c' : Int} {b : Option Addr} {m d : Nat} (h : Two w g r c a n k r' c' b m d) : w.cell? ⟨g, 2, none⟩ = some (.slice a n k) := by rw [cell_of_row w g 2 _ _ _ h]; rfl
theorem Two.c3 {w : World} {g : Nat} {r c : Int} {a : Option Addr} {n k : Nat} {r' c' : Int} {b : Option Addr} {m d : Nat} (h : Two w g r c a n k r' c' b m d) : w.cell? ⟨g, 3, none⟩ = some (.int .i64 r') := by rw [cell_of_row w g 3 _ _ _ h]; rfl
theorem Two.c4 {w : World} {g : Nat} {r c : Int} {a : Option Addr} {n k : Nat} {r' c' : Int} {b : Option Addr} {m d : Nat} (h : Two w g r c a n k r' c' b m d) : w.cell? ⟨g, 4, none⟩ = some (.int .i64 c') := by rw [cell_of_row w g 4 _ _ _ h]; rfl
theorem Two.c5 {w : World} {g : Nat} {r c : Int} {a : Option Addr} {n k : Nat} {r' c' : Int} {b : Option Addr} {m d : Nat} (h : Two w g r c a n k r' c' b m d) : w.cell? ⟨g, 5, none⟩ = some (.slice b m d) := by rw [cell_of_row w g 5 _ _ _ h]; rfl
set_option maxRecDepth 20000 in
set_option maxHeartbeats 1000000 in
theorem all_yes (w : World) (g : Nat) (r c : Int) (a : Option Addr) (n k : Nat) (r' c' : Int) (b : Option Addr) (m d : Nat) (ht : Two w g r c a n k r' c' b m d) (h1 : RightP r c n) (h2 : RightP r' c' m) :
    Calls Try.prog 25 #[.slice (some ⟨g, 0, none⟩) 2 2] w fun e w' => e = .returned (.bool true) ∧ Below w.heap.size w w' := by
  have HT : Hid (Two w g r c a n k r' c' b m d) := ht
  have H1 : Hid (RightP r c n) := h1
  have H2 : Hid (RightP r' c' m) := h2
  clear ht h1 h2
  go_enter Try.func25, Try.ntmps25
  go_wp2
  go_loopw [7] (fun i wr => ∃ q : Nat, q ≤ 2 ∧ i = .int .i64 (q : Int) ∧ Below w.heap.size w wr) (fun i _ => 2 - (intOf i).toNat)
  case atStart => exact ⟨0, by omega, rfl, Below.refl _ _⟩
  case round =>
    obtain ⟨q, hq, rfl, hb⟩ := hrel
    have HB : Hid (Below w.heap.size w wr) := hb
    have t0 := (HT.out.later hb).c0
    have t1 := (HT.out.later hb).c1
    have t2 := (HT.out.later hb).c2
    have t3 := (HT.out.later hb).c3
    have t4 := (HT.out.later hb).c4
    have t5 := (HT.out.later hb).c5
    clear hb
    rcases (by omega : q = 0 ∨ q = 1 ∨ q = 2) with rfl | rfl | rfl
    · go_wp2_with (go_at_call 22; refine (mright_yes _ _ _ _ _ _ H1.out).mono ?_; rintro e w1 ⟨rfl, hb1⟩; have HB1 : Hid (Below w.heap.size w w1) := two_below (two_below HB.out (alloc_low _ _)) hb1; clear hb1)
      exact ⟨⟨1, by omega, by go_num, HB1.out⟩, by simp [intOf]⟩
    · go_wp2_with (go_at_call 22; refine (mright_yes _ _ _ _ _ _ H2.out).mono ?_; rintro e w1 ⟨rfl, hb1⟩; have HB1 : Hid (Below w.heap.size w w1) := two_below (two_below HB.out (alloc_low _ _)) hb1; clear hb1)
      exact ⟨⟨2, by omega, by go_num, HB1.out⟩, by simp [intOf]⟩
    · go_wp2
      go_ret
      exact ⟨rfl, HB.out⟩
set_option maxRecDepth 20000 in
set_option maxHeartbeats 1000000 in
theorem all_no (w : World) (g : Nat) (r c : Int) (a : Option Addr) (n k : Nat) (r' c' : Int) (b : Option Addr) (m d : Nat) (ht : Two w g r c a n k r' c' b m d) (h : ¬ (RightP r c n ∧ RightP r' c' m)) :
    Calls Try.prog 25 #[.slice (some ⟨g, 0, none⟩) 2 2] w fun e w' => e = .returned (.bool false) ∧ Below w.heap.size w w' := by
  have HT : Hid (Two w g r c a n k r' c' b m d) := ht
  by_cases h1 : RightP r c n
  · have H1 : Hid (RightP r c n) := h1
    have H2 : Hid (¬ RightP r' c' m) := fun h2 => h ⟨h1, h2⟩
    clear ht h1 h
    go_enter Try.func25, Try.ntmps25
    go_wp2
    go_loopw [7] (fun i wr => ∃ q : Nat, q ≤ 1 ∧ i = .int .i64 (q : Int) ∧ Below w.heap.size w wr) (fun i _ => 2 - (intOf i).toNat)
    case atStart => exact ⟨0, by omega, rfl, Below.refl _ _⟩
    case round =>
      obtain ⟨q, hq, rfl, hb⟩ := hrel
      have HB : Hid (Below w.heap.size w wr) := hb
      have t0 := (HT.out.later hb).c0
      have t1 := (HT.out.later hb).c1
      have t2 := (HT.out.later hb).c2
      have t3 := (HT.out.later hb).c3
      have t4 := (HT.out.later hb).c4
      have t5 := (HT.out.later hb).c5
      clear hb
      rcases (by omega : q = 0 ∨ q = 1) with rfl | rfl
      · go_wp2_with (go_at_call 22; refine (mright_yes _ _ _ _ _ _ H1.out).mono ?_; rintro e w1 ⟨rfl, hb1⟩; have HB1 : Hid (Below w.heap.size w w1) := two_below (two_below HB.out (alloc_low _ _)) hb1; clear hb1)
        exact ⟨⟨1, by omega, by go_num, HB1.out⟩, by simp [intOf]⟩
      · go_wp2_with (go_at_call 22; refine (mright_no _ _ _ _ _ _ H2.out).mono ?_; rintro e w1 ⟨rfl, hb1⟩; have HB1 : Hid (Below w.heap.size w w1) := two_below (two_below HB.out (alloc_low _ _)) hb1; clear hb1)
        go_ret
        exact ⟨rfl, HB1.out⟩
  · have H1 : Hid (¬ RightP r c n) := h1
    clear ht h1 h
    go_enter Try.func25, Try.ntmps25
    go_wp2
    go_loopw [7] (fun i wr => i = .int .i64 0 ∧ Below w.heap.size w wr) (fun i _ => 0)
    case atStart => exact ⟨rfl, Below.refl _ _⟩
    case round =>
      obtain ⟨rfl, hb⟩ := hrel
      have HB : Hid (Below w.heap.size w wr) := hb
      have t0 := (HT.out.later hb).c0
      have t1 := (HT.out.later hb).c1
      have t2 := (HT.out.later hb).c2
      clear hb
      go_wp2_with (go_at_call 22; refine (mright_no _ _ _ _ _ _ H1.out).mono ?_; rintro e w1 ⟨rfl, hb1⟩; have HB1 : Hid (Below w.heap.size w w1) := two_below (two_below HB.out (alloc_low _ _)) hb1; clear hb1)
      go_ret
      exact ⟨rfl, HB1.out⟩
end Go.Proofs.Ytaoehildaenbnab
