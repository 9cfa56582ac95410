/-
  slices.Sort of a list of sets: partitionEqual, partition.
  slices.Sort of a list of sets: partialInsertionSort.
  slices.Sort of a list of sets: pdqsort, Sort.
-/
import Derived.Test.YtblagbghpfopcaaGreatQwwin00
import Derived.Test.YtblagbghpfopcaaGreatQwwin22
import Derived.Deep.CutBlock
import Derived.Deep.LoopGhost
import Derived.Test.YtblagbghpfopcaaGreatQwwin24
set_option maxRecDepth 100000
set_option maxHeartbeats 16000000
namespace Go.Proofs.YtblagbghpfopcaaGreat
open Go.RowKit
theorem pareq16 (w0 w : World) (g o n c cap a b p : Nat) (q : Nat → Nat) (h : Sx w0 g o n c q w) (ha : a ≤ p) (hp : p < b) (hb : b ≤ n) (hn : n ≤ 17592186044416) :
  Calls Tryz.prog 149 #[.slice (some ⟨g, o, none⟩) n cap, .int .i64 (a : Int), .int .i64 (b : Int), .int .i64 (p : Int)] w fun e w' => (∃ x : Nat, e = .returned (.int .i64 (x : Int)) ∧ a < x ∧ x ≤ b) ∧ Sx w0 g o n c q w' := by
 obtain ⟨f, hS0⟩ := h
 have hcw0 := hS0.cell
 have hfw0 : ∀ t, t < n → w.frozen? ⟨g, o + t, none⟩ = false := fun t _ => hS0.free t
 have HX0 : Hid (Sx w0 g o n c q ((w.setCell ⟨g, o + a, none⟩ (.int .u64 (f p : Nat))).setCell ⟨g, o + p, none⟩ (.int .u64 (f a : Nat)))) := hS0.swap (by omega) (by omega)
 obtain ⟨hz0, hfz0⟩ := hS0.mid (i := a) (by omega) (f p)
 obtain ⟨z0, hz0⟩ := hz0 p (by omega)
 have hfz0 := hfz0 p
 clear hS0
 go_enter Tryz.func149, Tryz.ntmps149
 go_wp2
 go_region
 go_wp2
 clear hcw0 hfw0 hz0 hfz0
 go_loopg [9, 10] b (fun gh vi vj wr => ∃ i j : Nat, vi = .int .i64 (i : Int) ∧ vj = .int .i64 (j : Int) ∧ a < i ∧ i ≤ b ∧ a ≤ j ∧ j < b ∧ b - i ≤ gh ∧ Sx w0 g o n c q wr)
 case atStart => exact ⟨a + 1, b - 1, by go_num, by congr 1; omega, by omega, by omega, by omega, by omega, by omega, HX0.out.drew⟩
 case round =>
  obtain ⟨i0, j0, rfl, rfl, hi1, hi2, hj1, hj2, hgh, hS⟩ := hrel
  have HS : Hid (Sx w0 g o n c q wr) := hS
  clear hS HX0
  go_upto_block 2 with fail
  go_cut [9] from 29 to 82 (fun s wx => ∃ i : Nat, s = .int .i64 (i : Int) ∧ i0 ≤ i ∧ i ≤ b ∧ Sx w0 g o n c q wx)
  case first =>
   go_wp2_with fail
   go_loopg [9] b (fun gh vi wr => ∃ i : Nat, vi = .int .i64 (i : Int) ∧ i0 ≤ i ∧ i ≤ b ∧ b - i ≤ gh ∧ Sx w0 g o n c q wr)
   case atStart => exact ⟨i0, rfl, by omega, by omega, by omega, HS.out⟩
   case round =>
    obtain ⟨i, rfl, hu1, hu2, hu3, fu, hSu⟩ := hrel
    have hcw := hSu.cell
    have HQu : Hid (Sq w0 wr g o n c q fu) := hSu
    clear hSu HS
    by_cases hij : i ≤ j0
    ·have hij2 : (i : Int) ≤ (j0 : Int) := by omega
     go_wp2
     go_quiet ((go_at_call 148; refine Calls.quiet_of_same (qak _ _ _)))
     go_wp2
     ·go_roundg (gk - 1)
      case measure => omega
      case rel => exact ⟨i + 1, by go_num, by omega, by omega, by omega, fu, HQu.out.drewN _⟩
     ·go_meet
      exact ⟨i, rfl, by omega, by omega, fu, HQu.out.drewN _⟩
    ·have hij2 : decide ((i : Int) ≤ (j0 : Int)) = false := by simp; omega
     have hij3 : decide (i ≤ j0) = false := by simp; omega
     go_wp2
     go_quiet ((go_at_call 148; refine Calls.quiet_of_same (qak _ _ _)))
     go_wp2
     go_meet
     exact ⟨i, rfl, by omega, by omega, fu, HQu.out.drewN _⟩
  case rest =>
   obtain ⟨i1, rfl, hp1, hp2, hS1⟩ := hcut
   have HS1 : Hid (Sx w0 g o n c q wc) := hS1
   clear hS1 HS
   go_upto_block 4 with fail
   go_cut [10] from 29 to 82 (fun s wx => ∃ j : Nat, s = .int .i64 (j : Int) ∧ a ≤ j ∧ j ≤ j0 ∧ Sx w0 g o n c q wx)
   case first =>
    go_wp2_with fail
    go_loopg [10] b (fun gh vj wr => ∃ j : Nat, vj = .int .i64 (j : Int) ∧ a ≤ j ∧ j ≤ j0 ∧ j ≤ gh ∧ Sx w0 g o n c q wr)
    case atStart => exact ⟨j0, rfl, by omega, by omega, by omega, HS1.out⟩
    case round =>
     obtain ⟨j, rfl, hu1, hu2, hu3, fu, hSu⟩ := hrel
     have hcw := hSu.cell
     have HQu : Hid (Sq w0 wr g o n c q fu) := hSu
     clear hSu HS1
     by_cases hij : i1 ≤ j
     ·have hij2 : (i1 : Int) ≤ (j : Int) := by omega
      go_wp2
      go_quiet ((go_at_call 148; refine Calls.quiet_of_same (qak _ _ _)))
      go_wp2
      ·go_roundg (gk - 1)
       case measure => omega
       case rel => exact ⟨j - 1, by congr 1; omega, by omega, by omega, by omega, fu, HQu.out.drewN _⟩
      ·go_meet
       exact ⟨j, rfl, by omega, by omega, fu, HQu.out.drewN _⟩
     ·have hij2 : decide ((i1 : Int) ≤ (j : Int)) = false := by simp; omega
      have hij3 : decide (i1 ≤ j) = false := by simp; omega
      go_wp2
      go_quiet ((go_at_call 148; refine Calls.quiet_of_same (qak _ _ _)))
      go_wp2
      go_meet
      exact ⟨j, rfl, by omega, by omega, fu, HQu.out.drewN _⟩
   case rest =>
    obtain ⟨j1, rfl, hp3, hp4, f1, hS1⟩ := hcut
    clear HS1
    by_cases hij : j1 < i1
    ·have HQ : Hid (Sq w0 wc g o n c q f1) := hS1
     clear hS1
     go_wp2
     go_ret
     exact ⟨⟨i1, rfl, by omega, by omega⟩, f1, HQ.out⟩
    ·have hij2 : i1 ≤ j1 := by omega
     have hcw1 := hS1.cell
     have hfw1 : ∀ t, t < n → wc.frozen? ⟨g, o + t, none⟩ = false := fun t _ => hS1.free t
     have HX1 : Hid (Sx w0 g o n c q ((wc.setCell ⟨g, o + i1, none⟩ (.int .u64 (f1 j1 : Nat))).setCell ⟨g, o + j1, none⟩ (.int .u64 (f1 i1 : Nat)))) := hS1.swap (by omega) (by omega)
     obtain ⟨hz1, hfz1⟩ := hS1.mid (i := i1) (by omega) (f1 j1)
     obtain ⟨z1, hz1⟩ := hz1 j1 (by omega)
     have hfz1 := hfz1 j1
     clear hS1
     go_wp2
     go_region
     go_wp2
     go_roundg (gk - 1)
     case measure => omega
     case rel => exact ⟨i1 + 1, j1 - 1, by go_num, by congr 1; omega, by omega, by omega, by omega, by omega, by omega, HX1.out.drew⟩
theorem part16 (w0 w : World) (g o n c cap a b p : Nat) (q : Nat → Nat) (h : Sx w0 g o n c q w) (ha : a ≤ p) (hp : p < b) (hb : b ≤ n) (hn : n ≤ 17592186044416) :
  Calls Tryz.prog 150 #[.slice (some ⟨g, o, none⟩) n cap, .int .i64 (a : Int), .int .i64 (b : Int), .int .i64 (p : Int)] w fun e w' => (∃ (x : Nat) (t : Bool), e = .returned (.tuple #[.int .i64 (x : Int), .bool t]) ∧ a ≤ x ∧ x < b) ∧ Sx w0 g o n c q w' := by
 obtain ⟨f, hS0⟩ := h
 have hcw0 := hS0.cell
 have hfw0 : ∀ t, t < n → w.frozen? ⟨g, o + t, none⟩ = false := fun t _ => hS0.free t
 have HX0 : Hid (Sx w0 g o n c q ((w.setCell ⟨g, o + a, none⟩ (.int .u64 (f p : Nat))).setCell ⟨g, o + p, none⟩ (.int .u64 (f a : Nat)))) := hS0.swap (by omega) (by omega)
 obtain ⟨hz0, hfz0⟩ := hS0.mid (i := a) (by omega) (f p)
 obtain ⟨z0, hz0⟩ := hz0 p (by omega)
 have hfz0 := hfz0 p
 clear hS0
 obtain ⟨i0, HI⟩ : ∃ i0 : Nat, Hid ((a : Int) + 1 = (i0 : Int)) := ⟨a + 1, by show _ = _; omega⟩
 obtain ⟨j0, HJ⟩ : ∃ j0 : Nat, Hid ((b : Int) - 1 = (j0 : Int)) := ⟨b - 1, by show _ = _; omega⟩
 have hi1 : a < i0 := by have := HI.out; omega
 have hi2 : i0 ≤ b := by have := HI.out; omega
 have hj1 : a ≤ j0 := by have := HJ.out; omega
 have hj2 : j0 < b := by have := HJ.out; omega
 go_enter Tryz.func150, Tryz.ntmps150
 go_wp2
 go_region
 clear hcw0 hfw0 hz0 hfz0
 have HS : Hid (Sx w0 g o n c q ((w.setCell ⟨g, o + a, none⟩ (.int .u64 (f p : Nat))).setCell ⟨g, o + p, none⟩ (.int .u64 (f a : Nat))).drew) := HX0.out.drew
 clear HX0
 go_upto_block 0 with fail
 rw [HI.out, HJ.out]
 go_upto_block 0 with fail
 go_cut [10] from 30 to 167 (fun s wx => ∃ i : Nat, s = .int .i64 (i : Int) ∧ i0 ≤ i ∧ i ≤ b ∧ Sx w0 g o n c q wx)
 case first =>
  go_wp2_with fail
  go_loopg [10] b (fun gh vi wr => ∃ i : Nat, vi = .int .i64 (i : Int) ∧ i0 ≤ i ∧ i ≤ b ∧ b - i ≤ gh ∧ Sx w0 g o n c q wr)
  case atStart => exact ⟨i0, rfl, by omega, by omega, by omega, HS.out⟩
  case round =>
   obtain ⟨i, rfl, hu1, hu2, hu3, fu, hSu⟩ := hrel
   have hcw := hSu.cell
   have HQu : Hid (Sq w0 wr g o n c q fu) := hSu
   clear hSu HS
   by_cases hij : i ≤ j0
   ·have hij2 : (i : Int) ≤ (j0 : Int) := by omega
    go_wp2
    go_quiet ((go_at_call 148; refine Calls.quiet_of_same (qak _ _ _)))
    go_wp2
    ·go_roundg (gk - 1)
     case measure => omega
     case rel => exact ⟨i + 1, by go_num, by omega, by omega, by omega, fu, HQu.out.drewN _⟩
    ·go_meet
     exact ⟨i, rfl, by omega, by omega, fu, HQu.out.drewN _⟩
   ·have hij2 : decide ((i : Int) ≤ (j0 : Int)) = false := by simp; omega
    have hij3 : decide (i ≤ j0) = false := by simp; omega
    go_wp2
    go_quiet ((go_at_call 148; refine Calls.quiet_of_same (qak _ _ _)))
    go_wp2
    go_meet
    exact ⟨i, rfl, by omega, by omega, fu, HQu.out.drewN _⟩
 case rest =>
  obtain ⟨i1, rfl, hp1, hp2, hS1⟩ := hcut
  have HS1 : Hid (Sx w0 g o n c q wc) := hS1
  clear hS1 HS
  go_upto_block 2 with fail
  go_cut [11] from 30 to 167 (fun s wx => ∃ j : Nat, s = .int .i64 (j : Int) ∧ a ≤ j ∧ j ≤ j0 ∧ Sx w0 g o n c q wx)
  case first =>
   go_wp2_with fail
   go_loopg [11] b (fun gh vj wr => ∃ j : Nat, vj = .int .i64 (j : Int) ∧ a ≤ j ∧ j ≤ j0 ∧ j ≤ gh ∧ Sx w0 g o n c q wr)
   case atStart => exact ⟨j0, rfl, by omega, by omega, by omega, HS1.out⟩
   case round =>
    obtain ⟨j, rfl, hu1, hu2, hu3, fu, hSu⟩ := hrel
    have hcw := hSu.cell
    have HQu : Hid (Sq w0 wr g o n c q fu) := hSu
    clear hSu HS1
    by_cases hij : i1 ≤ j
    ·have hij2 : (i1 : Int) ≤ (j : Int) := by omega
     go_wp2
     go_quiet ((go_at_call 148; refine Calls.quiet_of_same (qak _ _ _)))
     go_wp2
     ·go_roundg (gk - 1)
      case measure => omega
      case rel => exact ⟨j - 1, by congr 1; omega, by omega, by omega, by omega, fu, HQu.out.drewN _⟩
     ·go_meet
      exact ⟨j, rfl, by omega, by omega, fu, HQu.out.drewN _⟩
    ·have hij2 : decide ((i1 : Int) ≤ (j : Int)) = false := by simp; omega
     have hij3 : decide (i1 ≤ j) = false := by simp; omega
     go_wp2
     go_quiet ((go_at_call 148; refine Calls.quiet_of_same (qak _ _ _)))
     go_wp2
     go_meet
     exact ⟨j, rfl, by omega, by omega, fu, HQu.out.drewN _⟩
  case rest =>
   obtain ⟨j1, rfl, hp3, hp4, f1, hS1⟩ := hcut
   clear HS1
   by_cases hij : j1 < i1
   ·have hij2 : (j1 : Int) < (i1 : Int) := by omega
    have hcw1 := hS1.cell
    have hfw1 : ∀ t, t < n → wc.frozen? ⟨g, o + t, none⟩ = false := fun t _ => hS1.free t
    have HX1 : Hid (Sx w0 g o n c q ((wc.setCell ⟨g, o + j1, none⟩ (.int .u64 (f1 a : Nat))).setCell ⟨g, o + a, none⟩ (.int .u64 (f1 j1 : Nat)))) := hS1.swap (by omega) (by omega)
    obtain ⟨hz1, hfz1⟩ := hS1.mid (i := j1) (by omega) (f1 a)
    obtain ⟨z1, hz1⟩ := hz1 a (by omega)
    have hfz1 := hfz1 a
    clear hS1
    go_wp2
    go_region
    go_wp2
    go_ret2
    exact ⟨⟨j1, true, rfl, by omega, by omega⟩, HX1.out.drew⟩
   ·have hij2 : i1 ≤ j1 := by omega
    have hcw1 := hS1.cell
    have hfw1 : ∀ t, t < n → wc.frozen? ⟨g, o + t, none⟩ = false := fun t _ => hS1.free t
    have HX1 : Hid (Sx w0 g o n c q ((wc.setCell ⟨g, o + i1, none⟩ (.int .u64 (f1 j1 : Nat))).setCell ⟨g, o + j1, none⟩ (.int .u64 (f1 i1 : Nat)))) := hS1.swap (by omega) (by omega)
    obtain ⟨hz1, hfz1⟩ := hS1.mid (i := i1) (by omega) (f1 j1)
    obtain ⟨z1, hz1⟩ := hz1 j1 (by omega)
    have hfz1 := hfz1 j1
    clear hS1
    go_wp2
    go_region
    go_wp2
    clear hcw1 hfw1 hz1 hfz1
    go_loopg [10, 11] b (fun gh vi vj wr => ∃ i j : Nat, vi = .int .i64 (i : Int) ∧ vj = .int .i64 (j : Int) ∧ a < i ∧ i ≤ b ∧ a ≤ j ∧ j < b ∧ b - i ≤ gh ∧ Sx w0 g o n c q wr)
    case atStart => exact ⟨i1 + 1, j1 - 1, by go_num, by congr 1; omega, by omega, by omega, by omega, by omega, by omega, HX1.out.drew⟩
    case round =>
     obtain ⟨i2, j2, rfl, rfl, hk1, hk2, hk3, hk4, hgh, hS⟩ := hrel
     have HS : Hid (Sx w0 g o n c q wr) := hS
     clear hS HX1
     go_upto_block 6 with fail
     go_cut [10] from 99 to 152 (fun s wx => ∃ i : Nat, s = .int .i64 (i : Int) ∧ i2 ≤ i ∧ i ≤ b ∧ Sx w0 g o n c q wx)
     case first =>
      go_wp2_with fail
      go_loopg [10] b (fun gh vi wr => ∃ i : Nat, vi = .int .i64 (i : Int) ∧ i2 ≤ i ∧ i ≤ b ∧ b - i ≤ gh ∧ Sx w0 g o n c q wr)
      case atStart => exact ⟨i2, rfl, by omega, by omega, by omega, HS.out⟩
      case round =>
       obtain ⟨i, rfl, hu1, hu2, hu3, fu, hSu⟩ := hrel
       have hcw := hSu.cell
       have HQu : Hid (Sq w0 wr g o n c q fu) := hSu
       clear hSu HS
       by_cases hij : i ≤ j2
       ·have hij2 : (i : Int) ≤ (j2 : Int) := by omega
        go_wp2
        go_quiet ((go_at_call 148; refine Calls.quiet_of_same (qak _ _ _)))
        go_wp2
        ·go_roundg (gk - 1)
         case measure => omega
         case rel => exact ⟨i + 1, by go_num, by omega, by omega, by omega, fu, HQu.out.drewN _⟩
        ·go_meet
         exact ⟨i, rfl, by omega, by omega, fu, HQu.out.drewN _⟩
       ·have hij2 : decide ((i : Int) ≤ (j2 : Int)) = false := by simp; omega
        have hij3 : decide (i ≤ j2) = false := by simp; omega
        go_wp2
        go_quiet ((go_at_call 148; refine Calls.quiet_of_same (qak _ _ _)))
        go_wp2
        go_meet
        exact ⟨i, rfl, by omega, by omega, fu, HQu.out.drewN _⟩
     case rest =>
      obtain ⟨i3, rfl, hr1, hr2, hS3⟩ := hcut
      have HS3 : Hid (Sx w0 g o n c q wc) := hS3
      clear hS3 HS
      go_upto_block 8 with fail
      go_cut [11] from 99 to 152 (fun s wx => ∃ j : Nat, s = .int .i64 (j : Int) ∧ a ≤ j ∧ j ≤ j2 ∧ Sx w0 g o n c q wx)
      case first =>
       go_wp2_with fail
       go_loopg [11] b (fun gh vj wr => ∃ j : Nat, vj = .int .i64 (j : Int) ∧ a ≤ j ∧ j ≤ j2 ∧ j ≤ gh ∧ Sx w0 g o n c q wr)
       case atStart => exact ⟨j2, rfl, by omega, by omega, by omega, HS3.out⟩
       case round =>
        obtain ⟨j, rfl, hu1, hu2, hu3, fu, hSu⟩ := hrel
        have hcw := hSu.cell
        have HQu : Hid (Sq w0 wr g o n c q fu) := hSu
        clear hSu HS3
        by_cases hij : i3 ≤ j
        ·have hij2 : (i3 : Int) ≤ (j : Int) := by omega
         go_wp2
         go_quiet ((go_at_call 148; refine Calls.quiet_of_same (qak _ _ _)))
         go_wp2
         ·go_roundg (gk - 1)
          case measure => omega
          case rel => exact ⟨j - 1, by congr 1; omega, by omega, by omega, by omega, fu, HQu.out.drewN _⟩
         ·go_meet
          exact ⟨j, rfl, by omega, by omega, fu, HQu.out.drewN _⟩
        ·have hij2 : decide ((i3 : Int) ≤ (j : Int)) = false := by simp; omega
         have hij3 : decide (i3 ≤ j) = false := by simp; omega
         go_wp2
         go_quiet ((go_at_call 148; refine Calls.quiet_of_same (qak _ _ _)))
         go_wp2
         go_meet
         exact ⟨j, rfl, by omega, by omega, fu, HQu.out.drewN _⟩
      case rest =>
       obtain ⟨j3, rfl, hr3, hr4, f3, hS3⟩ := hcut
       clear HS3
       by_cases hij : j3 < i3
       ·have hij2 : (j3 : Int) < (i3 : Int) := by omega
        have hcw3 := hS3.cell
        have hfw3 : ∀ t, t < n → wc.frozen? ⟨g, o + t, none⟩ = false := fun t _ => hS3.free t
        have HX3 : Hid (Sx w0 g o n c q ((wc.setCell ⟨g, o + j3, none⟩ (.int .u64 (f3 a : Nat))).setCell ⟨g, o + a, none⟩ (.int .u64 (f3 j3 : Nat)))) := hS3.swap (by omega) (by omega)
        obtain ⟨hz3, hfz3⟩ := hS3.mid (i := j3) (by omega) (f3 a)
        obtain ⟨z3, hz3⟩ := hz3 a (by omega)
        have hfz3 := hfz3 a
        clear hS3
        go_wp2
        go_region
        go_wp2
        go_ret2
        exact ⟨⟨j3, false, rfl, by omega, by omega⟩, HX3.out.drew⟩
       ·have hij2 : i3 ≤ j3 := by omega
        have hcw3 := hS3.cell
        have hfw3 : ∀ t, t < n → wc.frozen? ⟨g, o + t, none⟩ = false := fun t _ => hS3.free t
        have HX3 : Hid (Sx w0 g o n c q ((wc.setCell ⟨g, o + i3, none⟩ (.int .u64 (f3 j3 : Nat))).setCell ⟨g, o + j3, none⟩ (.int .u64 (f3 i3 : Nat)))) := hS3.swap (by omega) (by omega)
        obtain ⟨hz3, hfz3⟩ := hS3.mid (i := i3) (by omega) (f3 j3)
        obtain ⟨z3, hz3⟩ := hz3 j3 (by omega)
        have hfz3 := hfz3 j3
        clear hS3
        go_wp2
        go_region
        go_wp2
        go_roundg (gk - 1)
        case measure => omega
        case rel => exact ⟨i3 + 1, j3 - 1, by go_num, by congr 1; omega, by omega, by omega, by omega, by omega, by omega, HX3.out.drew⟩
open Go.RowKit
theorem pins16 (w0 w : World) (g o n c cap a b : Nat) (q : Nat → Nat) (h : Sx w0 g o n c q w) (hab : a < b) (hb : b ≤ n) (hn : n ≤ 17592186044416) :
  Calls Tryz.prog 147 #[.slice (some ⟨g, o, none⟩) n cap, .int .i64 (a : Int), .int .i64 (b : Int)] w fun e w' => (∃ t : Bool, e = .returned (.bool t)) ∧ Sx w0 g o n c q w' := by
 have H0 : Hid (Sx w0 g o n c q w) := h
 clear h
 go_enter Tryz.func147, Tryz.ntmps147
 go_wp2
 go_loopg [7, 8] 5 (fun gh vi vj wr => ∃ i j : Nat, vi = .int .i64 (i : Int) ∧ vj = .int .i64 (j : Int) ∧ a < i ∧ i ≤ b ∧ j ≤ 5 ∧ 5 - j ≤ gh ∧ Sx w0 g o n c q wr)
 case atStart => exact ⟨a + 1, 0, by go_num, rfl, by omega, by omega, by omega, by omega, H0.out⟩
 case round =>
  obtain ⟨i0, j0, rfl, rfl, hi1, hi2, hj1, hgh, hS⟩ := hrel
  have HS : Hid (Sx w0 g o n c q wr) := hS
  clear hS H0
  by_cases hj5 : j0 < 5
  ·obtain ⟨gz, HGZ⟩ : ∃ gz : Nat, Hid (gz + 1 = gk) := ⟨gk - 1, by show _ = _; omega⟩
   go_upto_block 2 with fail
   go_cut [7] from 13 to 132 (fun s wx => ∃ i : Nat, s = .int .i64 (i : Int) ∧ i0 ≤ i ∧ i ≤ b ∧ Sx w0 g o n c q wx)
   case first =>
    go_wp2_with fail
    go_loopg [7] b (fun gh vi wr => ∃ i : Nat, vi = .int .i64 (i : Int) ∧ i0 ≤ i ∧ i ≤ b ∧ b - i ≤ gh ∧ Sx w0 g o n c q wr)
    case atStart => exact ⟨i0, rfl, by omega, by omega, by omega, HS.out⟩
    case round =>
     obtain ⟨i, rfl, hu1, hu2, hu3, fu, hSu⟩ := hrel
     have hcw := hSu.cell
     have HQu : Hid (Sq w0 wr g o n c q fu) := hSu
     clear hSu HS
     by_cases hij : i < b
     ·have hij2 : (i : Int) < (b : Int) := by omega
      go_wp2
      go_quiet ((go_at_call 148; refine Calls.quiet_of_same (qak _ _ _)))
      go_wp2
      ·go_roundg (gk - 1)
       case measure => omega
       case rel => exact ⟨i + 1, by go_num, by omega, by omega, by omega, fu, HQu.out.drewN _⟩
      ·go_meet
       exact ⟨i, rfl, by omega, by omega, fu, HQu.out.drewN _⟩
     ·have hij2 : decide ((i : Int) < (b : Int)) = false := by simp; omega
      have hij3 : decide (i < b) = false := by simp; omega
      go_wp2
      go_quiet ((go_at_call 148; refine Calls.quiet_of_same (qak _ _ _)))
      go_wp2
      go_meet
      exact ⟨i, rfl, by omega, by omega, fu, HQu.out.drewN _⟩
   case rest =>
    obtain ⟨i1, rfl, hp1, hp2, f1, hS1⟩ := hcut
    clear HS
    by_cases hib : i1 = b
    ·subst hib
     have HQ : Hid (Sq w0 wc g o n c q f1) := hS1
     clear hS1
     go_wp2
     go_ret
     exact ⟨⟨true, rfl⟩, f1, HQ.out⟩
    ·have hib2 : ((i1 : Int) == (b : Int)) = false := by simp; omega
     by_cases h50 : (b : Int) - (a : Int) < 50
     ·have HQ : Hid (Sq w0 wc g o n c q f1) := hS1
      clear hS1
      go_wp2
      go_ret
      exact ⟨⟨false, rfl⟩, f1, HQ.out⟩
     ·have hlt : i1 < b := by omega
      have hcw := hS1.cell
      have hfw : ∀ t, t < n → wc.frozen? ⟨g, o + t, none⟩ = false := fun t _ => hS1.free t
      have HX : Hid (Sx w0 g o n c q ((wc.setCell ⟨g, o + i1, none⟩ (.int .u64 (f1 (i1 - 1) : Nat))).setCell ⟨g, o + (i1 - 1), none⟩ (.int .u64 (f1 i1 : Nat)))) := hS1.swap (by omega) (by omega)
      clear hS1
      go_wp2
      go_region
      clear hcw hfw
      have HS2 : Hid (Sx w0 g o n c q ((wc.setCell ⟨g, o + i1, none⟩ (.int .u64 (f1 (i1 - 1) : Nat))).setCell ⟨g, o + (i1 - 1), none⟩ (.int .u64 (f1 i1 : Nat))).drew) := HX.out.drew
      clear HX
      go_upto_if 61 with fail
      go_cut [9] from 13 to 132 (fun _ wx => Sx w0 g o n c q wx)
      case first =>
       by_cases h2 : (2 : Int) ≤ (i1 : Int) - (a : Int)
       ·go_wp2
        go_loopg [9] n (fun gh vj wr => ∃ m : Nat, vj = .int .i64 (m : Int) ∧ m < b ∧ m ≤ gh ∧ Sx w0 g o n c q wr)
        case atStart => exact ⟨i1 - 1, by congr 1; omega, by omega, by omega, HS2.out⟩
        case round =>
         obtain ⟨m, rfl, hm1, hm2, fu, hSu⟩ := hrel
         have hcw := hSu.cell
         have hfw : ∀ t, t < n → wr.frozen? ⟨g, o + t, none⟩ = false := fun t _ => hSu.free t
         have HQu : Hid (Sq w0 wr g o n c q fu) := hSu
         clear hSu HS2
         by_cases hm : 1 ≤ m
         ·have hm3 : (1 : Int) ≤ (m : Int) := by omega
          go_wp2
          go_quiet ((go_at_call 148; refine Calls.quiet_of_same (qak _ _ _)))
          go_wp2
          ·go_meet
           exact ⟨fu, HQu.out.drewN _⟩
          ·go_region
           go_wp2
           go_roundg (gk - 1)
           case measure => omega
           case rel => exact ⟨m - 1, by congr 1; omega, by omega, by omega, (HQu.out.drewN _).swap (by omega) (by omega)⟩
         ·have hm3 : ¬ (1 : Int) ≤ (m : Int) := by omega
          go_wp2
          go_meet
          exact ⟨fu, HQu.out⟩
       ·go_wp2
        go_meet
        exact HS2.out
      case rest =>
       clear HS2
       have HS3 : Hid (Sx w0 g o n c q wc) := hcut
       clear hcut
       by_cases h2 : (2 : Int) ≤ (b : Int) - (i1 : Int)
       ·go_wp2
        go_loopg [10] n (fun gh vj wr => ∃ m : Nat, vj = .int .i64 (m : Int) ∧ 1 ≤ m ∧ m ≤ b ∧ b - m ≤ gh ∧ Sx w0 g o n c q wr)
        case atStart => exact ⟨i1 + 1, by go_num, by omega, by omega, by omega, HS3.out⟩
        case round =>
         obtain ⟨m, rfl, hm0, hm1, hm2, fu, hSu⟩ := hrel
         have hcw := hSu.cell
         have hfw : ∀ t, t < n → wr.frozen? ⟨g, o + t, none⟩ = false := fun t _ => hSu.free t
         have HQu : Hid (Sq w0 wr g o n c q fu) := hSu
         clear hSu HS3
         by_cases hm : m < b
         ·have hm3 : (m : Int) < (b : Int) := by omega
          go_wp2
          go_quiet ((go_at_call 148; refine Calls.quiet_of_same (qak _ _ _)))
          go_wp2
          ·go_roundg gz
           case measure => have := HGZ.out; omega
           case rel => have := HGZ.out; exact ⟨i1, j0 + 1, rfl, by go_num, by omega, by omega, by omega, by omega, fu, HQu.out.drewN _⟩
          ·go_region
           go_wp2
           go_roundg (gk - 1)
           case measure => omega
           case rel => exact ⟨m + 1, by go_num, by omega, by omega, by omega, (HQu.out.drewN _).swap (by omega) (by omega)⟩
         ·have hm3 : ¬ (m : Int) < (b : Int) := by omega
          go_wp2
          go_roundg gz
          case measure => have := HGZ.out; omega
          case rel => have := HGZ.out; exact ⟨i1, j0 + 1, rfl, by go_num, by omega, by omega, by omega, by omega, fu, HQu.out⟩
       ·go_wp2
        go_roundg (gk - 1)
        case measure => omega
        case rel => exact ⟨i1, j0 + 1, rfl, by go_num, by omega, by omega, by omega, by omega, HS3.out⟩
  ·go_wp2
   go_ret
   exact ⟨⟨false, rfl⟩, HS.out⟩
open Go.RowKit
theorem insz16 (w : World) : Calls Tryz.prog 142 #[.slice none 0 0, .int .i64 0, .int .i64 0] w fun e w' => e = .returned (.tuple #[]) ∧ w = w' := by
 go_enter Tryz.func142, Tryz.ntmps142
 go_wp2
 go_loopw [6] (fun vi wr => vi = .int .i64 1 ∧ w = wr) (fun _ _ => 0)
 case atStart => exact ⟨rfl, rfl⟩
 case round =>
  obtain ⟨rfl, rfl⟩ := hrel
  go_wp2
  go_end0
  exact ⟨rfl, rfl⟩
theorem pdqz16 (w : World) (L : Int) : Calls Tryz.prog 132 #[.slice none 0 0, .int .i64 0, .int .i64 0, .int .i64 L] w fun e w' => e = .returned (.tuple #[]) ∧ w = w' := by
 go_enter Tryz.func132, Tryz.ntmps132
 go_wp2
 refine wp_loop_rounds 1 ?_
 rw [rounds_succ]
 go_wp2_with (go_at_call 142; refine (insz16 _).mono ?_; rintro e w' ⟨rfl, rfl⟩)
 refine bodyPost_ret (v := .tuple #[]) (by simp [results, Tryz.results132, go_sem]) rfl ?_
 exact ⟨rfl, rfl⟩
theorem sortz16 (w : World) : Calls Tryz.prog 119 #[.slice none 0 0] w fun e w' => e = .returned (.tuple #[]) ∧ w = w' := by
 obtain ⟨L, hL⟩ := len16 w 0 (by omega) (by omega)
 have HL : Hid (Calls Tryz.prog 133 #[.int .u64 0] w fun e w' => e = .returned (.int .i64 L) ∧ w = w') := hL
 clear hL
 go_enter Tryz.func119, Tryz.ntmps119
 go_wp2_with (first
  | (go_at_call 133; refine HL.out.mono ?_; rintro e w' ⟨rfl, rfl⟩)
  | (go_at_call 132; refine (pdqz16 _ _).mono ?_; rintro e w' ⟨rfl, rfl⟩))
 go_end0
 exact ⟨rfl, rfl⟩
theorem pdq16 (w0 : World) (g o n c cap : Nat) (q : Nat → Nat) (hn : n ≤ 17592186044416) (N : Nat) : ∀ (a b : Nat) (L : Int) (w : World), a ≤ b → b ≤ n → b - a ≤ N → Sx w0 g o n c q w →
  Calls Tryz.prog 132 #[.slice (some ⟨g, o, none⟩) n cap, .int .i64 (a : Int), .int .i64 (b : Int), .int .i64 L] w fun e w' => e = .returned (.tuple #[]) ∧ Sx w0 g o n c q w' := by
 induction N using Nat.strongRecOn with
 | _ N IH =>
 intro a b L w hab hb hN h
 have H0 : Hid (Sx w0 g o n c q w) := h
 have HI : Hid (∀ m, m < N → ∀ (a b : Nat) (L : Int) (w : World), a ≤ b → b ≤ n → b - a ≤ m → Sx w0 g o n c q w → Calls Tryz.prog 132 #[.slice (some ⟨g, o, none⟩) n cap, .int .i64 (a : Int), .int .i64 (b : Int), .int .i64 L] w fun e w' => e = .returned (.tuple #[]) ∧ Sx w0 g o n c q w') := IH
 clear h IH
 go_enter Tryz.func132, Tryz.ntmps132
 go_wp2
 go_loopg [1, 2, 3, 8, 9] N (fun gh va vb vl v8 v9 wr => ∃ (a b : Nat) (L : Int) (p8 p9 : Bool), va = .int .i64 (a : Int) ∧ vb = .int .i64 (b : Int) ∧ vl = .int .i64 L ∧ v8 = .bool p8 ∧ v9 = .bool p9 ∧ a ≤ b ∧ b ≤ n ∧ b - a ≤ gh ∧ b - a ≤ N ∧ Sx w0 g o n c q wr)
 case atStart => exact ⟨a, b, L, true, true, rfl, rfl, rfl, rfl, rfl, hab, hb, hN, hN, H0.out⟩
 case round =>
  clear hab hb hN H0 L
  obtain ⟨a1, b1, L1, p8, p9, rfl, rfl, rfl, rfl, rfl, hab, hb, hgh, hN, hS⟩ := hrel
  have HS : Hid (Sx w0 g o n c q wr) := hS
  clear hS
  obtain ⟨l, HL⟩ : ∃ l : Nat, Hid (a1 + l = b1) := ⟨b1 - a1, by show _ = _; omega⟩
  by_cases h12 : (b1 : Int) - (a1 : Int) ≤ 12
  ·go_wp2_with (go_at_call 142; refine (ins16 w0 _ g o n c cap a1 b1 q HS.out hab hb hn).mono ?_; rintro e w1 ⟨rfl, hs1⟩; have HS1 : Hid (Sx w0 g o n c q w1) := hs1; clear hs1)
   refine bodyPost_ret (v := .tuple #[]) (by simp [results, Tryz.results132, go_sem]) rfl ?_
   exact ⟨rfl, HS1.out⟩
  ·have hl13 : 13 ≤ l := by have := HL.out; omega
   by_cases h0 : L1 = 0
   ·subst h0
    go_wp2_with (go_at_call 143; refine (heap16 w0 _ g o n c cap a1 b1 l q HS.out HL.out (by omega) hb hn).mono ?_; rintro e w1 ⟨rfl, hs1⟩; have HS1 : Hid (Sx w0 g o n c q w1) := hs1; clear hs1)
    refine bodyPost_ret (v := .tuple #[]) (by simp [results, Tryz.results132, go_sem]) rfl ?_
    exact ⟨rfl, HS1.out⟩
   ·have h02 : (L1 == 0) = false := by simpa using h0
    clear h0
    go_upto_if 35 with fail
    go_cut [3] from 19 to 133 (fun s3 wx => (∃ L : Int, s3 = .int .i64 L) ∧ Sx w0 g o n c q wx)
    case first =>
     cases p8 with
     | true =>
      go_wp2
      go_meet
      exact ⟨⟨_, rfl⟩, HS.out⟩
     | false =>
      go_wp2_with (go_at_call 144; refine (brk16 w0 _ g o n c cap a1 b1 l q HS.out HL.out (by omega) hb hn).mono ?_; rintro e w1 ⟨rfl, hs1⟩; have HS1 : Hid (Sx w0 g o n c q w1) := hs1; clear hs1)
      go_meet
      exact ⟨⟨_, rfl⟩, HS1.out⟩
    case rest =>
     obtain ⟨⟨L2, rfl⟩, hS2⟩ := hcut
     have HS2 : Hid (Sx w0 g o n c q wc) := hS2
     clear hS2 HS h02
     go_upto_if 50 with (go_at_call 145; refine (piv16 w0 _ g o n c cap a1 b1 l q HS2.out HL.out (by omega) hb hn).mono ?_; rintro e w1 ⟨⟨x, t, rfl, hx1, hx2⟩, hs1⟩; have HS3 : Hid (Sx w0 g o n c q w1) := hs1; clear hs1)
     go_cut [11, 12] from 19 to 133 (fun s11 s12 wx => (∃ x : Nat, s11 = .int .i64 (x : Int) ∧ a1 ≤ x ∧ x < b1) ∧ (∃ t : Int, s12 = .int .i64 t) ∧ Sx w0 g o n c q wx)
     case first =>
      by_cases ht : t = 2
      ·subst ht
       go_wp2_with (go_at_call 146; refine (rev16 w0 _ g o n c cap a1 b1 q HS3.out (by omega) hb hn).mono ?_; rintro e w2 ⟨rfl, hs1⟩; have HS4 : Hid (Sx w0 g o n c q w2) := hs1; clear hs1)
       go_meet
       exact ⟨⟨b1 - 1 - (x - a1), by congr 1; omega, by omega, by omega⟩, ⟨_, rfl⟩, HS4.out⟩
      ·have ht2 : ((t : Int) == 2) = false := by simp; omega
       go_wp2
       go_meet
       exact ⟨⟨x, rfl, hx1, hx2⟩, ⟨_, rfl⟩, HS3.out⟩
     case rest =>
      clear HS2 HS3 hx1 hx2 x t
      obtain ⟨⟨x, rfl, hx1, hx2⟩, ⟨t, rfl⟩, hS3⟩ := hcut
      have HS3 : Hid (Sx w0 g o n c q wc) := hS3
      clear hS3
      go_upto_region 15 with fail
      go_cut [68] from 19 to 133 (fun s68 wx => (∃ t : Bool, s68 = .bool t) ∧ Sx w0 g o n c q wx)
      case first =>
       cases p8 <;> cases p9 <;> go_wp2 <;> go_meet <;> exact ⟨⟨_, rfl⟩, HS3.out⟩
      case rest =>
       obtain ⟨⟨t1, rfl⟩, hS4⟩ := hcut
       have HS4 : Hid (Sx w0 g o n c q wc) := hS4
       clear hS4 HS3
       go_upto_if 68 with fail
       go_cut [] from 19 to 133 (fun wx => Sx w0 g o n c q wx)
       case first =>
        cases t1 with
        | false =>
         go_wp2
         go_meet
         exact HS4.out
        | true =>
         go_wp2_with (go_at_call 147; refine (pins16 w0 _ g o n c cap a1 b1 q HS4.out (by omega) hb hn).mono ?_; rintro e w2 ⟨⟨t2, rfl⟩, hs1⟩; have HS5 : Hid (Sx w0 g o n c q w2) := hs1; clear hs1; cases t2)
         ·go_meet
          exact HS5.out
         ·refine bodyPost_ret (v := .tuple #[]) (by simp [results, Tryz.results132, go_sem]) rfl ?_
          exact ⟨rfl, HS5.out⟩
       case rest =>
        obtain ⟨f, hS5⟩ := hcut
        clear HS4
        have hcw := hS5.cell
        have HQ : Hid (Sq w0 wc g o n c q f) := hS5
        clear hS5
        go_upto_region 17 with fail
        go_cut [87] from 19 to 133 (fun s87 wx => (∃ t : Bool, s87 = .bool t) ∧ Sx w0 g o n c q wx)
        case first =>
         by_cases ha0 : 0 < a1
         ·have ha1 : (0 : Int) < (a1 : Int) := by omega
          go_quiet ((go_at_call 148; refine Calls.quiet_of_same (qak _ _ _)))
          go_wp2
          go_meet
          exact ⟨⟨_, rfl⟩, f, HQ.out.drewN _⟩
         ·have ha1 : decide ((0 : Int) < (a1 : Int)) = false := by simp; omega
          have ha2 : decide (0 < a1) = false := by simp; omega
          go_quiet ((go_at_call 148; refine Calls.quiet_of_same (qak _ _ _)))
          go_wp2
          go_meet
          exact ⟨⟨_, rfl⟩, f, HQ.out.drewN _⟩
        case rest =>
         clear hcw HQ
         obtain ⟨⟨t2, rfl⟩, hS6⟩ := hcut
         have HS6 : Hid (Sx w0 g o n c q wc) := hS6
         clear hS6
         cases t2 with
         | true =>
          go_wp2_with (go_at_call 149; refine (pareq16 w0 _ g o n c cap a1 b1 x q HS6.out hx1 hx2 hb hn).mono ?_; rintro e w2 ⟨⟨y, rfl, hy1, hy2⟩, hs1⟩; have HS7 : Hid (Sx w0 g o n c q w2) := hs1; clear hs1)
          go_roundg (gk - 1)
          case measure => have := HL.out; omega
          case rel => exact ⟨y, b1, L2, p8, p9, rfl, rfl, rfl, rfl, rfl, hy2, hb, by omega, by omega, HS7.out⟩
         | false =>
          go_upto_if 113 with (go_at_call 150; refine (part16 w0 _ g o n c cap a1 b1 x q HS6.out hx1 hx2 hb hn).mono ?_; rintro e w2 ⟨⟨y, t3, rfl, hy1, hy2⟩, hs1⟩; have HS7 : Hid (Sx w0 g o n c q w2) := hs1; clear hs1)
          by_cases hlr : (y : Int) - (a1 : Int) < (b1 : Int) - (y : Int)
          ·go_wp2_with (go_at_call 132; refine (HI.out (N - 1) (by have := HL.out; omega) a1 y L2 _ hy1 (by omega) (by omega) HS7.out).mono ?_; rintro e w3 ⟨rfl, hs1⟩; have HS8 : Hid (Sx w0 g o n c q w3) := hs1; clear hs1)
           go_roundg (gk - 1)
           case measure => have := HL.out; omega
           case rel => exact ⟨y + 1, b1, L2, _, t3, by go_num, rfl, rfl, rfl, rfl, by omega, hb, by omega, by omega, HS8.out⟩
          ·have HR : Hid (∀ w3, Sx w0 g o n c q w3 → Calls Tryz.prog 132 #[.slice (some ⟨g, o, none⟩) n cap, .int .i64 ((y : Int) + 1), .int .i64 (b1 : Int), .int .i64 L2] w3 fun e w' => e = .returned (.tuple #[]) ∧ Sx w0 g o n c q w') := fun w3 h3 => by
            have := HI.out (N - 1) (by have := HL.out; omega) (y + 1) b1 L2 w3 (by omega) hb (by omega) h3
            rwa [show ((y + 1 : Nat) : Int) = (y : Int) + 1 by omega] at this
           go_wp2_with (go_at_call 132; refine (HR.out _ HS7.out).mono ?_; rintro e w3 ⟨rfl, hs1⟩; have HS8 : Hid (Sx w0 g o n c q w3) := hs1; clear hs1)
           go_roundg (gk - 1)
           case measure => have := HL.out; omega
           case rel => exact ⟨a1, y, L2, _, t3, rfl, rfl, rfl, rfl, rfl, hy1, by omega, by omega, by omega, HS8.out⟩
theorem sortx16 (w0 w : World) (g o n c cap : Nat) (q : Nat → Nat) (h : Sx w0 g o n c q w) (hn : n ≤ 17592186044416) :
  Calls Tryz.prog 119 #[.slice (some ⟨g, o, none⟩) n cap] w fun e w' => e = .returned (.tuple #[]) ∧ Sx w0 g o n c q w' := by
 obtain ⟨L, hL⟩ := len16 w (n : Int) (by omega) (by omega)
 have HL : Hid (Calls Tryz.prog 133 #[.int .u64 (n : Int)] w fun e w' => e = .returned (.int .i64 L) ∧ w = w') := hL
 have HP : Hid (Calls Tryz.prog 132 #[.slice (some ⟨g, o, none⟩) n cap, .int .i64 0, .int .i64 (n : Int), .int .i64 L] w fun e w' => e = .returned (.tuple #[]) ∧ Sx w0 g o n c q w') := pdq16 w0 g o n c cap q hn n 0 n L w (by omega) (by omega) (by omega) h
 have wr : IntKind.u64.wrap (n : Int) = n := by rw [IntKind.wrap_u64]; omega
 clear hL h
 go_enter Tryz.func119, Tryz.ntmps119
 go_wp2_with (first
  | (go_at_call 133; refine HL.out.mono ?_; rintro e w' ⟨rfl, rfl⟩)
  | (go_at_call 132; refine HP.out.mono ?_; rintro e w1 ⟨rfl, hs1⟩; have HS1 : Hid (Sx w0 g o n c q w1) := hs1; clear hs1))
 go_end0
 exact ⟨rfl, HS1.out⟩
/-- slices.Sort of a list of the call's own: the same numbers stand there. -/
theorem sort16 (w : World) (B n d : Nat) (s : Option Addr) (q : Nat → Nat) (hn : n ≤ 17592186044416) (h : Jo w B 26 .u64 (.slice s n d) n q) :
  Calls Tryz.prog 119 #[.slice s n d] w fun e w' => e = .returned (.tuple #[]) ∧ ∃ f, Jo w' B 26 .u64 (.slice s n d) n f ∧ Hs n q f ∧ w.grownBy w' (Value.slice s n d).ownBlock := by
 rcases h.2 with ⟨e, h0⟩ | ⟨g, cap, cur, e, hB, hg, hc, hm, hs, ht⟩
 ·cases e
  refine (sortz16 w).mono ?_
  rintro e w' ⟨rfl, rfl⟩
  exact ⟨rfl, q, h, Hs.refl _ _, ⟨rfl, rfl, rfl, Nat.le_refl _, fun _ _ _ => rfl⟩⟩
 ·cases e
  refine (sortx16 w w g 0 n cur.size d q ⟨q, Sq.start (fun t ht => by rw [Nat.zero_add]; exact h.cell t ht) ⟨cur, hg, rfl⟩⟩ hn).mono ?_
  rintro e w' ⟨rfl, f, hf⟩
  refine ⟨rfl, f, ⟨by simp [qc9], .inr ?_⟩, hf.hs, hf.gr⟩
  obtain ⟨cur', hc', hz⟩ := hf.sh
  refine ⟨g, d, cur', rfl, hB, hc', hc, hm, by rw [hz, hs], ?_⟩
  apply List.ext_getElem?
  intro i
  rw [Nat.mul_one]
  by_cases hi : i < n
  ·rw [List.getElem?_take, if_pos hi, Array.getElem?_toList, Array.getElem?_toList, qcy .u64 n f i hi, ← cell_of_row w' g i _ _ _ hc']
   have := hf.cell i hi
   rwa [Nat.zero_add] at this
  ·rw [List.getElem?_take, if_neg hi, List.getElem?_eq_none (by simp [qc9]; omega)]
end Go.Proofs.YtblagbghpfopcaaGreat
