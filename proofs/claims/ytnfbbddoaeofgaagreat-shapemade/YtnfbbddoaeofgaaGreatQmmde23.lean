/-
  Contract of the generators' reference: Cauchy.
-/
import Derived.Test.YtnfbbddoaeofgaaGreatQmmde00
import Derived.Test.YtnfbbddoaeofgaaGreatQmmde22
set_option maxRecDepth 100000
set_option maxHeartbeats 16000000
namespace Go.Proofs.YtnfbbddoaeofgaaGreat
open Go.RowKit
/-- All of both lists are unlike. -/
def Dst (X : Nat → Nat) (n : Nat) (Y : Nat → Nat) (m : Nat) : Prop := ∀ i j, i < n + m → j < i → stf X Y n i ≠ stf X Y n j
def cauf (X Y : Nat → Nat) (c p : Nat) : Nat := finv (X (p / c) ^^^ Y (p % c))
theorem qkf {X Y : Nat → Nat} {c i j : Nat} (hj : j < c) : cauf X Y c (i * c + j) = finv (X i ^^^ Y j) := by unfold cauf; rw [dm1 hj, dm2 hj]
theorem qgi {X Y : Nat → Nat} {n m : Nat} (hX : ∀ i, i < n → X i < 256) (hY : ∀ i, i < m → Y i < 256) : ∀ p, p < n + m → stf X Y n p < 256 := fun p hp => by
 unfold stf
 split
 ·exact hX _ (by omega)
 ·exact hY _ (by omega)
theorem rcau_ok (w : World) (n m N k d : Nat) (a b : Option Addr) (X Y : Nat → Nat) (ha : Mt w a n k X) (hb : Mt w b m d Y) (hn : n ≤ 64) (hm : m ≤ 64) (HN : Hid (n * m = N)) (hD : Dst X n Y m) :
  Calls Tryz.prog 81 #[.slice a n k, .slice b m d] w fun e w' => ∃ g, e = .returned (.tuple #[mv n m (some ⟨g, 0, none⟩) N N, .int .i64 0]) ∧ RowAt w' g 5 N (cauf X Y m) ∧ w.heap.size ≤ g ∧ Below w.heap.size w w' := by
 have HRt : Hid (Rt n m N) := ⟨hn, hm, HN.out⟩
 have HA : Hid (Mt w a n k X) := ha
 have HB : Hid (Mt w b m d Y) := hb
 have HD0 : Hid (Dst X n Y m) := hD
 have hnl : decide (64 < n) = false := by simp; omega
 have hml : decide (64 < m) = false := by simp; omega
 have hN4 := HRt.out.le
 clear ha hb hD
 go_enter Tryz.func81, Tryz.ntmps81
 go_wp2_with (first
  | (go_at_call 101; refine (qcv _ a n k X (HA.out.later (qa0 _ _)).sl (by omega) HA.out.nil).mono ?_; rintro e w1 ⟨v1, rfl, ho1, hb1⟩; have HO1 : Hid (w1.ownsRow (w.heap.size + 1) 5 1 v1 n (row n X).toList) := (by { show World.ownsRow _ _ _ _ _ _ _; have := ho1; simpa using this }); have HB1 : Hid (Below w.heap.size w w1) := qa1 (qa0 _ _) hb1; have HV1 : Hid (Vr w1 w.heap.size (.int .i64 0) (.int .i64 0) (.slice none 0 0)) := (Vr.new w _ _ _).later hb1; clear ho1 hb1)
  | (at_builtin; refine qaj rfl _ _ rfl (w.heap.size + 1) n _ _ rfl HO1.out b m d Y rfl (HB.out.later HB1.out).sl HB.out.nil (by omega) HV1.out.lt ?_; intro v2 w2 ho2 hg2; rw [qd9] at ho2; obtain ⟨s2, d2, e2, _, _⟩ := qap ho2; subst e2; have HO2 : Hid (Ob w2 (w.heap.size + 1) (.slice s2 (n + m) d2) (n + m) (stf X Y n)) := ho2; have HB2 : Hid (Below w.heap.size w w2) := HB1.out.grown hg2 HB1.out.size (fun q hq => (by have := qa9 HO1.out q hq; omega)); have HV2 : Hid (Vr w2 w.heap.size (.int .i64 0) (.int .i64 0) (.slice none 0 0)) := HV1.out.grown hg2 (fun e => (by have := qa9 HO1.out _ e; omega)); clear ho2 hg2))
 have HS2 : Hid (∀ p, p < n + m → stf X Y n p < 256) := qgi HA.out.sl.1 HB.out.sl.1
 go_loopw [7] (fun si wr => ∃ i : Nat, i ≤ n + m ∧ si = .int .i64 (i : Int) ∧ Below w2.heap.size w2 wr) (fun si _ => n + m - (intOf si).toNat)
 case atStart => exact ⟨0, by omega, rfl, Below.refl _ _⟩
 case round =>
  obtain ⟨i, hi, rfl, hbr⟩ := hrel
  have HBr : Hid (Below w2.heap.size w2 wr) := hbr
  clear hbr
  by_cases hlt : i < n + m
  ·go_wp2
   go_loopw [8] (fun sj wr => ∃ j : Nat, j ≤ i ∧ sj = .int .i64 (j : Int) ∧ Below w2.heap.size w2 wr) (fun sj _ => i - (intOf sj).toNat)
   case atStart => exact ⟨0, by omega, rfl, HBr.out⟩
   case round =>
    clear HBr
    obtain ⟨j, hj, rfl, hbr⟩ := hrel
    have HBr : Hid (Below w2.heap.size w2 wr) := hbr
    clear hbr
    by_cases hlj : j < i
    ·have HO3 := HO2.out.later HBr.out
     obtain ⟨g2, eg⟩ := HO3.some (by omega)
     subst eg
     have hc1 := HO3.cell hlt
     have hc2 := HO3.cell (i := j) (by omega)
     obtain ⟨x, HX⟩ : ∃ x, Hid (stf X Y n i = x) := ⟨_, rfl⟩
     obtain ⟨y, HY⟩ : ∃ x, Hid (stf X Y n j = x) := ⟨_, rfl⟩
     rw [HX.out] at hc1
     rw [HY.out] at hc2
     have hne : ¬ x = y := by rw [← HX.out, ← HY.out]; exact HD0.out i j hlt hlj
     have hne2 : ((x : Int) == (y : Int)) = false := by simp; omega
     have HN3 : Hid (Below w2.heap.size w2 wr.drew) := HBr.out.drew
     have q0 : (0 : Int) ≤ (i : Int) := by omega
     have q1 : (i : Int) < ((n + m : Nat) : Int) := by omega
     have q2 : (0 : Int) ≤ (j : Int) := by omega
     have q3 : (j : Int) < ((n + m : Nat) : Int) := by omega
     clear HO3
     go_wp2
     go_region
     go_wp2
     exact ⟨⟨j + 1, by omega, by go_num, HN3.out⟩, by simp [intOf]; omega⟩
    ·obtain rfl : j = i := by omega
     go_wp2
     exact ⟨⟨j + 1, by omega, by go_num, HBr.out⟩, by simp [intOf]; omega⟩
  ·obtain rfl : i = n + m := by omega
   have HBw : Hid (Below w.heap.size w wr) := qa1 HB2.out HBr.out
   go_wp2_with (go_at_call 58; refine (qdi _ n m N hn hm HN).mono ?_; rintro e w4 ⟨g, rfl, hr4, hg4, hb4⟩; have HR4 : Hid (RowAt w4 g 5 N (fun _ => 0)) := hr4; have hg5 : w.heap.size < g := Nat.lt_of_lt_of_le (HV2.out.later HBr.out).lt hg4; have HB4 : Hid (Below w.heap.size w w4) := qa1 HBw.out hb4; have HV4 : Hid (Vr w4 w.heap.size (.int .i64 0) (.int .i64 0) (.slice none 0 0)) := (HV2.out.later HBr.out).later hb4; clear hr4 hg4 hb4)
   have HI0 : Hid (ZInv w w4 (w4.alloc (.cells #[.int .i64 (n : Int), .int .i64 (m : Int), .slice (some ⟨g, 0, none⟩) N N] 24)) g n m N (upt (cauf X Y m) 0)) := ⟨(HR4.out.later (qa0 _ _)).congr (fun i _ => (if_neg (by omega)).symm), Vr.new w4 _ _ _, HV4.out.later (qa0 _ _), qa1 HB4.out (qa0 _ _), hg5, HR4.out.lt⟩
   clear HR4 HB4 HV4 HBw HBr HB1 HO1 HV1 HO2 HV2
   go_loopw [10] (fun si wr => ∃ i : Nat, i ≤ n ∧ si = .int .i64 (i : Int) ∧ ZInv w w4 wr g n m N (upt (cauf X Y m) (i * m))) (fun si _ => n - (intOf si).toNat)
   case atStart => exact ⟨0, by omega, rfl, HI0.out.congr (fun _ _ => by rw [Nat.zero_mul])⟩
   case round =>
    clear HI0
    obtain ⟨i, hi, rfl, I⟩ := hrel
    have HI : Hid (ZInv w w4 wr g n m N (upt (cauf X Y m) (i * m))) := I
    have c0 := I.vm.c0
    have c1 := I.vm.c1
    have c2 := I.vm.c2
    clear I
    by_cases hlt : i < n
    ·go_wp2
     go_loopw [11] (fun sj wr => ∃ j : Nat, j ≤ m ∧ sj = .int .i64 (j : Int) ∧ ZInv w w4 wr g n m N (upt (cauf X Y m) (i * m + j))) (fun sj _ => m - (intOf sj).toNat)
     case atStart => exact ⟨0, by omega, rfl, HI.out⟩
     case round =>
      clear HI c0 c1 c2
      obtain ⟨j, hj, rfl, I⟩ := hrel
      have HI : Hid (ZInv w w4 wr g n m N (upt (cauf X Y m) (i * m + j))) := I
      have c0 := I.vm.c0
      have c1 := I.vm.c1
      have c2 := I.vm.c2
      by_cases hlj : j < m
      ·obtain ⟨P, HP⟩ : ∃ x, Hid (i * m + j = x) := ⟨_, rfl⟩
       have hpn : P < N := by rw [← HP.out]; exact HRt.out.at hlt hlj
       have hd := I.row.cell P hpn
       have hf := I.row.free P
       obtain ⟨ba, oa, ea, hca⟩ := (HA.out.later I.below).sl.2 i hlt
       obtain ⟨bb, ob, eb, hcb⟩ := (HB.out.later I.below).sl.2 j hlj
       subst ea
       subst eb
       obtain ⟨x, HX⟩ : ∃ x, Hid (X i = x) := ⟨_, rfl⟩
       obtain ⟨y, HY⟩ : ∃ x, Hid (Y j = x) := ⟨_, rfl⟩
       have hx : x < 256 := by rw [← HX.out]; exact HA.out.sl.1 i hlt
       have hy : y < 256 := by rw [← HY.out]; exact HB.out.sl.1 j hlj
       rw [HX.out] at hca
       rw [HY.out] at hcb
       obtain ⟨u, HU⟩ : ∃ u, Hid (x ^^^ y = u) := ⟨_, rfl⟩
       have hxo : bits .xor .u8 (x : Int) (y : Int) = (u : Int) := by rw [u8_xor_nat _ _ hx hy, HU.out]
       have hu : u < 256 := by rw [← HU.out]; exact qb1 _ _ hx hy
       obtain ⟨z, HZ⟩ : ∃ z, Hid (finv u = z) := ⟨_, rfl⟩
       obtain ⟨E, HE⟩ : ∃ z, Hid (ive u = z) := ⟨_, rfl⟩
       have HInv : Hid (∀ w, Calls Tryz.prog 124 #[.int .u8 (u : Int)] w fun e w' => e = .returned (.tuple #[.int .u8 (z : Int), .int .i64 E]) ∧ w = w') := by rw [← HZ.out, ← HE.out]; exact fun w => (qfa u w hu).mono fun _ _ h => ⟨h.1, h.2.symm⟩
       have e1 : ((i : Int) * (m : Int)) = ((i * m : Nat) : Int) := by simp
       have hmp : i * m ≤ P := by rw [← HP.out]; omega
       have w1' : IntKind.i64.wrap ((i : Int) * (m : Int)) = (i : Int) * (m : Int) := by rw [e1, IntKind.wrap_i64]; omega
       have w2' : IntKind.i64.wrap ((i : Int) * (m : Int) + (j : Int)) = (P : Int) := by rw [e1, IntKind.wrap_i64]; have := HP.out; omega
       have p0 : (0 : Int) ≤ (P : Int) := by omega
       have p1 : (P : Int) < (N : Int) := by omega
       have p2 : (0 : Int) ≤ (i : Int) := by omega
       have p3 : (i : Int) < (n : Int) := by omega
       have p4 : (0 : Int) ≤ (j : Int) := by omega
       have p5 : (j : Int) < (m : Int) := by omega
       have hga : ba ≠ g := fun e => by have h1 := HA.out.sl.2 i hlt; obtain ⟨b', o', e', h'⟩ := h1; cases e'; have := qak h'; have := I.lo; simp at *; omega
       have hgb : bb ≠ g := fun e => by have h1 := HB.out.sl.2 j hlj; obtain ⟨b', o', e', h'⟩ := h1; cases e'; have := qak h'; have := I.lo; simp at *; omega
       have HN1 : Hid (ZInv w w4 (wr.drew.setCell ⟨g, P, none⟩ (.int .u8 (z : Int))) g n m N (upt (cauf X Y m) (i * m + (j + 1)))) := ((I.later (Below.refl _ _).drew).set (p := P) (x := z)).congr (fun t _ => by
        rw [← HZ.out, ← HU.out, ← HX.out, ← HY.out, ← HP.out, ← qkf hlj]
        exact qfb (cauf X Y m) (i * m + j) t)
       have HD : Hid (wr.drew.cell? ⟨w4.heap.size, 1, none⟩ = some (.int .i64 (m : Int)) ∧ wr.drew.cell? ⟨w4.heap.size, 2, none⟩ = some (.slice (some ⟨g, 0, none⟩) N N) ∧ wr.drew.cell? ⟨ba, oa + i, none⟩ = some (.int .u8 (x : Int)) ∧ wr.drew.cell? ⟨bb, ob + j, none⟩ = some (.int .u8 (y : Int))) := ⟨c1, c2, hca, hcb⟩
       have HD2 : Hid ((wr.drew.setCell ⟨g, P, none⟩ (.int .u8 (z : Int))).cell? ⟨w4.heap.size, 1, none⟩ = some (.int .i64 (m : Int)) ∧ (wr.drew.setCell ⟨g, P, none⟩ (.int .u8 (z : Int))).cell? ⟨w4.heap.size, 2, none⟩ = some (.slice (some ⟨g, 0, none⟩) N N) ∧ (wr.drew.setCell ⟨g, P, none⟩ (.int .u8 (z : Int))).cell? ⟨ba, oa + i, none⟩ = some (.int .u8 (x : Int)) ∧ (wr.drew.setCell ⟨g, P, none⟩ (.int .u8 (z : Int))).cell? ⟨bb, ob + j, none⟩ = some (.int .u8 (y : Int))) := ⟨HN1.out.vm.c1, HN1.out.vm.c2, keepg (qa3 _ _ _ _) hca (fun e => hga (by simpa using e.symm)), keepg (qa3 _ _ _ _) hcb (fun e => hgb (by simpa using e.symm))⟩
       clear I e1
       go_wp2
       refine wp_region_held (S := fun w' => w'.cell? ⟨w4.heap.size, 1, none⟩ = some (.int .i64 (m : Int)) ∧ w'.cell? ⟨w4.heap.size, 2, none⟩ = some (.slice (some ⟨g, 0, none⟩) N N) ∧ w'.cell? ⟨ba, oa + i, none⟩ = some (.int .u8 (x : Int)) ∧ w'.cell? ⟨bb, ob + j, none⟩ = some (.int .u8 (y : Int))) (by kernel_rfl) ?_
       change wpAnyH _ _ _ _ _ _ _ _ wr.drew
       refine wtkq 0 ?va0 rfl (by kernel_rfl) (fun _ _ _ h => h) (by rfl) ?ya0 HD.out ?za0
       case ya0 => (intro w hSw; (try dsimp only at hSw); go_simp; try with_reducible rfl)
       try simp only [mz1, mz3, Act.put, mz4, mz5, mz6]
       refine wtkq 1 ?va1 rfl (by kernel_rfl) (fun _ _ _ h => h) (by rfl) ?ya1 HD.out ?za1
       case ya1 => (intro w hSw; (try dsimp only at hSw); go_simp; try with_reducible rfl)
       try simp only [mz1, mz2, mz3, Act.put, mz4, mz5, mz6]
       refine wtkq 2 ?va2 rfl (by kernel_rfl) (fun _ _ _ h => h) (by rfl) ?ya2 HD.out ?za2
       case ya2 => (intro w hSw; (try dsimp only at hSw); go_simp; try with_reducible rfl)
       try simp only [mz1, mz2, mz3, Act.put, mz4, mz5, mz6]
       refine wtkq 3 ?va3 rfl (by kernel_rfl) (fun _ _ _ h => h) (by rfl) ?ya3 HD.out ?za3
       case ya3 => (intro w hSw; (try dsimp only at hSw); go_simp; try with_reducible rfl)
       try simp only [mz1, mz2, mz3, Act.put, mz4, mz5, mz6]
       refine wtkq 4 ?va4 rfl (by kernel_rfl) (fun _ _ _ h => h) (by rfl) ?ya4 HD.out ?za4
       case ya4 => (intro w hSw; (try dsimp only at hSw); go_simp; try with_reducible rfl)
       try simp only [mz1, mz2, mz3, Act.put, mz4, mz5, mz6]
       refine wtkq 5 ?va5 rfl (by kernel_rfl) (fun _ _ _ h => h) (by rfl) ?ya5 HD.out ?za5
       case ya5 => (intro w hSw; (try dsimp only at hSw); go_simp; try with_reducible rfl)
       try simp only [mz1, mz2, mz3, Act.put, mz4, mz5, mz6]
       refine wtkq 6 ?va6 rfl (by kernel_rfl) (fun _ _ _ h => h) (by rfl) ?ya6 HD.out ?za6
       case ya6 => (intro w hSw; (try dsimp only at hSw); go_simp; try with_reducible rfl)
       try simp only [mz1, mz2, mz3, Act.put, mz4, mz5, mz6]
       refine wtkq 7 ?va7 rfl (by kernel_rfl) (fun _ _ _ h => h) (by rfl) ?ya7 HD.out ?za7
       case ya7 => (intro w hSw; (try dsimp only at hSw); go_simp; try with_reducible rfl)
       try simp only [mz1, mz2, mz3, Act.put, mz4, mz5, mz6]
       refine wtkq 8 ?va8 rfl (by kernel_rfl) (fun _ _ _ h => h) (by rfl) ?ya8 HD.out ?za8
       case ya8 => (intro w hSw; (try dsimp only at hSw); go_simp; try with_reducible rfl)
       try simp only [mz1, mz2, mz3, Act.put, mz4, mz5, mz6]
       refine wtkq 9 ?va9 rfl (by kernel_rfl) (fun _ _ _ h => h) (by rfl) ?ya9 HD.out ?za9
       case ya9 => (intro w hSw; (try dsimp only at hSw); go_simp; try with_reducible rfl)
       try simp only [mz1, mz2, mz3, Act.put, mz4, mz5, mz6]
       refine wtkq 10 ?va10 rfl (by kernel_rfl) (fun _ _ _ h => h) (by rfl) ?ya10 HD.out ?za10
       case ya10 => (intro w hSw; (try dsimp only at hSw); go_simp; try with_reducible rfl)
       try simp only [mz1, mz2, mz3, Act.put, mz4, mz5, mz6]
       refine wtkq 11 ?va11 rfl (by kernel_rfl) (fun _ _ _ h => h) (by rfl) ?ya11 HD.out ?za11
       case ya11 => (intro w hSw; (try dsimp only at hSw); go_simp; try with_reducible rfl)
       try simp only [mz1, mz2, mz3, Act.put, mz4, mz5, mz6]
       refine wtkq 12 ?va12 rfl (by kernel_rfl) (fun _ _ _ h => h) (by rfl) ?ya12 HD.out ?za12
       case ya12 => (intro w hSw; (try dsimp only at hSw); go_simp; try with_reducible rfl)
       try simp only [mz1, mz2, mz3, Act.put, mz4, mz5, mz6]
       refine wtkq 13 ?va13 rfl (by kernel_rfl) (fun _ _ _ h => h) (by rfl) ?ya13 HD.out ?za13
       case ya13 => (intro w hSw; (try dsimp only at hSw); go_simp; try with_reducible rfl)
       try simp only [mz1, mz2, mz3, Act.put, mz4, mz5, mz6]
       refine wtkq 14 ?va14 rfl (by kernel_rfl) (fun _ _ _ h => h) (by rfl) ?ya14 HD.out ?za14
       case ya14 => (intro w hSw; (try dsimp only at hSw); go_simp; try with_reducible rfl)
       try simp only [mz1, mz2, mz3, Act.put, mz4, mz5, mz6]
       refine wtkq 15 ?va15 rfl (by kernel_rfl) (fun _ _ _ h => h) (by rfl) ?ya15 HD.out ?za15
       case ya15 => (intro w hSw; (try dsimp only at hSw); go_simp; try with_reducible rfl)
       try simp only [mz1, mz2, mz3, Act.put, mz4, mz5, mz6]
       refine wtkq 16 ?va16 rfl (by kernel_rfl) (fun _ _ _ h => h) (by rfl) ?ya16 HD.out ?za16
       case ya16 => (intro w hSw; (try dsimp only at hSw); go_simp; try with_reducible rfl)
       try simp only [mz1, mz2, mz3, Act.put, mz4, mz5, mz6]
       refine wpAnyH_ready (rs := [17]) (by kernel_rfl) (by simp) ?_
       refine AllReadyH.cons rfl (fun K hK => ?_) AllReadyH.nil
       go_simp
       refine (HInv.out _).mono ?_; rintro e w' ⟨rfl, rfl⟩
       refine hK.out _ _ HD.out (fun _ => ?_)
       clear hK K
       try simp only [mz1, mz2, mz3, Act.put, mz4, mz5, mz6]
       refine wtkq 18 ?va18 rfl (by kernel_rfl) (fun _ _ _ h => h) (by rfl) ?ya18 HD.out ?za18
       case ya18 => (intro w hSw; (try dsimp only at hSw); go_simp; try with_reducible rfl)
       try simp only [mz1, mz2, mz3, Act.put, mz4, mz5, mz6]
       refine wtkq 19 ?va19 rfl (by kernel_rfl) (fun _ _ _ h => h) (by rfl) ?ya19 HD.out ?za19
       case ya19 => (intro w hSw; (try dsimp only at hSw); go_simp; try with_reducible rfl)
       try simp only [mz1, mz2, mz3, Act.put, mz4, mz5, mz6]
       refine wtkq 20 ?va20 rfl (by kernel_rfl) (fun _ _ _ h => h) (by rfl) ?ya20 HD.out ?za20
       case ya20 => (intro w hSw; (try dsimp only at hSw); go_simp; try with_reducible rfl)
       try simp only [mz1, mz2, mz3, Act.put, mz4, mz5, mz6]
       refine wtkq 21 ?va21 rfl (by kernel_rfl) (fun _ _ _ h => h) (by rfl) ?ya21 HD.out ?za21
       case ya21 => (intro w hSw; (try dsimp only at hSw); go_simp; try with_reducible rfl)
       try simp only [mz1, mz2, mz3, Act.put, mz4, mz5, mz6]
       refine wpAnyH_ready (rs := [22]) (by kernel_rfl) (by simp) ?_
       refine AllReadyH.cons rfl (fun K hK => ?_) AllReadyH.nil
       go_simp
       refine hK.out _ _ HD2.out (fun _ => ?_)
       clear hK K
       try simp only [mz1, mz2, mz3, Act.put]
       refine wpAnyH_done (by kernel_rfl) ?_ _
       go_wp2
       exact ⟨⟨j + 1, by omega, by go_num, HN1.out⟩, by simp [intOf]; omega⟩
      ·obtain rfl : j = m := by omega
       clear I
       go_wp2
       exact ⟨⟨i + 1, by omega, by go_num, HI.out.congr (fun t _ => by rw [Nat.add_mul, Nat.one_mul])⟩, by simp [intOf]; omega⟩
    ·obtain rfl : i = n := by omega
     go_wp2_with (refine qa5 rfl _ _ rfl w.heap.size _ _ _ (.int .i64 (i : Int)) (.int .i64 (m : Int)) (.slice (some ⟨g, 0, none⟩) N N) rfl rfl HI.out.vr rfl rfl rfl ?_; intro w5 HV5 HG5)
     have d0 := HV5.out.c0
     have d1 := HV5.out.c1
     have d2 := HV5.out.c2
     refine bodyPost_ret (v := .tuple #[mv i m (some ⟨g, 0, none⟩) N N, .int .i64 0]) (by simp [results, Tryz.results81, go_sem, d0, d1, d2, mv]) rfl ?_
     exact ⟨g, rfl, (HI.out.row.kept HG5.out (by have := HI.out.lo; omega)).congr (fun t ht => qfc _ (by rw [HN.out]; exact ht)), by have := HI.out.lo; omega, qa2 HI.out.below HG5.out (Nat.le_refl _)⟩
end Go.Proofs.YtnfbbddoaeofgaaGreat
