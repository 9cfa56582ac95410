/-
  Contracts of the program's build: numbers, elements, isTall, areCounts.
  Contracts of the program's build: writePowers, Vandermonde.
-/
import Derived.Test.YtmgfeepnkahkmaaGreatQggid00
import Derived.Test.YtmgfeepnkahkmaaGreatQggid22
import Derived.Test.YtmgfeepnkahkmaaGreatQggid16
set_option maxRecDepth 100000
set_option maxHeartbeats 16000000
namespace Go.Proofs.YtmgfeepnkahkmaaGreat
open Go.RowKit
theorem nums_any (w : World) (f t n : Nat) (HN : Hid (f + n = t)) (ht : t ≤ 1000) :
  Calls Tryz.prog 106 #[.int .i64 (f : Int), .int .i64 (t : Int)] w fun e w' => ∃ s d, e = .returned (.slice s n d) ∧ Oi w' w.heap.size (.slice s n d) n (fun i => f + i) ∧ Below w.heap.size w w' := by
 obtain ⟨i0, hi0, hz0, hz1, hz2⟩ := info_parts infoI
 have hn := HN.out
 have hml : n ≤ maxLen := by unfold maxLen; omega
 have e0 : IntKind.i64.wrap ((t : Int) - (f : Int)) = (n : Int) := by rw [IntKind.wrap_i64]; omega
 go_enter Tryz.func106, Tryz.ntmps106
 go_wp2_with (at_make; refine wpList_make_own _ rfl _ _ 89 rfl w.heap.size 3 i0 (.int .i64 0) 1 Tryz.underlying89 hi0 hz0 hz1 .i64 .i64 _ n rfl rfl rfl (by rw [hz2]; omega) hml (Nat.le_refl _) ?_; intro w1 hown hgrow; have HO : Hid (Oi w1 w.heap.size (.slice (some ⟨w.heap.size, 0, none⟩) 0 n) 0 (fun i => f + i)) := (by { show World.ownsRow _ _ _ _ _ _ _; simpa [irow] using hown }); have HB : Hid (Below w.heap.size w w1) := qa5.mp hgrow; clear hown hgrow)
 go_loopw [5, 6] (fun sv sj wr => ∃ j : Nat, sj = .int .i64 ((f + j : Nat) : Int) ∧ j ≤ n ∧ Hid (Oi wr w.heap.size sv j (fun i => f + i)) ∧ Hid (Below w.heap.size w wr)) (fun _ sj _ => t - (intOf sj).toNat)
 case atStart => exact ⟨0, rfl, by omega, HO, HB⟩
 case round =>
  clear HO HB
  obtain ⟨j, rfl, hjc, HO, HB⟩ := hrel
  obtain ⟨fs, fd, rfl, _⟩ := HO.out.form
  obtain ⟨p, HP⟩ : ∃ p, Hid (f + j = p) := ⟨_, rfl⟩
  have hp := HP.out
  rw [hp]
  by_cases hlt : p < t
  ·have hml2 : j + 1 ≤ maxLen := by unfold maxLen; omega
   have hsz : w.heap.size ≤ wr.heap.size := HB.out.size
   go_wp2_with (at_builtin; refine wpList_append_own _ rfl _ _ 89 rfl w.heap.size 3 i0 (.int .i64 0) 1 8 Tryz.underlying89 hi0 hz0 hz1 hz2 rfl (by decide) _ j _ rfl (World.ownsRow.alloc HO.out _) ⟨wr.heap.size, 0, none⟩ 1 1 [.int .i64 (p : Int)] rfl rfl (qdi _ _ _) (qdj _) hml2 (by omega) (by simp; omega) ?_; intro v3 w3 hown3 hgrow3 _; have HO3 : Hid (w3.ownsRow w.heap.size 3 1 v3 (j + 1) ((irow j (fun i => f + i)).toList ++ [.int .i64 (p : Int)])) := hown3; have HG3 : Hid ((wr.alloc (.cells #[.int .i64 (p : Int)] 3)).grownBy w3 (Value.slice fs j fd).ownBlock) := hgrow3; clear hown3 hgrow3)
   refine ⟨⟨j + 1, by rw [← Nat.add_assoc, hp]; go_num, by omega, ?_, ?_⟩, by simp [intOf]; omega⟩
   ·have h3 := HO3.out
    rw [qbz] at h3
    exact Oi.congr (f := fun i => if i = j then p else f + i) h3 (fun u _ => by
     by_cases e : u = j
     ·rw [if_pos e, e, hp]
     ·rw [if_neg e])
   ·have h3 := HG3.out
    have hal := qa0 HB.out (qa1 wr (.cells #[.int .i64 (p : Int)] 3))
    cases hv : (Value.slice fs j fd).ownBlock with
    | none => rw [hv] at h3; exact qa0 hal (qa5.mp h3)
    | some g => rw [hv] at h3; exact qa3 hal h3 (HO.out.base hv).1
  ·obtain rfl : j = n := by omega
   go_wp2
   go_ret
   exact ⟨fs, fd, rfl, HO.out, HB.out⟩
theorem qhb (w : World) (f t n : Nat) (HN : Hid (f + n = t)) (ht : t ≤ 64) :
  Calls Tryz.prog 82 #[.int .i64 (f : Int), .int .i64 (t : Int)] w fun e w' => ∃ s d, e = .returned (.slice s n d) ∧ Ob w' w.heap.size (.slice s n d) n (fun i => f + i) ∧ Below w.heap.size w w' := by
 obtain ⟨i0, hi0, hz0, hz1, hz2⟩ := info_parts qe6
 have hn := HN.out
 have hml : n ≤ maxLen := by unfold maxLen; omega
 have ht2 : t ≤ 1000 := by omega
 have e0 : IntKind.i64.wrap ((t : Int) - (f : Int)) = (n : Int) := by rw [IntKind.wrap_i64]; omega
 go_enter Tryz.func82, Tryz.ntmps82
 go_wp2_with (first
  | (at_make; refine wpList_make_own _ rfl _ _ 22 rfl w.heap.size 5 i0 (.int .u8 0) 1 Tryz.underlying22 hi0 hz0 hz1 .i64 .i64 _ n rfl rfl rfl (by rw [hz2]; omega) hml (Nat.le_refl _) ?_; intro w1 hown hgrow; have HO : Hid (Ob w1 w.heap.size (.slice (some ⟨w.heap.size, 0, none⟩) 0 n) 0 (fun i => f + i)) := (by { show World.ownsRow _ _ _ _ _ _ _; rw [qbe]; exact hown }); have HB : Hid (Below w.heap.size w w1) := qa5.mp hgrow; clear hown hgrow)
  | (go_at_call 106; refine (nums_any _ f t n HN ht2).mono ?_; rintro e w2 ⟨s2, d2, rfl, ho2, hb2⟩; have HO2 : Hid (Oi w2 w1.heap.size (.slice s2 n d2) n (fun i => f + i)) := ho2; have HO1 : Hid (Ob w2 w.heap.size (.slice (some ⟨w.heap.size, 0, none⟩) 0 n) 0 (fun i => f + i)) := HO.out.later hb2; have HB2 : Hid (Below w.heap.size w w2) := qa0 HB.out hb2; have h01 : w.heap.size < w1.heap.size := (HO.out.base rfl).2; clear ho2 hb2))
 go_loopw [5, 16] (fun sv sj wr => ∃ j : Nat, sj = .int .i64 (j : Int) ∧ sv = .slice (some ⟨w.heap.size, 0, none⟩) j n ∧ j ≤ n ∧ Hid (Ob wr w.heap.size (.slice (some ⟨w.heap.size, 0, none⟩) j n) j (fun i => f + i)) ∧ Hid (Below w.heap.size w wr) ∧ Hid (Oi wr w1.heap.size (.slice s2 n d2) n (fun i => f + i))) (fun _ sj _ => n - (intOf sj).toNat)
 case atStart => exact ⟨0, rfl, rfl, by omega, HO1, HB2, HO2⟩
 case round =>
  clear HO HB HO1 HB2 HO2
  obtain ⟨j, rfl, rfl, hjc, HO, HB, HI⟩ := hrel
  by_cases hlt : j < n
  ·obtain ⟨p, HP⟩ : ∃ p, Hid (f + j = p) := ⟨_, rfl⟩
   have hp := HP.out
   obtain ⟨bi, oi, ei, hci⟩ := HI.out.il j hlt
   subst ei
   dsimp only at hci
   rw [hp] at hci
   have w3' : IntKind.u8.wrap (p : Int) = (p : Int) := by rw [IntKind.wrap_u8]; omega
   have hml2 : j + 1 ≤ maxLen := by unfold maxLen; omega
   have hj1 : j + 1 ≤ n := hlt
   have hsz : w.heap.size ≤ wr.heap.size := HB.out.size
   have q0 : (0 : Int) ≤ (j : Int) := by omega
   have q1 : (j : Int) < (n : Int) := by omega
   go_wp2_with (at_builtin; refine wpList_append_fits _ rfl _ _ 22 rfl w.heap.size 5 i0 1 Tryz.underlying22 hi0 hz1 w.heap.size j n _ rfl (World.ownsRow.alloc HO.out _) ⟨wr.heap.size, 0, none⟩ 1 1 [.int .u8 (p : Int)] rfl rfl (qgd _ _ p) (one_one p) hj1 ?_; intro w3 hown3 hgrow3; have HO3 : Hid (Ob w3 w.heap.size (.slice (some ⟨w.heap.size, 0, none⟩) (j + 1) n) (j + 1) (fun i => f + i)) := (by { show World.ownsRow _ _ _ _ _ _ _; rw [← qew]; rw [← hp] at hown3; exact hown3 }); have HG3 : Hid ((wr.alloc (.cells #[.int .u8 (p : Int)] 5)).grownBy w3 (some w.heap.size)) := hgrow3; clear hown3 hgrow3)
   refine ⟨⟨j + 1, by go_num, rfl, hj1, HO3.out, qa3 (qa0 HB.out (qa1 _ _)) HG3.out (Nat.le_refl _), ?_⟩, by simp [intOf]; omega⟩
   refine (HI.out.later (qa1 _ _)).kept HG3.out (Or.inr fun e => ?_)
   have := (HI.out.base e).1
   omega
  ·obtain rfl : j = n := by omega
   go_wp2
   go_ret
   exact ⟨_, _, rfl, HO.out, HB.out⟩
theorem cnt_yes5 (w : World) (k m : Nat) (hk : 1 ≤ k) (h : k + m ≤ 64) : Calls Tryz.prog 79 #[.int .i64 (k : Int), .int .i64 (m : Int)] w fun e w' => e = .returned (.bool true) ∧ w = w' := by
 have g1 : decide (1 ≤ k) = true := by simpa using hk
 have e1 : IntKind.i64.wrap (64 - (k : Int)) = 64 - (k : Int) := by rw [IntKind.wrap_i64]; omega
 have g4 : decide ((m : Int) ≤ 64 - (k : Int)) = true := by simp; omega
 go_enter Tryz.func79, Tryz.ntmps79
 go_wp2
 go_ret
 exact ⟨rfl, rfl⟩
end Go.Proofs.YtmgfeepnkahkmaaGreat
