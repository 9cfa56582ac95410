/-
  Contract of Next.
  Contracts of the sets' reference: Full, pascal, Choose, Upto.
  Contracts of the sets' reference: Choose, Upto.
  Contracts of Of, List and the reference's; two lists alike.
  Contracts of List and the reference's; two lists alike.
-/
import Derived.Test.YtokdejhbjoglcaaGreatQffsh00
import Derived.Test.YtokdejhbjoglcaaGreatQffsh02
import Derived.WalkMore
import Derived.ScopeJumps
import Derived.Test.YtokdejhbjoglcaaGreatQffsh07
set_option maxRecDepth 100000
set_option maxHeartbeats 16000000
namespace Go.Proofs.YtokdejhbjoglcaaGreat
open Go.RowKit
theorem qks {i : Nat} : (2 ^ i - 1) ||| 2 ^ i = 2 ^ (i + 1) - 1 := by
 have := Nat.two_pow_pos i
 rw [or_top (by omega), Nat.pow_succ]
 omega
theorem qfg (k : Nat) (w : World) (hk : k ≤ 64) :
  Calls Tryz.prog 66 #[.int .i64 (k : Int)] w fun e w' => e = .returned (.tuple #[.int .u64 ((2 ^ k - 1 : Nat) : Int), .int .i64 0]) ∧ w = w' := by
 have g1 : decide ((k : Int) < 0) = false := decide_eq_false (by omega)
 have g2 : decide ((64 : Int) < (k : Int)) = false := decide_eq_false (by omega)
 obtain ⟨R, HR⟩ : ∃ R : Nat, Hid ((2 ^ k - 1 : Nat) = R) := ⟨_, rfl⟩
 rw [HR.out]
 go_enter Tryz.func66, Tryz.ntmps66
 go_wp2
 go_loop [4, 5] (fun vz vi => ∃ i z : Nat, i ≤ k ∧ Hid ((2 ^ i - 1 : Nat) = z) ∧ vi = .int .i64 (i : Int) ∧ vz = .int .u64 (z : Int)) (fun _ vi => k - (intOf vi).toNat)
 case atStart => exact ⟨0, 0, by omega, rfl, rfl, rfl⟩
 case round =>
  obtain ⟨i, z, hi, HZ, rfl, rfl⟩ := hrel
  by_cases hlt : i < k
  ·have hi6 : i < 64 := by omega
   obtain ⟨T, hT⟩ : ∃ T, 2 ^ i = T := ⟨_, rfl⟩
   obtain ⟨z', HZ'⟩ : ∃ z' : Nat, Hid ((2 ^ (i + 1) - 1 : Nat) = z') := ⟨_, rfl⟩
   have hp2 : IntKind.u64.wrap (2 ^ i) = (T : Int) := by rw [← hT]; exact qis i hi6
   have hT6 := qd0 hi6
   have hor : bits .or .u64 (z : Int) (T : Int) = (z' : Int) := by
    rw [u64_or_nat z T (by rw [← HZ.out]; omega) (by omega), ← hT, ← HZ.out, qks, HZ'.out]
   clear hT hT6 HZ
   go_wp2
   exact ⟨⟨i + 1, z', by omega, HZ', by go_num, rfl⟩, by simp [intOf]; omega⟩
  ·obtain rfl : i = k := by omega
   have HE : Hid (z = R) := by show _ = _; rw [← HZ.out, ← HR.out]
   clear HZ HR
   go_wp2
   go_ret2
   exact ⟨by rw [← HE.out]; rfl, rfl⟩
open Go.RowKit
/-- A number is put behind a list of the call's own. -/
theorem Jo.push {w w2 : World} {B n : Nat} {T : TypeId} {K : IntKind} {v v' : Value} {f : Nat → Nat} {x : Nat} {o : Obj} (h : Jo w B T K v n f) (hB : B ≤ w.heap.size)
  (hown : w2.ownsRow B T 1 v' (n + 1) ((jrow K n f).toList ++ [.int K (x : Int)])) (hg : (w.alloc o).grownBy w2 v.ownBlock) : Jo w2 B T K v' (n + 1) (fun i => if i = n then x else f i) ∧ Below B w w2 := by
 refine ⟨?_, ?_⟩
 ·unfold Jo
  rw [← qkj]
  exact hown
 ·have h1 : Below B w (w.alloc o) := (jlow w o).mono hB
  exact h1.trans (jbelow hg (by have := (jlow w o).size; omega) (fun g hg' => (h.base hg').1))
theorem qhv (s : Nat) (w : World) (hs : s < 18446744073709551616) :
  Calls Tryz.prog 17 #[.int .u64 (s : Int)] w fun e w' => ∃ v, e = .returned v ∧ Jo w' w.heap.size 3 .i64 v (cn s 64) (lf s 64) ∧ Below w.heap.size w w' := by
 obtain ⟨i0, hi0, hz0, hz1, hz2⟩ := info_parts ji64
 have HN : Hid (Jo w w.heap.size 3 .i64 (.slice none 0 0) 0 (lf s 0)) := Jo.nil _ _ _ _ _
 go_enter Tryz.func17, Tryz.ntmps17
 go_wp2
 go_loopw [3, 4] (fun v vi wr => ∃ i : Nat, i ≤ 64 ∧ vi = .int .i64 (i : Int) ∧ Jo wr w.heap.size 3 .i64 v (cn s i) (lf s i) ∧ Below w.heap.size w wr) (fun _ vi _ => 64 - (intOf vi).toNat)
 case atStart => exact ⟨0, by omega, rfl, HN.out, Below.refl _ _⟩
 case round =>
  obtain ⟨i, hi, rfl, I, hb⟩ := hrel
  obtain ⟨ps, pd, rfl, hpn⟩ := I.form
  have HI : Hid (Jo wr w.heap.size 3 .i64 (.slice ps (cn s i) pd) (cn s i) (lf s i)) := I
  have HB : Hid (Below w.heap.size w wr) := hb
  have hcn := qbd i s
  obtain ⟨t, HT⟩ : ∃ t, Hid (cn s i = t) := ⟨_, rfl⟩
  rw [HT.out] at HI hcn hpn I ⊢
  clear I hb HN
  by_cases hlt : i < 64
  ·by_cases hbit : bt s i = 1
   ·have hdb : decide (bt s i = 1) = true := decide_eq_true hbit
    have hml2 : t + 1 ≤ maxLen := by unfold maxLen; omega
    have hwsz := HB.out.size
    have HC : Hid (cn s (i + 1) = t + 1) := by show _ = _; rw [qat, hbit, HT.out]
    have HL : Hid (∀ k, k < t + 1 → (if k = t then i else lf s i k) = lf s (i + 1) k) := fun k _ => by rw [qki hbit, HT.out]
    clear hbit
    go_wp2_with (first
     | (go_at_call 39; refine (qdt s i _ hs hlt).mono ?_; rintro e w' ⟨rfl, rfl⟩; rw [hdb])
     | (at_builtin; refine wpList_append_own _ rfl _ _ 42 rfl w.heap.size 3 i0 (.int .i64 0) 1 8 Tryz.underlying42 hi0 hz0 hz1 hz2 rfl (by decide) _ t _ rfl (World.ownsRow.alloc HI.out _) ⟨wr.heap.size, 0, none⟩ 1 1 [.int .i64 (i : Int)] rfl rfl (qhr _ _ _ _) (qhs _ _) hml2 (by omega) (by simp; omega) ?_; intro v' w6 hown' hgrow' _; have HO6 := HI.out.push HB.out.size hown' hgrow'; clear hown' hgrow'))
    exact ⟨⟨i + 1, by omega, by go_num, by rw [HC.out]; exact HO6.1.congr HL.out, HB.out.trans HO6.2⟩, by simp [intOf]; omega⟩
   ·have hdb : decide (bt s i = 1) = false := decide_eq_false hbit
    have hb0 : bt s i = 0 := by have := qdg s i; omega
    have HC : Hid (cn s (i + 1) = t) := by show _ = _; rw [qat, hb0, HT.out]; rfl
    have HL : Hid (∀ k, k < t → lf s i k = lf s (i + 1) k) := fun k _ => (qg5 hb0 k).symm
    clear hbit hb0
    go_wp2_with (go_at_call 39; refine (qdt s i _ hs hlt).mono ?_; rintro e w' ⟨rfl, rfl⟩; rw [hdb])
    exact ⟨⟨i + 1, by omega, by go_num, by rw [HC.out]; exact HI.out.congr HL.out, HB.out⟩, by simp [intOf]; omega⟩
  ·obtain rfl : i = 64 := by omega
   go_wp2
   go_ret
   exact ⟨_, rfl, by rw [HT.out]; exact HI.out, HB.out⟩
theorem jlist_ok (s : Nat) (w : World) (hs : s < 18446744073709551616) :
  Calls Tryz.prog 23 #[.int .u64 (s : Int)] w fun e w' => ∃ v, e = .returned v ∧ Jo w' w.heap.size 3 .i64 v (cn s 64) (lf s 64) ∧ Below w.heap.size w w' := by
 obtain ⟨i0, hi0, hz0, hz1, hz2⟩ := info_parts ji64
 obtain ⟨k, HK⟩ : ∃ k, Hid (cn s 64 = k) := ⟨_, rfl⟩
 have hk : k ≤ 64 := by rw [← HK.out]; exact qbd 64 s
 have HE : Hid ((jrow .i64 0 (lf s 0)).toList = []) := by simp [jrow, Hid]
 go_enter Tryz.func23, Tryz.ntmps23
 go_wp2_with (first
  | (go_at_call 33; refine (qbk s _ hs).mono ?_; rintro e w' ⟨rfl, rfl⟩; rw [HK.out])
  | (at_make; refine wpList_make_own _ rfl _ _ 42 rfl w.heap.size 3 i0 (.int .i64 0) 1 Tryz.underlying42 hi0 hz0 hz1 .i64 .i64 _ k rfl rfl rfl (by rw [hz2]; omega) (by unfold maxLen; omega) (Nat.le_refl _) ?_; intro w1 hown hgrow; have HN : Hid (Jo w1 w.heap.size 3 .i64 (.slice (some ⟨w.heap.size, 0, none⟩) 0 k) 0 (lf s 0)) := (by unfold Jo; rw [HE.out]; exact hown); have HB1 : Hid (Below w.heap.size w w1) := jgrown.mp hgrow; clear hown hgrow))
 go_loopw [0, 3, 4] (fun vs v vi wr => ∃ i z : Nat, i ≤ 64 ∧ Hid (s / 2 ^ i = z) ∧ vs = .int .u64 (z : Int) ∧ vi = .int .i64 (i : Int) ∧ Jo wr w.heap.size 3 .i64 v (cn s i) (lf s i) ∧ Below w.heap.size w wr) (fun vs _ _ _ => (intOf vs).toNat)
 case atStart => exact ⟨0, s, by omega, (by show _ = _; rw [Nat.pow_zero, Nat.div_one]), rfl, rfl, HN.out, HB1.out⟩
 case round =>
  clear HN HB1 HE
  obtain ⟨i, z, hi, HZ, rfl, rfl, I, hb⟩ := hrel
  obtain ⟨ps, pd, rfl, hpn⟩ := I.form
  have HI : Hid (Jo wr w.heap.size 3 .i64 (.slice ps (cn s i) pd) (cn s i) (lf s i)) := I
  have HB : Hid (Below w.heap.size w wr) := hb
  have hcn := qbd i s
  obtain ⟨t, HT⟩ : ∃ t, Hid (cn s i = t) := ⟨_, rfl⟩
  rw [HT.out] at HI hcn hpn I ⊢
  clear I hb
  have hz6 : z < 18446744073709551616 := by rw [← HZ.out]; exact qht s i hs
  by_cases hz : z = 0
  ·have HLow : Hid (s < 2 ^ i) := by
    show _ < _
    apply Classical.byContradiction
    intro hn
    have := Nat.div_pos (Nat.le_of_not_lt hn) (Nat.two_pow_pos i)
    rw [HZ.out] at this
    omega
   subst hz
   have HC : Hid (k = t) := by show _ = _; rw [← HK.out, ← HT.out]; have := (qfd (s := s) (i := i) (64 - i) HLow.out).1; rwa [show i + (64 - i) = 64 by omega] at this
   have HL : Hid (∀ u, u < t → lf s i u = lf s 64 u) := fun u _ => by have := (qfd (s := s) (i := i) (64 - i) HLow.out).2 u; rw [show i + (64 - i) = 64 by omega] at this; exact this.symm
   go_wp2
   go_ret
   exact ⟨_, rfl, by rw [HK.out, HC.out]; exact HI.out.congr HL.out, HB.out⟩
  ·have hi64 : i < 64 := by
    apply Classical.byContradiction
    intro hn
    obtain rfl : i = 64 := by omega
    have h := HZ.out
    rw [Nat.div_eq_of_lt (show s < 2 ^ 64 from hs)] at h
    omega
   have hne : ((z : Int) == 0) = false := by simp only [beq_eq_false_iff_ne, ne_eq]; omega
   have hbz : bits .and .u64 (z : Int) 1 = ((bt s i : Nat) : Int) := by rw [← HZ.out]; exact j_bit s i hs
   obtain ⟨z', hz'⟩ : ∃ z', z / 2 = z' := ⟨_, rfl⟩
   have HZ2 : Hid (s / 2 ^ (i + 1) = z') := by show _ = _; rw [← div_up, HZ.out, hz']
   have e1 : (z : Int) / 2 = (z' : Int) := by omega
   by_cases hbit : bt s i = 1
   ·have hbz1 : bits .and .u64 (z : Int) 1 = 1 := by rw [hbz, hbit]; rfl
    have hml2 : t + 1 ≤ maxLen := by unfold maxLen; omega
    have hwsz := HB.out.size
    have HC : Hid (cn s (i + 1) = t + 1) := by show _ = _; rw [qat, hbit, HT.out]
    have HL : Hid (∀ k, k < t + 1 → (if k = t then i else lf s i k) = lf s (i + 1) k) := fun k _ => by rw [qki hbit, HT.out]
    have hzz : z' < z := by omega
    clear hbit HZ hbz hz6 hz' hz hs HK
    go_wp2_with (at_builtin; refine wpList_append_own _ rfl _ _ 42 rfl w.heap.size 3 i0 (.int .i64 0) 1 8 Tryz.underlying42 hi0 hz0 hz1 hz2 rfl (by decide) _ t _ rfl (World.ownsRow.alloc HI.out _) ⟨wr.heap.size, 0, none⟩ 1 1 [.int .i64 (i : Int)] rfl rfl (qhr _ _ _ _) (qhs _ _) hml2 (by omega) (by simp; omega) ?_; intro v' w6 hown' hgrow' _; have HO6 := HI.out.push HB.out.size hown' hgrow'; clear hown' hgrow')
    exact ⟨⟨i + 1, z', by omega, HZ2, by go_num, by go_num, by rw [HC.out]; exact HO6.1.congr HL.out, HB.out.trans HO6.2⟩, by simp [intOf]; omega⟩
   ·have hb0 : bt s i = 0 := by have := qdg s i; omega
    have hbz1 : bits .and .u64 (z : Int) 1 = 0 := by rw [hbz, hb0]; rfl
    have HC : Hid (cn s (i + 1) = t) := by show _ = _; rw [qat, hb0, HT.out]; rfl
    have HL : Hid (∀ k, k < t → lf s i k = lf s (i + 1) k) := fun k _ => (qg5 hb0 k).symm
    have hzz : z' < z := by omega
    clear hbit hb0 HZ hbz hz6 hz' hz hs HK
    go_wp2
    exact ⟨⟨i + 1, z', by omega, HZ2, by go_num, by go_num, by rw [HC.out]; exact HI.out.congr HL.out, HB.out⟩, by simp [intOf]; omega⟩
end Go.Proofs.YtokdejhbjoglcaaGreat
