/-
  Contract of Next.
  Contracts of the sets' reference: Full, pascal, Choose, Upto.
  Contracts of the sets' reference: Choose, Upto.
  Contracts of Of, List and the reference's; two lists alike.
  Contracts of List and the reference's; two lists alike.
-/
import Derived.Test.YtblagbghpfopcaaGreatQwwin00
import Derived.Test.YtblagbghpfopcaaGreatQwwin17
import Derived.WalkMore
import Derived.ScopeJumps
import Derived.Test.YtblagbghpfopcaaGreatQwwin08
set_option maxRecDepth 100000
set_option maxHeartbeats 16000000
namespace Go.Proofs.YtblagbghpfopcaaGreat
open Go.RowKit
/-- What Next answers. -/
def nxa : Option Nat → Array Value
 | none => #[.int .u64 0, .bool false]
 | some u => #[.int .u64 (u : Int), .bool true]
/-- Next, halfway: down to the number i nothing rises; c numbers are met. -/
def NxI (s n i c : Nat) : Prop := cn (s / 2 ^ i) (n - i) = c ∧ nx (s / 2 ^ i) (n - i) = none
theorem NxI.start (s n : Nat) : NxI s n n 0 := by
 unfold NxI
 rw [Nat.sub_self]
 exact ⟨rfl, rfl⟩
theorem NxI.skip {s n i c : Nat} (I : NxI s n (i + 1) c) (hi : i < n) (h : bt s i = 0) : NxI s n i c := by
 obtain ⟨a, b⟩ := I
 obtain ⟨l, hl⟩ : ∃ l, l = n - (i + 1) := ⟨_, rfl⟩
 rw [← hl] at a b
 have e : n - i = l + 1 := by omega
 unfold NxI
 rw [e]
 exact ⟨by rw [qbi (show s / 2 ^ i % 2 = 0 from h), qcw]; exact a, nx_skip b h⟩
theorem NxI.stay {s n i c : Nat} (I : NxI s n (i + 1) c) (hi : i < n) (h : bt s i = 1) (hc : ¬ i + (c + 1) < n) : NxI s n i (c + 1) := by
 obtain ⟨a, b⟩ := I
 obtain ⟨l, hl⟩ : ∃ l, l = n - (i + 1) := ⟨_, rfl⟩
 rw [← hl] at a b
 have e : n - i = l + 1 := by omega
 unfold NxI
 rw [e]
 exact ⟨by rw [qby (show s / 2 ^ i % 2 = 1 from h), qcw, a], nx_stay b (by omega)⟩
theorem NxI.rise {s n i c : Nat} (I : NxI s n (i + 1) c) (hi : i < n) (h : bt s i = 1) (hc : i + (c + 1) < n) : nx s n = some (s % 2 ^ i + (2 ^ (c + 1) - 1) * 2 ^ (i + 1)) := by
 obtain ⟨a, b⟩ := I
 obtain ⟨l, hl⟩ : ∃ l, l = n - (i + 1) := ⟨_, rfl⟩
 rw [← hl] at a b
 have := nx_go b h a (by omega)
 rwa [show i + (l + 1) = n by omega] at this
theorem shl_lt {i c n : Nat} (h : i + (c + 1) < n) (hn : n ≤ 64) : (2 ^ (c + 1) - 1) * 2 ^ (i + 1) < 18446744073709551616 := by
 have h1 := Nat.two_pow_pos (c + 1)
 have h2 : (2 ^ (c + 1) - 1) * 2 ^ (i + 1) < 2 ^ (c + 1) * 2 ^ (i + 1) := Nat.mul_lt_mul_of_pos_right (by omega) (Nat.two_pow_pos _)
 rw [← Nat.pow_add] at h2
 exact Nat.lt_of_lt_of_le h2 (qem (by omega))
theorem qgr {l : Nat} {J : Act → World → Prop} {Q : Exit → Act → World → Prop} {a : Act} {w : World} : Exit.jump l J Q Exit.ret a w = Q Exit.ret a w := rfl
theorem qif (n s : Nat) (w : World) (hn : n ≤ 64) (hs : s < 2 ^ n) :
  Calls Tryz.prog 96 #[.int .i64 (n : Int), .int .u64 (s : Int)] w fun e w' => e = .returned (.tuple (nxa (nx s n))) ∧ Below w.heap.size w w' := by
 have hd : decide (s < 2 ^ n) = true := decide_eq_true hs
 have hs6 := qc7 hn hs
 have HST : Hid (NxI s n n 0) := NxI.start s n
 obtain ⟨o, HO⟩ : ∃ o, Hid (nx s n = o) := ⟨_, rfl⟩
 rw [HO.out]
 clear hs
 go_enter Tryz.func96, Tryz.ntmps96
 go_wp2
 refine wp_scope_jumps 0 (fun a' w' => w' = w ∧ ∃ (i c' : Nat) (u8 u9 u10 u11 u12 u13 u14 u15 u16 u17 u18 u19 u20 u21 u22 u23 u24 u25 u26 u27 : Value), a' = { tmps := #[.int .i64 (n : Int), .int .u64 (s : Int), undef, undef, .int .u64 0, .bool false, .int .i64 (c' : Int), .int .i64 (i : Int), u8, u9, u10, u11, u12, u13, u14, u15, u16, u17, u18, u19, u20, u21, u22, u23, u24, u25, u26, u27, undef, undef, undef, undef, undef, undef, undef, undef, undef, undef], defers := [] } ∧ 0 < c' ∧ i + c' < n ∧ Hid (o = some (s % 2 ^ i + (2 ^ c' - 1) * 2 ^ (i + 1)))) (fun _ _ => 0) rfl ?first ?pass
 case first =>
  go_wp2_with (go_at_call 117; refine (jset_ok s n _ hn).mono ?_; rintro e w' ⟨rfl, rfl⟩; rw [hd])
  go_loop [6, 7] (fun vc vi => ∃ i c : Nat, i ≤ n ∧ Hid (NxI s n i c) ∧ vi = .int .i64 (i : Int) ∧ vc = .int .i64 (c : Int)) (fun _ vi => (intOf vi).toNat)
  case atStart => exact ⟨n, 0, Nat.le_refl _, HST, rfl, rfl⟩
  case round =>
   clear HST hd
   obtain ⟨i', c, hi, HI, rfl, rfl⟩ := hrel
   have hc6 : c ≤ 64 := by rw [← HI.out.1]; exact Nat.le_trans (qb0 _ _) (by omega)
   cases i' with
   | zero =>
    have HR : Hid (o = none) := by have h := HI.out.2; rw [Nat.pow_zero, Nat.div_one, Nat.sub_zero, HO.out] at h; exact h
    clear HI HO
    go_wp2
    rw [qgr]
    go_ret2
    exact ⟨by rw [HR.out]; rfl, Below.refl _ _⟩
   | succ i =>
    have hbt := qcn s i
    have e1 : ((i + 1 : Nat) : Int) - 1 = (i : Int) := by omega
    by_cases hbit : bt s i = 1
    ·have hdb : decide (bt s i = 1) = true := decide_eq_true hbit
     obtain ⟨c', hc'⟩ : ∃ c', c + 1 = c' := ⟨_, rfl⟩
     have e2 : (c : Int) + 1 = (c' : Int) := by omega
     by_cases hrise : i + c' < n
     ·have HR : Hid (o = some (s % 2 ^ i + (2 ^ c' - 1) * 2 ^ (i + 1))) := by
       have h := HI.out.rise (by omega) hbit (by omega)
       rw [HO.out, hc'] at h
       exact h
      have c1 : decide ((i : Int) + (c' : Int) < (n : Int)) = true := decide_eq_true (by omega)
      clear HI HO hbit hbt
      go_wp2_with (go_at_call 51; refine (qg2 s i _ hs6).mono ?_; rintro e w' ⟨rfl, rfl⟩; rw [hdb])
      go_step3
      exact ⟨rfl, rfl, i, c', _, _, _, _, _, _, _, _, _, _, _, _, _, _, _, _, _, _, _, _, rfl, by omega, hrise, HR⟩
     ·have HI2 : Hid (NxI s n i c') := by have h := HI.out.stay (by omega) hbit (by omega); rw [hc'] at h; exact h
      have c1 : decide ((i : Int) + (c' : Int) < (n : Int)) = false := decide_eq_false (by omega)
      clear HI hbit hbt HO
      go_wp2_with (go_at_call 51; refine (qg2 s i _ hs6).mono ?_; rintro e w' ⟨rfl, rfl⟩; rw [hdb])
      exact ⟨⟨i, c', by omega, HI2, by go_num, by go_num⟩, by simp [intOf]⟩
    ·have hdb : decide (bt s i = 1) = false := decide_eq_false hbit
     have HI2 : Hid (NxI s n i c) := HI.out.skip (by omega) (by omega)
     clear HI hbit hbt HO
     go_wp2_with (go_at_call 51; refine (qg2 s i _ hs6).mono ?_; rintro e w' ⟨rfl, rfl⟩; rw [hdb])
     exact ⟨⟨i, c, by omega, HI2, by go_num, rfl⟩, by simp [intOf]⟩
 case pass =>
  rintro a' w' ⟨rfl, i, c', u8, u9, u10, u11, u12, u13, u14, u15, u16, u17, u18, u19, u20, u21, u22, u23, u24, u25, u26, u27, rfl, hc0, hrise, HR⟩
  obtain ⟨c, rfl⟩ : ∃ c, c' = c + 1 := ⟨c' - 1, by omega⟩
  obtain ⟨c', hc'⟩ : ∃ c', c + 1 = c' := ⟨_, rfl⟩
  have hsh := shl_lt (i := i) (c := c) (n := n) (by omega) hn
  rw [hc'] at hsh hrise HR ⊢
  have hmod := Nat.mod_lt s (Nat.two_pow_pos i)
  have hA := Nat.and_two_pow_sub_one_eq_mod s i
  have hor := or_high (a := s % 2 ^ i) (n := i + 1) (2 ^ c' - 1) (by rw [Nat.pow_succ]; omega)
  have hAl := qbg (show i < 64 by omega)
  obtain ⟨A, HA⟩ : ∃ A : Nat, Hid ((2 ^ i - 1 : Nat) = A) := ⟨_, rfl⟩
  obtain ⟨B, HBB⟩ : ∃ B : Nat, Hid ((2 ^ c' - 1 : Nat) = B) := ⟨_, rfl⟩
  obtain ⟨D, HD⟩ : ∃ D : Nat, Hid (s % 2 ^ i = D) := ⟨_, rfl⟩
  obtain ⟨E, HE⟩ : ∃ E : Nat, Hid (B * 2 ^ (i + 1) = E) := ⟨_, rfl⟩
  obtain ⟨F, HF⟩ : ∃ F : Nat, Hid (D + E = F) := ⟨_, rfl⟩
  rw [HBB.out, HE.out] at hsh
  rw [HA.out, HD.out] at hA
  rw [HBB.out, HD.out, HE.out, HF.out] at hor
  have HR2 : Hid (o = some F) := by have h := HR.out; rw [HBB.out, HD.out, HE.out, HF.out] at h; exact h
  have b1 : bits .and .u64 (s : Int) (A : Int) = (D : Int) := by rw [u64_and_nat s A hs6 (by rw [← HA.out]; omega), hA]
  have b2 : IntKind.u64.wrap ((B : Int) * 2 ^ (i + 1)) = (E : Int) := by
   have e : (B : Int) * 2 ^ (i + 1) = ((B * 2 ^ (i + 1) : Nat) : Int) := by simp
   rw [e, HE.out, IntKind.wrap_u64]
   omega
  have b3 : bits .or .u64 (D : Int) (E : Int) = (F : Int) := by rw [u64_or_nat D E (by rw [← HD.out]; exact Nat.lt_of_le_of_lt (Nat.mod_le _ _) hs6) hsh, hor]
  have HF1 : Hid (∀ w : World, Calls Tryz.prog 89 #[.int .i64 (i : Int)] w fun e w' => e = .returned (.int .u64 (A : Int)) ∧ w = w') := fun w => by rw [← HA.out]; exact qei i w (by omega)
  have HF2 : Hid (∀ w : World, Calls Tryz.prog 89 #[.int .i64 (c' : Int)] w fun e w' => e = .returned (.int .u64 (B : Int)) ∧ w = w') := fun w => by rw [← HBB.out]; exact qei c' w (by omega)
  have c1 : decide ((i : Int) + (c' : Int) < (n : Int)) = true := decide_eq_true (by omega)
  have hi62 : i + 1 < 64 := by omega
  clear HR hsh hmod hA hor hAl HA HBB HD HE HF hs6 HST HO hd
  go_wp2_with (first
   | (go_at_call 89; refine (HF1.out _).mono ?_; rintro e w' ⟨rfl, rfl⟩)
   | (go_at_call 89; refine (HF2.out _).mono ?_; rintro e w' ⟨rfl, rfl⟩))
  rw [qgr]
  go_ret2
  exact ⟨by rw [HR2.out]; rfl, Below.refl _ _⟩
open Go.RowKit
theorem qlq {i : Nat} : (2 ^ i - 1) ||| 2 ^ i = 2 ^ (i + 1) - 1 := by
 have := Nat.two_pow_pos i
 rw [qke (by omega), Nat.pow_succ]
 omega
theorem qig (k : Nat) (w : World) (hk : k ≤ 64) :
  Calls Tryz.prog 67 #[.int .i64 (k : Int)] w fun e w' => e = .returned (.tuple #[.int .u64 ((2 ^ k - 1 : Nat) : Int), .int .i64 0]) ∧ w = w' := by
 have g1 : decide ((k : Int) < 0) = false := decide_eq_false (by omega)
 have g2 : decide ((64 : Int) < (k : Int)) = false := decide_eq_false (by omega)
 obtain ⟨R, HR⟩ : ∃ R : Nat, Hid ((2 ^ k - 1 : Nat) = R) := ⟨_, rfl⟩
 rw [HR.out]
 go_enter Tryz.func67, Tryz.ntmps67
 go_wp2
 go_loop [4, 5] (fun vz vi => ∃ i z : Nat, i ≤ k ∧ Hid ((2 ^ i - 1 : Nat) = z) ∧ vi = .int .i64 (i : Int) ∧ vz = .int .u64 (z : Int)) (fun _ vi => k - (intOf vi).toNat)
 case atStart => exact ⟨0, 0, by omega, rfl, rfl, rfl⟩
 case round =>
  obtain ⟨i, z, hi, HZ, rfl, rfl⟩ := hrel
  by_cases hlt : i < k
  ·have hi6 : i < 64 := by omega
   obtain ⟨T, hT⟩ : ∃ T, 2 ^ i = T := ⟨_, rfl⟩
   obtain ⟨z', HZ'⟩ : ∃ z' : Nat, Hid ((2 ^ (i + 1) - 1 : Nat) = z') := ⟨_, rfl⟩
   have hp2 : IntKind.u64.wrap (2 ^ i) = (T : Int) := by rw [← hT]; exact qf1 i hi6
   have hT6 := qbg hi6
   have hor : bits .or .u64 (z : Int) (T : Int) = (z' : Int) := by
    rw [u64_or_nat z T (by rw [← HZ.out]; omega) (by omega), ← hT, ← HZ.out, qlq, HZ'.out]
   clear hT hT6 HZ
   go_wp2
   exact ⟨⟨i + 1, z', by omega, HZ', by go_num, rfl⟩, by simp [intOf]; omega⟩
  ·obtain rfl : i = k := by omega
   have HE : Hid (z = R) := by show _ = _; rw [← HZ.out, ← HR.out]
   clear HZ HR
   go_wp2
   go_ret2
   exact ⟨by rw [← HE.out]; rfl, rfl⟩
open Go.RowKit
/-- A number is put behind a list of the call's own. -/
theorem Jo.push {w w2 : World} {B n : Nat} {T : TypeId} {K : IntKind} {v v' : Value} {f : Nat → Nat} {x : Nat} {o : Obj} (h : Jo w B T K v n f) (hB : B ≤ w.heap.size)
  (hown : w2.ownsRow B T 1 v' (n + 1) ((jrow K n f).toList ++ [.int K (x : Int)])) (hg : (w.alloc o).grownBy w2 v.ownBlock) : Jo w2 B T K v' (n + 1) (fun i => if i = n then x else f i) ∧ Below B w w2 := by
 refine ⟨?_, ?_⟩
 ·unfold Jo
  rw [← qki]
  exact hown
 ·have h1 : Below B w (w.alloc o) := (jlow w o).mono hB
  exact h1.trans (jbelow hg (by have := (jlow w o).size; omega) (fun g hg' => (h.base hg').1))
theorem qih (s : Nat) (w : World) (hs : s < 18446744073709551616) :
  Calls Tryz.prog 21 #[.int .u64 (s : Int)] w fun e w' => ∃ v, e = .returned v ∧ Jo w' w.heap.size 3 .i64 v (cn s 64) (lf s 64) ∧ Below w.heap.size w w' := by
 obtain ⟨i0, hi0, hz0, hz1, hz2⟩ := info_parts ji64
 have HN : Hid (Jo w w.heap.size 3 .i64 (.slice none 0 0) 0 (lf s 0)) := Jo.nil _ _ _ _ _
 go_enter Tryz.func21, Tryz.ntmps21
 go_wp2
 go_loopw [3, 4] (fun v vi wr => ∃ i : Nat, i ≤ 64 ∧ vi = .int .i64 (i : Int) ∧ Jo wr w.heap.size 3 .i64 v (cn s i) (lf s i) ∧ Below w.heap.size w wr) (fun _ vi _ => 64 - (intOf vi).toNat)
 case atStart => exact ⟨0, by omega, rfl, HN.out, Below.refl _ _⟩
 case round =>
  obtain ⟨i, hi, rfl, I, hb⟩ := hrel
  obtain ⟨ps, pd, rfl, hpn⟩ := I.form
  have HI : Hid (Jo wr w.heap.size 3 .i64 (.slice ps (cn s i) pd) (cn s i) (lf s i)) := I
  have HB : Hid (Below w.heap.size w wr) := hb
  have hcn := qb0 i s
  obtain ⟨t, HT⟩ : ∃ t, Hid (cn s i = t) := ⟨_, rfl⟩
  rw [HT.out] at HI hcn hpn I ⊢
  clear I hb HN
  by_cases hlt : i < 64
  ·by_cases hbit : bt s i = 1
   ·have hdb : decide (bt s i = 1) = true := decide_eq_true hbit
    have hml2 : t + 1 ≤ maxLen := by unfold maxLen; omega
    have hwsz := HB.out.size
    have HC : Hid (cn s (i + 1) = t + 1) := by show _ = _; rw [qai, hbit, HT.out]
    have HL : Hid (∀ k, k < t + 1 → (if k = t then i else lf s i k) = lf s (i + 1) k) := fun k _ => by rw [lf_in hbit, HT.out]
    clear hbit
    go_wp2_with (first
     | (go_at_call 20; refine (qd8 s i _ hs hlt).mono ?_; rintro e w' ⟨rfl, rfl⟩; rw [hdb])
     | (at_builtin; refine wpList_append_own _ rfl _ _ 34 rfl w.heap.size 3 i0 (.int .i64 0) 1 8 Tryz.underlying34 hi0 hz0 hz1 hz2 rfl (by decide) _ t _ rfl (World.ownsRow.alloc HI.out _) ⟨wr.heap.size, 0, none⟩ 1 1 [.int .i64 (i : Int)] rfl rfl (qdv _ _ _ _) (qdw _ _) hml2 (by omega) (by simp; omega) ?_; intro v' w6 hown' hgrow' _; have HO6 := HI.out.push HB.out.size hown' hgrow'; clear hown' hgrow'))
    exact ⟨⟨i + 1, by omega, by go_num, by rw [HC.out]; exact HO6.1.congr HL.out, HB.out.trans HO6.2⟩, by simp [intOf]; omega⟩
   ·have hdb : decide (bt s i = 1) = false := decide_eq_false hbit
    have hb0 : bt s i = 0 := by have := qcn s i; omega
    have HC : Hid (cn s (i + 1) = t) := by show _ = _; rw [qai, hb0, HT.out]; rfl
    have HL : Hid (∀ k, k < t → lf s i k = lf s (i + 1) k) := fun k _ => (qhw hb0 k).symm
    clear hbit hb0
    go_wp2_with (go_at_call 20; refine (qd8 s i _ hs hlt).mono ?_; rintro e w' ⟨rfl, rfl⟩; rw [hdb])
    exact ⟨⟨i + 1, by omega, by go_num, by rw [HC.out]; exact HI.out.congr HL.out, HB.out⟩, by simp [intOf]; omega⟩
  ·obtain rfl : i = 64 := by omega
   go_wp2
   go_ret
   exact ⟨_, rfl, by rw [HT.out]; exact HI.out, HB.out⟩
theorem qg5 (s : Nat) (w : World) (hs : s < 18446744073709551616) :
  Calls Tryz.prog 28 #[.int .u64 (s : Int)] w fun e w' => ∃ v, e = .returned v ∧ Jo w' w.heap.size 3 .i64 v (cn s 64) (lf s 64) ∧ Below w.heap.size w w' := by
 obtain ⟨i0, hi0, hz0, hz1, hz2⟩ := info_parts ji64
 obtain ⟨k, HK⟩ : ∃ k, Hid (cn s 64 = k) := ⟨_, rfl⟩
 have hk : k ≤ 64 := by rw [← HK.out]; exact qb0 64 s
 have HE : Hid ((jrow .i64 0 (lf s 0)).toList = []) := by simp [jrow, Hid]
 go_enter Tryz.func28, Tryz.ntmps28
 go_wp2_with (first
  | (go_at_call 41; refine (qek s _ hs).mono ?_; rintro e w' ⟨rfl, rfl⟩; rw [HK.out])
  | (at_make; refine wpList_make_own _ rfl _ _ 34 rfl w.heap.size 3 i0 (.int .i64 0) 1 Tryz.underlying34 hi0 hz0 hz1 .i64 .i64 _ k rfl rfl rfl (by rw [hz2]; omega) (by unfold maxLen; omega) (Nat.le_refl _) ?_; intro w1 hown hgrow; have HN : Hid (Jo w1 w.heap.size 3 .i64 (.slice (some ⟨w.heap.size, 0, none⟩) 0 k) 0 (lf s 0)) := (by unfold Jo; rw [HE.out]; exact hown); have HB1 : Hid (Below w.heap.size w w1) := jgrown.mp hgrow; clear hown hgrow))
 go_loopw [0, 3, 4] (fun vs v vi wr => ∃ i z : Nat, i ≤ 64 ∧ Hid (s / 2 ^ i = z) ∧ vs = .int .u64 (z : Int) ∧ vi = .int .i64 (i : Int) ∧ Jo wr w.heap.size 3 .i64 v (cn s i) (lf s i) ∧ Below w.heap.size w wr) (fun vs _ _ _ => (intOf vs).toNat)
 case atStart => exact ⟨0, s, by omega, (by show _ = _; rw [Nat.pow_zero, Nat.div_one]), rfl, rfl, HN.out, HB1.out⟩
 case round =>
  clear HN HB1 HE
  obtain ⟨i, z, hi, HZ, rfl, rfl, I, hb⟩ := hrel
  obtain ⟨ps, pd, rfl, hpn⟩ := I.form
  have HI : Hid (Jo wr w.heap.size 3 .i64 (.slice ps (cn s i) pd) (cn s i) (lf s i)) := I
  have HB : Hid (Below w.heap.size w wr) := hb
  have hcn := qb0 i s
  obtain ⟨t, HT⟩ : ∃ t, Hid (cn s i = t) := ⟨_, rfl⟩
  rw [HT.out] at HI hcn hpn I ⊢
  clear I hb
  have hz6 : z < 18446744073709551616 := by rw [← HZ.out]; exact qid s i hs
  by_cases hz : z = 0
  ·have HLow : Hid (s < 2 ^ i) := by
    show _ < _
    apply Classical.byContradiction
    intro hn
    have := Nat.div_pos (Nat.le_of_not_lt hn) (Nat.two_pow_pos i)
    rw [HZ.out] at this
    omega
   subst hz
   have HC : Hid (k = t) := by show _ = _; rw [← HK.out, ← HT.out]; have := (qe7 (s := s) (i := i) (64 - i) HLow.out).1; rwa [show i + (64 - i) = 64 by omega] at this
   have HL : Hid (∀ u, u < t → lf s i u = lf s 64 u) := fun u _ => by have := (qe7 (s := s) (i := i) (64 - i) HLow.out).2 u; rw [show i + (64 - i) = 64 by omega] at this; exact this.symm
   go_wp2
   go_ret
   exact ⟨_, rfl, by rw [HK.out, HC.out]; exact HI.out.congr HL.out, HB.out⟩
  ·have hi64 : i < 64 := by
    apply Classical.byContradiction
    intro hn
    obtain rfl : i = 64 := by omega
    have h := HZ.out
    rw [Nat.div_eq_of_lt (show s < 2 ^ 64 from hs)] at h
    omega
   have hne : ((z : Int) == 0) = false := by simp only [beq_eq_false_iff_ne, ne_eq]; omega
   have hbz : bits .and .u64 (z : Int) 1 = ((bt s i : Nat) : Int) := by rw [← HZ.out]; exact j_bit s i hs
   obtain ⟨z', hz'⟩ : ∃ z', z / 2 = z' := ⟨_, rfl⟩
   have HZ2 : Hid (s / 2 ^ (i + 1) = z') := by show _ = _; rw [← qcw, HZ.out, hz']
   have e1 : (z : Int) / 2 = (z' : Int) := by omega
   by_cases hbit : bt s i = 1
   ·have hbz1 : bits .and .u64 (z : Int) 1 = 1 := by rw [hbz, hbit]; rfl
    have hml2 : t + 1 ≤ maxLen := by unfold maxLen; omega
    have hwsz := HB.out.size
    have HC : Hid (cn s (i + 1) = t + 1) := by show _ = _; rw [qai, hbit, HT.out]
    have HL : Hid (∀ k, k < t + 1 → (if k = t then i else lf s i k) = lf s (i + 1) k) := fun k _ => by rw [lf_in hbit, HT.out]
    have hzz : z' < z := by omega
    clear hbit HZ hbz hz6 hz' hz hs HK
    go_wp2_with (at_builtin; refine wpList_append_own _ rfl _ _ 34 rfl w.heap.size 3 i0 (.int .i64 0) 1 8 Tryz.underlying34 hi0 hz0 hz1 hz2 rfl (by decide) _ t _ rfl (World.ownsRow.alloc HI.out _) ⟨wr.heap.size, 0, none⟩ 1 1 [.int .i64 (i : Int)] rfl rfl (qdv _ _ _ _) (qdw _ _) hml2 (by omega) (by simp; omega) ?_; intro v' w6 hown' hgrow' _; have HO6 := HI.out.push HB.out.size hown' hgrow'; clear hown' hgrow')
    exact ⟨⟨i + 1, z', by omega, HZ2, by go_num, by go_num, by rw [HC.out]; exact HO6.1.congr HL.out, HB.out.trans HO6.2⟩, by simp [intOf]; omega⟩
   ·have hb0 : bt s i = 0 := by have := qcn s i; omega
    have hbz1 : bits .and .u64 (z : Int) 1 = 0 := by rw [hbz, hb0]; rfl
    have HC : Hid (cn s (i + 1) = t) := by show _ = _; rw [qai, hb0, HT.out]; rfl
    have HL : Hid (∀ k, k < t → lf s i k = lf s (i + 1) k) := fun k _ => (qhw hb0 k).symm
    have hzz : z' < z := by omega
    clear hbit hb0 HZ hbz hz6 hz' hz hs HK
    go_wp2
    exact ⟨⟨i + 1, z', by omega, HZ2, by go_num, by go_num, by rw [HC.out]; exact HI.out.congr HL.out, HB.out⟩, by simp [intOf]; omega⟩
end Go.Proofs.YtblagbghpfopcaaGreat
