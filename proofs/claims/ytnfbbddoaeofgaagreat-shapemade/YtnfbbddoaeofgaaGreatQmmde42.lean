/-
  Contracts of Choose and Upto.
  Contracts of Place and At.
  Contract of Next.
  Contracts of the sets' reference: Full, pascal, Choose, Upto.
  Contracts of the sets' reference: Choose, Upto.
  Contracts of Of, List and the reference's; two lists alike.
  Contracts of List and the reference's; two lists alike.
  Codes of portions: the entries of their generators and their groups, as numbers.
  Rows of a code: a row as it stands, noughts, counts that are too many, a piece copied into a greater one.
-/
import Derived.Test.YtnfbbddoaeofgaaGreatQmmde25
import Derived.WalkMore
import Derived.ScopeJumps
import Derived.Test.YtnfbbddoaeofgaaGreatQmmde00
import Derived.Test.YtnfbbddoaeofgaaGreatQmmde24
import Derived.Test.YtnfbbddoaeofgaaGreatQmmde41
set_option maxRecDepth 100000
set_option maxHeartbeats 16000000
namespace Go.Proofs.YtnfbbddoaeofgaaGreat
open Go.RowKit
/-- All are numbers that a set may have. -/
def okq (q : Nat → Int) (m : Nat) : Prop := ∀ i, i < m → 0 ≤ q i ∧ q i < 64
/-- The same, by looking at each. -/
def okb (q : Nat → Int) : Nat → Bool
 | 0 => true
 | m + 1 => okb q m && (decide (0 ≤ q m) && decide (q m < 64))
theorem qkw (q : Nat → Int) : ∀ m, okb q m = true ↔ okq q m := by
 intro m
 induction m with
 | zero => exact ⟨fun _ i hi => by omega, fun _ => rfl⟩
 | succ m ih =>
  constructor
  ·intro h i hi
   have h1 : okb q m = true ∧ (0 ≤ q m ∧ q m < 64) := by simpa [okb] using h
   by_cases e : i = m
   ·rw [e]; exact h1.2
   ·exact ih.1 h1.1 i (by omega)
  ·intro h
   have h1 : okb q m = true := ih.2 (fun i hi => h i (by omega))
   have h2 := h m (by omega)
   simp [okb, h1, h2.1, h2.2]
/-- What Of answers. -/
def ofa (q : Nat → Int) (m : Nat) : Array Value := if okb q m = true then #[.int .u64 ((ofs (fun i => (q i).toNat) m : Nat) : Int), .int .i64 0] else #[.int .u64 0, .int .i64 2]
theorem qkx {q : Nat → Int} {m : Nat} (h : okq q m) : ofa q m = #[.int .u64 ((ofs (fun i => (q i).toNat) m : Nat) : Int), .int .i64 0] := if_pos ((qkw q m).2 h)
theorem ofa_no {q : Nat → Int} {m j : Nat} (hj : j < m) (h : ¬ (0 ≤ q j ∧ q j < 64)) : ofa q m = #[.int .u64 0, .int .i64 2] := if_neg (fun o => h ((qkw q m).1 o j hj))
theorem okq_step {q : Nat → Int} {j : Nat} (h : okq q j) (hj : 0 ≤ q j ∧ q j < 64) : okq q (j + 1) := fun i hi => by
 by_cases e : i = j
 ·rw [e]; exact hj
 ·exact h i (by omega)
theorem ofs_64 {q : Nat → Int} {m : Nat} (h : okq q m) : ofs (fun i => (q i).toNat) m < 18446744073709551616 := ofs_lt (n := 64) (fun i hi => by have := h i hi; show (q i).toNat < 64; omega)
theorem jof_any (w : World) (m cap : Nat) (a : Option Addr) (q : Nat → Int) (hm : m ≤ 9223372036854775807) (ha : Jl w a .i64 m q) :
  Calls Tryz.prog 98 #[.slice a m cap] w fun e w' => e = .returned (.tuple (ofa q m)) ∧ w = w' := by
 have HA : Hid (Jl w a .i64 m q) := ha
 clear ha
 go_enter Tryz.func98, Tryz.ntmps98
 go_wp2
 go_loop [4, 9] (fun vz vi => ∃ j z : Nat, j ≤ m ∧ Hid (okq q j) ∧ Hid (ofs (fun i => (q i).toNat) j = z) ∧ vi = .int .i64 (j : Int) ∧ vz = .int .u64 (z : Int)) (fun _ vi => m - (intOf vi).toNat)
 case atStart => exact ⟨0, 0, by omega, fun i hi => by omega, rfl, rfl, rfl⟩
 case round =>
  obtain ⟨j, z, hj, HK, HZ, rfl, rfl⟩ := hrel
  by_cases hlt : j < m
  ·obtain ⟨x, o, ea, hc⟩ := HA.out j hlt
   subst ea
   obtain ⟨y, HY⟩ : ∃ y, Hid (q j = y) := ⟨_, rfl⟩
   rw [HY.out] at hc
   have p0 : (0 : Int) ≤ (j : Int) := by omega
   have p1 : (j : Int) < (m : Int) := by omega
   have d1 : decide (j < m) = true := decide_eq_true hlt
   by_cases h0 : y < 0
   ·have HR : Hid (ofa q m = #[.int .u64 0, .int .i64 2]) := ofa_no hlt (by rw [HY.out]; omega)
    have c1 : decide (y < 0) = true := decide_eq_true h0
    clear HK HZ HY HA
    go_wp2
    go_ret2
    exact ⟨by rw [HR.out]; rfl, rfl⟩
   ·have c1 : decide (y < 0) = false := decide_eq_false h0
    by_cases h6 : y < 64
    ·obtain ⟨t, rfl⟩ := Int.eq_ofNat_of_zero_le (show 0 ≤ y by omega)
     have ht : t < 64 := by omega
     have HK2 : Hid (okq q (j + 1)) := okq_step HK.out (by rw [HY.out]; omega)
     obtain ⟨T, hT⟩ : ∃ T, 2 ^ t = T := ⟨_, rfl⟩
     obtain ⟨z', HZ'⟩ : ∃ z' : Nat, Hid (ofs (fun i => (q i).toNat) (j + 1) = z') := ⟨_, rfl⟩
     have hp2 : IntKind.u64.wrap (2 ^ t) = (T : Int) := by rw [← hT]; exact qj0 t ht
     have hT6 := qd3 ht
     have hor : bits .or .u64 (z : Int) (T : Int) = (z' : Int) := by
      rw [u64_or_nat z T (by rw [← HZ.out]; exact ofs_64 HK.out) (by omega), ← hT, ← HZ.out, ← HZ'.out]
      show _ = ((ofs (fun i => (q i).toNat) j ||| 2 ^ (q j).toNat : Nat) : Int)
      rw [HY.out]
      rfl
     have c2 : decide ((64 : Int) ≤ (t : Int)) = false := decide_eq_false (by omega)
     have c3 : decide ((63 : Int) < (t : Int)) = false := decide_eq_false (by omega)
     clear hT hT6 HK HZ HY HA
     go_wp2
     exact ⟨⟨j + 1, z', by omega, HK2, HZ', by go_num, rfl⟩, by simp [intOf]; omega⟩
    ·have HR : Hid (ofa q m = #[.int .u64 0, .int .i64 2]) := ofa_no hlt (by rw [HY.out]; omega)
     have c2 : decide ((64 : Int) ≤ y) = true := decide_eq_true (by omega)
     have c3 : decide ((63 : Int) < y) = true := decide_eq_true (by omega)
     clear HK HZ HY HA
     go_wp2
     go_ret2
     exact ⟨by rw [HR.out]; rfl, rfl⟩
  ·obtain rfl : j = m := by omega
   have HR : Hid (ofa q j = #[.int .u64 (z : Int), .int .i64 0]) := by show _ = _; rw [qkx HK.out, HZ.out]
   clear HK HZ HA
   go_wp2
   go_ret2
   exact ⟨by rw [HR.out]; rfl, rfl⟩
open Go.RowKit
/-- A number is put behind a list of the call's own. -/
theorem Jo.push {w w2 : World} {B n : Nat} {T : TypeId} {K : IntKind} {v v' : Value} {f : Nat → Nat} {x : Nat} {o : Obj} (h : Jo w B T K v n f) (hB : B ≤ w.heap.size)
  (hown : w2.ownsRow B T 1 v' (n + 1) ((jrow K n f).toList ++ [.int K (x : Int)])) (hg : (w.alloc o).grownBy w2 v.ownBlock) : Jo w2 B T K v' (n + 1) (fun i => if i = n then x else f i) ∧ Below B w w2 := by
 refine ⟨?_, ?_⟩
 ·unfold Jo
  rw [← qkn]
  exact hown
 ·have h1 : Below B w (w.alloc o) := (jlow w o).mono hB
  exact h1.trans (jbelow hg (by have := (jlow w o).size; omega) (fun g hg' => (h.base hg').1))
theorem jlist_ok (s : Nat) (w : World) (hs : s < 18446744073709551616) :
  Calls Tryz.prog 97 #[.int .u64 (s : Int)] w fun e w' => ∃ v, e = .returned v ∧ Jo w' w.heap.size 3 .i64 v (cn s 64) (lf s 64) ∧ Below w.heap.size w w' := by
 obtain ⟨i0, hi0, hz0, hz1, hz2⟩ := info_parts ji64
 obtain ⟨k, HK⟩ : ∃ k, Hid (cn s 64 = k) := ⟨_, rfl⟩
 have hk : k ≤ 64 := by rw [← HK.out]; exact qbz 64 s
 have HE : Hid ((jrow .i64 0 (lf s 0)).toList = []) := by simp [jrow, Hid]
 go_enter Tryz.func97, Tryz.ntmps97
 go_wp2_with (first
  | (go_at_call 131; refine (qkv s _ hs).mono ?_; rintro e w' ⟨rfl, rfl⟩; rw [HK.out])
  | (at_make; refine wpList_make_own _ rfl _ _ 51 rfl w.heap.size 3 i0 (.int .i64 0) 1 Tryz.underlying51 hi0 hz0 hz1 .i64 .i64 _ k rfl rfl rfl (by rw [hz2]; omega) (by unfold maxLen; omega) (Nat.le_refl _) ?_; intro w1 hown hgrow; have HN : Hid (Jo w1 w.heap.size 3 .i64 (.slice (some ⟨w.heap.size, 0, none⟩) 0 k) 0 (lf s 0)) := (by unfold Jo; rw [HE.out]; exact hown); have HB1 : Hid (Below w.heap.size w w1) := jgrown.mp hgrow; clear hown hgrow))
 go_loopw [0, 3, 4] (fun vs v vi wr => ∃ i z : Nat, i ≤ 64 ∧ Hid (s / 2 ^ i = z) ∧ vs = .int .u64 (z : Int) ∧ vi = .int .i64 (i : Int) ∧ Jo wr w.heap.size 3 .i64 v (cn s i) (lf s i) ∧ Below w.heap.size w wr) (fun vs _ _ _ => (intOf vs).toNat)
 case atStart => exact ⟨0, s, by omega, (by show _ = _; rw [Nat.pow_zero, Nat.div_one]), rfl, rfl, HN.out, HB1.out⟩
 case round =>
  clear HN HB1 HE
  obtain ⟨i, z, hi, HZ, rfl, rfl, I, hb⟩ := hrel
  obtain ⟨ps, pd, rfl, hpn⟩ := I.form
  have HI : Hid (Jo wr w.heap.size 3 .i64 (.slice ps (cn s i) pd) (cn s i) (lf s i)) := I
  have HB : Hid (Below w.heap.size w wr) := hb
  have hcn := qbz i s
  obtain ⟨t, HT⟩ : ∃ t, Hid (cn s i = t) := ⟨_, rfl⟩
  rw [HT.out] at HI hcn hpn I ⊢
  clear I hb
  have hz6 : z < 18446744073709551616 := by rw [← HZ.out]; exact qhs s i hs
  by_cases hz : z = 0
  ·have HLow : Hid (s < 2 ^ i) := by
    show _ < _
    apply Classical.byContradiction
    intro hn
    have := Nat.div_pos (Nat.le_of_not_lt hn) (Nat.two_pow_pos i)
    rw [HZ.out] at this
    omega
   subst hz
   have HC : Hid (k = t) := by show _ = _; rw [← HK.out, ← HT.out]; have := (qkm (s := s) (i := i) (64 - i) HLow.out).1; rwa [show i + (64 - i) = 64 by omega] at this
   have HL : Hid (∀ u, u < t → lf s i u = lf s 64 u) := fun u _ => by have := (qkm (s := s) (i := i) (64 - i) HLow.out).2 u; rw [show i + (64 - i) = 64 by omega] at this; exact this.symm
   go_wp2
   go_ret
   exact ⟨_, rfl, by rw [HK.out, HC.out]; exact HI.out.congr HL.out, HB.out⟩
  ·have hi64 : i < 64 := by
    apply Classical.byContradiction
    intro hn
    obtain rfl : i = 64 := by omega
    have h := HZ.out
    rw [Nat.div_eq_of_lt (show s < 2 ^ 64 from hs)] at h
    omega
   have hne : ((z : Int) == 0) = false := by simp only [beq_eq_false_iff_ne, ne_eq]; omega
   have hbz : bits .and .u64 (z : Int) 1 = ((bt s i : Nat) : Int) := by rw [← HZ.out]; exact j_bit s i hs
   obtain ⟨z', hz'⟩ : ∃ z', z / 2 = z' := ⟨_, rfl⟩
   have HZ2 : Hid (s / 2 ^ (i + 1) = z') := by show _ = _; rw [← div_up, HZ.out, hz']
   have e1 : (z : Int) / 2 = (z' : Int) := by omega
   by_cases hbit : bt s i = 1
   ·have hbz1 : bits .and .u64 (z : Int) 1 = 1 := by rw [hbz, hbit]; rfl
    have hml2 : t + 1 ≤ maxLen := by unfold maxLen; omega
    have hwsz := HB.out.size
    have HC : Hid (cn s (i + 1) = t + 1) := by show _ = _; rw [qew, hbit, HT.out]
    have HL : Hid (∀ k, k < t + 1 → (if k = t then i else lf s i k) = lf s (i + 1) k) := fun k _ => by rw [lf_in hbit, HT.out]
    have hzz : z' < z := by omega
    clear hbit HZ hbz hz6 hz' hz hs HK
    go_wp2_with (at_builtin; refine wpList_append_own _ rfl _ _ 51 rfl w.heap.size 3 i0 (.int .i64 0) 1 8 Tryz.underlying51 hi0 hz0 hz1 hz2 rfl (by decide) _ t _ rfl (World.ownsRow.alloc HI.out _) ⟨wr.heap.size, 0, none⟩ 1 1 [.int .i64 (i : Int)] rfl rfl (qfd _ _ _ _) (qfe _ _) hml2 (by omega) (by simp; omega) ?_; intro v' w6 hown' hgrow' _; have HO6 := HI.out.push HB.out.size hown' hgrow'; clear hown' hgrow')
    exact ⟨⟨i + 1, z', by omega, HZ2, by go_num, by go_num, by rw [HC.out]; exact HO6.1.congr HL.out, HB.out.trans HO6.2⟩, by simp [intOf]; omega⟩
   ·have hb0 : bt s i = 0 := by have := bt_lt s i; omega
    have hbz1 : bits .and .u64 (z : Int) 1 = 0 := by rw [hbz, hb0]; rfl
    have HC : Hid (cn s (i + 1) = t) := by show _ = _; rw [qew, hb0, HT.out]; rfl
    have HL : Hid (∀ k, k < t → lf s i k = lf s (i + 1) k) := fun k _ => (qkk hb0 k).symm
    have hzz : z' < z := by omega
    clear hbit hb0 HZ hbz hz6 hz' hz hs HK
    go_wp2
    exact ⟨⟨i + 1, z', by omega, HZ2, by go_num, by go_num, by rw [HC.out]; exact HI.out.congr HL.out, HB.out⟩, by simp [intOf]; omega⟩
open Go.RowKit
/-- The entries of a code of portions: the identity, a row a portion, further rows. -/
def ptf (k l s : Nat) (W X : Nat → Nat) (q : Nat) : Nat :=
 if q < k * k then idf k q else if q < (k + l) * k then (if q % k / s = q / k - k then W (q % k) else 0) else X (q - (k + l) * k)
/-- Where the blocks of a portion's group stand. -/
def gpq (k s p i : Nat) : Nat := if i = s then k + p else p * s + i
/-- A portion's group. -/
def gpf (k s p : Nat) : Nat := ofs (gpq k s p) (s + 1)
/-- The same, gathered number by number. -/
def grf (k s p : Nat) : Nat → Nat
 | 0 => 2 ^ (k + p)
 | j + 1 => if j / s = p then grf k s p j ||| 2 ^ j else grf k s p j
theorem ofs_bit (q : Nat → Nat) (i : Nat) : ∀ j, (ofs q j).testBit i = true ↔ ∃ t, t < j ∧ q t = i := by
 intro j
 induction j with
 | zero => simp [ofs]
 | succ j ih =>
  rw [show ofs q (j + 1) = ofs q j ||| 2 ^ q j from rfl, Nat.testBit_or, Bool.or_eq_true, ih, Nat.testBit_two_pow]
  constructor
  ·rintro (⟨t, h1, h2⟩ | h)
   ·exact ⟨t, by omega, h2⟩
   ·exact ⟨j, by omega, by simpa using h⟩
  ·rintro ⟨t, h1, h2⟩
   by_cases e : t = j
   ·subst e; exact .inr (by simpa using h2)
   ·exact .inl ⟨t, by omega, h2⟩
theorem grf_bit (k s p i : Nat) : ∀ j, (grf k s p j).testBit i = true ↔ i = k + p ∨ (i < j ∧ i / s = p) := by
 intro j
 induction j with
 | zero => rw [show grf k s p 0 = 2 ^ (k + p) from rfl, Nat.testBit_two_pow]; simp; omega
 | succ j ih =>
  unfold grf
  by_cases h : j / s = p
  ·rw [if_pos h, Nat.testBit_or, Bool.or_eq_true, ih, Nat.testBit_two_pow]
   constructor
   ·rintro ((h1 | ⟨h1, h2⟩) | h1)
    ·exact .inl h1
    ·exact .inr ⟨by omega, h2⟩
    ·have : j = i := by simpa using h1
     subst this; exact .inr ⟨by omega, h⟩
   ·rintro (h1 | ⟨h1, h2⟩)
    ·exact .inl (.inl h1)
    ·by_cases e : i = j
     ·subst e; exact .inr (by simp)
     ·exact .inl (.inr ⟨by omega, h2⟩)
  ·rw [if_neg h, ih]
   constructor
   ·rintro (h1 | ⟨h1, h2⟩)
    ·exact .inl h1
    ·exact .inr ⟨by omega, h2⟩
   ·rintro (h1 | ⟨h1, h2⟩)
    ·exact .inl h1
    ·refine .inr ⟨?_, h2⟩
     rcases (by omega : i < j ∨ i = j) with h3 | h3
     ·exact h3
     ·subst h3; exact absurd h2 h
theorem bits_eq {a b : Nat} (h : ∀ i, a.testBit i = true ↔ b.testBit i = true) : a = b := by
 apply Nat.eq_of_testBit_eq
 intro i
 have := h i
 cases ha : a.testBit i <;> cases hb : b.testBit i <;> simp_all
theorem qdp {k l s p : Nat} (h : l * s = k) (hp : p < l) : p * s + s ≤ k := by
 rw [← h]
 exact Nat.le_trans (Nat.le_of_eq (show p * s + s = (p + 1) * s by rw [Nat.add_mul, Nat.one_mul])) (Nat.mul_le_mul_right s hp)
theorem gpf_bit (k s p i : Nat) (hs : 0 < s) : (gpf k s p).testBit i = true ↔ i = k + p ∨ i / s = p := by
 unfold gpf
 rw [ofs_bit]
 constructor
 ·rintro ⟨t, h1, h2⟩
  unfold gpq at h2
  by_cases e : t = s
  ·rw [if_pos e] at h2; exact .inl h2.symm
  ·rw [if_neg e] at h2
   refine .inr ?_
   rw [← h2, Nat.mul_comm, Nat.mul_add_div hs, Nat.div_eq_of_lt (by omega)]; rfl
 ·rintro (h1 | h1)
  ·exact ⟨s, by omega, by unfold gpq; rw [if_pos rfl, h1]⟩
  ·have e := Nat.div_add_mod i s
   have hm := Nat.mod_lt i hs
   refine ⟨i % s, by omega, ?_⟩
   unfold gpq
   rw [if_neg (by omega), ← h1, Nat.mul_comm]; exact e
theorem qky {k l s p : Nat} (hs : 0 < s) (h : l * s = k) (hp : p < l) : grf k s p k = gpf k s p := by
 apply bits_eq
 intro i
 rw [grf_bit, gpf_bit k s p i hs]
 constructor
 ·rintro (h1 | ⟨_, h1⟩)
  ·exact .inl h1
  ·exact .inr h1
 ·rintro (h1 | h1)
  ·exact .inl h1
  ·refine .inr ⟨?_, h1⟩
   have := qdp h hp
   have e := Nat.div_add_mod i s
   have hm := Nat.mod_lt i hs
   rw [h1, Nat.mul_comm] at e
   omega
theorem grf_lt {k s p : Nat} (h : k + p < 64) : ∀ j, j ≤ k → grf k s p j < 2 ^ 64 := by
 intro j
 induction j with
 | zero => intro _; exact Nat.pow_lt_pow_right (by omega) h
 | succ j ih =>
  intro hj
  unfold grf
  split
  ·exact Nat.or_lt_two_pow (ih (by omega)) (Nat.pow_lt_pow_right (by omega) (by omega))
  ·exact ih (by omega)
theorem gpq_lt {k l s p i : Nat} (h : l * s = k) (hp : p < l) (hk : k + l ≤ 64) (hi : i < s + 1) : gpq k s p i < 64 := by
 unfold gpq
 have := qdp h hp
 split <;> omega
theorem qkz (m x : Nat) : bt (2 ^ m - 1) x = if x < m then 1 else 0 := by
 have h := Nat.testBit_two_pow_sub_one m x
 rw [Nat.testBit_eq_decide_div_mod_eq] at h
 have h2 := bt_lt (2 ^ m - 1) x
 unfold bt at *
 by_cases e : x < m
 ·rw [if_pos e]; simpa [e] using h
 ·rw [if_neg e]
  have : ¬ (2 ^ m - 1) / 2 ^ x % 2 = 1 := by simpa [e] using h
  omega
theorem qgl (m : Nat) : ∀ x, x ≤ m → cn (2 ^ m - 1) x = x := by
 intro x
 induction x with
 | zero => intro _; rfl
 | succ x ih => intro h; rw [qew, ih (by omega), qkz, if_pos (by omega)]
/-- The list of all numbers below m. -/
theorem lf_ones {m t : Nat} (hm : m ≤ 64) (ht : t < m) : lf (2 ^ m - 1) 64 t = t := by
 have hc := qkj 64 m hm
 obtain ⟨_, h2, h3⟩ := qkl (s := 2 ^ m - 1) (i := 64) (t := t) (by omega)
 rw [qkz] at h2
 by_cases hx : lf (2 ^ m - 1) 64 t < m
 ·rw [qgl m _ (by omega)] at h3; exact h3
 ·rw [if_neg hx] at h2; omega
open Go.RowKit
/-- A variable of several cells. -/
def Vq (w : World) (b : Nat) (T : TypeId) (xs : Array Value) : Prop := w.heap[b]? = some (.cells xs T (0, 0))
theorem Vq.new (w : World) (T : TypeId) (xs : Array Value) : Vq (w.alloc (.cells xs T)) w.heap.size T xs := qbw w _
theorem Vq.lt {w : World} {b : Nat} {T : TypeId} {xs : Array Value} (h : Vq w b T xs) : b < w.heap.size := lt_of_block h
theorem Vq.later {w w' : World} {b : Nat} {T : TypeId} {xs : Array Value} (h : Vq w b T xs) (hb : Below w.heap.size w w') : Vq w' b T xs := by unfold Vq; rw [hb.block b h.lt]; exact h
theorem Vq.kept {w w' : World} {b g : Nat} {T : TypeId} {xs : Array Value} (h : Vq w b T xs) (hg : w.grownBy w' (some g)) (hne : b ≠ g) : Vq w' b T xs := by unfold Vq; rw [hg.block b h.lt (by simpa using hne)]; exact h
theorem Vq.cell {w : World} {b : Nat} {T : TypeId} {xs : Array Value} (h : Vq w b T xs) (i : Nat) (v : Value) (hv : xs[i]? = some v) : w.cell? ⟨b, i, none⟩ = some v := by rw [cell_of_row w b i _ _ _ h]; exact hv
theorem Vq.free {w : World} {b : Nat} {T : TypeId} {xs : Array Value} (h : Vq w b T xs) (i : Nat) : w.frozen? ⟨b, i, none⟩ = false := by
 unfold Vq at h
 simp [World.frozen?, h]
theorem Vq.row {w : World} {b : Nat} {T : TypeId} {xs : Array Value} (h : Vq w b T xs) (ys : Array Value) : Vq (w.setRow b ys) b T ys := setRow_heap w b _ _ _ (0, 0) h
theorem qaq (w : World) (o : Obj) : (w.alloc o).heap.size = w.heap.size + 1 := by simp
theorem Vq.new1 (w : World) (o : Obj) (T : TypeId) (xs : Array Value) : Vq ((w.alloc o).alloc (.cells xs T)) (w.heap.size + 1) T xs := by
 have := Vq.new (w.alloc o) T xs
 rwa [qaq] at this
theorem Vq.new2 (w : World) (o o2 : Obj) (T : TypeId) (xs : Array Value) : Vq (((w.alloc o).alloc o2).alloc (.cells xs T)) (w.heap.size + 2) T xs := by
 have := Vq.new1 (w.alloc o) o2 T xs
 rwa [qaq] at this
theorem Vq.new3 (w : World) (o o2 o3 : Obj) (T : TypeId) (xs : Array Value) : Vq ((((w.alloc o).alloc o2).alloc o3).alloc (.cells xs T)) (w.heap.size + 3) T xs := by
 have := Vq.new2 (w.alloc o) o2 o3 T xs
 rwa [qaq] at this
theorem sizeRw : (Tryz.prog.info? 68).map (·.size) = some 3 := by kernel_rfl
theorem sizeCo : (Tryz.prog.info? 27).map (·.size) = some 4 := by kernel_rfl
/-- A whole variable is written. -/
theorem qa4 {ops : Array Oper} {rest : List Oper} {op : Oper} {a : Act} {w : World} {Q : Exit → Act → World → Prop} (hgd : op.guard = none) (T : TypeId) (p q : Operand) (ho : op.op = .store T p q)
  (b : Nat) (xs ys : Array Value) (hp : a.eval p = .pointer (some ⟨b, 0, none⟩)) (hq : a.eval q = .agg ys) (hv : Vq w b T xs) (hi : (Tryz.prog.info? T).map (·.size) = some ys.size) (hsz : xs.size = ys.size) (h1 : ys.all (·.oneCell') = true)
  (h : ∀ w', Hid (Vq w' b T ys) → Hid (w.grownBy w' (some b)) → wpList Tryz.prog ops Q rest (a.put op.dst undef) w') : wpList Tryz.prog ops Q (op :: rest) a w :=
 wpList_store_row hgd T p q ho b ys hp hq T xs hv hi hsz h1 (h _ (hv.row ys) (qat w b ys))
theorem ocm (r c : Int) (a : Option Addr) (n k : Nat) : (#[.int .i64 r, .int .i64 c, .slice a n k] : Array Value).all (·.oneCell') = true := by simp [Value.oneCell']
theorem occ (r c : Int) (a : Option Addr) (n k : Nat) (b : Option Addr) (m d : Nat) : (#[.int .i64 r, .int .i64 c, .slice a n k, .slice b m d] : Array Value).all (·.oneCell') = true := by simp [Value.oneCell']
theorem qd6 (w : World) : Below w.heap.size w w.drew := ⟨rfl, rfl, rfl, Nat.le_refl _, fun _ _ => rfl⟩
/-- A code as a value. -/
abbrev cv (r c : Int) (a : Option Addr) (n k : Nat) (b : Option Addr) (m d : Nat) : Value := .agg #[.int .i64 r, .int .i64 c, .slice a n k, .slice b m d]
theorem qj9 {op : Oper} {a : Act} {w : World} {K : Act → World → Prop} {Q : Exit → Act → World → Prop} (d s : Operand) (ho : op.op = .call { callee := .builtin .copy, args := #[d, s], argTypes := #[22, 22] })
  (g p n c D dc sc : Nat) (sp : Option Addr) (f h : Nat → Nat) (hc : 0 < c) (hD : c ≤ D) (hd : a.eval d = .slice (some ⟨g, p, none⟩) D dc) (hs : a.eval s = .slice sp c sc) (hr : RowAt w g 5 n f) (hsl : Sl w sp c h) (hfit : p + c ≤ n)
  (k : ∀ w', Hid (RowAt w' g 5 n (cpf f h p c)) → Hid (w.grownBy w' (some g)) → K (a.put op.dst (goInt c)) w') : Oper.wp Tryz.prog op a w K Q := by
 obtain ⟨b, o, e, _⟩ := hsl.2 0 (by omega)
 subst e
 have hsrc : ∀ j v, (row c h).toList[j]? = some v → w.cell? ((⟨b, o, none⟩ : Addr).add j) = some v := qbe hsl (Below.refl _ _)
 have hrun := run_copy_row (P := Tryz.prog) w 22 22 op.type 5 g p D dc ⟨b, o, none⟩ c sc (row n f) 5 (row c h).toList Tryz.underlying22 qfu hr (by simp [qa7]; exact (Nat.min_eq_left hD).symm) hsrc (by simp [qa7]; exact hfit) (qbf c h)
 have hlen : (row c h).toList.length = c := by simp [qa7]
 rw [hlen, List.append_assoc, qeb n p c f h hfit] at hrun
 unfold Oper.wp
 simp [execOp, ho, resolve, invoke, builtin, hd, hs, hrun, Result.andThen]
 exact k _ (setRow_heap w g _ _ _ _ hr) (qat _ _ _)
theorem qdb {ops : Array Oper} {op : Oper} {a : Act} {w : World} {K : Act → World → Prop} {Q : Exit → Act → World → Prop} {E : Prop} (hgd : op.guard = none) (d s : Operand) (ho : op.op = .call { callee := .builtin .copy, args := #[d, s], argTypes := #[22, 22] })
  (g p n c D dc sc : Nat) (sp : Option Addr) (f h : Nat → Nat) (hc : 0 < c) (hD : c ≤ D) (hd : a.eval d = .slice (some ⟨g, p, none⟩) D dc) (hs : a.eval s = .slice sp c sc) (hr : RowAt w g 5 n f) (hsl : Sl w sp c h) (hfit : p + c ≤ n)
  (k : ∀ w', Hid (RowAt w' g 5 n (cpf f h p c)) → Hid (w.grownBy w' (some g)) → K (a.put op.dst (goInt c)) w') : if Region.wanted op (yielded ops a.tmps) = true then Oper.wp Tryz.prog op a w K Q else E := by
 have hw : Region.wanted op (yielded ops a.tmps) = true := by simp [Region.wanted, hgd]
 rw [if_pos hw]
 exact qj9 d s ho g p n c D dc sc sp f h hc hD hd hs hr hsl hfit k
theorem qlg (w : World) (r : Int) (c n k i p : Nat) (a s : Option Addr) (h0 : a = none → n = 0 ∧ k = 0) (hk : n ≤ k) (hfit : p + c ≤ n) (hn : n ≤ 4096) (hi : i ≤ 4096) (HP : Hid (i * c = p)) (HS : Hid (pc a p c = s)) :
  Calls Tryz.prog 84 #[mv r c a n k, .int .i64 (i : Int)] w fun e w' => e = .returned (.slice s c c) ∧ Below w.heap.size w w' := by
 have e1 : ((i : Int) * (c : Int)) = (p : Int) := by rw [← HP.out]; simp
 have e2 : (((i : Int) + 1) * (c : Int)) = ((p + c : Nat) : Int) := by rw [Int.add_mul, e1]; simp
 have w1 : IntKind.i64.wrap (p : Int) = (p : Int) := by rw [IntKind.wrap_i64]; omega
 have w3 : IntKind.i64.wrap ((i : Int) + 1) = (i : Int) + 1 := by rw [IntKind.wrap_i64]; omega
 obtain ⟨q, HQ⟩ : ∃ q, Hid (p + c = q) := ⟨_, rfl⟩
 rw [HQ.out] at e2
 have w2 : IntKind.i64.wrap (q : Int) = (q : Int) := by rw [IntKind.wrap_i64]; have := HQ.out; omega
 have y0 := (Vq.new w 68 #[.int .i64 r, .int .i64 (c : Int), .slice a n k]).cell 1 (.int .i64 (c : Int)) rfl
 by_cases hc0 : c = 0
 ·subst hc0
  obtain rfl : p = q := by have := HQ.out; omega
  obtain rfl : a = s := by have := HS.out; simpa [pc] using this
  clear HS HQ h0
  go_enter Tryz.func84, Tryz.ntmps84
  go_wp2
  go_region
  go_wp2
  go_ret
  exact ⟨by simp, qa1 (qa0 _ _) (qd6 _)⟩
 ·cases a with
  | none => have := (h0 rfl).1; omega
  | some x =>
   obtain rfl : some (x.add p) = s := by have := HS.out; rw [← this]; unfold pc; rw [if_neg hc0]; rfl
   have hq := HQ.out
   have hpq : p < q := by omega
   have hqn : q ≤ k := by omega
   have hcq : q - p = c := by omega
   clear HS HQ h0
   go_enter Tryz.func84, Tryz.ntmps84
   go_wp2
   go_region
   go_wp2
   go_ret
   exact ⟨by simp, qa1 (qa0 _ _) (qd6 _)⟩
theorem qi2 (w : World) (r c n : Nat) (hr : r ≤ 64) (hc : c ≤ 64) (HN : Hid (r * c = n)) :
  Calls Tryz.prog 54 #[.int .i64 (r : Int), .int .i64 (c : Int)] w fun e w' => ∃ g, e = .returned (mv r c (some ⟨g, 0, none⟩) n n) ∧ RowAt w' g 5 n (fun _ => 0) ∧ w.heap.size ≤ g ∧ Below w.heap.size w w' := by
 have HV0 : Hid (Vq (w.alloc (.cells #[.int .i64 0, .int .i64 0, .slice none 0 0] 68)) w.heap.size 68 #[.int .i64 0, .int .i64 0, .slice none 0 0]) := Vq.new w _ _
 go_enter Tryz.func54, Tryz.ntmps54
 go_wp2_with (first
  | (go_at_call 99; refine (qfg _ r c n hr hc HN).mono ?_; rintro e w1 ⟨g1, rfl, hr1, hg1, hb1⟩; have HR1 : Hid (RowAt (w1.alloc (.cells #[.int .i64 (r : Int), .int .i64 (c : Int), .slice (some ⟨g1, 0, none⟩) n n] 24)) g1 5 n (fun _ => 0)) := hr1.later (qa0 _ _); have HB1 : Hid (Below w.heap.size w (w1.alloc (.cells #[.int .i64 (r : Int), .int .i64 (c : Int), .slice (some ⟨g1, 0, none⟩) n n] 24))) := qa1 (qa1 (qa0 _ _) hb1) (qa0 _ _); have HV1 : Hid (Vq (w1.alloc (.cells #[.int .i64 (r : Int), .int .i64 (c : Int), .slice (some ⟨g1, 0, none⟩) n n] 24)) w.heap.size 68 #[.int .i64 0, .int .i64 0, .slice none 0 0]) := (HV0.out.later hb1).later (qa0 _ _); have hg2 : w.heap.size < g1 := Nat.lt_of_lt_of_le HV0.out.lt hg1; clear hr1 hg1 hb1)
  | (refine qa4 rfl 68 _ _ rfl w.heap.size _ #[.int .i64 (r : Int), .int .i64 (c : Int), .slice (some ⟨g1, 0, none⟩) n n] rfl rfl HV1.out sizeRw rfl (ocm _ _ _ _ _) ?_; intro w5 HV5 HG5))
 have d0 := HV5.out.cell 0 _ rfl
 have d1 := HV5.out.cell 1 _ rfl
 have d2 := HV5.out.cell 2 _ rfl
 refine bodyPost_ret (v := mv r c (some ⟨g1, 0, none⟩) n n) (by simp [results, Tryz.results54, go_sem, d0, d1, d2, mv]) rfl ?_
 exact ⟨g1, rfl, HR1.out.kept HG5.out (by omega), by omega, qa2 HB1.out HG5.out (Nat.le_refl _)⟩
/-- The sum of the first so many. -/
def sm16 (q : Nat → Int) : Nat → Int
 | 0 => 0
 | j + 1 => sm16 q j + q j
theorem qlh {q : Nat → Int} {m : Nat} (h : ∀ i, i < m → 0 ≤ q i) : ∀ j d, j + d ≤ m → sm16 q j ≤ sm16 q (j + d) := by
 intro j d
 induction d with
 | zero => intro _; exact Int.le_refl _
 | succ d ih =>
  intro hd
  have := ih (by omega)
  have h2 := h (j + d) (by omega)
  show _ ≤ sm16 q (j + d) + q (j + d)
  omega
theorem qbq (w : World) (m d : Nat) (b : Option Addr) (q : Nat → Int) (hm : m ≤ 64) (hb : Jl w b .i64 m q) (hq : ∀ i, i < m → 0 ≤ q i ∧ q i < 9223372036854775808) :
  Calls Tryz.prog 53 #[.slice b m d] w fun e w' => e = .returned (.bool (decide (64 < sm16 q m))) ∧ w = w' := by
 have HQ : Hid (∀ i, i < m → 0 ≤ q i ∧ q i < 9223372036854775808) := hq
 have HB : Hid (Jl w b .i64 m q) := hb
 clear hb hq
 go_enter Tryz.func53, Tryz.ntmps53
 go_wp2
 go_loopw [3, 5, 8] (fun L _ j wr => ∃ i : Nat, i ≤ m ∧ j = .int .i64 (i : Int) ∧ L = .int .i64 (64 - sm16 q i) ∧ 0 ≤ sm16 q i ∧ sm16 q i ≤ 64 ∧ w = wr) (fun _ _ j _ => m - (intOf j).toNat)
 case atStart => exact ⟨0, by omega, rfl, rfl, Int.le_refl _, by show (0 : Int) ≤ 64; omega, rfl⟩
 case round =>
  obtain ⟨i, hi, rfl, rfl, h0, h1, rfl⟩ := hrel
  by_cases hlt : i < m
  ·obtain ⟨x, o, eb, hci⟩ := HB.out i hlt
   obtain ⟨y, HY⟩ : ∃ y, Hid (q i = y) := ⟨_, rfl⟩
   rw [HY.out] at hci
   have hy := HQ.out i hlt
   rw [HY.out] at hy
   obtain ⟨z, HZ⟩ : ∃ z, Hid (64 - sm16 q i = z) := ⟨_, rfl⟩
   rw [HZ.out]
   have hz : 0 ≤ z ∧ z ≤ 64 := by have := HZ.out; omega
   have wz : IntKind.i64.wrap (z - y) = z - y := by rw [IntKind.wrap_i64]; omega
   have i0 : (0 : Int) ≤ (i : Int) := Int.natCast_nonneg _
   have i1 : (i : Int) < (m : Int) := by omega
   by_cases hg : z < y
   ·have g1 : decide (z < y) = true := by simpa using hg
    have HE : Hid (decide (64 < sm16 q m) = true) := by
     have h3 := qlh (fun t ht => (HQ.out t ht).1) (i + 1) (m - (i + 1)) (by omega)
     rw [show i + 1 + (m - (i + 1)) = m by omega] at h3
     have h4 : sm16 q (i + 1) = sm16 q i + q i := rfl
     have h5 := HY.out
     have h6 := HZ.out
     show _ = _
     simp
     omega
    subst eb
    clear h0 h1 hz hy
    go_wp2
    go_ret
    exact ⟨by rw [HE.out]; try simp, rfl⟩
   ·have g1 : decide (z < y) = false := by simpa using hg
    subst eb
    have HN : Hid (64 - sm16 q (i + 1) = z - y ∧ 0 ≤ sm16 q (i + 1) ∧ sm16 q (i + 1) ≤ 64) := by
     have h4 : sm16 q (i + 1) = sm16 q i + q i := rfl
     have h5 := HY.out
     have h6 := HZ.out
     exact ⟨by omega, by omega, by omega⟩
    clear h0 h1 hz hy
    go_wp2
    exact ⟨⟨i + 1, by omega, by go_num, by rw [HN.out.1], HN.out.2.1, HN.out.2.2, trivial⟩, by simp [intOf]; omega⟩
  ·obtain rfl : i = m := by omega
   have HE : Hid (decide (64 < sm16 q i) = false) := by show _ = _; simp; omega
   go_wp2
   go_ret
   exact ⟨by rw [HE.out]; try simp, rfl⟩
end Go.Proofs.YtnfbbddoaeofgaaGreat
