/-
  The plain mathematics of the field of 256 elements: no Go in sight. The product is 'fm'; it is that of a field; powers of 2 go round after 255.
-/
import Derived.Deep.RegionHeld
import Derived.Laws.BitsAllLaws
import Derived.Laws.Bits128
import Derived.IntWalk
import Derived.KernelRfl
import Derived.OpenShut
set_option maxRecDepth 100000
set_option maxHeartbeats 16000000
namespace Go.Proofs.Ythdgpmanijifoaa
open Go.RowKit
theorem mz1 {α : Type} {l : List α} {i : Nat} (h : i < l.toArray.size) : l.toArray[i] = l[i]'(by simpa using h) := List.getElem_toArray h
theorem mz2 {α : Type} (a : α) (m : List α) (i : Nat) (h : i + 1 < (a :: m).length) : (a :: m)[i + 1] = m[i]'(Nat.lt_of_succ_lt_succ h) := List.getElem_cons_succ ..
theorem mz3 {α : Type} (a : α) (m : List α) (h : 0 < (a :: m).length) : (a :: m)[0] = a := List.getElem_cons_zero ..
theorem mz4 {α : Type} {l : List α} {i : Nat} {a : α} : l.toArray.setIfInBounds i a = (l.set i a).toArray := List.setIfInBounds_toArray ..
theorem mz5 {α : Type} {a b : α} {m : List α} : (a :: m).set 0 b = b :: m := List.set_cons_zero
theorem mz6 {α : Type} {a b : α} {m : List α} {n : Nat} : (a :: m).set (n + 1) b = a :: m.set n b := List.set_cons_succ
theorem wtkq {P : Program} {md : Region.Mode} {ops : Array Oper} {Q : Exit → Act → World → Prop} {S : World → Prop} (i : Nat) (v : Value) {oi : Oper} {fuel : Nat} {listed : Array Bool} {a : Act} {w : World} (hi : ops[i]? = some oi)
    (hb : (Region.noSelect ops && (Region.free md ops listed i && (Region.ready md ops listed).contains i)) = true)
    (hQ : ∀ c a w, Q (.panic c) (a.put oi.dst v) w → Q (.panic c) a w) (hg : Region.wanted oi (yielded ops a.tmps) = true) (hy : ∀ w, S w → (execOp a.eval oi).run P w = .ok (.value v) w) (hS : S w)
    (h : wpAnyH P md ops Q S fuel (listed.setIfInBounds i true) (a.put oi.dst v) w) : wpAnyH P md ops Q S (fuel + 1) listed a w := by
  simp only [Bool.and_eq_true] at hb
  exact wpAnyH_take (i := i) (v := v) hi hb.1 hb.2.1 hb.2.2 hQ (Or.inl ⟨hg, hy⟩) hS h
theorem wskq {P : Program} {md : Region.Mode} {ops : Array Oper} {Q : Exit → Act → World → Prop} {S : World → Prop} (i : Nat) {oi : Oper} {fuel : Nat} {listed : Array Bool} {a : Act} {w : World} (hi : ops[i]? = some oi)
    (hb : (Region.noSelect ops && (Region.free md ops listed i && (Region.ready md ops listed).contains i)) = true)
    (hQ : ∀ c a w, Q (.panic c) (a.put oi.dst undef) w → Q (.panic c) a w) (hg : Region.wanted oi (yielded ops a.tmps) = false) (hS : S w)
    (h : wpAnyH P md ops Q S fuel (listed.setIfInBounds i true) (a.put oi.dst undef) w) : wpAnyH P md ops Q S (fuel + 1) listed a w := by
  simp only [Bool.and_eq_true] at hb
  exact wpAnyH_take (i := i) (v := undef) hi hb.1 hb.2.1 hb.2.2 hQ (Or.inr ⟨hg, rfl⟩) hS h
open Go Go.RowKit

/-- The product with 2, of a number below 256. -/
def dbl (a : Nat) : Nat := 2 * a ^^^ 285 * (a / 128)
/-- The sum of the products with the lowest n bits of b. -/
def sm : Nat → Nat → Nat → Nat
 | 0, _, _ => 0
 | n + 1, a, b => (b % 2 * a) ^^^ sm n (dbl a) (b / 2)
/-- The product. -/
def fm (a b : Nat) : Nat := sm 8 a b

/-- All numbers below n pass a test. -/
def allB (f : Nat → Bool) : Nat → Bool
 | 0 => true
 | n + 1 => f n && allB f n
theorem qa5 {f : Nat → Bool} {n : Nat} (h : allB f n = true) : ∀ k, k < n → f k = true := by
 induction n with
 | zero => intro k hk; omega
 | succ n ih =>
  intro k hk
  simp only [allB, Bool.and_eq_true] at h
  by_cases e : k = n
  ·subst e; exact h.1
  ·exact ih h.2 k (by omega)

theorem qc0 : allB (fun a => Nat.blt (dbl a) 256) 256 = true := by kernel_rfl
theorem qa7 (a : Nat) (h : a < 256) : dbl a < 256 := by simpa [Nat.blt_eq] using qa5 qc0 a h

theorem qau (a b k : Nat) : (a ^^^ b) / 2 ^ k = a / 2 ^ k ^^^ b / 2 ^ k := by
 simp only [← Nat.shiftRight_eq_div_pow, Nat.shiftRight_xor_distrib]
theorem xor_half (a b : Nat) : (a ^^^ b) / 2 = a / 2 ^^^ b / 2 := by simpa using qau a b 1
theorem qcg (a b : Nat) (ha : a < 256) (hb : b < 256) : dbl (a ^^^ b) = dbl a ^^^ dbl b := by
 unfold dbl
 have e : (a ^^^ b) / 128 = a / 128 ^^^ b / 128 := by simpa using qau a b 7
 have e2 : 2 * (a ^^^ b) = 2 * a ^^^ 2 * b := by
  have := Nat.shiftLeft_xor_distrib (a := a) (b := b) (i := 1)
  simpa [Nat.shiftLeft_eq, Nat.mul_comm] using this
 have hx : a / 128 = 0 ∨ a / 128 = 1 := by omega
 have hy : b / 128 = 0 ∨ b / 128 = 1 := by omega
 rw [e, e2]
 rcases hx with hx | hx <;> rcases hy with hy | hy <;> rw [hx, hy] <;> simp
 ·rw [Nat.xor_assoc]
 ·rw [Nat.xor_assoc, Nat.xor_comm (2 * b), ← Nat.xor_assoc]
 ·rw [Nat.xor_assoc (2 * a), ← Nat.xor_assoc 285, Nat.xor_comm 285, Nat.xor_assoc (2 * b), Nat.xor_self, Nat.xor_zero]
theorem qaf (b a : Nat) (h : a < 256) : b % 2 * a < 256 := by
 have : b % 2 = 0 ∨ b % 2 = 1 := by omega
 rcases this with e | e <;> rw [e] <;> omega
theorem xor_lt (a b : Nat) (ha : a < 256) (hb : b < 256) : a ^^^ b < 256 := Nat.xor_lt_two_pow (n := 8) ha hb
theorem sm_lt (n : Nat) : ∀ a b, a < 256 → sm n a b < 256 := by
 induction n with
 | zero => intro a b _; simp [sm]
 | succ n ih => intro a b h; exact xor_lt _ _ (qaf b a h) (ih _ _ (qa7 a h))
theorem xor4 (a b c d : Nat) : (a ^^^ b) ^^^ (c ^^^ d) = (a ^^^ c) ^^^ (b ^^^ d) := by
 rw [Nat.xor_assoc, ← Nat.xor_assoc b, Nat.xor_comm b c, Nat.xor_assoc c, ← Nat.xor_assoc a]
theorem qab (b c a : Nat) : (b ^^^ c) % 2 * a = (b % 2 * a) ^^^ (c % 2 * a) := by
 have e : (b ^^^ c) % 2 = b % 2 ^^^ c % 2 := Nat.xor_mod_two_pow (n := 1)
 have hb : b % 2 = 0 ∨ b % 2 = 1 := by omega
 have hc : c % 2 = 0 ∨ c % 2 = 1 := by omega
 rw [e]
 rcases hb with hb | hb <;> rcases hc with hc | hc <;> rw [hb, hc] <;> simp
theorem qb9 (c a b : Nat) : c % 2 * (a ^^^ b) = (c % 2 * a) ^^^ (c % 2 * b) := by
 have hc : c % 2 = 0 ∨ c % 2 = 1 := by omega
 rcases hc with hc | hc <;> rw [hc] <;> simp
/-- A product of a sum is the sum of the products. -/
theorem sm_xor_r (n : Nat) : ∀ a b c, sm n a (b ^^^ c) = sm n a b ^^^ sm n a c := by
 induction n with
 | zero => intro a b c; simp [sm]
 | succ n ih => intro a b c; simp only [sm]; rw [qab, xor_half, ih, xor4]
theorem sm_xor_l (n : Nat) : ∀ a b c, a < 256 → b < 256 → sm n (a ^^^ b) c = sm n a c ^^^ sm n b c := by
 induction n with
 | zero => intro a b c _ _; simp [sm]
 | succ n ih => intro a b c ha hb; simp only [sm]; rw [qb9, qcg a b ha hb, ih _ _ _ (qa7 a ha) (qa7 b hb), xor4]
theorem qak (n : Nat) : ∀ b, sm n 0 b = 0 := by
 induction n with
 | zero => intro b; rfl
 | succ n ih => intro b; simp only [sm]; rw [show dbl 0 = 0 from rfl, ih]; simp
theorem qb1 (n : Nat) : ∀ a, sm n a 0 = 0 := by
 induction n with
 | zero => intro a; rfl
 | succ n ih => intro a; simp only [sm]; rw [show 0 / 2 = 0 from rfl, ih]; simp
theorem sm_bit (n c a b : Nat) : sm n (c % 2 * a) b = c % 2 * sm n a b := by
 have hc : c % 2 = 0 ∨ c % 2 = 1 := by omega
 rcases hc with hc | hc <;> rw [hc] <;> simp [qak]
theorem dbl_bit (c a : Nat) : dbl (c % 2 * a) = c % 2 * dbl a := by
 have hc : c % 2 = 0 ∨ c % 2 = 1 := by omega
 rcases hc with hc | hc <;> rw [hc] <;> simp [show dbl 0 = 0 from rfl]
theorem sm_dbl (n : Nat) : ∀ a b, a < 256 → sm n (dbl a) b = dbl (sm n a b) := by
 induction n with
 | zero => intro a b _; simp [sm, dbl]
 | succ n ih =>
  intro a b h
  simp only [sm]
  rw [qcg _ _ (qaf b a h) (sm_lt n _ _ (qa7 a h)), dbl_bit, ih _ _ (qa7 a h)]
theorem sm_sm (n : Nat) : ∀ m a b c, a < 256 → sm n (sm m a b) c = sm m (sm n a c) b := by
 induction n with
 | zero => intro m a b c _; simp [sm, qak]
 | succ n ih =>
  intro m a b c h
  simp only [sm]
  rw [sm_xor_l m _ _ _ (qaf c a h) (sm_lt n _ _ (qa7 a h)), sm_bit, ← sm_dbl m a b h, ih m _ _ _ (qa7 a h)]
theorem one_all : allB (fun b => Nat.beq (sm 8 1 b) b) 256 = true := by kernel_rfl
theorem qbj (b : Nat) (h : b < 256) : fm 1 b = b := by
 have := qa5 one_all b h
 simpa [Nat.beq_eq, fm] using this
theorem qba (a b : Nat) (h : a < 256) : fm a b < 256 := sm_lt 8 a b h
theorem qa8 (a b : Nat) (ha : a < 256) (hb : b < 256) : fm a b = fm b a := by
 have h1 := qbj a ha
 have h2 := qbj b hb
 unfold fm at *
 have h3 := sm_sm 8 8 1 a b (by decide)
 rw [h1, h2] at h3
 exact h3
theorem qb2 (a : Nat) (h : a < 256) : fm a 1 = a := by rw [qa8 a 1 h (by decide), qbj a h]
theorem qaj (a b c : Nat) (ha : a < 256) (hb : b < 256) : fm (fm a b) c = fm a (fm b c) := by
 rw [qa8 a (fm b c) ha (qba b c hb), qa8 a b ha hb]
 exact sm_sm 8 8 b a c hb
theorem fm_xor (a b c : Nat) : fm a (b ^^^ c) = fm a b ^^^ fm a c := sm_xor_r 8 a b c
theorem zero_fm (b : Nat) : fm 0 b = 0 := qak 8 b
theorem fm_zero (a : Nat) : fm a 0 = 0 := qb1 8 a

/-! ### Powers of 2 -/
/-- The power of 2 with the exponent n. -/
def g : Nat → Nat
 | 0 => 1
 | n + 1 => dbl (g n)
theorem g_lt (n : Nat) : g n < 256 := by
 induction n with
 | zero => decide
 | succ n ih => exact qa7 _ ih
theorem fm_dbl_l (a b : Nat) (h : a < 256) : fm (dbl a) b = dbl (fm a b) := sm_dbl 8 a b h
theorem fm_dbl_r (a b : Nat) (ha : a < 256) (hb : b < 256) : fm a (dbl b) = dbl (fm a b) := by
 rw [qa8 a _ ha (qa7 b hb), fm_dbl_l b a hb, qa8 b a hb ha]
theorem fm_g (m n : Nat) : fm (g m) (g n) = g (m + n) := by
 induction n with
 | zero => exact qb2 _ (g_lt m)
 | succ n ih => rw [show g (n + 1) = dbl (g n) from rfl, fm_dbl_r _ _ (g_lt m) (g_lt n), ih]; rfl
theorem g_255 : g 255 = 1 := by kernel_rfl
theorem g_period (n : Nat) : g (n + 255) = g n := by rw [← fm_g, g_255, qb2 _ (g_lt n)]
theorem g_mul (k n : Nat) : g (n + 255 * k) = g n := by
 induction k with
 | zero => rfl
 | succ k ih => rw [show n + 255 * (k + 1) = (n + 255 * k) + 255 by omega, g_period, ih]
theorem g_mod (n : Nat) : g (n % 255) = g n := by
 have := g_mul (n / 255) (n % 255)
 rw [Nat.mod_add_div] at this
 exact this.symm
/-- The exponent with which the power of 2 is a: looked for from n on, p being the power n. -/
def lgGo (a : Nat) : Nat → Nat → Nat → Nat
 | 0, _, _ => 0
 | f + 1, p, n => bif Nat.beq p a then n else lgGo a f (dbl p) (n + 1)
def lg (a : Nat) : Nat := lgGo a 255 1 0
theorem lg_all : allB (fun a => Nat.beq a 0 || (Nat.blt (lg a) 255 && Nat.beq (g (lg a)) a)) 256 = true := by kernel_rfl
theorem qbk : allB (fun n => Nat.beq (lg (g n)) n && Nat.blt 0 (g n)) 255 = true := by kernel_rfl
theorem qch (a : Nat) (h : a < 256) (h0 : a ≠ 0) : lg a < 255 ∧ g (lg a) = a := by
 have := qa5 lg_all a h
 simp only [Bool.or_eq_true, Bool.and_eq_true, Nat.beq_eq, Nat.blt_eq] at this
 omega
theorem lg_g (n : Nat) (h : n < 255) : lg (g n) = n := by
 have := qa5 qbk n h
 simp only [Bool.and_eq_true, Nat.beq_eq, Nat.blt_eq] at this
 exact this.1
theorem g_pos (n : Nat) : g n ≠ 0 := by
 rw [← g_mod]
 have := qa5 qbk (n % 255) (by omega)
 simp only [Bool.and_eq_true, Nat.beq_eq, Nat.blt_eq] at this
 omega
/-- The inverse; of 0 it is 0. -/
def finv (a : Nat) : Nat := if a = 0 then 0 else g (255 - lg a)
theorem qac (a : Nat) : finv a < 256 := by unfold finv; split; decide; exact g_lt _
theorem qbb (a : Nat) (h : a < 256) (h0 : a ≠ 0) : fm a (finv a) = 1 := by
 unfold finv
 rw [if_neg h0]
 have := qch a h h0
 have e := fm_g (lg a) (255 - lg a)
 rw [this.2, show lg a + (255 - lg a) = 255 by omega, g_255] at e
 exact e
theorem qc7 (a b : Nat) (ha : a < 256) (hb : b < 256) (h : fm a b = 1) : a ≠ 0 ∧ b = finv a := by
 have h0 : a ≠ 0 := by rintro rfl; rw [zero_fm] at h; omega
 refine ⟨h0, ?_⟩
 have e := qaj (finv a) a b (qac a) ha
 rw [h, qb2 _ (qac a), qa8 _ _ (qac a) ha, qbb a ha h0, qbj b hb] at e
 exact e

/-! ### The same, over Int, as a walk has it -/
/-- A byte. -/
def Byte (x : Int) : Prop := 0 ≤ x ∧ x < 256
def ixor (a b : Int) : Int := (a.toNat ^^^ b.toNat : Nat)
def idbl (a : Int) : Int := (dbl a.toNat : Nat)
theorem byte_nat (n : Nat) (h : n < 256) : Byte n := ⟨by omega, by omega⟩
theorem xor_u8 (a b : Int) (ha : Byte a) (hb : Byte b) : bits .xor .u8 a b = ixor a b := by
 unfold Byte at ha hb
 exact u8_xor a b ha.1 ha.2 hb.1 hb.2
theorem qal (y : Nat) (h : y < 256) : bits .and .u8 (y : Int) 1 = ((y % 2 : Nat) : Int) := by
 have := u8_and_nat y 1 h (by decide)
 rw [nat_mask1] at this
 exact this
theorem qci (a : Nat) (h : a < 128) : dbl a = 2 * a := by
 unfold dbl; rw [show a / 128 = 0 by omega]; simp
theorem dbl_big (a : Nat) (h : 128 ≤ a) (h2 : a < 256) : dbl a = 2 * a % 256 ^^^ 29 := by
 have : allB (fun a => Nat.blt a 128 || Nat.beq (dbl a) (2 * a % 256 ^^^ 29)) 256 = true := by kernel_rfl
 have := qa5 this a h2
 simp only [Bool.or_eq_true, Nat.beq_eq, Nat.blt_eq] at this
 omega
theorem qc8 (a : Int) (h0 : 0 ≤ a) (h : a < 128) : idbl a = a * 2 := by
 unfold idbl; rw [qci _ (by omega)]; omega
theorem idbl_big (a : Int) (h : 128 ≤ a) (h2 : a < 256) : bits .xor .u8 (a * 2 % 256) 29 = idbl a := by
 rw [xor_u8 _ _ ⟨by omega, by omega⟩ ⟨by omega, by omega⟩]
 unfold idbl ixor
 rw [dbl_big _ (by omega) (by omega)]
 rw [show (a * 2 % 256).toNat = 2 * a.toNat % 256 by omega]
 rfl
/-- One round of the product's loop. -/
theorem qbl (n x y z v : Nat) (h : z ^^^ sm (n + 1) x y = v) : (z ^^^ (y % 2 * x)) ^^^ sm n (dbl x) (y / 2) = v := by
 rw [← h, Nat.xor_assoc]; rfl

/-! ### The reference's product: the product of the polynomials, and its remainder -/
def cl (a b : Nat) : Nat → Nat
 | 0 => 0
 | k + 1 => cl a b k ^^^ (b / 2 ^ k % 2 * (a * 2 ^ k))
def rd : Nat → Nat → Nat
 | 0, z => z
 | m + 1, z => rd m (z ^^^ (z / 2 ^ (m + 8) % 2 * (285 * 2 ^ m)))
theorem cl_xor (a b c : Nat) : ∀ k, cl a (b ^^^ c) k = cl a b k ^^^ cl a c k := by
 intro k
 induction k with
 | zero => simp [cl]
 | succ k ih => simp only [cl]; rw [ih, qau, qab, xor4]
theorem rd_xor (m : Nat) : ∀ x y, rd m (x ^^^ y) = rd m x ^^^ rd m y := by
 induction m with
 | zero => intro x y; rfl
 | succ m ih => intro x y; simp only [rd]; rw [qau, qab, xor4, ih]
/-- Two functions that go through sums, and are alike at the powers of 2 below 256, are alike at all bytes. -/
theorem alike {F G : Nat → Nat} (hF : ∀ x y, F (x ^^^ y) = F x ^^^ F y) (hG : ∀ x y, G (x ^^^ y) = G x ^^^ G y) (h : ∀ k, k < 8 → F (2 ^ k) = G (2 ^ k)) : ∀ b, b < 256 → F b = G b := by
 have z : ∀ {F : Nat → Nat}, (∀ x y, F (x ^^^ y) = F x ^^^ F y) → F 0 = 0 := by
  intro F hF
  have := hF 0 0
  simpa using this
 have up : ∀ n b, n ≤ 8 → F (cl 1 b n) = G (cl 1 b n) := by
  intro n b
  induction n with
  | zero => intro _; simp only [cl]; rw [z hF, z hG]
  | succ n ih =>
   intro hn
   simp only [cl]
   rw [hF, hG, ih (by omega)]
   have hc : b / 2 ^ n % 2 = 0 ∨ b / 2 ^ n % 2 = 1 := by omega
   rcases hc with hc | hc <;> rw [hc]
   ·rw [Nat.zero_mul, z hF, z hG]
   ·rw [Nat.one_mul, Nat.one_mul, h n (by omega)]
 intro b hb
 have d : allB (fun b => Nat.beq (cl 1 b 8) b) 256 = true := by kernel_rfl
 have e := qa5 d b hb
 simp only [Nat.beq_eq] at e
 have := up 8 b (by omega)
 rwa [e] at this
theorem qb3 : allB (fun a => allB (fun k => Nat.beq (rd 7 (cl a (2 ^ k) 8)) (fm a (2 ^ k))) 8) 256 = true := by kernel_rfl
theorem rmul_eq (a b : Nat) (ha : a < 256) (hb : b < 256) : rd 7 (cl a b 8) = fm a b := by
 refine alike (F := fun b => rd 7 (cl a b 8)) (G := fm a) (fun x y => ?_) (fm_xor a) (fun k hk => ?_) b hb
 ·show rd 7 (cl a (x ^^^ y) 8) = _
  rw [cl_xor, rd_xor]
 ·have := qa5 (qa5 qb3 a ha) k hk
  simpa only [Nat.beq_eq] using this
theorem qae (a : Nat) (ha : a < 9223372036854775808) : (BitVec.ofInt 64 (a : Int)).toNat = a := by
 rw [BitVec.ofInt_natCast, BitVec.toNat_ofNat]; exact Nat.mod_eq_of_lt (by omega)
theorem qam (a b : Nat) (ha : a < 9223372036854775808) (hb : b < 9223372036854775808) : bits .xor .i64 (a : Int) (b : Int) = ((a ^^^ b : Nat) : Int) := by
 have hx : a ^^^ b < 2 ^ 63 := Nat.xor_lt_two_pow (by omega) (by omega)
 show IntKind.i64.wrap ((BitVec.ofInt 64 (a : Int) ^^^ BitVec.ofInt 64 (b : Int)).toNat : Int) = _
 rw [BitVec.toNat_xor, qae a ha, qae b hb, IntKind.wrap_i64]
 omega
theorem qbc (a b : Nat) (ha : a < 9223372036854775808) (hb : b < 9223372036854775808) : bits .and .i64 (a : Int) (b : Int) = ((a &&& b : Nat) : Int) := by
 have hx : a &&& b < 2 ^ 63 := Nat.and_lt_two_pow _ (by omega)
 show IntKind.i64.wrap ((BitVec.ofInt 64 (a : Int) &&& BitVec.ofInt 64 (b : Int)).toNat : Int) = _
 rw [BitVec.toNat_and, qae a ha, qae b hb, IntKind.wrap_i64]
 omega
theorem bit_u8 (b k : Nat) (hb : b < 256) : bits .and .u8 ((b : Int) / 2 ^ k) 1 = ((b / 2 ^ k % 2 : Nat) : Int) := by
 have h : b / 2 ^ k < 256 := Nat.lt_of_le_of_lt (Nat.div_le_self _ _) hb
 have e : ((b : Int) / 2 ^ k) = ((b / 2 ^ k : Nat) : Int) := by simp
 rw [e]
 exact qal _ h
theorem bit_i64 (z k : Nat) (hz : z < 32768) : bits .and .i64 ((z : Int) / 2 ^ k) 1 = ((z / 2 ^ k % 2 : Nat) : Int) := by
 have h : z / 2 ^ k < 32768 := Nat.lt_of_le_of_lt (Nat.div_le_self _ _) hz
 have e : ((z : Int) / 2 ^ k) = ((z / 2 ^ k : Nat) : Int) := by simp
 have := qbc (z / 2 ^ k) 1 (by omega) (by decide)
 rw [nat_mask1] at this
 rw [e]
 exact this
theorem qcj (a k c : Nat) (ha : a ≤ c) (hc : c * 128 < 9223372036854775808) (hk : k < 8) : wrap64 ((a : Int) * 2 ^ k) = ((a * 2 ^ k : Nat) : Int) ∧ a * 2 ^ k < 9223372036854775808 := by
 have : 2 ^ k ≤ 2 ^ 7 := Nat.pow_le_pow_right (by omega) (by omega)
 have h2 : a * 2 ^ k ≤ c * 2 ^ 7 := Nat.mul_le_mul ha this
 have e : ((a : Int) * 2 ^ k) = ((a * 2 ^ k : Nat) : Int) := by simp
 rw [e]
 exact ⟨by unfold wrap64; omega, by omega⟩
theorem qck (a z k : Nat) (ha : a < 256) (hz : z < 32768) (hk : k < 8) : bits .xor .i64 (z : Int) (wrap64 ((a : Int) * 2 ^ k)) = ((z ^^^ a * 2 ^ k : Nat) : Int) := by
 obtain ⟨e, l⟩ := qcj a k 255 (by omega) (by omega) hk
 rw [e]
 exact qam _ _ (by omega) l
theorem qbd (z m : Nat) (hz : z < 32768) (hm : m < 7) : bits .xor .i64 (z : Int) (wrap64 (285 * 2 ^ m)) = ((z ^^^ 285 * 2 ^ m : Nat) : Int) := by
 obtain ⟨e, l⟩ := qcj 285 m 285 (by omega) (by omega) (by omega)
 have e' : wrap64 (285 * 2 ^ m) = ((285 * 2 ^ m : Nat) : Int) := e
 rw [e']
 exact qam _ _ (by omega) l
theorem qc9 (a k z b : Nat) (ha : a < 256) (hk : k < 8) (hz : z < 32768) : z ^^^ (b % 2 * (a * 2 ^ k)) < 32768 := by
 refine Nat.xor_lt_two_pow (n := 15) hz ?_
 have : 2 ^ k ≤ 2 ^ 7 := Nat.pow_le_pow_right (by omega) (by omega)
 have h2 : a * 2 ^ k ≤ 255 * 2 ^ 7 := Nat.mul_le_mul (by omega) this
 have hc : b % 2 = 0 ∨ b % 2 = 1 := by omega
 rcases hc with hc | hc <;> rw [hc] <;> omega
theorem qca (m z b : Nat) (hm : m < 7) (hz : z < 32768) : z ^^^ (b % 2 * (285 * 2 ^ m)) < 32768 := by
 refine Nat.xor_lt_two_pow (n := 15) hz ?_
 have : 2 ^ m ≤ 2 ^ 6 := Nat.pow_le_pow_right (by omega) (by omega)
 have h2 : 285 * 2 ^ m ≤ 285 * 2 ^ 6 := Nat.mul_le_mul (by omega) this
 have hc : b % 2 = 0 ∨ b % 2 = 1 := by omega
 rcases hc with hc | hc <;> rw [hc] <;> omega
end Go.Proofs.Ythdgpmanijifoaa
