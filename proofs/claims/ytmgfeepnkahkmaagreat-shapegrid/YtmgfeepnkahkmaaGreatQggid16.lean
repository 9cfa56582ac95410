/-
  The program's answers and the reference's, told alike: for each function what both answer.
  One product that the document fixes; what follows for products of matrices (grouped, transposed, applied, laid together); the program's answers by cases.
-/
import Derived.Test.YtmgfeepnkahkmaaGreatQggid00
import Derived.Test.YtmgfeepnkahkmaaGreatQggid15
set_option maxRecDepth 100000
set_option maxHeartbeats 16000000
namespace Go.Proofs.YtmgfeepnkahkmaaGreat
open Go.RowKit
theorem qfr {p : Prop} (h : p) : Hid p := h
theorem qk4 {F : Nat → Nat} (X : Nat → Nat) {r c n : Nat} (hF : ∀ i, i < n → F i < 256) (R : Rt r c n) : ∀ i, i < r → apf F X c i < 256 := fun _ hi => qep fun _ ht => qai _ _ (hF _ (R.at hi ht))
theorem trf_all {F : Nat → Nat} {r c n : Nat} (hF : ∀ i, i < n → F i < 256) (R : Rt r c n) : ∀ p, p < n → trf F r c p < 256 := by
 intro p hp
 have hl := R.len
 have hr : 0 < r := by
  rcases Nat.eq_zero_or_pos r with rfl | h
  ·omega
  ·exact h
 unfold trf
 exact hF _ (R.at (Nat.mod_lt p hr) ((Nat.div_lt_iff_lt_mul hr).2 (by rw [Nat.mul_comm, hl]; exact hp)))
theorem krf_all {F : Nat → Nat} (G : Nat → Nat) {ra ca rb cb na RR CC n : Nat} (hF : ∀ i, i < na → F i < 256) (RA : Rt ra ca na) (eR : ra * rb = RR) (eC : ca * cb = CC) (RC : Rt RR CC n) : ∀ p, p < n → krf F G ca rb cb CC p < 256 := by
 intro p hp
 rw [← RC.len, ← eR] at hp
 have hC : 0 < CC := by
  rcases Nat.eq_zero_or_pos CC with rfl | h
  ·omega
  ·exact h
 have hq : p / CC < ra * rb := (Nat.div_lt_iff_lt_mul hC).2 hp
 have hrb : 0 < rb := by
  rcases Nat.eq_zero_or_pos rb with rfl | h
  ·omega
  ·exact h
 have hcb : 0 < cb := by
  rcases Nat.eq_zero_or_pos cb with rfl | h
  ·omega
  ·exact h
 unfold krf
 refine qai _ _ (hF _ (RA.at ((Nat.div_lt_iff_lt_mul hrb).2 hq) ((Nat.div_lt_iff_lt_mul hcb).2 ?_)))
 rw [eC]
 exact Nat.mod_lt p hC
open Go.RowKit
theorem prk_at (F G : Nat → Nat) (ca cb i j : Nat) (hj : j < cb) : prk F G ca cb ca (i * cb + j) = xs (fun t => fm (F (i * ca + t)) (G (t * cb + j))) ca := prk_row F G ca cb i j hj
theorem xs_app (f : Nat → Nat) (a b : Nat) : xs f (a + b) = xs f a ^^^ xs (fun t => f (a + t)) b := by
 induction b with
 | zero => simp [xs]
 | succ b ih => rw [← Nat.add_assoc]; simp only [xs]; rw [ih, Nat.xor_assoc]
theorem xs_prod (f : Nat → Nat) (a b : Nat) : xs f (a * b) = xs (fun s => xs (fun t => f (s * b + t)) b) a := by
 induction a with
 | zero => rw [Nat.zero_mul]; rfl
 | succ a ih => rw [Nat.add_mul, Nat.one_mul, xs_app, ih]; rfl
theorem qbi (s b t : Nat) (h : t < b) : (s * b + t) / b = s ∧ (s * b + t) % b = t :=
 ⟨by rw [Nat.mul_comm, Nat.mul_add_div (by omega), Nat.div_eq_of_lt h, Nat.add_zero], by rw [Nat.mul_comm, Nat.mul_add_mod, Nat.mod_eq_of_lt h]⟩
theorem lt_prod {s t a b : Nat} (hs : s < a) (ht : t < b) : s * b + t < a * b :=
 Nat.lt_of_lt_of_le (show s * b + t < (s + 1) * b by rw [Nat.add_mul, Nat.one_mul]; omega) (Nat.mul_le_mul_right b hs)
/-- Every number below a product is a pair. -/
theorem qk5 {a b p : Nat} (hp : p < a * b) : ∃ s t, s < a ∧ t < b ∧ p = s * b + t := by
 have hb : 0 < b := by
  rcases Nat.eq_zero_or_pos b with rfl | h
  ·omega
  ·exact h
 refine ⟨p / b, p % b, (Nat.div_lt_iff_lt_mul hb).2 hp, Nat.mod_lt p hb, ?_⟩
 have := Nat.div_add_mod p b
 rw [Nat.mul_comm] at this
 exact this.symm
theorem krf_pair (F G : Nat → Nat) (ca rb cb CC i k j l : Nat) (eC : ca * cb = CC) (hk : k < rb) (hj : j < ca) (hl : l < cb) : krf F G ca rb cb CC ((i * rb + k) * CC + (j * cb + l)) = fm (F (i * ca + j)) (G (k * cb + l)) := by
 have h := lt_prod hj hl
 rw [eC] at h
 rw [krf_at F G ca rb cb CC _ _ h, (qbi i rb k hk).1, (qbi i rb k hk).2, (qbi j cb l hl).1, (qbi j cb l hl).2]
end Go.Proofs.YtmgfeepnkahkmaaGreat
