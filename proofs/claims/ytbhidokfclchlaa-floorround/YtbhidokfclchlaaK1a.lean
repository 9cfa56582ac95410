/-
  Whole numbers as floats: what sums, products, orders and cuts of small ones are.
-/
import Derived.Laws.ComplexArith
namespace Go.Proofs.Ytbhidokfclchlaa

/-- The word of a whole number from -16 to 16. -/
def fwd (n : Int) : Nat := Ieee.double.nearest (decide (n < 0)) n.natAbs 0

/-- The word x is the whole number n (either nought is 0). -/
def Fw (x : Nat) (n : Int) : Prop := x = fwd n ∨ (n = 0 ∧ x = 2 ^ 63)

def wds (n : Int) : List Nat := if n = 0 then [fwd 0, 2 ^ 63] else [fwd n]

theorem fw_mem {x : Nat} {n : Int} : Fw x n ↔ x ∈ wds n := by
  unfold Fw wds
  split
  · rename_i h; subst h; simp
  · rename_i h; simp [h]

def rng (k : Nat) : List Int := (List.range (2 * k + 1)).map fun (i : Nat) => (i : Int) - (k : Int)

theorem mem_rng {k : Nat} {n : Int} (h1 : -(k : Int) ≤ n) (h2 : n ≤ (k : Int)) : n ∈ rng k := by
  unfold rng
  rw [List.mem_map]
  exact ⟨(n + k).toNat, by rw [List.mem_range]; omega, by omega⟩

def opOk (op : Nat → Nat → Option Nat) (g : Int → Int → Int) (k : Nat) : Bool :=
  (rng k).all fun a => (rng k).all fun b => (wds a).all fun x => (wds b).all fun y =>
    match op x y with
    | some r => (wds (g a b)).contains r
    | none => false

theorem opOk_use {op : Nat → Nat → Option Nat} {g : Int → Int → Int} {k : Nat} (h : opOk op g k = true) {x y : Nat} {a b : Int} (hx : Fw x a) (hy : Fw y b)
    (ha : -(k : Int) ≤ a ∧ a ≤ (k : Int)) (hb : -(k : Int) ≤ b ∧ b ≤ (k : Int)) : ∃ r, op x y = some r ∧ Fw r (g a b) := by
  unfold opOk at h
  rw [List.all_eq_true] at h
  have h1 := h a (mem_rng ha.1 ha.2)
  rw [List.all_eq_true] at h1
  have h2 := h1 b (mem_rng hb.1 hb.2)
  rw [List.all_eq_true] at h2
  have h3 := h2 x (fw_mem.1 hx)
  rw [List.all_eq_true] at h3
  have h4 := h3 y (fw_mem.1 hy)
  cases e : op x y with
  | none => rw [e] at h4; cases h4
  | some r =>
    rw [e] at h4
    exact ⟨r, rfl, fw_mem.2 (by simpa using h4)⟩

set_option maxRecDepth 100000 in
theorem add_ok : opOk Ieee.double.add (fun a b => a + b) 12 = true := by decide +kernel
set_option maxRecDepth 100000 in
theorem sub_ok : opOk Ieee.double.sub (fun a b => a - b) 12 = true := by decide +kernel
set_option maxRecDepth 100000 in
theorem mul_ok : opOk Ieee.double.mul (fun a b => a * b) 8 = true := by decide +kernel


def ordOk (k : Nat) : Bool :=
  (rng k).all fun a => (rng k).all fun b => (wds a).all fun x => (wds b).all fun y =>
    Ieee.double.order x y == some (compare a b)

set_option maxRecDepth 100000 in
theorem ord_ok : ordOk 12 = true := by decide +kernel

theorem fw_order {x y : Nat} {a b : Int} (hx : Fw x a) (hy : Fw y b)
    (ha : -12 ≤ a ∧ a ≤ 12) (hb : -12 ≤ b ∧ b ≤ 12) : FloatKind.f64.format.order x y = some (compare a b) := by
  have h := ord_ok
  unfold ordOk at h
  rw [List.all_eq_true] at h
  have h1 := h a (mem_rng ha.1 ha.2)
  rw [List.all_eq_true] at h1
  have h2 := h1 b (mem_rng hb.1 hb.2)
  rw [List.all_eq_true] at h2
  have h3 := h2 x (fw_mem.1 hx)
  rw [List.all_eq_true] at h3
  have h4 := h3 y (fw_mem.1 hy)
  exact eq_of_beq h4

def oneOk (p : Nat → Int → Bool) (k : Nat) : Bool := (rng k).all fun a => (wds a).all fun x => p x a

theorem oneOk_use {p : Nat → Int → Bool} {k : Nat} (h : oneOk p k = true) {x : Nat} {a : Int} (hx : Fw x a)
    (ha : -(k : Int) ≤ a ∧ a ≤ (k : Int)) : p x a = true := by
  unfold oneOk at h
  rw [List.all_eq_true] at h
  have h1 := h a (mem_rng ha.1 ha.2)
  rw [List.all_eq_true] at h1
  exact h1 x (fw_mem.1 hx)

theorem fw_add {x y : Nat} {a b : Int} (hx : Fw x a) (hy : Fw y b) (ha : -12 ≤ a ∧ a ≤ 12) (hb : -12 ≤ b ∧ b ≤ 12) :
    ∃ r, floatBits .add .f64 x y = some r ∧ Fw r (a + b) := opOk_use add_ok hx hy ha hb
theorem fw_sub {x y : Nat} {a b : Int} (hx : Fw x a) (hy : Fw y b) (ha : -12 ≤ a ∧ a ≤ 12) (hb : -12 ≤ b ∧ b ≤ 12) :
    ∃ r, floatBits .sub .f64 x y = some r ∧ Fw r (a - b) := opOk_use sub_ok hx hy ha hb
theorem fw_mul {x y : Nat} {a b : Int} (hx : Fw x a) (hy : Fw y b) (ha : -8 ≤ a ∧ a ≤ 8) (hb : -8 ≤ b ∧ b ≤ 8) :
    ∃ r, floatBits .mul .f64 x y = some r ∧ Fw r (a * b) := opOk_use mul_ok hx hy ha hb

theorem fw_csum {a b c d : Nat} {m n p q : Int} (h1 : Fw a m) (h2 : Fw b n) (h3 : Fw c p) (h4 : Fw d q) (l1 : -12 ≤ m ∧ m ≤ 12) (l2 : -12 ≤ n ∧ n ≤ 12)
    (l3 : -12 ≤ p ∧ p ≤ 12) (l4 : -12 ≤ q ∧ q ≤ 12) : ∃ x y, cSumBits .add .f64 a b c d = some (x, y) ∧ Fw x (m + p) ∧ Fw y (n + q) := by
  obtain ⟨x, hx, fx⟩ := fw_add h1 h3 l1 l3
  obtain ⟨y, hy, fy⟩ := fw_add h2 h4 l2 l4
  exact ⟨x, y, by simp [cSumBits, hx, hy], fx, fy⟩

theorem fw_cdiff {a b c d : Nat} {m n p q : Int} (h1 : Fw a m) (h2 : Fw b n) (h3 : Fw c p) (h4 : Fw d q) (l1 : -12 ≤ m ∧ m ≤ 12) (l2 : -12 ≤ n ∧ n ≤ 12)
    (l3 : -12 ≤ p ∧ p ≤ 12) (l4 : -12 ≤ q ∧ q ≤ 12) : ∃ x y, cSumBits .sub .f64 a b c d = some (x, y) ∧ Fw x (m - p) ∧ Fw y (n - q) := by
  obtain ⟨x, hx, fx⟩ := fw_sub h1 h3 l1 l3
  obtain ⟨y, hy, fy⟩ := fw_sub h2 h4 l2 l4
  exact ⟨x, y, by simp [cSumBits, hx, hy], fx, fy⟩

/-- A step turned left. -/
theorem fw_turn {a b c d : Nat} {m n : Int} (h1 : Fw a m) (h2 : Fw b n) (h3 : Fw c 0) (h4 : Fw d 1) (l1 : -8 ≤ m ∧ m ≤ 8) (l2 : -8 ≤ n ∧ n ≤ 8) :
    ∃ x y, cMulBits a b c d = some (x, y) ∧ Fw x (-n) ∧ Fw y m := by
  obtain ⟨ac, e1, f1⟩ := fw_mul h1 h3 l1 (by omega)
  obtain ⟨bd, e2, f2⟩ := fw_mul h2 h4 l2 (by omega)
  rw [Int.mul_zero] at f1
  rw [Int.mul_one] at f2
  obtain ⟨x, e3, f3⟩ := fw_sub f1 f2 (by omega) (by omega)
  obtain ⟨ad, e4, f4⟩ := fw_mul h1 h4 l1 (by omega)
  obtain ⟨bc, e5, f5⟩ := fw_mul h2 h3 l2 (by omega)
  rw [Int.mul_one] at f4
  rw [Int.mul_zero] at f5
  obtain ⟨y, e6, f6⟩ := fw_add f4 f5 (by omega) (by omega)
  rw [Int.zero_sub] at f3
  rw [Int.add_zero] at f6
  exact ⟨x, y, by simp [cMulBits, e1, e2, e3, e4, e5, e6], f3, f6⟩

set_option maxRecDepth 100000 in
theorem int_ok : oneOk (fun x a => decide (floatToIntVal .f64 x .i64 = some a)) 20 = true := by decide +kernel
set_option maxRecDepth 100000 in
theorem tr_ok : oneOk (fun x a => (wds a).contains (FloatKind.f64.encode ((FloatKind.f64.decode x).integral .zero))) 12 = true := by decide +kernel
set_option maxRecDepth 100000 in
theorem nn_ok : oneOk (fun x _ => match FloatKind.f64.decode x with | .number .. => true | _ => false) 12 = true := by decide +kernel
set_option maxRecDepth 100000 in
theorem abs_ok : oneOk (fun x a => decide (x < 2 ^ 64) && (wds (a.natAbs : Int)).contains (x % 2 ^ 63)) 12 = true := by decide +kernel

theorem fw_int {x : Nat} {a : Int} (hx : Fw x a) (ha : -20 ≤ a ∧ a ≤ 20) : floatToIntVal .f64 x .i64 = some a := of_decide_eq_true (oneOk_use int_ok hx ha)
theorem fw_trunc {x : Nat} {a : Int} (hx : Fw x a) (ha : -12 ≤ a ∧ a ≤ 12) : Fw (FloatKind.f64.encode ((FloatKind.f64.decode x).integral .zero)) a :=
  fw_mem.2 (by simpa using oneOk_use tr_ok hx ha)
theorem fw_number {x : Nat} {a : Int} (hx : Fw x a) (ha : -12 ≤ a ∧ a ≤ 12) : ∃ s m i, FloatKind.f64.decode x = .number s m i := by
  have h := oneOk_use nn_ok hx ha
  revert h
  cases FloatKind.f64.decode x with
  | number s m i => intro _; exact ⟨s, m, i, rfl⟩
  | infinity _ => intro h; cases h
  | nan _ _ => intro h; cases h
theorem fw_abs {x : Nat} {a : Int} (hx : Fw x a) (ha : -12 ≤ a ∧ a ≤ 12) : x < 2 ^ 64 ∧ Fw (x % 2 ^ 63) (a.natAbs : Int) := by
  have h := oneOk_use abs_ok hx ha
  rw [Bool.and_eq_true] at h
  exact ⟨of_decide_eq_true h.1, fw_mem.2 (by simpa using h.2)⟩
theorem fw_of (n : Int) : Fw (floatOfInt .f64 n) n := .inl rfl

end Go.Proofs.Ytbhidokfclchlaa
