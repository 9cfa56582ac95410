/-
  Contract of the polynomials' reference: FromRoots.
-/
import Derived.Test.YthpjedoolbfjfabRg
namespace Go.Proofs.Ythpjedoolbfjfab
open Go.RowKit
theorem rpmul_at (w : World) (a b : Option Addr) (n m c d t1 t2 T : Nat) (f h F : Nat → Nat) (ha : Lk w a n c f) (hb : Lk w b m d h) (H1 : Hid (tlen f n = t1)) (H2 : Hid (tlen h m = t2)) (hl1 : t1 ≤ 512) (hl2 : t2 ≤ 512) (hsum : t1 = 0 ∨ t2 = 0 ∨ t1 + t2 ≤ 513)
    (HT : Hid (tlen F (t1 + t2) = T)) (HF : Hid (∀ i, pm (zx f n) (zx h m) i = F i)) :
    Calls Try.prog 23 #[.slice a n c, .slice b m d] w fun e w' => ∃ s k, e = .returned (.tuple #[.slice s T k, .int .i64 0]) ∧ Lk w' s T k F ∧ Below w.heap.size w w' ∧ From w.heap.size s := by
  have e : pm (zx f n) (zx h m) = F := funext HF.out
  have := rpmul_any w a b n m c d t1 t2 f h ha hb H1 H2 hl1 hl2 hsum
  rw [e, HT.out] at this
  exact this
theorem lit_cell (w : World) (cs : Array Value) (t : TypeId) (i : Nat) (v : Value) (h : cs[i]? = some v) : (w.alloc (.cells cs t)).cell? ⟨w.heap.size, i, none⟩ = some v := by
  rw [cell_of_row _ _ _ cs t (0, 0) (new_at w _), h]
theorem lit1_lk (w : World) (x : Nat) (f : Nat → Nat) (hx : x < 256) (h0 : f 0 = x) : Lk (w.alloc (.cells #[.int .u8 (x : Int)] 5)) (some ⟨w.heap.size, 0, none⟩) 1 1 f := by
  refine ⟨⟨fun i hi => ?_, fun i hi => ⟨_, 0, rfl, ?_⟩⟩, Nat.le_refl _, fun e => (by cases e), by omega⟩
  · rw [show i = 0 by omega, h0]; exact hx
  · obtain rfl : i = 0 := by omega
    rw [h0]; exact lit_cell w _ _ 0 _ rfl
theorem lit2_lk (w : World) (x y : Nat) (f : Nat → Nat) (hx : x < 256) (hy : y < 256) (h0 : f 0 = x) (h1 : f 1 = y) : Lk (w.alloc (.cells #[.int .u8 (x : Int), .int .u8 (y : Int)] 5)) (some ⟨w.heap.size, 0, none⟩) 2 2 f := by
  refine ⟨⟨fun i hi => ?_, fun i hi => ⟨_, 0, rfl, ?_⟩⟩, Nat.le_refl _, fun e => (by cases e), by omega⟩
  · rcases (by omega : i = 0 ∨ i = 1) with rfl | rfl
    · rw [h0]; exact hx
    · rw [h1]; exact hy
  · rcases (by omega : i = 0 ∨ i = 1) with rfl | rfl
    · rw [h0]; exact lit_cell w _ _ 0 _ rfl
    · rw [h1]; exact lit_cell w _ _ 1 _ rfl
theorem alloc_below (w : World) (o : Obj) : Below w.heap.size w (w.alloc o) := (Below.refl _ _).alloc (Nat.le_refl _) _
theorem tlen_of_top (f : Nat → Nat) (n : Nat) (h : f n ≠ 0) : tlen f (n + 1) = n + 1 := by simp only [tlen]; rw [if_neg h]
theorem tlen_ext {f : Nat → Nat} {n m : Nat} (hf : Above n f) (h : n ≤ m) : tlen f m = tlen f n := by
  induction m with
  | zero => rw [show n = 0 by omega]
  | succ m ih =>
    by_cases e : n = m + 1
    · rw [e]
    · simp only [tlen]
      rw [if_pos (hf m (by omega)), ih (by omega)]
theorem zx_self {f : Nat → Nat} {n : Nat} (hf : Above n f) (i : Nat) : zx f n i = f i := by
  unfold zx
  split
  · rfl
  · exact (hf i (by omega)).symm
/-- The product of the first k factors. -/
def fr (f : Nat → Nat) : Nat → Nat → Nat
  | 0 => uno
  | k + 1 => pm (fr f k) (lin (f k))
theorem fr_ok (f : Nat → Nat) : ∀ k, El (fr f k) ∧ Above (k + 1) (fr f k) ∧ fr f k k = 1 := by
  intro k
  induction k with
  | zero => exact ⟨Po.uno.1, fun i hi => if_neg (by omega), rfl⟩
  | succ k ih =>
    obtain ⟨h1, h2, h3⟩ := ih
    refine ⟨pm_el _ h1, fun i hi => pm_above h2 (lin_above _) i (by omega), ?_⟩
    have := pm_top h2 (lin_above (f k))
    rw [h3] at this
    show pm (fr f k) (lin (f k)) (k + 1) = 1
    rw [this]; kernel_rfl
end Go.Proofs.Ythpjedoolbfjfab
