/-
  Words for the matrices' products.
-/
import Derived.Test.YtaoehildaenbnabSd
import Derived.Test.YtaoehildaenbnabPa
namespace Go.Proofs.Ytaoehildaenbnab
open Go.RowKit
/-- The sum of the first k products of row p / cb and column p % cb. -/
def prk (F G : Nat → Nat) (ca cb k p : Nat) : Nat := xs (fun t => fm (F (p / cb * ca + t)) (G (t * cb + p % cb))) k
/-- The rows so far: all before q, at q the first k products. -/
def mdf (F G : Nat → Nat) (ca cb q k p : Nat) : Nat := if p < q then prk F G ca cb ca p else if p = q then prk F G ca cb k p else 0
theorem mdf_zero (F G : Nat → Nat) (ca cb p : Nat) : mdf F G ca cb 0 0 p = 0 := by
  unfold mdf
  rw [if_neg (by omega)]
  by_cases h : p = 0
  · rw [if_pos h]; rfl
  · rw [if_neg h]
theorem mdf_next (F G : Nat → Nat) (ca cb q p : Nat) : mdf F G ca cb q ca p = mdf F G ca cb (q + 1) 0 p := by
  unfold mdf
  by_cases h1 : p < q
  · rw [if_pos h1, if_pos (by omega)]
  · by_cases h2 : p = q
    · rw [if_neg h1, if_pos h2, if_pos (by omega)]
    · rw [if_neg h1, if_neg h2, if_neg (by omega)]
      by_cases h3 : p = q + 1
      · rw [if_pos h3]; rfl
      · rw [if_neg h3]
theorem mdf_here (F G : Nat → Nat) (ca cb q k : Nat) : mdf F G ca cb q k q = prk F G ca cb k q := by
  unfold mdf
  rw [if_neg (by omega), if_pos rfl]
theorem mdf_step (F G : Nat → Nat) (ca cb q k p : Nat) : (if p = q then prk F G ca cb (k + 1) q else mdf F G ca cb q k p) = mdf F G ca cb q (k + 1) p := by
  unfold mdf
  by_cases h2 : p = q
  · subst h2
    rw [if_pos rfl, if_neg (by omega), if_pos rfl]
  · rw [if_neg h2, if_neg h2, if_neg h2]
theorem prk_succ (F G : Nat → Nat) (ca cb i j k : Nat) (hj : j < cb) : prk F G ca cb (k + 1) (i * cb + j) = prk F G ca cb k (i * cb + j) ^^^ fm (F (i * ca + k)) (G (k * cb + j)) := by
  have h1 : (i * cb + j) / cb = i := by rw [Nat.mul_comm, Nat.mul_add_div (by omega), Nat.div_eq_of_lt hj, Nat.add_zero]
  have h2 : (i * cb + j) % cb = j := by rw [Nat.mul_comm, Nat.mul_add_mod, Nat.mod_eq_of_lt hj]
  unfold prk
  show xs _ k ^^^ _ = _
  rw [h1, h2]
theorem prk_lt {F : Nat → Nat} (G : Nat → Nat) {ra ca cb n i j k : Nat} (hF : ∀ i, i < n → F i < 256) (R : Rt ra ca n) (hi : i < ra) (hj : j < cb) (hk : k ≤ ca) : prk F G ca cb k (i * cb + j) < 256 := by
  have h1 : (i * cb + j) / cb = i := by rw [Nat.mul_comm, Nat.mul_add_div (by omega), Nat.div_eq_of_lt hj, Nat.add_zero]
  unfold prk
  rw [h1]
  exact xs_lt (fun t ht => fm_lt _ _ (hF _ (R.at hi (by omega))))
theorem keepc {w w' : World} {b o : Nat} {v : Value} (hb : Below w.heap.size w w') (h : w.cell? ⟨b, o, none⟩ = some v) : w'.cell? ⟨b, o, none⟩ = some v := by rw [hb.cell (p := ⟨b, o, none⟩) (cell_lt h)]; exact h
theorem keepf {w w' : World} {b o : Nat} {v : Value} (hb : Below w.heap.size w w') (hc : w.cell? ⟨b, o, none⟩ = some v) (h : w.frozen? ⟨b, o, none⟩ = false) : w'.frozen? ⟨b, o, none⟩ = false := by
  unfold World.frozen? at *
  rw [hb.block b (cell_lt hc)]; exact h
theorem keeps {w : World} {b o g p : Nat} {v x : Value} (hne : b ≠ g) (h : w.cell? ⟨b, o, none⟩ = some x) : (w.setCell ⟨g, p, none⟩ v).cell? ⟨b, o, none⟩ = some x := (grown_setCell w g p v).cell h (by intro e; apply hne; simpa using e)
/-- What the loops of a product keep. -/
structure MInv (w wr : World) (gd g6 ra ca rb cb na nb n ka kb : Nat) (a b : Option Addr) (fn : Nat → Nat) : Prop where
  va : Vr wr w.heap.size (.int .i64 (ra : Int)) (.int .i64 (ca : Int)) (.slice a na ka)
  vb : Vr wr (w.heap.size + 1) (.int .i64 (rb : Int)) (.int .i64 (cb : Int)) (.slice b nb kb)
  vr : Vr wr (w.heap.size + 1 + 1) (.int .i64 0) (.int .i64 0) (.slice none 0 0)
  vm : Vr wr g6 (.int .i64 (ra : Int)) (.int .i64 (cb : Int)) (.slice (some ⟨gd, 0, none⟩) n n)
  data : RowAt wr gd 5 n fn
  below : Below w.heap.size w wr
  d6 : gd ≠ g6
  dlow : w.heap.size + 1 + 1 < gd
theorem MInv.congr {w wr : World} {gd g6 ra ca rb cb na nb n ka kb : Nat} {a b : Option Addr} {fn fn' : Nat → Nat} (I : MInv w wr gd g6 ra ca rb cb na nb n ka kb a b fn) (e : ∀ p, p < n → fn p = fn' p) : MInv w wr gd g6 ra ca rb cb na nb n ka kb a b fn' :=
  ⟨I.va, I.vb, I.vr, I.vm, I.data.congr e, I.below, I.d6, I.dlow⟩
theorem MInv.later {w wr w' : World} {gd g6 ra ca rb cb na nb n ka kb : Nat} {a b : Option Addr} {fn : Nat → Nat} (I : MInv w wr gd g6 ra ca rb cb na nb n ka kb a b fn) (hb : Below wr.heap.size wr w') : MInv w w' gd g6 ra ca rb cb na nb n ka kb a b fn :=
  ⟨I.va.later hb, I.vb.later hb, I.vr.later hb, I.vm.later hb, I.data.later hb, two_below I.below hb, I.d6, I.dlow⟩
theorem MInv.set {w wr : World} {gd g6 ra ca rb cb na nb n ka kb q v : Nat} {a b : Option Addr} {fn : Nat → Nat} (I : MInv w wr gd g6 ra ca rb cb na nb n ka kb a b fn) : MInv w (wr.setCell ⟨gd, q, none⟩ (.int .u8 (v : Int))) gd g6 ra ca rb cb na nb n ka kb a b (fun p => if p = q then v else fn p) :=
  have d := I.dlow
  ⟨I.va.kept (grown_setCell _ _ _ _) (by omega), I.vb.kept (grown_setCell _ _ _ _) (by omega), I.vr.kept (grown_setCell _ _ _ _) (by omega), I.vm.kept (grown_setCell _ _ _ _) (Ne.symm I.d6), I.data.set q v, I.below.setCell (by show w.heap.size ≤ gd; omega) _, I.d6, I.dlow⟩
end Go.Proofs.Ytaoehildaenbnab
