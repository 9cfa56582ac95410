/-
  Contract of the matrices' reference: Kron.
-/
import Derived.Test.YtaoehildaenbnabSh
namespace Go.Proofs.Ytaoehildaenbnab
open Go.RowKit
/-- The Kron's entries, CC columns. -/
def krf (F G : Nat → Nat) (ca rb cb CC p : Nat) : Nat := fm (F (p / CC / rb * ca + p % CC / cb)) (G (p / CC % rb * cb + p % CC % cb))
/-- .. those before q. -/
def kdf (F G : Nat → Nat) (ca rb cb CC q p : Nat) : Nat := if p < q then krf F G ca rb cb CC p else 0
theorem kdf_step (F G : Nat → Nat) (ca rb cb CC q p : Nat) : (if p = q then krf F G ca rb cb CC q else kdf F G ca rb cb CC q p) = kdf F G ca rb cb CC (q + 1) p := by
  unfold kdf
  by_cases h : p = q
  · subst h; rw [if_pos rfl, if_pos (by omega)]
  · rw [if_neg h]
    by_cases h1 : p < q
    · rw [if_pos h1, if_pos (by omega)]
    · rw [if_neg h1, if_neg (by omega)]
theorem krf_at (F G : Nat → Nat) (ca rb cb CC i j : Nat) (hj : j < CC) : krf F G ca rb cb CC (i * CC + j) = fm (F (i / rb * ca + j / cb)) (G (i % rb * cb + j % cb)) := by
  have h1 : (i * CC + j) / CC = i := by rw [Nat.mul_comm, Nat.mul_add_div (by omega), Nat.div_eq_of_lt hj, Nat.add_zero]
  have h2 : (i * CC + j) % CC = j := by rw [Nat.mul_comm, Nat.mul_add_mod, Nat.mod_eq_of_lt hj]
  unfold krf
  rw [h1, h2]
/-- What the loops of Kron keep. -/
structure KInv (w wr : World) (gd g6 RR CC ra ca rb cb na nb n ka kb : Nat) (a b : Option Addr) (fn : Nat → Nat) : Prop where
  va : Vr wr w.heap.size (.int .i64 (ra : Int)) (.int .i64 (ca : Int)) (.slice a na ka)
  vb : Vr wr (w.heap.size + 1) (.int .i64 (rb : Int)) (.int .i64 (cb : Int)) (.slice b nb kb)
  vr : Vr wr (w.heap.size + 1 + 1) (.int .i64 0) (.int .i64 0) (.slice none 0 0)
  vm : Vr wr g6 (.int .i64 (RR : Int)) (.int .i64 (CC : Int)) (.slice (some ⟨gd, 0, none⟩) n n)
  data : RowAt wr gd 5 n fn
  below : Below w.heap.size w wr
  d6 : gd ≠ g6
  dlow : w.heap.size + 1 + 1 < gd
theorem KInv.congr {w wr : World} {gd g6 RR CC ra ca rb cb na nb n ka kb : Nat} {a b : Option Addr} {fn fn' : Nat → Nat} (I : KInv w wr gd g6 RR CC ra ca rb cb na nb n ka kb a b fn) (e : ∀ p, p < n → fn p = fn' p) : KInv w wr gd g6 RR CC ra ca rb cb na nb n ka kb a b fn' :=
  ⟨I.va, I.vb, I.vr, I.vm, I.data.congr e, I.below, I.d6, I.dlow⟩
theorem KInv.later {w wr w' : World} {gd g6 RR CC ra ca rb cb na nb n ka kb : Nat} {a b : Option Addr} {fn : Nat → Nat} (I : KInv w wr gd g6 RR CC ra ca rb cb na nb n ka kb a b fn) (hb : Below wr.heap.size wr w') : KInv w w' gd g6 RR CC ra ca rb cb na nb n ka kb a b fn :=
  ⟨I.va.later hb, I.vb.later hb, I.vr.later hb, I.vm.later hb, I.data.later hb, two_below I.below hb, I.d6, I.dlow⟩
theorem KInv.set {w wr : World} {gd g6 RR CC ra ca rb cb na nb n ka kb q v : Nat} {a b : Option Addr} {fn : Nat → Nat} (I : KInv w wr gd g6 RR CC ra ca rb cb na nb n ka kb a b fn) : KInv w (wr.setCell ⟨gd, q, none⟩ (.int .u8 (v : Int))) gd g6 RR CC ra ca rb cb na nb n ka kb a b (fun p => if p = q then v else fn p) :=
  have d := I.dlow
  ⟨I.va.kept (grown_setCell _ _ _ _) (by omega), I.vb.kept (grown_setCell _ _ _ _) (by omega), I.vr.kept (grown_setCell _ _ _ _) (by omega), I.vm.kept (grown_setCell _ _ _ _) (Ne.symm I.d6), I.data.set q v, I.below.setCell (by show w.heap.size ≤ gd; omega) _, I.d6, I.dlow⟩
end Go.Proofs.Ytaoehildaenbnab
