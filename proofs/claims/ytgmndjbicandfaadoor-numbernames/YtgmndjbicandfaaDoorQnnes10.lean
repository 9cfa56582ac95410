/-
  Stage 12: environments in memory, what an expression comes to.
-/
import Derived.Test.YtgmndjbicandfaaDoorQnnes00
import Derived.Test.YtgmndjbicandfaaDoorQnnes05
import Derived.Test.YtgmndjbicandfaaDoorQnnes09
import Derived.Laws.StructEq
set_option maxRecDepth 100000
set_option maxHeartbeats 16000000
namespace Go.Proofs.YtgmndjbicandfaaDoor
open Go.RowKit
/-- Are two texts the same? -/
def sbq (x y : ByteArray) : Bool := x.toList == y.toList
theorem qdx {x y : ByteArray} : sbq x y = true ↔ x = y := by
 unfold sbq
 rw [beq_iff_eq]
 exact ⟨fun h => by rw [ByteArray.toList_eq, ByteArray.toList_eq] at h; exact ByteArray.ext (Array.toList_inj.1 h), fun h => by rw [h]⟩
theorem qcz (x : ByteArray) : sbq x x = true := qdx.2 rfl
theorem sbq_ne {x y : ByteArray} (h : x ≠ y) : sbq x y = false := by rw [← Bool.not_eq_true]; exact fun g => h (qdx.1 g)
/-- A constant. -/
structure Cn where
 nm : ByteArray
 n : Int
structure CnOk (c : Cn) : Prop where
 nm47 : c.nm.size ≤ 140737488351232
 n1 : -9223372036854775808 ≤ c.n
 n2 : c.n ≤ 9223372036854775807
/-- An environment lies at a slice's address. -/
def EL (w : World) (a : Option Addr) (n : Nat) (F : Nat → Cn) : Prop := ∀ i, i < n → CnOk (F i) ∧ ∃ b o, a = some ⟨b, o, none⟩ ∧ w.cell? ⟨b, o + i * 2, none⟩ = some (.string (F i).nm) ∧ w.cell? ⟨b, o + i * 2 + 1, none⟩ = some (.int .i64 (F i).n)
theorem EL.later {w w' : World} {a : Option Addr} {n : Nat} {F : Nat → Cn} (h : EL w a n F) (hb : Below w.heap.size w w') : EL w' a n F := fun i hi => by
 obtain ⟨ok, b, o, e, h0, h1⟩ := h i hi
 exact ⟨ok, b, o, e, cell_kept h0 hb, cell_kept h1 hb⟩
/-- The number of a name among the first n constants. -/
def elk (F : Nat → Cn) : Nat → ByteArray → Option Int
 | 0, _ => none
 | n + 1, s => if sbq (F n).nm s then some (F n).n else elk F n s
/-- May the first n constants be an environment? -/
def mayE (F : Nat → Cn) : Nat → Bool
 | 0 => true
 | n + 1 => mayE F n && (isN (F n).nm && nmB (F n).n && (elk F n (F n).nm).isNone)
theorem qdy {F : Nat → Cn} : ∀ {n m : Nat}, mayE F n = true → m ≤ n → mayE F m = true := by
 intro n
 induction n with
 | zero =>
  intro m h hm
  obtain rfl : m = 0 := by omega
  exact h
 | succ n ih =>
  intro m h hm
  by_cases e : m = n + 1
  ·subst e; exact h
  ·have h2 : mayE F n = true := by unfold mayE at h; rw [Bool.and_eq_true] at h; exact h.1
   exact ih h2 (by omega)
theorem mayE_no {F : Nat → Cn} {n i : Nat} (hi : i < n) (h : (isN (F i).nm && nmB (F i).n && (elk F i (F i).nm).isNone) = false) : mayE F n = false := by
 rw [← Bool.not_eq_true]
 intro g
 have g2 := qdy g (show i + 1 ≤ n by omega)
 unfold mayE at g2
 rw [h, Bool.and_false] at g2
 cases g2
/-- What comes out: a number and a fault. -/
structure Vt where
 v : Int
 c : Nat
 ln : Int
 cl : Int
/-- The first fault of the first n parts. -/
def xflt (R : Nat → Vt) : Nat → Option Vt
 | 0 => none
 | n + 1 => match xflt R n with
  | some r => some r
  | none => if (R n).c = 0 then none else some (R n)
/-- What an expression comes to, its parts having come to a and b. -/
def xfin (l : Lx) (a b : Int) : Vt := if wre l.k a b = 0 then ⟨wrv l.k a b, 0, 0, 0⟩ else ⟨0, wre l.k a b, l.ln, l.cl⟩
/-- The number of part j, of n parts. -/
def xprt (R : Nat → Vt) (n j : Nat) : Int := if j < n then (R j).v else 0
/-- What an expression comes to. -/
def xval (E : ByteArray → Option Int) : Nat → Xt → Vt
 | 0, _ => ⟨0, 0, 0, 0⟩
 | d + 1, T =>
  if (T []).k = 1 then ⟨(T []).n, 0, 0, 0⟩
  else if (T []).k = 2 then match E (T []).nm with
   | some v => ⟨v, 0, 0, 0⟩
   | none => ⟨0, 121, (T []).ln, (T []).cl⟩
  else match xflt (fun i => xval E d (kid T i)) (T []).len with
   | some r => ⟨0, r.c, r.ln, r.cl⟩
   | none => xfin (T []) (xprt (fun i => xval E d (kid T i)) (T []).len 0) (xprt (fun i => xval E d (kid T i)) (T []).len 1)
theorem qdz {R : Nat → Vt} {i : Nat} {r : Vt} (h : xflt R i = some r) : ∀ n, i ≤ n → xflt R n = some r := by
 intro n hn
 induction n with
 | zero =>
  obtain rfl : i = 0 := by omega
  exact h
 | succ n ih =>
  by_cases e : i = n + 1
  ·subst e; exact h
  ·show (match xflt R n with | some r => some r | none => if (R n).c = 0 then none else some (R n)) = some r
   rw [ih (by omega)]
theorem xflt_hit {R : Nat → Vt} {i : Nat} (h : xflt R i = none) (hc : (R i).c ≠ 0) : xflt R (i + 1) = some (R i) := by
 show (match xflt R i with | some r => some r | none => if (R i).c = 0 then none else some (R i)) = _
 rw [h]
 exact if_neg hc
theorem xflt_on {R : Nat → Vt} {i : Nat} (h : xflt R i = none) (hc : (R i).c = 0) : xflt R (i + 1) = none := by
 show (match xflt R i with | some r => some r | none => if (R i).c = 0 then none else some (R i)) = _
 rw [h]
 exact if_pos hc
theorem qaz (E : ByteArray → Option Int) (d : Nat) (T : Xt) : xval E (d + 1) T = if (T []).k = 1 then ⟨(T []).n, 0, 0, 0⟩
  else if (T []).k = 2 then match E (T []).nm with
   | some v => ⟨v, 0, 0, 0⟩
   | none => ⟨0, 121, (T []).ln, (T []).cl⟩
  else match xflt (fun i => xval E d (kid T i)) (T []).len with
   | some r => ⟨0, r.c, r.ln, r.cl⟩
   | none => xfin (T []) (xprt (fun i => xval E d (kid T i)) (T []).len 0) (xprt (fun i => xval E d (kid T i)) (T []).len 1) := rfl
theorem xval1 {E : ByteArray → Option Int} {d : Nat} {T : Xt} (h : (T []).k = 1) : xval E (d + 1) T = ⟨(T []).n, 0, 0, 0⟩ := if_pos h
theorem xval2 {E : ByteArray → Option Int} {d : Nat} {T : Xt} {v : Int} (h : (T []).k = 2) (hE : E (T []).nm = some v) : xval E (d + 1) T = ⟨v, 0, 0, 0⟩ := by
 rw [qaz, if_neg (by omega), if_pos h, hE]
theorem xval2n {E : ByteArray → Option Int} {d : Nat} {T : Xt} (h : (T []).k = 2) (hE : E (T []).nm = none) : xval E (d + 1) T = ⟨0, 121, (T []).ln, (T []).cl⟩ := by
 rw [qaz, if_neg (by omega), if_pos h, hE]
theorem xval3 {E : ByteArray → Option Int} {d : Nat} {T : Xt} (h1 : (T []).k ≠ 1) (h2 : (T []).k ≠ 2) {r : Vt} (h : xflt (fun i => xval E d (kid T i)) (T []).len = some r) : xval E (d + 1) T = ⟨0, r.c, r.ln, r.cl⟩ := by
 rw [qaz, if_neg h1, if_neg h2, h]
theorem xval4 {E : ByteArray → Option Int} {d : Nat} {T : Xt} (h1 : (T []).k ≠ 1) (h2 : (T []).k ≠ 2) (h : xflt (fun i => xval E d (kid T i)) (T []).len = none) : xval E (d + 1) T = xfin (T []) (xprt (fun i => xval E d (kid T i)) (T []).len 0) (xprt (fun i => xval E d (kid T i)) (T []).len 1) := by
 rw [qaz, if_neg h1, if_neg h2, h]
/-- Without a fault all its cells are 0. -/
theorem qe0 {E : ByteArray → Option Int} {d : Nat} {T : Xt} (h : (xval E d T).c = 0) : (xval E d T).ln = 0 ∧ (xval E d T).cl = 0 := by
 cases d with
 | zero => exact ⟨rfl, rfl⟩
 | succ d =>
  by_cases h1 : (T []).k = 1
  ·rw [xval1 h1]; exact ⟨rfl, rfl⟩
  ·by_cases h2 : (T []).k = 2
   ·cases hE : E (T []).nm with
    | none => rw [xval2n h2 hE] at h; cases h
    | some v => rw [xval2 h2 hE]; exact ⟨rfl, rfl⟩
   ·cases hf : xflt (fun i => xval E d (kid T i)) (T []).len with
    | some r =>
     rw [xval3 h1 h2 hf] at h
     have hr : ∀ n, xflt (fun i => xval E d (kid T i)) n = some r → r.c ≠ 0 := by
      intro n
      induction n with
      | zero => intro e; cases e
      | succ n ih =>
       intro e
       have e : (match xflt (fun i => xval E d (kid T i)) n with | some r => some r | none => if (xval E d (kid T n)).c = 0 then none else some (xval E d (kid T n))) = some r := e
       cases hq : xflt (fun i => xval E d (kid T i)) n with
       | some r2 => rw [hq] at e ih; cases e; exact ih rfl
       | none =>
        rw [hq] at e
        by_cases hc : (xval E d (kid T n)).c = 0
        ·simp [hc] at e
        ·simp [hc] at e; rw [← e]; exact hc
     exact absurd h (hr _ hf)
    | none =>
     rw [xval4 h1 h2 hf] at h ⊢
     unfold xfin at *
     split at h
     ·rename_i g; rw [if_pos g]; exact ⟨rfl, rfl⟩
     ·rename_i g; exact absurd h g
/-- A fault of three cells against the empty one, against another one. -/
theorem qbk : ∀ (op : BinOp) (x y : Operand) (xs ys : Array Value) (w : World), (eqGuard op 29 x y (.agg xs) (.agg ys)).run Tryd.prog w = .ok () w := fun op x y xs ys w => run_eqGuard_agg w op _ x y xs ys (by kernel_rfl)
theorem eql_f12 : ∀ (a1 a2 a3 b1 b2 b3 : Int) (w : World), (binOp .eql 29 (.agg #[.int .i64 a1, .int .i64 a2, .int .i64 a3]) (.agg #[.int .i64 b1, .int .i64 b2, .int .i64 b3])).run Tryd.prog w = .ok (.bool ((a1 == b1) && ((a2 == b2) && (a3 == b3)))) w := by
 intro a1 a2 a3 b1 b2 b3 w
 rw [run_eql_struct, run_equalIn_struct w 9999 _ _ _ (by kernel_rfl) (by kernel_rfl)]
 by_cases h1 : a1 = b1 <;> by_cases h2 : a2 = b2 <;> by_cases h3 : a3 = b3 <;> simp [Op.eqFields, go_sem, h1, h2, h3]
theorem neq_f12 : ∀ (a1 a2 a3 b1 b2 b3 : Int) (w : World), (binOp .neq 29 (.agg #[.int .i64 a1, .int .i64 a2, .int .i64 a3]) (.agg #[.int .i64 b1, .int .i64 b2, .int .i64 b3])).run Tryd.prog w = .ok (.bool (!((a1 == b1) && ((a2 == b2) && (a3 == b3))))) w := by
 intro a1 a2 a3 b1 b2 b3 w
 rw [run_neq_struct, run_equalIn_struct w 9999 _ _ _ (by kernel_rfl) (by kernel_rfl)]
 by_cases h1 : a1 = b1 <;> by_cases h2 : a2 = b2 <;> by_cases h3 : a3 = b3 <;> simp [Op.eqFields, go_sem, h1, h2, h3]
end Go.Proofs.YtgmndjbicandfaaDoor
