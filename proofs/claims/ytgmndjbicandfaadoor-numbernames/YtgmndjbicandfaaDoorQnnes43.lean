/-
  Contracts of the program's tree: expressions and shapes that are the same.
-/
import Derived.Test.YtgmndjbicandfaaDoorQnnes00
import Derived.Test.YtgmndjbicandfaaDoorQnnes42
import Derived.Test.YtgmndjbicandfaaDoorQnnes24
set_option maxRecDepth 100000
set_option maxHeartbeats 16000000
namespace Go.Proofs.YtgmndjbicandfaaDoor
open Go.RowKit
theorem tl_eq {x y : ByteArray} : (x.toList == y.toList) = decide (x = y) := by
 by_cases h : x = y
 ·subst h; simp
 ·rw [tl_ne h, decide_eq_false h]
/-- An expression is at most d deep. -/
def FinX : Nat → Xt → Prop
 | 0, _ => False
 | d + 1, T => ∀ i, i < (T []).len → FinX d (kid T i)
theorem MX.fin : ∀ {d : Nat} {T : Xt}, MX d T → FinX d T := by
 intro d
 induction d with
 | zero => intro T h; exact h.no.elim
 | succ d ih => intro T h i hi; exact ih (h.kid hi)
theorem ZX.fin {T : Xt} (h : ZX T) : FinX 16 T := fun i hi => by have := h.2.2.2; omega
/-- The same but for places? -/
def lkB : Nat → Xt → Xt → Bool
 | 0, _, _ => true
 | d + 1, T, U => decide ((T []).k = (U []).k) && (decide ((T []).n = (U []).n) && (decide ((T []).nm = (U []).nm) && (decide ((T []).len = (U []).len) && alB (fun i => lkB d (kid T i) (kid U i)) (T []).len)))
theorem lk_iff : ∀ (d : Nat) (T U : Xt), lkB d T U = true ↔ xlk d T U := by
 intro d
 induction d with
 | zero => intro T U; exact ⟨fun _ => trivial, fun _ => rfl⟩
 | succ d ih =>
  intro T U
  show (decide ((T []).k = (U []).k) && (decide ((T []).n = (U []).n) && (decide ((T []).nm = (U []).nm) && (decide ((T []).len = (U []).len) && alB (fun i => lkB d (kid T i) (kid U i)) (T []).len)))) = true ↔ ((T []).k = (U []).k ∧ (T []).n = (U []).n ∧ (T []).nm = (U []).nm ∧ (T []).len = (U []).len ∧ ∀ i, i < (T []).len → xlk d (kid T i) (kid U i))
  simp only [Bool.and_eq_true, decide_eq_true_eq, alB_iff, ih]
/-- Lists of expressions that are the same. -/
def llB (F G : Nat → Xt) (d n m : Nat) : Bool := decide (n = m) && alB (fun i => lkB d (F i) (G i)) n
theorem range6 {w : World} {b o : Nat} {y0 y1 y2 y3 y4 y5 : Value} (h0 : w.cell? ⟨b, o, none⟩ = some y0) (h1 : w.cell? ⟨b, o + 1, none⟩ = some y1) (h2 : w.cell? ⟨b, o + 2, none⟩ = some y2) (h3 : w.cell? ⟨b, o + 3, none⟩ = some y3) (h4 : w.cell? ⟨b, o + 4, none⟩ = some y4) (h5 : w.cell? ⟨b, o + 5, none⟩ = some y5) : w.rangeAt b o [y0, y1, y2, y3, y4, y5] := by
 intro j v hj
 rcases j with _ | j
 ·have e : y0 = v := by simpa using hj
  rw [← e]
  exact h0
 rcases j with _ | j
 ·have e : y1 = v := by simpa using hj
  rw [← e]
  exact h1
 rcases j with _ | j
 ·have e : y2 = v := by simpa using hj
  rw [← e]
  exact h2
 rcases j with _ | j
 ·have e : y3 = v := by simpa using hj
  rw [← e]
  exact h3
 rcases j with _ | j
 ·have e : y4 = v := by simpa using hj
  rw [← e]
  exact h4
 rcases j with _ | j
 ·have e : y5 = v := by simpa using hj
  rw [← e]
  exact h5
 ·simp at hj
theorem range7 {w : World} {b o : Nat} {y0 y1 y2 y3 y4 y5 y6 : Value} (h0 : w.cell? ⟨b, o, none⟩ = some y0) (h1 : w.cell? ⟨b, o + 1, none⟩ = some y1) (h2 : w.cell? ⟨b, o + 2, none⟩ = some y2) (h3 : w.cell? ⟨b, o + 3, none⟩ = some y3) (h4 : w.cell? ⟨b, o + 4, none⟩ = some y4) (h5 : w.cell? ⟨b, o + 5, none⟩ = some y5) (h6 : w.cell? ⟨b, o + 6, none⟩ = some y6) : w.rangeAt b o [y0, y1, y2, y3, y4, y5, y6] := by
 intro j v hj
 rcases j with _ | j
 ·have e : y0 = v := by simpa using hj
  rw [← e]
  exact h0
 rcases j with _ | j
 ·have e : y1 = v := by simpa using hj
  rw [← e]
  exact h1
 rcases j with _ | j
 ·have e : y2 = v := by simpa using hj
  rw [← e]
  exact h2
 rcases j with _ | j
 ·have e : y3 = v := by simpa using hj
  rw [← e]
  exact h3
 rcases j with _ | j
 ·have e : y4 = v := by simpa using hj
  rw [← e]
  exact h4
 rcases j with _ | j
 ·have e : y5 = v := by simpa using hj
  rw [← e]
  exact h5
 rcases j with _ | j
 ·have e : y6 = v := by simpa using hj
  rw [← e]
  exact h6
 ·simp at hj
theorem XL.cells {w : World} {a : Option Addr} {n : Nat} {F : Nat → Xt} (h : ∀ d, XL d w a n F) : ∃ C : Nat → List Value, ∀ i, i < n → (∃ b o, a = some ⟨b, o, none⟩ ∧ (C i).length = 6 ∧ (C i).toArray.all (·.oneCell') = true ∧ ∀ w', Below w.heap.size w w' → w'.rangeAt b (o + i * 6) (C i)) ∧ XV w (.agg (C i).toArray) (F i) := by
 refine pickc (P := fun i X => (∃ b o, a = some ⟨b, o, none⟩ ∧ X.length = 6 ∧ X.toArray.all (·.oneCell') = true ∧ ∀ w', Below w.heap.size w w' → w'.rangeAt b (o + i * 6) X) ∧ XV w (.agg X.toArray) (F i)) [] (fun i hi => ?_)
 obtain ⟨b, o, kk, nl, nn, ll, cc, nx, ka, kc, e, hkid, hcl⟩ := XL.at_ h hi
 refine ⟨[.int .u8 (kk : Int), .int .i64 nn, .string nx, .slice ka nl kc, .int .i64 ll, .int .i64 cc], ⟨b, o, e, rfl, all6 rfl rfl rfl rfl rfl rfl, fun w' hb => ?_⟩, hkid⟩
 obtain ⟨k0, k1, k2, k3, k4, k5⟩ := hcl w' hb
 exact range6 k0 k1 k2 k3 k4 k5
theorem SL.cells {w : World} {a : Option Addr} {n : Nat} {F : Nat → St} (h : ∀ d, SL d w a n F) : ∃ C : Nat → List Value, ∀ i, i < n → (∃ b o, a = some ⟨b, o, none⟩ ∧ (C i).length = 7 ∧ (C i).toArray.all (·.oneCell') = true ∧ ∀ w', Below w.heap.size w w' → w'.rangeAt b (o + i * 7) (C i)) ∧ SV w (.agg (C i).toArray) (F i) := by
 refine pickc (P := fun i X => (∃ b o, a = some ⟨b, o, none⟩ ∧ X.length = 7 ∧ X.toArray.all (·.oneCell') = true ∧ ∀ w', Below w.heap.size w w' → w'.rangeAt b (o + i * 7) X) ∧ SV w (.agg X.toArray) (F i)) [] (fun i hi => ?_)
 obtain ⟨b, o, kk, na1, np1, nr1, ll, cc, nx, aa1, pa1, ra1, ca1, cp1, cr1, e, hkid, hcl⟩ := SL.at_ h hi
 refine ⟨[.int .u8 (kk : Int), .string nx, .slice aa1 na1 ca1, .slice pa1 np1 cp1, .slice ra1 nr1 cr1, .int .i64 ll, .int .i64 cc], ⟨b, o, e, rfl, all7 rfl rfl rfl rfl rfl rfl rfl, fun w' hb => ?_⟩, hkid⟩
 obtain ⟨k0, k1, k2, k3, k4, k5, k6⟩ := hcl w' hb
 exact range7 k0 k1 k2 k3 k4 k5 k6
/-- A shape is at most d deep. -/
def FinS : Nat → St → Prop
 | 0, _ => False
 | d + 1, S => (∀ i, i < (S []).na → FinX 16 ((S []).args i)) ∧ (∀ i, i < (S []).nr → ∀ q, q < (S []).rl i → FinX 16 ((S []).rows i q)) ∧ ∀ i, i < (S []).np → FinS d (part S i)
theorem MS.fin : ∀ {d : Nat} {S : St}, MS d S → FinS d S := by
 intro d
 induction d with
 | zero => intro S h; obtain ⟨left, _, h⟩ := h; exact absurd h (by show ¬ (0 : Int) ≤ -1; omega)
 | succ d ih =>
  intro S h
  obtain ⟨_, h1, h2, h3⟩ := h.parts
  exact ⟨fun i hi => (h1 i hi).fin, fun i hi q hq => ((h2 i hi).2.2 q hq).fin, fun i hi => ih (h3 i hi)⟩
theorem ZS.fin {S : St} (h : ZS S) : FinS 16 S := ⟨fun i hi => by have := h.2.2.1; omega, fun i hi => by have := h.2.2.2.1; omega, fun i hi => by have := h.2.2.2.2; omega⟩
end Go.Proofs.YtgmndjbicandfaaDoor
