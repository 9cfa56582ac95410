/-
  The matrix that makes the data of the sources: it is told by what it makes.
-/
import Derived.Test.YtokdejhbjoglcaaGreatQddes00
import Derived.Test.YtokdejhbjoglcaaGreatQddes43
import Derived.Test.YtokdejhbjoglcaaGreatQddes36
set_option maxRecDepth 100000
set_option maxHeartbeats 16000000
namespace Go.Proofs.YtokdejhbjoglcaaGreat
open Go.RowKit Go.Shelf
/-- D (c rows, r columns) reads the blocks of p alone, and its product with the generator is the identity. -/
structure DecP (F D : Nat → Nat) (p r c : Nat) : Prop where
 el : ∀ q, q < c * r → D q < 256
 off : ∀ i j, i < c → j < r → ¬ bt p j = 1 → D (i * r + j) = 0
 id : ∀ i l, i < c → l < c → lc (fun j => D (i * r + j)) (m2 F r c) r l = dl i l
theorem qes {i j r : Nat} (hj : j < r) : (i * r + j) / r = i ∧ (i * r + j) % r = j := by
 rw [Nat.mul_comm i r]
 exact ⟨by rw [Nat.mul_add_div (by omega), Nat.div_eq_of_lt hj, Nat.add_zero], by rw [Nat.mul_add_mod, Nat.mod_eq_of_lt hj]⟩
/-- The rows of a free set, picked. -/
theorem qfo {F : Nat → Nat} {r c n p : Nat} (hF : ∀ i, i < n → F i < 256) (R : Rt r c n) (hcn : cn p r = c) (hf : FreeS (m2 F r c) r p) : Rk (m2 (pkf F (lf p r) c) c c) c c := by
 have h := (qfk (qaq hF R)).2 hf
 rw [hcn] at h
 refine h.at (fun i j hi => ?_)
 by_cases hj : j < c
 ·rw [qag _ hi hj, qcj F _ c i j hj, qag F (qae (by omega)).1 hj]
 ·rw [qac _ (by omega), qac _ (by omega)]
theorem qd6 {F : Nat → Nat} {r c n p : Nat} (hF : ∀ i, i < n → F i < 256) (R : Rt r c n) (hcn : cn p r = c) : ∀ q, q < c * c → pkf F (lf p r) c q < 256 := fun q hq => by
 have hc : 0 < c := by
  apply Nat.pos_of_ne_zero
  intro h
  subst h
  omega
 have h1 : q / c < c := Nat.div_lt_of_lt_mul hq
 have h2 := (qae (s := p) (i := r) (t := q / c) (by omega)).1
 exact hF _ (R.at h2 (Nat.mod_lt _ hc))
theorem qi3 {F O : Nat → Nat} {r c n p : Nat} (hF : ∀ i, i < n → F i < 256) (R : Rt r c n) (hcn : cn p r = c) (hf : FreeS (m2 F r c) r p)
  (hO : ∀ q, q < c * c → O q < 256) (hinv : ∀ i j, i < c → j < c → pr (m2 (pkf F (lf p r) c) c c) (m2 O c c) c i j = dl i j) : DecP F (prk O (pkf (idf r) (lf p r) r) c r c) p r c := by
 have Rc : Rt c c (c * c) := ⟨R.c64, R.c64, rfl⟩
 have hPe := qaq (qd6 hF R hcn) Rc
 have hOe := qaq hO Rc
 obtain ⟨A, hA, h1, h2⟩ := qkc hPe (fun i j _ hj => qac _ hj) (qfo hF R hcn hf)
 have hsame := inv_same hA hPe hOe h1 hinv
 have hleft : ∀ i j, i < c → j < c → pr (m2 O c c) (m2 (pkf F (lf p r) c) c c) c i j = dl i j := fun i j hi hj => by
  rw [← h1 i j hi hj]
  exact qal (fun t ht => (hsame i t hi ht).symm) (fun _ _ => rfl)
 have hD : ∀ i j, i < c → j < r → prk O (pkf (idf r) (lf p r) r) c r c (i * r + j) = lc (m2 O c c i) (fun t => dl (lf p r t)) c j := fun i j hi hj => by
  unfold prk lc
  rw [(qes hj).1, (qes hj).2]
  refine qa7 (fun t ht => ?_)
  rw [qag O hi ht, qcj _ _ r t j hj, idf_at r _ j (qae (by omega)).1 hj]
  congr 1
  show _ = dl (lf p r t) j
  unfold dl
  by_cases e : lf p r t = j
  ·rw [if_pos e, if_pos e.symm]
  ·rw [if_neg e, if_neg (fun h => e h.symm)]
 refine ⟨fun q hq => ?_, fun i j hi hj hb => ?_, fun i l hi hl => ?_⟩
 ·have hr : 0 < r := by
   apply Nat.pos_of_ne_zero
   intro h
   subst h
   omega
  have hi : q / r < c := Nat.div_lt_of_lt_mul (by rw [Nat.mul_comm]; exact hq)
  have h := hD (q / r) (q % r) hi (Nat.mod_lt _ hr)
  rw [show q / r * r + q % r = q by rw [Nat.mul_comm]; exact Nat.div_add_mod q r] at h
  rw [h]
  exact lc_lt (fun t => hOe _ t) _ _ _
 ·rw [hD i j hi hj]
  exact qaf (fun t ht => by show fm _ (dl (lf p r t) j) = 0; rw [qcs (fun e => hb (by rw [e]; exact (qae (by omega)).2.1)), qa8])
 ·have e1 : lc (fun j => prk O (pkf (idf r) (lf p r) r) c r c (i * r + j)) (m2 F r c) r l = lc (fun j => lc (m2 O c c i) (fun t => dl (lf p r t)) c j) (m2 F r c) r l := qal (fun j hj => hD i j hi hj) (fun _ _ => rfl)
  rw [e1, ← qje (hOe i) (fun t => qfr _), ← hleft i l hi hl]
  refine qal (fun _ _ => rfl) (fun t ht => ?_)
  rw [lc_dl (qaq hF R) (qae (by omega)).1, qag _ ht hl, qcj _ _ c t l hl, qag F (qae (by omega)).1 hl]
end Go.Proofs.YtokdejhbjoglcaaGreat
