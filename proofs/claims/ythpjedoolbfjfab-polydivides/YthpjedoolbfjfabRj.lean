/-
  Contract of the polynomials' reference: Interpolate, of unlike points.
-/
import Derived.Test.YthpjedoolbfjfabRi
namespace Go.Proofs.Ythpjedoolbfjfab
open Go.RowKit
/-- A trimmed list: the polynomial F. -/
structure Tr (w : World) (s : Option Addr) (T k : Nat) (F : Nat → Nat) : Prop where
  lk : Lk w s T k F
  len : tlen F 512 = T
  above : Above 512 F
theorem Tr.later {w w' : World} {s : Option Addr} {T k : Nat} {F : Nat → Nat} (h : Tr w s T k F) (hb : Below w.heap.size w w') : Tr w' s T k F := ⟨h.lk.later hb, h.len, h.above⟩
theorem Tr.zx {w : World} {s : Option Addr} {T k : Nat} {F : Nat → Nat} (h : Tr w s T k F) (i : Nat) : zx F T i = F i := by
  rw [← h.len, zx_tlen, zx_self h.above]
theorem Tr.idem {w : World} {s : Option Addr} {T k : Nat} {F : Nat → Nat} (h : Tr w s T k F) : tlen F T = T := by rw [← h.len, tlen_idem]
theorem Tr.le {w : World} {s : Option Addr} {T k : Nat} {F : Nat → Nat} (h : Tr w s T k F) : T ≤ 512 := by rw [← h.len]; exact tlen_le _ _
theorem mul_tr (w : World) (a b : Option Addr) (n m c d : Nat) (f h F : Nat → Nat) (ha : Tr w a n c f) (hb : Lk w b m d h) (hm : Above m h) (hs : n + m ≤ 513) (hm2 : m ≤ 512) (HF : Hid (∀ i, pm f h i = F i)) :
    Calls Try.prog 23 #[.slice a n c, .slice b m d] w fun e w' => ∃ s T k, e = .returned (.tuple #[.slice s T k, .int .i64 0]) ∧ Tr w' s T k F ∧ Below w.heap.size w w' := by
  have hle := tlen_le h m
  have han := ha.le
  have hF : ∀ i, pm (zx f n) (zx h m) i = F i := fun i => by rw [← HF.out i]; exact pm_congr ha.zx (zx_self hm) i
  have ab : Above (n + tlen h m) F := fun i hi => by
    rw [← hF i]
    refine pm_above (zx_above f n) (m := tlen h m) (fun j hj => ?_) i (by omega)
    rw [← zx_tlen]; exact zx_above h _ j hj
  refine (rpmul_at w a b n m c d n (tlen h m) (tlen F (n + tlen h m)) f h F ha.lk hb ha.idem rfl han (by omega) (.inr (.inr (by omega))) rfl hF).mono fun e w' ⟨s, k, he, hl, hbl, _⟩ => ?_
  by_cases h512 : n + tlen h m ≤ 512
  · exact ⟨s, _, k, he, ⟨hl, tlen_ext ab h512, ab.mono h512⟩, hbl⟩
  · -- the product of the highest ones stands at n + m - 2
    have a2 : Above 512 F := fun i hi => by
      rw [← hF i]
      refine pm_above (zx_above f n) (m := tlen h m) (fun j hj => ?_) i (by omega)
      rw [← zx_tlen]; exact zx_above h _ j hj
    exact ⟨s, _, k, he, ⟨hl, (tlen_ext a2 (by omega)).symm, a2⟩, hbl⟩
theorem tr_nil (w : World) : Tr w none 0 0 (fun _ => 0) := ⟨Lk.nil w _, tlen_ext (n := 0) (fun _ _ => rfl) (by omega), fun _ _ => rfl⟩
theorem tr_uno (w : World) : Tr (w.alloc (.cells #[.int .u8 1] 5)) (some ⟨w.heap.size, 0, none⟩) 1 1 uno :=
  ⟨lit1_lk w 1 uno (by decide) rfl, (tlen_ext (n := 1) (fun i hi => if_neg (by omega)) (by omega)).trans (tlen_of_top uno 0 (by decide)), fun i hi => if_neg (by omega)⟩
theorem tr_short {w : World} {s : Option Addr} {T k N : Nat} {F : Nat → Nat} (h : Tr w s T k F) (hN : Above N F) (h2 : N ≤ 512) : T ≤ N := by
  rw [← h.len, tlen_ext hN h2]; exact tlen_le _ _
theorem tm_skip (f : Nat → Nat) (q : Nat) : tm f q (q + 1) = tm f q q := by simp only [tm]; rw [if_pos trivial]
theorem tm_step (f : Nat → Nat) (q j : Nat) (h : j ≠ q) : tm f q (j + 1) = pm (tm f q j) (lf (fm (f j) (finv (f q ^^^ f j))) (finv (f q ^^^ f j))) := by simp only [tm]; rw [if_neg h]
end Go.Proofs.Ythpjedoolbfjfab
