/-
  Contract of the reference: Combine.
  Contract of the reference: Inverse.
  Contracts of the reference: Inverse's and Combine's errors; the laws' ints.
-/
import Derived.Test.YtfplhaelpbocjabGh
namespace Go.Proofs.Ytfplhaelpbocjab
open Go.RowKit
theorem own_mt4 {w : World} {base n d : Nat} {s : Option Addr} {f : Nat → Nat} (h : w.ownsRow base 5 1 (.slice s n d) n (row n f).toList) (hf : ∀ i, i < n → f i < 256) : Mt w s n d f := by
  refine ⟨own_sl2 h hf, ?_, own_none h⟩
  rcases h.2 with ⟨e, h0⟩ | ⟨g, cap, cur, e, _, _, hc, _⟩
  · cases e; omega
  · cases e; omega
theorem trf_all4 {F : Nat → Nat} {r c n : Nat} (hF : ∀ i, i < n → F i < 256) (R : Rt r c n) : ∀ p, p < n → trf F r c p < 256 := by
  intro p hp
  have hl := R.len
  have hr : 0 < r := by
    rcases Nat.eq_zero_or_pos r with rfl | h
    · omega
    · exact h
  unfold trf
  exact hF _ (R.at (Nat.mod_lt p hr) ((Nat.div_lt_iff_lt_mul hr).2 (by rw [Nat.mul_comm, hl]; exact hp)))
end Go.Proofs.Ytfplhaelpbocjab

namespace Go.Proofs.Ytfplhaelpbocjab
open Go.RowKit
/-- As many rows as the rank: they are independent. -/
theorem Rk.ind {M : Nat → Nat → Nat} (hM : El2 M) {r : Nat} (h : Rk M r r) : Ind M r := by
  intro a ha hz i hi
  apply Classical.byContradiction
  intro hne
  obtain ⟨r, rfl⟩ : ∃ r', r = r' + 1 := ⟨r - 1, by omega⟩
  have hle : Le M (r + 1) (fun u => M (sk i u)) r := by
    have hE : El2 (fun u => M (sk i u)) := fun u j => hM _ j
    intro t ht
    by_cases e : t = i
    · subst e
      have hv := finv_lt (a t)
      refine (spn_mul hv ⟨fun u => a (sk t u), fun u => ha _, fun _ => rfl⟩ : Spn (fun u => M (sk t u)) r (fun j => fm (finv (a t)) (lc (fun u => a (sk t u)) (fun u => M (sk t u)) r j))).congr (fun j => ?_)
      have e1 := hz j
      rw [lc_skip (k := t) _ _ (by omega)] at e1
      have e2 := xor_eq e1
      rw [← e2, ← fm_assoc _ _ _ hv (ha t), fm_comm _ _ hv (ha t), fm_finv _ (ha t) hne, one_fm _ (hM t j)]
    · obtain ⟨u, hu, e2⟩ : ∃ u, u < r ∧ sk i u = t := by
        by_cases h1 : t < i
        · exact ⟨t, by omega, by unfold sk; rw [if_pos h1]⟩
        · exact ⟨t - 1, by omega, by unfold sk; rw [if_neg (by omega)]; omega⟩
      rw [← e2]
      exact spn_row hE hu
  have := h.le hle
  omega
/-- A matrix of full rank has an inverse. -/
theorem inv_ex {M : Nat → Nat → Nat} (hM : El2 M) {r : Nat} (hc : ∀ i j, i < r → r ≤ j → M i j = 0) (h : Rk M r r) : ∃ A, El2 A ∧ (∀ i j, i < r → j < r → pr A M r i j = dl i j) ∧ ∀ i j, i < r → j < r → pr M A r i j = dl i j := by
  have hI := h.ind hM
  -- each unit row is a combination
  have hu : ∀ i, i < r → Spn M r (dl i) := by
    intro i hi
    apply Classical.byContradiction
    intro hno
    -- M with dl i behind it
    have hE : El2 (fun t => if t < r then M t else dl i) := fun t j => by
      show (if t < r then M t else dl i) j < 256
      split
      · exact hM t j
      · exact dl_el i j
    have h1 : Rk (fun t => if t < r then M t else dl i) r r := h.at (fun t j ht => by show (if t < r then M t else dl i) j = _; rw [if_pos ht])
    have h2 := h1.more hE (fun hs => hno (by
      rw [if_neg (Nat.lt_irrefl r)] at hs
      exact hs.rows (fun t j ht => by show (if t < r then M t else dl i) j = _; rw [if_pos ht])))
    have hD : El2 dl := fun t j => dl_el t j
    have hle : Le (fun t => if t < r then M t else dl i) (r + 1) dl r := by
      intro t _
      have key : ∀ y : Nat → Nat, El y → (∀ j, r ≤ j → y j = 0) → Spn dl r y := fun y hy hz => ⟨y, hy, fun j => by
        unfold lc
        by_cases hj : j < r
        · rw [xs_one hj (fun t _ hne => by rw [dl_ne (Ne.symm hne), fm_zero]), dl_self, fm_one _ (hy j)]
        · rw [hz j (by omega)]
          exact (xs_zero (fun t ht => by rw [dl_ne (by omega), fm_zero])).symm⟩
      by_cases ht : t < r
      · have e : (fun t => if t < r then M t else dl i) t = M t := if_pos ht
        rw [e]
        exact key (M t) (hM t) (fun j hj => hc t j ht hj)
      · have e : (fun t => if t < r then M t else dl i) t = dl i := if_neg ht
        rw [e]
        exact key (dl i) (dl_el i) (fun j hj => dl_ne (by omega))
    have := h2.le hle
    omega
  obtain ⟨A, hA, eA⟩ := (show Le dl r M r from hu).factors
  have hL : ∀ i j, i < r → pr A M r i j = dl i j := fun i j hi => (eA i hi j).symm
  refine ⟨A, hA, fun i j hi _ => hL i j hi, fun i j hi hj => ?_⟩
  -- (M A - I) M = 0
  have hd : El (fun t => pr M A r i t ^^^ dl i t) := fun t => xor_lt _ _ (pr_el hM A r i t) (dl_el i t)
  have hz : ∀ l, lc (fun t => pr M A r i t ^^^ dl i t) M r l = 0 := fun l => by
    rw [lc_add (pr_el hM A r i) (dl_el i), lc_dl hM hi]
    have e1 : lc (pr M A r i) M r l = lc (M i) (fun t j => lc (A t) M r j) r l := (lc_lc (hM i) hA M r r l).symm
    have e2 : lc (M i) (fun t j => lc (A t) M r j) r l = M i l := by
      have : lc (M i) (fun t j => lc (A t) M r j) r l = xs (fun t => fm (M i t) (dl t l)) r := xs_congr (fun t ht => by
        show fm (M i t) (pr A M r t l) = _
        rw [hL t l ht])
      rw [this]
      by_cases hl : l < r
      · rw [xs_one hl (fun t _ hne => by rw [dl_ne (Ne.symm hne), fm_zero]), dl_self, fm_one _ (hM i l)]
      · rw [hc i l hi (by omega)]
        exact xs_zero (fun t ht => by rw [dl_ne (by omega), fm_zero])
    rw [e1, e2, Nat.xor_self]
  exact xor_eq (hI _ hd hz j hj)
def uj (j l : Nat) : Nat := if l = j then 1 else 0
theorem uj_lt (j l : Nat) : uj j l < 256 := by unfold uj; split <;> decide
/-- What the solutions make. -/
structure ColA (F O : Nat → Nat) (r j : Nat) : Prop where
  el : ∀ q, q < r * r → O q < 256
  col : ∀ u, u < j → Sol (m2 F r r) r r (ext0 (uj u) r) (fun t => ext0 (fun t => O (t * r + u)) r t)
theorem cola_end {F O : Nat → Nat} {r : Nat} (h : ColA F O r r) : ∀ i j, i < r → j < r → pr (m2 F r r) (m2 O r r) r i j = dl i j := by
  intro i j hi hj
  have h1 := h.col j hj i hi
  have e1 : pr (m2 F r r) (m2 O r r) r i j = dt (m2 F r r i) (fun t => ext0 (fun t => O (t * r + j)) r t) r := xs_congr (fun t ht => by
    show _ = fm (m2 F r r i t) (if t < r then O (t * r + j) else 0)
    rw [if_pos ht, m2_at _ ht hj])
  rw [e1, h1]
  unfold ext0 uj dl
  rw [if_pos hi]
  by_cases e : i = j
  · rw [if_pos e, if_pos e.symm]
  · rw [if_neg e, if_neg (fun h => e h.symm)]
theorem sol_col {F x : Nat → Nat} {r j : Nat} {O : Nat → Nat} (h : Sol (m2 F r r) r r (ext0 (uj j) r) x) (e : ∀ t, t < r → O (t * r + j) = x t) : Sol (m2 F r r) r r (ext0 (uj j) r) (fun t => ext0 (fun t => O (t * r + j)) r t) := fun i hi => by
  rw [← h i hi]
  exact dt_congr2 (fun t ht => by unfold ext0; rw [if_pos ht]; exact e t ht)
theorem sol_same {F : Nat → Nat} {r u : Nat} {O O' : Nat → Nat} (h : Sol (m2 F r r) r r (ext0 (uj u) r) (fun t => ext0 (fun t => O (t * r + u)) r t)) (e : ∀ t, t < r → O' (t * r + u) = O (t * r + u)) : Sol (m2 F r r) r r (ext0 (uj u) r) (fun t => ext0 (fun t => O' (t * r + u)) r t) := fun i hi => by
  rw [← h i hi]
  exact dt_congr2 (fun t ht => by unfold ext0; rw [if_pos ht, if_pos ht]; exact e t ht)
theorem place_ne {t i u j r : Nat} (hu : u < r) (hj : j < r) (hne : ¬ (t = i ∧ u = j)) : t * r + u ≠ i * r + j := fun e => hne (by
  have h1 := congrArg (· / r) e
  have h2 := congrArg (· % r) e
  simp only [dm1 hu, dm1 hj, dm2 hu, dm2 hj] at h1 h2
  exact ⟨h1, h2⟩)
/-- What Inverse's loops keep. -/
structure VInv (w wr : World) (bo r n k g : Nat) (a : Option Addr) (O : Nat → Nat) : Prop where
  va : Vr wr w.heap.size (.int .i64 (r : Int)) (.int .i64 (r : Int)) (.slice a n k)
  vz : Vr wr (w.heap.size + 1) (.int .i64 0) (.int .i64 0) (.slice none 0 0)
  vo : Vr wr bo (.int .i64 (r : Int)) (.int .i64 (r : Int)) (.slice (some ⟨g, 0, none⟩) n n)
  row : RowAt wr g 5 n O
  low : w.heap.size + 1 < bo
  lowg : w.heap.size + 1 < g
  ne : bo ≠ g
  below : Below w.heap.size w wr
theorem VInv.later {w wr w' : World} {bo r n k g : Nat} {a : Option Addr} {O : Nat → Nat} (I : VInv w wr bo r n k g a O) (hb : Below wr.heap.size wr w') : VInv w w' bo r n k g a O :=
  ⟨I.va.later hb, I.vz.later hb, I.vo.later hb, I.row.later hb, I.low, I.lowg, I.ne, two_below I.below hb⟩
theorem VInv.kept {w wr w' : World} {bo r n k g x : Nat} {a : Option Addr} {O : Nat → Nat} (I : VInv w wr bo r n k g a O) (hg : wr.grownBy w' (some x)) (h1 : w.heap.size + 1 < x) (h2 : bo ≠ x) (h3 : g ≠ x) : VInv w w' bo r n k g a O :=
  ⟨I.va.kept hg (by omega), I.vz.kept hg (by omega), I.vo.kept hg h2, I.row.kept hg h3, I.low, I.lowg, I.ne, below_row I.below hg (by omega)⟩
theorem VInv.set {w wr : World} {bo r n k g q x : Nat} {a : Option Addr} {O : Nat → Nat} (I : VInv w wr bo r n k g a O) : VInv w (wr.setCell ⟨g, q, none⟩ (.int .u8 (x : Int))) bo r n k g a (fun t => if t = q then x else O t) := by
  have hg := grown_setCell wr g q (.int .u8 (x : Int))
  have h1 := I.lowg
  exact ⟨I.va.kept hg (by omega), I.vz.kept hg (by omega), I.vo.kept hg I.ne, I.row.set q x, I.low, I.lowg, I.ne, below_row I.below hg (by omega)⟩
end Go.Proofs.Ytfplhaelpbocjab
