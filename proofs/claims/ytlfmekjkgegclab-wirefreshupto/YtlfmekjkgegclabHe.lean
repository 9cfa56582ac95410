/-
  Lists of bytes put behind one another; contracts of the wire's reference: Text.
-/
import Derived.Test.YtlfmekjkgegclabHd
import Derived.Test.YtlfmekjkgegclabLi
import Derived.Laws.AppendOwnNone
namespace Go.Proofs.Ytlfmekjkgegclab
open Go.RowKit
/-- The n bytes f, and behind them g. -/
def cat (f g : Nat → Nat) (n i : Nat) : Nat := if i < n then f i else g (i - n)
theorem cat_low {f g : Nat → Nat} {n i : Nat} (h : i < n) : cat f g n i = f i := if_pos h
theorem cat_high {f g : Nat → Nat} {n i : Nat} (h : n ≤ i) : cat f g n i = g (i - n) := if_neg (by omega)
theorem cat_add (f g : Nat → Nat) (n i : Nat) : cat f g n (n + i) = g i := by rw [cat_high (by omega), Nat.add_sub_cancel_left]
theorem cat_lt {f g : Nat → Nat} {n m : Nat} (hf : ∀ i, i < n → f i < 256) (hg : ∀ i, i < m → g i < 256) : ∀ i, i < n + m → cat f g n i < 256 := fun i hi => by
  unfold cat
  split
  · exact hf i (by assumption)
  · exact hg _ (by omega)
theorem jrow_cat (K : IntKind) (f g : Nat → Nat) (n : Nat) : ∀ m, (jrow K n f).toList ++ (jrow K m g).toList = (jrow K (n + m) (cat f g n)).toList := by
  intro m
  apply List.ext_getElem?
  intro i
  by_cases h : i < n
  · rw [List.getElem?_append_left (by simp [jrow_size]; exact h)]
    simp [jrow, h, show i < n + m by omega, cat_low h]
  · rw [List.getElem?_append_right (by simp [jrow_size]; omega)]
    by_cases h2 : i < n + m
    · simp [jrow, h2, show i - n < m by omega, cat_high (show n ≤ i by omega)]
    · simp [jrow, h2, show ¬ i - n < m by omega]
theorem jrow_is_row (n : Nat) (f : Nat → Nat) : jrow .u8 n f = row n f := rfl
theorem sl_news {w : World} {x : Addr} {m : Nat} {g : Nat → Nat} (h : Sl w (some x) m g) : ∀ j u, (jrow .u8 m g).toList[j]? = some u → w.cell? (x.add j) = some u := by
  intro j u hj
  have hjm : j < m := by
    have := (List.getElem?_eq_some_iff.1 hj).1
    simpa [jrow_size] using this
  obtain ⟨b, o, e, hc⟩ := h.2 j hjm
  cases e
  rw [show (⟨b, o, none⟩ : Addr).add j = ⟨b, o + j, none⟩ by unfold Addr.add; split <;> simp_all, hc]
  simpa [jrow, hjm] using hj
/-- A list of the call's own, and any other one behind it. -/
theorem wpList_append_sl {ops : Array Oper} {rest : List Oper} {o : Oper} {a : Act} {Q : Exit → Act → World → Prop} {w : World}
    (hgd : o.guard = none) (s x : Operand) (ho : o.op = Op.call { callee := Callee.builtin Builtin.append, args := #[s, x], argTypes := #[22, 22] })
    (B n : Nat) (v : Value) (f : Nat → Nat) (hs : a.eval s = v) (hown : Jo w B 5 .u8 v n f)
    (ad : Option Addr) (m c : Nat) (g : Nat → Nat) (hx : a.eval x = .slice ad m c) (hg : Sl w ad m g) (h0 : ad = none → m = 0 ∧ c = 0) (hlim : n + m ≤ 140737488355328) (hB : B ≤ w.heap.size)
    (hK : ∀ v' w', Jo w' B 5 .u8 v' (n + m) (cat f g n) → w.grownBy w' v.ownBlock → Below B w w' → wpList Try.prog ops Q rest (a.put o.dst v') w') :
    wpList Try.prog ops Q (o :: rest) a w := by
  obtain ⟨i0, hi, hz0, hz1, hz2⟩ := info_parts jbyte
  cases ad with
  | none =>
    obtain ⟨rfl, rfl⟩ := h0 rfl
    refine wpList_append_own_none hgd s x 22 ho B 5 i0 1 Try.underlying22 hi v n _ hs hown hx ?_
    exact hK v w (hown.congr (fun i hi => (cat_low hi).symm)) (World.grownBy.refl _ _) ((Below.refl _ _).mono hB)
  | some y =>
    refine wpList_append_own _ hgd s x 22 ho B 5 i0 (.int .u8 0) 1 1 Try.underlying22 hi hz0 hz1 hz2 rfl (by decide) v n _ hs hown y m c (jrow .u8 m g).toList hx (by simp [jrow_size]) (sl_news hg) (by rw [jrow_is_row]; exact row_cells m g) (by unfold maxLen; omega) (by omega) hB ?_
    intro v' w' ho' hg' _
    rw [jrow_cat] at ho'
    exact hK v' w' ho' hg' (jbelow hg' hB (fun k hk => (hown.base hk).1))
end Go.Proofs.Ytlfmekjkgegclab
