/-
  What is written is read, with any bytes behind it.
-/
import Derived.Test.YtlfmekjkgegclabHs
namespace Go.Proofs.Ytlfmekjkgegclab
open Go.RowKit
theorem copy8 (w : World) (a : Option Addr) (n c : Nat) (f : Nat → Nat) (ha : Bt w a n c f) (hn : n ≤ 140737488351232) :
    Calls Try.prog 17 #[.slice a n c] w fun e w' => ∃ s d, e = .returned (.slice s n d) ∧ Jo w' w.heap.size 5 .u8 (.slice s n d) n f ∧ Below w.heap.size w w' :=
  (rcopy_any w a n c f ha.sl hn ha.nil).mono fun _ _ ⟨v, he, ho, hb⟩ => by
    have hj : Jo _ w.heap.size 5 .u8 v n f := ho
    obtain ⟨s, d, rfl, _⟩ := hj.form
    exact ⟨s, d, he, hj, hb⟩
theorem num_back {n L m : Nat} {f g : Nat → Nat} (hn : n < 9223372036854775808) (hL : NF n L) (hf : ∀ j, j < L → f j = nby n j) : RnOk (cat f g L) (L + m) n L := hL.read hn (fun j hj => by rw [cat_low hj]; exact hf j hj) (by omega)
/-- A text's form, and anything behind it. -/
theorem text_back {n L m : Nat} {f g : Nat → Nat} (hn : n ≤ 4194304) (hL : NF n L) : RnOk (cat (txf f n L) g (L + n)) (L + n + m) n L ∧ ∀ j, j < n → cat (txf f n L) g (L + n) (L + j) = f j := by
  refine ⟨hL.read (by omega) (fun j hj => ?_) (by omega), fun j hj => ?_⟩
  · rw [cat_low (by omega)]
    unfold txf
    rw [cat_low hj]
  · rw [cat_low (by omega)]
    unfold txf
    rw [cat_add]
/-- A chunk's form, and anything behind it. -/
theorem chunk_back {tag n L m : Nat} {f g : Nat → Nat} (hn : n ≤ 4194304) (hL : NF n L) : RdOk (cat (chf tag f n L) g (1 + (L + n) + 4)) (1 + (L + n) + 4 + m) n L ∧ cat (chf tag f n L) g (1 + (L + n) + 4) 0 = tag ∧ ∀ j, j < n → cat (chf tag f n L) g (1 + (L + n) + 4) (1 + (L + j)) = f j := by
  have hL1 := hL.1
  have hp : ∀ j, j < 1 + (L + n) → cat (chf tag f n L) g (1 + (L + n) + 4) j = chp tag f n L j := fun j hj => by
    rw [cat_low (by omega)]
    unfold chf
    rw [cat_low hj]
  refine ⟨⟨hL.read (by omega) (fun j hj => ?_) (by omega), hn, by omega, fun j hj => ?_⟩, ?_, fun j hj => ?_⟩
  · show cat (chf tag f n L) g (1 + (L + n) + 4) (1 + j) = nby n j
    rw [hp _ (by omega)]
    unfold chp
    rw [cat_add]
    unfold txf
    rw [cat_low hj]
  · rw [cs_congr hp, cat_low (by omega)]
    unfold chf
    rw [cat_add]
  · rw [hp 0 (by omega)]
    unfold chp
    rw [cat_low (by omega)]
  · rw [hp _ (by omega)]
    unfold chp
    rw [cat_add]
    unfold txf
    rw [cat_add]
theorem step_append_sl {ops : Array Oper} {op : Oper} {a : Act} {w : World} {K : Act → World → Prop} {Q : Exit → Act → World → Prop} {E : Prop}
    (hgd : op.guard = none) (s x : Operand) (ho : op.op = Op.call { callee := Callee.builtin Builtin.append, args := #[s, x], argTypes := #[22, 22] })
    (B n : Nat) (v : Value) (f : Nat → Nat) (hs : a.eval s = v) (hown : Jo w B 5 .u8 v n f)
    (ad : Option Addr) (m c : Nat) (g : Nat → Nat) (hx : a.eval x = .slice ad m c) (hg : Sl w ad m g) (h0 : ad = none → m = 0 ∧ c = 0) (hlim : n + m ≤ 140737488355328) (hB : B ≤ w.heap.size)
    (hK : ∀ v' w', Jo w' B 5 .u8 v' (n + m) (cat f g n) → Below B w w' → K (a.put op.dst v') w') : if Region.wanted op (yielded ops a.tmps) = true then Oper.wp Try.prog op a w K Q else E := by
  obtain ⟨i0, hi, hz0, hz1, hz2⟩ := info_parts jbyte
  have hw : Region.wanted op (yielded ops a.tmps) = true := by simp [Region.wanted, hgd]
  rw [if_pos hw]
  cases ad with
  | none =>
    obtain ⟨rfl, rfl⟩ := h0 rfl
    have hrun := run_append_owned_none (P := Try.prog) (w := w) B 22 op.type 5 i0 1 Try.underlying22 hi v n _ hown
    unfold Oper.wp
    simp [execOp, ho, resolve, invoke, builtin, hs, hx, hrun, Result.andThen]
    exact hK v w (hown.congr (fun i hi => (cat_low hi).symm)) ((Below.refl _ _).mono hB)
  | some y =>
    refine wp_append_own w s x 22 ho B 5 i0 (.int .u8 0) 1 1 Try.underlying22 hi hz0 hz1 hz2 rfl (by decide) v n _ hs hown y m c (jrow .u8 m g).toList hx (by simp [jrow_size]) (sl_news hg) (by rw [jrow_is_row]; exact row_cells m g) (by unfold maxLen; omega) (by omega) hB (fun v' w' ho' hg' _ => ?_)
    rw [jrow_cat] at ho'
    exact hK v' w' ho' (jbelow hg' hB (fun k hk => (hown.base hk).1))
end Go.Proofs.Ytlfmekjkgegclab
