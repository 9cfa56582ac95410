/-
  What WireFresh needs: lists that are written over (Spoil), wherever they begin.
-/
import Derived.Test.YtlfmekjkgegclabHu
import Derived.ArgAppend
namespace Go.Proofs.Ytlfmekjkgegclab
open Go.RowKit
/-- A cell that may be written. -/
def Wb (w : World) (b q : Nat) : Prop := (∃ v, w.cell? ⟨b, q, none⟩ = some v) ∧ w.frozen? ⟨b, q, none⟩ = false
/-- Only block row is written, and what could be written still can. -/
structure Kp (w w' : World) (row : Option Nat) : Prop where
  grown : w.grownBy w' row
  wb : ∀ b q, Wb w b q → Wb w' b q
theorem Kp.refl (w : World) (row : Option Nat) : Kp w w row := ⟨World.grownBy.refl _ _, fun _ _ h => h⟩
theorem Kp.trans {w1 w2 w3 : World} {row : Option Nat} (h : Kp w1 w2 row) (k : Kp w2 w3 row) : Kp w1 w3 row := ⟨grown_trans h.grown k.grown, fun b q x => k.wb b q (h.wb b q x)⟩
theorem Wb.later {w w' : World} {b q : Nat} (h : Wb w b q) (hb : Below w.heap.size w w') : Wb w' b q := by
  obtain ⟨⟨y, hy⟩, hf⟩ := h
  have hblk := hb.block b (jcell_lt hy)
  exact ⟨⟨y, by rw [World.cell?_of_block (a := ⟨b, q, none⟩) hblk]; exact hy⟩, by rw [World.frozen?_of_block (a := ⟨b, q, none⟩) hblk]; exact hf⟩
theorem grown_any8 {w w' : World} (h : w.grownBy w' none) (row : Option Nat) : w.grownBy w' row := ⟨h.os, h.tape, h.output, h.size, fun k hk _ => h.block k hk (by simp)⟩
theorem Kp.of_none {w w' : World} (h : w.grownBy w' none) (row : Option Nat) : Kp w w' row := ⟨grown_any8 h row, fun _ _ k => k.later (grown_none.mp h)⟩
theorem Wb.set {w : World} {b q g p : Nat} {v : Value} (h : Wb w b q) : Wb (w.setCell ⟨g, p, none⟩ v) b q := ⟨cell?_setCell_some h.1.choose_spec, by simpa using h.2⟩
theorem Kp.at {w w' : World} {row : Option Nat} {g p : Nat} {v : Value} (h : Kp w w' row) (hr : row = some g ∨ w.heap.size ≤ g) : Kp w (w'.setCell ⟨g, p, none⟩ v) row := ⟨grown_at h.grown hr, fun b q k => (h.wb b q k).set⟩
theorem wpList_append_wb {ops : Array Oper} {rest : List Oper} {o : Oper} {a : Act} {Q : Exit → Act → World → Prop} {w : World}
    (hg : o.guard = none) (s x : Operand) (hop : o.op = Op.call { callee := Callee.builtin Builtin.append, args := #[s, x], argTypes := #[22, 22] })
    (g p n d : Nat) (hs : a.eval s = .slice (some ⟨g, p, none⟩) n d) (hw : ∀ i, i < d → Wb w g (p + i)) (hnd : n ≤ d) (hn : n ≤ 100000000000)
    (ad : Addr) (m : Int) (hx : a.eval x = .slice (some ad) 3 3) (hc : ∀ j u, [Value.int .u8 m, .int .u8 m, .int .u8 m][j]? = some u → w.cell? (ad.add j) = some u)
    (hK : ∀ gg pp cap w', (gg = g ∧ d ≠ 0 ∧ Kp w w' (some g)) ∨ (w.heap.size ≤ gg ∧ w.grownBy w' none) → (∀ i, i < n + 3 → Wb w' gg (pp + i)) → wpList Try.prog ops Q rest (a.put o.dst (.slice (some ⟨gg, pp, none⟩) (n + 3) cap)) w') :
    wpList Try.prog ops Q (o :: rest) a w := by
  obtain ⟨i0, hi, hz0, hz1, hz2⟩ := info_parts info8
  refine wpList_append_arg w hg s x 22 hop 5 i0 (.int .u8 0) 1 1 Try.underlying22 hi hz0 hz1 hz2 rfl (by decide) g p n d ((List.range n).map fun j => (w.cell? ⟨g, p + j, none⟩).getD (.int .u8 0)) hs (by simp) ?_ ad 3 3 [Value.int .u8 m, .int .u8 m, .int .u8 m] hx rfl hc (three_one m) ?_ (by unfold maxLen; omega) (by omega) ?_ ?_
  · intro j u hj
    have hjn : j < n := by
      have := (List.getElem?_eq_some_iff.1 hj).1
      simpa using this
    obtain ⟨⟨y, hy⟩, _⟩ := hw j (by omega)
    rw [List.getElem?_map, List.getElem?_range hjn] at hj
    simp only [Option.map_some, hy, Option.getD_some, Option.some.injEq] at hj
    rw [hy, hj]
  · intro hr j hj
    have hj3 : j < 3 := hj
    obtain ⟨⟨y, hy⟩, hf⟩ := hw (n + j) (by omega)
    rw [show p + n * 1 + j = p + (n + j) by omega]
    exact ⟨by rw [hy]; rfl, hf⟩
  · intro hr
    have k : Kp w (((w.setCell ⟨g, p + n * 1, none⟩ (.int .u8 m)).setCell ⟨g, p + n * 1 + 1, none⟩ (.int .u8 m)).setCell ⟨g, p + n * 1 + 1 + 1, none⟩ (.int .u8 m)) (some g) := (((Kp.refl w (some g)).at (.inl rfl)).at (.inl rfl)).at (.inl rfl)
    exact hK g p d _ (.inl ⟨rfl, by omega, k⟩) (fun i hi => k.wb _ _ (hw i (by omega)))
  · intro hr v' w' ho hgr
    rcases ho.2 with ⟨_, h0⟩ | ⟨gg, cap, cur, rfl, hB, _⟩
    · omega
    · exact hK gg 0 cap w' (.inr ⟨hB, hgr⟩) (fun i hi => by rw [Nat.zero_add]; exact ⟨own_cell ho hi, ho.frozenAt i⟩)
set_option maxRecDepth 20000 in
set_option maxHeartbeats 1000000 in
theorem spoil_wb (w : World) (g p n d : Nat) (m : Int) (row : Option Nat) (hn : n ≤ 100000000000) (hnd : n ≤ d) (hw : Hid (∀ i, i < d → Wb w g (p + i))) (hrow : Hid (d ≠ 0 → row = some g)) :
    Calls Try.prog 20 #[.slice (some ⟨g, p, none⟩) n d, .int .u8 m] w fun e w' => e = .returned (.tuple #[]) ∧ Kp w w' row := by
  go_enter Try.func20, Try.ntmps20
  go_wp2
  go_loopw [4] (fun i wr => ∃ k : Nat, k ≤ n ∧ i = .int .i64 (k : Int) ∧ Kp w wr row) (fun i _ => n - (intOf i).toNat)
  case atStart => exact ⟨0, by omega, rfl, Kp.refl _ _⟩
  case round =>
    obtain ⟨k, hk, rfl, hg⟩ := hrel
    have HG : Hid (Kp w wr row) := hg
    by_cases hlt : k < n
    · obtain ⟨⟨v0, hc⟩, hf⟩ := hg.wb _ _ (hw.out k (by omega))
      clear hg
      go_wp2
      exact ⟨⟨k + 1, by omega, by go_num, HG.out.at (.inl (hrow.out (by omega)))⟩, by simp [intOf]; omega⟩
    · clear hg
      go_wp2_with (at_builtin; refine wpList_append_wb rfl _ _ rfl g p n d rfl (fun i hi => (HG.out.wb _ _ (hw.out i hi)).later (jlow _ _)) hnd hn ⟨wr.heap.size, 0, none⟩ m rfl (three_new _ _ _) ?_; intro gg pp cap w1 hat hw1)
      have HG1 : Hid (Kp w w1 row) := by
        refine (HG.out.trans (Kp.of_none (World.grownBy_alloc _ (.cells #[.int .u8 m, .int .u8 m, .int .u8 m] 5) _) row)).trans ?_
        rcases hat with ⟨_, hd, h⟩ | ⟨_, h⟩
        · rw [hrow.out hd]; exact h
        · exact Kp.of_none h _
      have HAt : Hid (row = some gg ∨ w.heap.size ≤ gg) := by
        have hs := HG.out.grown.size
        rcases hat with ⟨e, hd, _⟩ | ⟨hat, _⟩
        · exact .inl (by rw [hrow.out hd, e])
        · exact .inr (by simp at hat; omega)
      have HO1 : Hid (∀ i, i < n + 3 → Wb w1 gg (pp + i)) := hw1
      clear hw1 hat HG
      go_loopw [5] (fun i wr => ∃ k : Nat, k ≤ n + 3 ∧ i = .int .i64 (k : Int) ∧ (∀ i, i < n + 3 → Wb wr gg (pp + i)) ∧ Kp w wr row) (fun i _ => n + 3 - (intOf i).toNat)
      case atStart => exact ⟨0, by omega, rfl, HO1.out, HG1.out⟩
      case round =>
        clear HO1 HG1
        obtain ⟨k, hk, rfl, ho, hg⟩ := hrel
        by_cases hlt : k < n + 3
        · obtain ⟨⟨v0, hc⟩, hf⟩ := ho k hlt
          have HO : Hid (∀ i, i < n + 3 → Wb wr gg (pp + i)) := ho
          have HG : Hid (Kp w wr row) := hg
          clear ho hg
          go_wp2
          exact ⟨⟨k + 1, by omega, by go_num, fun i hi => (HO.out i hi).set, HG.out.at HAt.out⟩, by simp [intOf]; omega⟩
        · go_wp2
          go_end0
          exact ⟨rfl, hg⟩
end Go.Proofs.Ytlfmekjkgegclab
