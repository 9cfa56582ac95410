/-
  Stage 21: flows with what a copy of them asks; lists of terms and of numbers behind an own one.
-/
import Derived.Test.YtkfnedpnkeacpaaQffsh00
import Derived.Test.YtkfnedpnkeacpaaQffsh37
import Derived.Test.YtkfnedpnkeacpaaQffsh39
set_option maxRecDepth 100000
set_option maxHeartbeats 16000000
namespace Go.Proofs.Ytkfnedpnkeacpaa
open Go.RowKit
/-- Nodes that can be copied. -/
def Ndx (w : World) (b : Option Addr) (m : Nat) (nt : Nat → Nat) (f : Nat → Nat → Int) (g : Nat → Nat → Nat) : Prop := ∀ i, i < m → nt i * 16 ≤ 140737488351232 ∧ ∃ x o t d, b = some ⟨x, o, none⟩ ∧ w.cell? ⟨x, o + i, none⟩ = some (.slice t (nt i) d) ∧ Tml w t (nt i) (f i) (g i) ∧ (t = none → nt i = 0 ∧ d = 0)
theorem Ndx.later {w w' : World} {b : Option Addr} {m : Nat} {nt : Nat → Nat} {f : Nat → Nat → Int} {g : Nat → Nat → Nat} (h : Ndx w b m nt f g) (hb : Below w.heap.size w w') : Ndx w' b m nt f g := fun i hi => by
 obtain ⟨h1, x, o, t, d, e, c, ht, h0⟩ := h i hi
 exact ⟨h1, x, o, t, d, e, by rw [hb.cell (p := ⟨x, _, none⟩) (qa5 c)]; exact c, ht.later hb, h0⟩
/-- A flow that can be copied. -/
structure FlX (w : World) (a : Option Addr) (p : Nat) (b c : Option Addr) (r : Nat) (F : Fl) : Prop where
 fl : FlR w a b c F
 a0 : a = none → F.ni = 0 ∧ p = 0
 c0 : c = none → F.no = 0 ∧ r = 0
 i8 : F.ni * 8 ≤ 140737488351232
 o8 : F.no * 8 ≤ 140737488351232
 n24 : F.nn * 24 ≤ 140737488351232
 nd : Ndx w b F.nn F.nt F.of F.fc
theorem FlX.later {w w' : World} {a b c : Option Addr} {p r : Nat} {F : Fl} (h : FlX w a p b c r F) (hb : Below w.heap.size w w') : FlX w' a p b c r F := ⟨h.fl.later hb, h.a0, h.c0, h.i8, h.o8, h.n24, h.nd.later hb⟩
/-- The terms of a list. -/
def tms (n : Nat) (f : Nat → Int) (g : Nat → Nat) : List Trm := (List.range n).map fun j => (f j, g j)
theorem qbk (n : Nat) (f : Nat → Int) (g : Nat → Nat) : (tms n f g).length = n := by simp [tms]
theorem qfj (n : Nat) (f : Nat → Int) (g : Nat → Nat) (i : Nat) (hi : i < n) : (tms n f g)[i]? = some (f i, g i) := by simp [tms, hi]
theorem trow_one : ∀ (L : List Trm), ∀ u ∈ trow L, u.oneCell' = true := by
 intro L
 induction L with
 | nil => intro u h; cases h
 | cons x L ih =>
  intro u h
  have h : u ∈ Value.int .i64 x.1 :: Value.int .u8 (x.2 : Int) :: trow L := h
  rcases List.mem_cons.1 h with rfl | h
  ·rfl
  ·rcases List.mem_cons.1 h with rfl | h
   ·rfl
   ·exact ih u h
theorem tml_news {w : World} {y : Addr} {m : Nat} {f : Nat → Int} {g : Nat → Nat} (h : Tml w (some y) m f g) : ∀ j u, (trow (tms m f g))[j]? = some u → w.cell? (y.add j) = some u := by
 intro j u hj
 have hl : j < (trow (tms m f g)).length := (List.getElem?_eq_some_iff.1 hj).1
 rw [qb4, qbk] at hl
 obtain ⟨_, b, o, e, c0, c1⟩ := h (j / 2) (by omega)
 cases e
 obtain ⟨t0, t1⟩ := qbq _ _ _ (qfj m f g (j / 2) (by omega))
 rw [add21]
 by_cases e : j % 2 = 0
 ·have e2 : j / 2 * 2 = j := by omega
  rw [e2] at t0 c0
  rw [c0, ← t0, hj]
 ·have e2 : j / 2 * 2 + 1 = j := by omega
  rw [e2] at t1
  rw [show o + j = o + j / 2 * 2 + 1 by omega, c1, ← t1, hj]
/-- Terms behind an own list that is empty. -/
theorem qbo {ops : Array Oper} {rest : List Oper} {o : Oper} {a : Act} {Q : Exit → Act → World → Prop} {w : World}
  (hgd : o.guard = none) (s x : Operand) (ho : o.op = Op.call { callee := Callee.builtin Builtin.append, args := #[s, x], argTypes := #[59, 59] })
  (B : Nat) (v : Value) (hs : a.eval s = v) (hown : Tw w B v [])
  (ad : Option Addr) (m c : Nat) (f : Nat → Int) (g : Nat → Nat) (hx : a.eval x = .slice ad m c) (hg : Tml w ad m f g) (h0 : ad = none → m = 0 ∧ c = 0) (hlim : m * 16 ≤ 140737488351232) (hB : B ≤ w.heap.size)
  (hK : ∀ v' w', Tw w' B v' (tms m f g) → w.grownBy w' v.ownBlock → wpList Try.prog ops Q rest (a.put o.dst v') w') :
  wpList Try.prog ops Q (o :: rest) a w := by
 obtain ⟨i0, hi, hz0, hz1, hz2⟩ := info_parts jtrm
 cases ad with
 | none =>
  obtain ⟨rfl, rfl⟩ := h0 rfl
  refine wpList_append_own_none hgd s x 59 ho B 61 i0 2 Try.underlying59 hi v 0 _ hs hown hx ?_
  exact hK v w hown (World.grownBy.refl _ _)
 | some y =>
  refine wpList_append_own _ hgd s x 59 ho B 61 i0 (.agg #[.int .i64 0, .int .u8 0]) 2 16 Try.underlying59 hi hz0 hz1 hz2 rfl (by decide) v 0 _ hs hown y m c (trow (tms m f g)) hx (by rw [qb4, qbk]) (tml_news hg) (trow_one _) (by unfold maxLen; omega) (by omega) hB ?_
  intro v' w' ho' hg' _
  refine hK v' w' ?_ hg'
  unfold Tw
  rw [qbk]
  have h := ho'
  rw [Nat.zero_add] at h
  exact h
/-- The cells of n numbers. -/
def irw (n : Nat) (q : Nat → Int) : List Value := (List.range n).map fun i => .int .i64 (q i)
theorem qfk (n : Nat) (q : Nat → Int) : (irw n q).length = n := by simp [irw]
theorem qdd (n : Nat) (q : Nat → Int) (i : Nat) (hi : i < n) : (irw n q)[i]? = some (.int .i64 (q i)) := by simp [irw, hi]
theorem irw_one (n : Nat) (q : Nat → Int) : ∀ u ∈ irw n q, u.oneCell' = true := by
 intro u hu
 obtain ⟨i, _, rfl⟩ := List.mem_map.1 hu
 rfl
theorem jl_news {w : World} {y : Addr} {m : Nat} {q : Nat → Int} (h : Jl w (some y) .i64 m q) : ∀ j u, (irw m q)[j]? = some u → w.cell? (y.add j) = some u := by
 intro j u hj
 have hl : j < (irw m q).length := (List.getElem?_eq_some_iff.1 hj).1
 rw [qfk] at hl
 obtain ⟨b, o, e, c0⟩ := h j hl
 cases e
 rw [qdd _ _ _ hl] at hj
 rw [add21, c0, hj]
/-- An own list of numbers. -/
def Iw (w : World) (B : Nat) (v : Value) (n : Nat) (q : Nat → Int) : Prop := w.ownsRow B 3 1 v n (irw n q)
theorem Iw.later {w w' : World} {B : Nat} {v : Value} {n : Nat} {q : Nat → Int} (h : Iw w B v n q) (hb : Below w.heap.size w w') : Iw w' B v n q := qa8 h hb
theorem Iw.jl {w : World} {B : Nat} {v : Value} {n : Nat} {q : Nat → Int} (h : Iw w B v n q) : ∃ a d, v = .slice a n d ∧ Jl w a .i64 n q := by
 rcases h.2 with ⟨e, h0⟩ | ⟨g, cap, cur, e, hb, hg, _, _, hs, htake⟩
 ·exact ⟨none, 0, by rw [e, h0], fun i hi => by omega⟩
 ·refine ⟨_, _, e, fun i hi => ⟨g, 0, rfl, ?_⟩⟩
  rw [Nat.zero_add, cell_of_row w g i _ _ _ hg]
  rw [Nat.mul_one] at htake
  have hu := qdd n q i hi
  rw [← htake, List.getElem?_take, if_pos hi] at hu
  rw [← Array.getElem?_toList]
  exact hu
/-- A list of numbers in a block of numbers. -/
def Jt (w : World) (a : Option Addr) (n : Nat) (q : Nat → Int) : Prop := 0 < n → ∃ g, a = some ⟨g, 0, none⟩ ∧ ∃ cur, w.heap[g]? = some (.cells cur 3 (0, 0)) ∧ ∀ i, i < n → cur[i]? = some (.int .i64 (q i))
theorem Jt.later {w w' : World} {a : Option Addr} {n : Nat} {q : Nat → Int} (h : Jt w a n q) (hb : Below w.heap.size w w') : Jt w' a n q := fun hn => by
 obtain ⟨g, e, cur, hg, hc⟩ := h hn
 exact ⟨g, e, cur, by rw [hb.block g (lt_of_block hg)]; exact hg, hc⟩
theorem Jt.jl {w : World} {a : Option Addr} {n : Nat} {q : Nat → Int} (h : Jt w a n q) : Jl w a .i64 n q := fun i hi => by
 obtain ⟨g, e, cur, hg, hc⟩ := h (by omega)
 exact ⟨g, 0, e, by rw [Nat.zero_add, cell_of_row w g i _ _ _ hg]; exact hc i hi⟩
theorem Jt.var {w w' : World} {a : Option Addr} {n V : Nat} {q : Nat → Int} {T : TypeId} {xs : Array Value} (h : Jt w a n q) (hg : w.grownBy w' (some V)) (hV : Vf w V T xs) (hne : 3 ≠ T) : Jt w' a n q := fun hn => by
 obtain ⟨g, e, cur, hgc, hc⟩ := h hn
 refine ⟨g, e, cur, ?_, hc⟩
 rw [hg.block g (lt_of_block hgc) (fun e4 => ?_)]
 ·exact hgc
 ·have e5 := Option.some.inj e4
  subst e5
  unfold Vf at hV
  rw [hgc] at hV
  injection (Option.some.inj hV) with _ h3
  exact hne h3
theorem Iw.jt {w : World} {B : Nat} {v : Value} {n : Nat} {q : Nat → Int} (h : Iw w B v n q) : ∃ a d, v = .slice a n d ∧ Jt w a n q := by
 rcases h.2 with ⟨e, h0⟩ | ⟨g, cap, cur, e, hb, hg, _, _, hs, htake⟩
 ·exact ⟨none, 0, by rw [e, h0], fun hn => by omega⟩
 ·refine ⟨_, _, e, fun _ => ⟨g, rfl, cur, hg, fun i hi => ?_⟩⟩
  rw [Nat.mul_one] at htake
  have hu := qdd n q i hi
  rw [← htake, List.getElem?_take, if_pos hi] at hu
  rw [← Array.getElem?_toList]
  exact hu
/-- Numbers behind an own list that is empty, in a drawn region. -/
theorem qaa {ops : Array Oper} {op : Oper} {a : Act} {w : World} {K : Act → World → Prop} {Q : Exit → Act → World → Prop} {E : Prop} (hgd : op.guard = none) (s x : Operand)
  (ho : op.op = .call { callee := .builtin .append, args := #[s, x], argTypes := #[25, 25] })
  (B m c : Nat) (v : Value) (q : Nat → Int) (ad : Option Addr) (hs : a.eval s = v) (hown : w.ownsRow B 3 1 v 0 []) (hx : a.eval x = .slice ad m c) (hg : Jl w ad .i64 m q) (h0 : ad = none → m = 0 ∧ c = 0) (hlim : m * 8 ≤ 140737488351232) (hB : B ≤ w.heap.size)
  (h : ∀ v' w', Iw w' B v' m q → w.grownBy w' v.ownBlock → K (a.put op.dst v') w') : if Region.wanted op (yielded ops a.tmps) = true then Oper.wp Try.prog op a w K Q else E := by
 obtain ⟨i0, hi, hz0, hz1, hz2⟩ := info_parts ji64
 cases ad with
 | none =>
  obtain ⟨rfl, rfl⟩ := h0 rfl
  have hw : Region.wanted op (yielded ops a.tmps) = true := by simp [Region.wanted, hgd]
  rw [if_pos hw]
  have hrun := run_append_owned_none (P := Try.prog) (w := w) B 25 op.type 3 i0 1 Try.underlying25 hi v 0 _ hown
  unfold Oper.wp
  simp [execOp, ho, resolve, invoke, builtin, hs, hx, hrun, Result.andThen]
  exact h v w hown (World.grownBy.refl _ _)
 | some y =>
  refine qah hgd s x 25 ho B 3 i0 (.int .i64 0) 1 8 Try.underlying25 hi hz0 hz1 hz2 rfl (by decide) v 0 _ hs hown y m c (irw m q) hx (by rw [qfk, Nat.mul_one]) (jl_news hg) (irw_one _ _) (by unfold maxLen; omega) (by omega) hB ?_
  intro v' w' ho' hg'
  refine h v' w' ?_ hg'
  have h := ho'
  rw [Nat.zero_add] at h
  exact h
/-- The nodes below k. -/
def nls (F : Fl) (k : Nat) : List (List Trm) := (List.range k).map fun i => tms (F.nt i) (F.of i) (F.fc i)
theorem nls_succ (F : Fl) (k : Nat) : nls F (k + 1) = nls F k ++ [tms (F.nt k) (F.of k) (F.fc k)] := by
 unfold nls
 rw [List.range_succ, List.map_append]
 rfl
theorem qcn (F : Fl) (k : Nat) : (nls F k).length = k := by simp [nls]
theorem nls_get (F : Fl) (k i : Nat) (h : i < k) : (nls F k).getD i [] = tms (F.nt i) (F.of i) (F.fc i) := by simp [nls, h]
end Go.Proofs.Ytkfnedpnkeacpaa
