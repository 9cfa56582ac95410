/-
  Stage 12: names in a rising list; own lists of names; the names of an expression.
-/
import Derived.Test.YtgmndjbicandfaaDoorQnnes00
import Derived.Test.YtgmndjbicandfaaDoorQnnes31
import Derived.Laws.CopyOwn
import Derived.Deep.AppendLies
import Derived.Deep.Upon
import Derived.Deep.RegionHeld
import Derived.Deep.QuietTactic
import Derived.BigQuiet
import Derived.Sort.KeysCollected
set_option maxRecDepth 100000
set_option maxHeartbeats 16000000
namespace Go.Proofs.YtgmndjbicandfaaDoor
open Go.RowKit Go.Shelf Go.Maps
open Go.Proofs (encStr)
/-- A list that rises. -/
def Ris (O : List (List UInt8)) : Prop := O.Pairwise (· < ·)
theorem lt_tri {a b : List UInt8} (h1 : ¬ a < b) (h2 : a ≠ b) : b < a := by
 by_cases h : b < a
 ·exact h
 ·exact absurd (List.le_antisymm (List.not_lt.1 h) (List.not_lt.1 h1)) h2
theorem qe4 {O : List (List UInt8)} {x : List UInt8} {q : Nat} (h : Ris O) (hq : q ≤ O.length) (h1 : ∀ j y, j < q → O[j]? = some y → y < x) (h2 : ∀ y, O[q]? = some y → ¬ y < x ∧ y ≠ x) : Ris (O.take q ++ x :: O.drop q) := by
 unfold Ris at *
 rw [List.pairwise_append]
 have hd : (O.drop q).Pairwise (· < ·) := h.sublist (List.drop_sublist _ _)
 have hxd : ∀ y ∈ O.drop q, x < y := by
  intro y hy
  cases hc : O.drop q with
  | nil => rw [hc] at hy; cases hy
  | cons z r =>
   have hz : O[q]? = some z := by rw [← List.head?_drop, hc]; rfl
   have hxz := lt_tri (h2 z hz).1 (h2 z hz).2
   rw [hc] at hy hd
   rcases List.mem_cons.1 hy with rfl | hy
   ·exact hxz
   ·exact List.lt_trans hxz ((List.pairwise_cons.1 hd).1 y hy)
 refine ⟨h.sublist (List.take_sublist _ _), List.pairwise_cons.2 ⟨hxd, hd⟩, fun a ha b hb => ?_⟩
 have hax : a < x := by
  obtain ⟨j, hj, e⟩ := List.getElem_of_mem ha
  have hj2 : j < q := by rw [List.length_take] at hj; omega
  exact h1 j a hj2 (by rw [← e, List.getElem_take, List.getElem?_eq_getElem])
 rcases List.mem_cons.1 hb with rfl | hb
 ·exact hax
 ·exact List.lt_trans hax (hxd b hb)
theorem put_mem {O : List (List UInt8)} {x : List UInt8} {q : Nat} {y : List UInt8} : y ∈ O.take q ++ x :: O.drop q ↔ y = x ∨ y ∈ O := by
 rw [List.mem_append, List.mem_cons]
 constructor
 ·rintro (h | h | h)
  ·exact .inr (List.mem_of_mem_take h)
  ·exact .inl h
  ·exact .inr (List.mem_of_mem_drop h)
 ·rintro (h | h)
  ·exact .inr (.inl h)
  ·rw [← List.take_append_drop q O] at h
   rcases List.mem_append.1 h with h | h
   ·exact .inl h
   ·exact .inr (.inr h)
theorem ris_eq {O Q : List (List UInt8)} (h1 : Ris O) (h2 : Ris Q) (h : ∀ x, x ∈ O ↔ x ∈ Q) : O = Q := by
 have n1 : O.Nodup := h1.imp (fun {a b} hab e => by subst e; exact List.lt_irrefl _ hab)
 have n2 : Q.Nodup := h2.imp (fun {a b} hab e => by subst e; exact List.lt_irrefl _ hab)
 have hp : O.Perm Q := (List.perm_ext_iff_of_nodup n1 n2).2 h
 exact List.Perm.eq_of_pairwise (le := fun a b => a < b) (fun a b _ _ x y => absurd (List.lt_trans x y) (List.lt_irrefl _)) h1 h2 hp
/-- An own list of names. -/
def Nw (w : World) (B : Nat) (v : Value) (O : List (List UInt8)) : Prop := w.ownsRow B 9 1 v O.length (O.map encStr)
theorem Nw.nil (w : World) (B : Nat) : Nw w B (.slice none 0 0) [] := World.ownsRow_nil _ _ _ _
theorem Nw.later {w w' : World} {B : Nat} {v : Value} {L : List (List UInt8)} (h : Nw w B v L) (hb : Below w.heap.size w w') : Nw w' B v L := World.ownsRow.kept h (jgrown.mpr hb) (by cases hv : v.ownBlock <;> simp)
theorem Nw.form {w : World} {B : Nat} {v : Value} {L : List (List UInt8)} (h : Nw w B v L) : ∃ a d, v = .slice a L.length d ∧ (a = none → L.length = 0 ∧ d = 0) := by
 rcases h.2 with ⟨e, h0⟩ | ⟨g, cap, cur, e, _⟩
 ·exact ⟨none, 0, by rw [e, h0], fun _ => ⟨h0, rfl⟩⟩
 ·exact ⟨_, _, e, fun x => by cases x⟩
theorem Nw.base {w : World} {B : Nat} {v : Value} {L : List (List UInt8)} (h : Nw w B v L) {g : Nat} (hg : v.ownBlock = some g) : B ≤ g ∧ g < w.heap.size := by
 rcases h.2 with ⟨e, _⟩ | ⟨g', cap, cur, e, hB, hb, _⟩
 ·rw [e] at hg; simp [Value.ownBlock] at hg
 ·rw [e] at hg; simp [Value.ownBlock] at hg; subst hg; exact ⟨hB, lt_of_block hb⟩
theorem Nw.el {w : World} {B n d : Nat} {a : Option Addr} {L : List (List UInt8)} (h : Nw w B (.slice a n d) L) {i : Nat} {x : List UInt8} (hx : L[i]? = some x) : ∃ g, a = some ⟨g, 0, none⟩ ∧ w.cell? ⟨g, i, none⟩ = some (.string ⟨x.toArray⟩) := by
 have hl := (List.getElem?_eq_some_iff.1 hx).1
 rcases h.2 with ⟨_, h0⟩ | ⟨g, cap, cur, e, hB, _⟩
 ·omega
 ·have hc := World.ownsRow.cells h (g := g) (by rw [e]; rfl) i (encStr x) (by rw [List.getElem?_map, hx]; rfl)
  cases e
  rw [Addr.add_mid, Nat.zero_add] at hc
  exact ⟨g, rfl, hc⟩
theorem qat : (Tryd.prog.info? 9).map (·.size) = some 1 := by kernel_rfl
theorem qbf {ops : Array Oper} {o : Oper} {a : Act} {w : World} {K : Act → World → Prop} {Q : Exit → Act → World → Prop} {E : Prop} (hgd : o.guard = none) (d s : Operand) (ho : o.op = .call { callee := .builtin .copy, args := #[d, s], argTypes := #[34, 34] }) (dp sp : Option Addr) (dLen dCap sLen sCap : Nat) (hd : a.eval d = .slice dp dLen dCap) (hs : a.eval s = .slice sp sLen sCap)
  (g off : Nat) (cur : List Value) (hg : w.heap[g]? = some (.cells cur.toArray 9 (0, 0))) (cs : List Value) (hn : cs.length = Nat.min sLen dLen) (hpos : 0 < cs.length → dp = some ⟨g, off, none⟩ ∧ ∃ ad, sp = some ad ∧ ∀ j v, cs[j]? = some v → w.cell? (ad.add j) = some v) (hfit : off + cs.length ≤ cur.length) (h1 : ∀ v ∈ cs, v.oneCell' = true)
  (h : ∀ w', Vn w' g 9 (splice cur off cs).toArray → w.grownBy w' (some g) → K (a.put o.dst (goInt cs.length)) w') : if Region.wanted o (yielded ops a.tmps) = true then Oper.wp Tryd.prog o a w K Q else E := by
 have hw : Region.wanted o (yielded ops a.tmps) = true := by simp [Region.wanted, hgd]
 rw [if_pos hw]
 by_cases h0 : cs.length = 0
 ·obtain rfl : cs = [] := List.eq_nil_of_length_eq_zero h0
  have hrun := run_copy_none (P := Tryd.prog) w 34 34 o.type 9 dp sp dLen dCap sLen sCap Tryd.underlying34 qat (by simpa using hn.symm)
  unfold Oper.wp
  simp [execOp, ho, resolve, invoke, builtin, hd, hs, hrun, Result.andThen]
  exact h w (show _ = _ by simpa [splice] using hg) (World.grownBy.refl _ _)
 ·obtain ⟨rfl, ad, rfl, hsrc⟩ := hpos (by omega)
  have hrun := run_copy_row (P := Tryd.prog) w 34 34 o.type 9 g off dLen dCap ad sLen sCap cur.toArray 9 cs Tryd.underlying34 qat hg hn hsrc (by simpa using hfit) h1
  unfold Oper.wp
  simp [execOp, ho, resolve, invoke, builtin, hd, hs, hrun, Result.andThen]
  exact h _ (setRow_heap w g _ _ _ (0, 0) hg) (qav w g _)
theorem qe5 {A : List Value} {cur : List Value} {e v : Value} {n q : Nat} (hA : A.length = n) (hq : q ≤ n) (hc : n + 1 ≤ cur.length) (ht : cur.take (n + 1) = A ++ [e]) : ((splice cur (q + 1) (A.drop q)).set q v).take (n + 1) = A.take q ++ v :: A.drop q := by
 have h1 : cur.take q = A.take q := by
  have h := congrArg (List.take q) ht
  rw [List.take_take, Nat.min_eq_left (by omega), List.take_append_of_le_length (by omega)] at h
  exact h
 have h2 : cur.take (q + 1) = A.take q ++ [cur[q]'(by omega)] := by rw [List.take_add_one, List.getElem?_eq_getElem (by omega), h1]; rfl
 have hl : (A.take q).length = q := by rw [List.length_take]; omega
 unfold splice
 rw [h2, List.append_assoc, List.set_append_right _ _ (by omega), hl, Nat.sub_self]
 show (A.take q ++ (v :: (A.drop q ++ _))).take (n + 1) = _
 rw [← List.cons_append, ← List.append_assoc, List.take_append_of_le_length (by simp; omega), List.take_of_length_le (by simp; omega)]
theorem jstr13 : (Tryd.prog.info? 9).map (fun i => (i.zero, i.size, i.bytes)) = some (some (.string ⟨#[]⟩), 1, 16) := by kernel_rfl
theorem less_lex : ∀ (x y : List UInt8), Op.bytesLess x y = decide (x < y) := by
 intro x
 induction x with
 | nil => intro y; cases y <;> simp [Op.bytesLess]
 | cons a x ih =>
  intro y
  cases y with
  | nil => simp [Op.bytesLess]
  | cons b y =>
   rw [Op.bytesLess, ih y]
   simp only [List.cons_lt_cons_iff]
   by_cases h1 : a < b <;> by_cases h2 : a = b <;> by_cases h3 : x < y <;> simp [h1, h2, h3]
theorem less_str (a b : ByteArray) : Op.bytesLess a.toList b.toList = decide (a.data.toList < b.data.toList) := by rw [less_lex, ByteArray.toList_eq, ByteArray.toList_eq]
/-- Lists of names, one behind the other. -/
def ncat (f : Xt → List (List UInt8)) (F : Nat → Xt) : Nat → List (List UInt8)
 | 0 => []
 | n + 1 => ncat f F n ++ f (F n)
/-- The names of an expression, as they stand. -/
def nmx : Nat → Xt → List (List UInt8)
 | 0, T => if (T []).k = 2 then [(T []).nm.data.toList] else []
 | d + 1, T => if (T []).k = 2 then [(T []).nm.data.toList] else ncat (nmx d) (kid T) (T []).len
theorem qd4 {d : Nat} {T : Xt} (h : (T []).k = 2) : nmx d T = [(T []).nm.data.toList] := by
 cases d with
 | zero => show (if _ then _ else _) = _; rw [if_pos h]
 | succ d => show (if _ then _ else _) = _; rw [if_pos h]
theorem qcb {d : Nat} {T : Xt} (h : (T []).k ≠ 2) : nmx (d + 1) T = ncat (nmx d) (kid T) (T []).len := by
 show (if _ then _ else _) = _; rw [if_neg h]
theorem Nw.low {w : World} {B C : Nat} {v : Value} {L : List (List UInt8)} (h : Nw w B v L) (hc : C ≤ B) : Nw w C v L := by
 refine ⟨h.1, ?_⟩
 rcases h.2 with h | ⟨g, cap, cur, e, hB, hr⟩
 ·exact .inl h
 ·exact .inr ⟨g, cap, cur, e, by omega, hr⟩
theorem enc_one : ∀ (L : List (List UInt8)), ∀ u ∈ L.map encStr, u.oneCell' = true := by
 intro L u hu
 obtain ⟨x, _, rfl⟩ := List.mem_map.1 hu
 rfl
/-- A list of names put behind another one. -/
theorem qb7 {ops : Array Oper} {rest : List Oper} {op : Oper} {a : Act} {w : World} {Q : Exit → Act → World → Prop} (hgd : op.guard = none) (sl x : Operand) (ho : op.op = .call { callee := .builtin .append, args := #[sl, x], argTypes := #[34, 34] })
  (B : Nat) (v : Value) (L : List (List UInt8)) (hs : a.eval sl = v) (hown : Nw w B v L) (B2 : Nat) (v2 : Value) (M : List (List UInt8)) (hx : a.eval x = v2) (hM : Nw w B2 v2 M) (hlim : L.length + M.length ≤ 1000000000) (hB : B ≤ w.heap.size)
  (h : ∀ v' w', Nw w' B v' (L ++ M) → Below B w w' → wpList Tryd.prog ops Q rest (a.put op.dst v') w') : wpList Tryd.prog ops Q (op :: rest) a w := by
 obtain ⟨i0, hi0, hz0, hz1, hz2⟩ := info_parts jstr13
 rcases hM.2 with ⟨e, h0⟩ | ⟨g, cap, cur, e, hr⟩
 ·obtain rfl : M = [] := List.eq_nil_of_length_eq_zero h0
  rw [List.append_nil] at h
  obtain ⟨a1, d1, e1, hz⟩ := hown.form
  have hle : L.length ≤ d1 := by
   rcases hown.2 with ⟨e2, h2⟩ | ⟨g2, cap2, cur2, e2, _, _, hc2, _⟩
   ·omega
   ·rw [e1] at e2; cases e2; exact hc2
  have hsrc : Src Tryd.prog i0.size 34 (.slice none 0 0) 0 [] w := ⟨.inl ⟨_, Tryd.underlying34⟩, fun w' => rfl, by simp [Builtin.firstCells], by simp [Builtin.firstCells], by simp, fun u hu => by cases hu⟩
  have hr := run_append_nothing (P := Tryd.prog) w 34 34 op.type 9 i0 Tryd.underlying34 hi0 a1 L.length d1 hle (.slice none 0 0) hsrc
  refine wpList_plain hgd fun K hK => ?_
  unfold Oper.wp execOp
  rw [e1] at hs
  rw [e] at hx
  simp only [ho, resolve, invoke, builtin, Sem.run_bind, Sem.run_pure, Result.andThen_ok, List.map_toArray, List.map_cons, List.map_nil, hs, hx, hr]
  refine hK _ _ (h _ w ?_ (Below.refl _ _))
  rw [← e1]; exact hown
 ·rw [e] at hx
  refine wpList_append_own w hgd sl x 34 ho B 9 i0 (.string ⟨#[]⟩) 1 16 Tryd.underlying34 hi0 hz0 hz1 hz2 rfl (by decide) v L.length _ hs hown ⟨g, 0, none⟩ M.length cap (M.map encStr) hx (by rw [List.length_map, Nat.mul_one]) (World.ownsRow.cells hM (g := g) (by rw [e]; rfl)) (enc_one M) (by unfold maxLen; omega) (by omega) hB (fun v' w' h1 h2 _ => h v' w' ?_ (jbelow h2 hB (fun k hk => (hown.base hk).1)))
  unfold Nw
  rw [List.map_append, List.length_append]
  exact h1
end Go.Proofs.YtgmndjbicandfaaDoor
