/-
  Stage 12: the reference's places of expressions; lists of numbers.
-/
import Derived.Test.YtgmndjbicandfaaDoorQnnes00
import Derived.Test.YtgmndjbicandfaaDoorQnnes30
import Derived.Test.YtgmndjbicandfaaDoorQnnes39
import Derived.Test.YtgmndjbicandfaaDoorQnnes44
set_option maxRecDepth 100000
set_option maxHeartbeats 16000000
namespace Go.Proofs.YtgmndjbicandfaaDoor
open Go.RowKit Go.Shelf Go.Maps
/-- An own list of numbers. -/
def Iw (w : World) (B : Nat) (v : Value) (O : List Int) : Prop := w.ownsRow B 3 1 v O.length (O.map (Value.int .i64))
theorem Iw.nil (w : World) (B : Nat) : Iw w B (.slice none 0 0) [] := World.ownsRow_nil _ _ _ _
theorem Iw.later {w w' : World} {B : Nat} {v : Value} {L : List Int} (h : Iw w B v L) (hb : Below w.heap.size w w') : Iw w' B v L := World.ownsRow.kept h (jgrown.mpr hb) (by cases hv : v.ownBlock <;> simp)
theorem Iw.form {w : World} {B : Nat} {v : Value} {L : List Int} (h : Iw w B v L) : ∃ a d, v = .slice a L.length d ∧ (a = none → L.length = 0 ∧ d = 0) := by
 rcases h.2 with ⟨e, h0⟩ | ⟨g, cap, cur, e, _⟩
 ·exact ⟨none, 0, by rw [e, h0], fun _ => ⟨h0, rfl⟩⟩
 ·exact ⟨_, _, e, fun x => by cases x⟩
theorem Iw.base {w : World} {B : Nat} {v : Value} {L : List Int} (h : Iw w B v L) {g : Nat} (hg : v.ownBlock = some g) : B ≤ g ∧ g < w.heap.size := by
 rcases h.2 with ⟨e, _⟩ | ⟨g', cap, cur, e, hB, hb, _⟩
 ·rw [e] at hg; simp [Value.ownBlock] at hg
 ·rw [e] at hg; simp [Value.ownBlock] at hg; subst hg; exact ⟨hB, lt_of_block hb⟩
theorem Iw.low {w : World} {B C : Nat} {v : Value} {L : List Int} (h : Iw w B v L) (hc : C ≤ B) : Iw w C v L := by
 refine ⟨h.1, ?_⟩
 rcases h.2 with h | ⟨g, cap, cur, e, hB, hr⟩
 ·exact .inl h
 ·exact .inr ⟨g, cap, cur, e, by omega, hr⟩
theorem Iw.jl {w : World} {B n d : Nat} {a : Option Addr} {L : List Int} (h : Iw w B (.slice a n d) L) : Jl w a .i64 L.length (fun i => L.getD i 0) := fun i hi => by
 rcases h.2 with ⟨_, h0⟩ | ⟨g, cap, cur, e, hB, _⟩
 ·omega
 ·have hc := World.ownsRow.cells h (g := g) (by rw [e]; rfl) i (.int .i64 (L.getD i 0)) (by rw [List.getElem?_map, List.getElem?_eq_getElem hi, List.getD_eq_getElem?_getD, List.getElem?_eq_getElem hi]; rfl)
  cases e
  rw [Addr.add_mid, Nat.zero_add] at hc
  exact ⟨g, 0, rfl, by rw [Nat.zero_add]; exact hc⟩
theorem jint12 : (Tryd.prog.info? 3).map (fun i => (i.zero, i.size, i.bytes)) = some (some (.int .i64 0), 1, 8) := by kernel_rfl
theorem qe9 (M : List Int) : ∀ u ∈ M.map (Value.int .i64), u.oneCell' = true := by
 intro u hu
 obtain ⟨x, _, rfl⟩ := List.mem_map.1 hu
 rfl
/-- A list of numbers put behind another one. -/
theorem qb8 {ops : Array Oper} {rest : List Oper} {op : Oper} {a : Act} {w : World} {Q : Exit → Act → World → Prop} (hgd : op.guard = none) (sl x : Operand) (ho : op.op = .call { callee := .builtin .append, args := #[sl, x], argTypes := #[45, 45] })
  (B : Nat) (v : Value) (L : List Int) (hs : a.eval sl = v) (hown : Iw w B v L) (B2 : Nat) (v2 : Value) (M : List Int) (hx : a.eval x = v2) (hM : Iw w B2 v2 M) (hlim : L.length + M.length ≤ 1000000000) (hB : B ≤ w.heap.size)
  (h : ∀ v' w', Iw w' B v' (L ++ M) → Below B w w' → wpList Tryd.prog ops Q rest (a.put op.dst v') w') : wpList Tryd.prog ops Q (op :: rest) a w := by
 obtain ⟨i0, hi0, hz0, hz1, hz2⟩ := info_parts jint12
 rcases hM.2 with ⟨e, h0⟩ | ⟨g, cap, cur, e, hr⟩
 ·obtain rfl : M = [] := List.eq_nil_of_length_eq_zero h0
  rw [List.append_nil] at h
  obtain ⟨a1, d1, e1, hz⟩ := hown.form
  have hle : L.length ≤ d1 := by
   rcases hown.2 with ⟨e2, h2⟩ | ⟨g2, cap2, cur2, e2, _, _, hc2, _⟩
   ·omega
   ·rw [e1] at e2; cases e2; exact hc2
  have hsrc : Src Tryd.prog i0.size 45 (.slice none 0 0) 0 [] w := ⟨.inl ⟨_, Tryd.underlying45⟩, fun w' => rfl, by simp [Builtin.firstCells], by simp [Builtin.firstCells], by simp, fun u hu => by cases hu⟩
  have hr := run_append_nothing (P := Tryd.prog) w 45 45 op.type 3 i0 Tryd.underlying45 hi0 a1 L.length d1 hle (.slice none 0 0) hsrc
  refine wpList_plain hgd fun K hK => ?_
  unfold Oper.wp execOp
  rw [e1] at hs
  rw [e] at hx
  simp only [ho, resolve, invoke, builtin, Sem.run_bind, Sem.run_pure, Result.andThen_ok, List.map_toArray, List.map_cons, List.map_nil, hs, hx, hr]
  refine hK _ _ (h _ w ?_ (Below.refl _ _))
  rw [← e1]; exact hown
 ·rw [e] at hx
  refine wpList_append_own w hgd sl x 45 ho B 3 i0 (.int .i64 0) 1 8 Tryd.underlying45 hi0 hz0 hz1 hz2 rfl (by decide) v L.length _ hs hown ⟨g, 0, none⟩ M.length cap (M.map (Value.int .i64)) hx (by rw [List.length_map, Nat.mul_one]) (World.ownsRow.cells hM (g := g) (by rw [e]; rfl)) (qe9 M) (by unfold maxLen; omega) (by omega) hB (fun v' w' h1 h2 _ => h v' w' ?_ (jbelow h2 hB (fun k hk => (hown.base hk).1)))
  unfold Iw
  rw [List.map_append, List.length_append]
  exact h1
/-- Two numbers more, in a drawn region. -/
theorem qbj {ops : Array Oper} {op : Oper} {a : Act} {w : World} {K : Act → World → Prop} {Q : Exit → Act → World → Prop} {E : Prop} (hgd : op.guard = none) (sl x : Operand) (ho : op.op = .call { callee := .builtin .append, args := #[sl, x], argTypes := #[45, 45] })
  (B : Nat) (v : Value) (L : List Int) (p q : Int) (hs : a.eval sl = v) (hown : Iw w B v L) (ad : Addr) (hx : a.eval x = .slice (some ad) 2 2) (hc : ∀ j u, [Value.int .i64 p, .int .i64 q][j]? = some u → w.cell? (ad.add j) = some u) (hlim : L.length ≤ 1000000000) (hB : B ≤ w.heap.size)
  (h : ∀ v' w', Iw w' B v' (L ++ [p, q]) → Below B w w' → K (a.put op.dst v') w') : if Region.wanted op (yielded ops a.tmps) = true then Oper.wp Tryd.prog op a w K Q else E := by
 obtain ⟨i0, hi0, hz0, hz1, hz2⟩ := info_parts jint12
 have hw : Region.wanted op (yielded ops a.tmps) = true := by simp [Region.wanted, hgd]
 rw [if_pos hw]
 obtain ⟨v', w', hrun, r1, r2, _⟩ := run_append_own (P := Tryd.prog) w B 45 op.type 3 i0 (.int .i64 0) 1 8 Tryd.underlying45 hi0 hz0 hz1 hz2 rfl (by decide) v L.length _ hown ad 2 2 [.int .i64 p, .int .i64 q] rfl hc (qe9 [p, q]) (by unfold maxLen; omega) (by omega) hB
 unfold Oper.wp
 simp [execOp, ho, resolve, invoke, builtin, hs, hx, hrun, Result.andThen]
 refine h v' w' ?_ (jbelow r2 hB (fun k hk => (hown.base hk).1))
 unfold Iw
 rw [List.map_append, List.length_append]
 exact r1
/-- Lists of numbers, one behind the other. -/
def icl (g : Nat → List Int) : Nat → List Int
 | 0 => []
 | n + 1 => icl g n ++ g n
/-- The places of an expression. -/
def plc : Nat → Xt → List Int
 | 0, T => [(T []).ln, (T []).cl]
 | d + 1, T => [(T []).ln, (T []).cl] ++ icl (fun i => plc d (kid T i)) (T []).len
theorem icl_cnt {f : Xt → Int → Int} {g : Xt → List Int} {F : Nat → Xt} : ∀ {n : Nat} {left : Int}, (∀ i, i < n → ∀ l, 0 ≤ f (F i) l → ((g (F i)).length : Int) ≤ 2 * (l - f (F i) l)) → 0 ≤ xks f F n left → ((icl (fun i => g (F i)) n).length : Int) ≤ 2 * (left - xks f F n left) := by
 intro n
 induction n with
 | zero => intro left _ _; show ((0 : Nat) : Int) ≤ 2 * (left - left); omega
 | succ n ih =>
  intro left h h0
  rw [qa4] at h0 ⊢
  by_cases hn : xks f F n left < 0
  ·rw [if_pos hn] at h0; omega
  ·rw [if_neg hn] at h0 ⊢
   have h1 := ih (fun i hi => h i (by omega)) (left := left) (by omega)
   have h2 := h n (by omega) _ h0
   show (((icl (fun i => g (F i)) n) ++ g (F n)).length : Int) ≤ _
   rw [List.length_append]
   omega
theorem plc_cnt : ∀ {d : Nat} {T : Xt} {left : Int}, 0 ≤ xleft d T left → ((plc d T).length : Int) ≤ 2 * (left - xleft d T left) := by
 intro d
 induction d with
 | zero => intro T left h; rw [qa7] at h; omega
 | succ d ih =>
  intro T left h
  obtain ⟨m, hw, h1, he, hk⟩ := qa6 h
  rw [he] at h ⊢
  show ((([(T []).ln, (T []).cl] : List Int) ++ icl (fun i => plc d (kid T i)) (T []).len).length : Int) ≤ _
  rw [show (T []).len = m from (qaf hw).1, List.length_append]
  have := icl_cnt (f := xleft d) (g := plc d) (F := kid T) (n := m) (left := left - 1) (fun i _ l hl => ih hl) h
  show (((2 + (icl (fun i => plc d (kid T i)) m).length : Nat)) : Int) ≤ _
  omega
/-- It may be, or it has no part. -/
def Pd (d : Nat) (T : Xt) : Prop := MX d T ∨ (T []).len = 0
theorem Pd.few {d : Nat} {T : Xt} (h : Pd d T) : (plc d T).length ≤ 16386 := by
 rcases h with ⟨left, h1, h2⟩ | h
 ·have := plc_cnt h2
  omega
 ·cases d with
  | zero => exact (by show 2 ≤ _; omega)
  | succ d =>
   show ([(T []).ln, (T []).cl] ++ icl (fun i => plc d (kid T i)) (T []).len).length ≤ _
   rw [h]
   show 2 ≤ _
   omega
theorem Pd.len {d : Nat} {T : Xt} (h : Pd d T) : (T []).len ≤ 2 := by
 rcases h with h | h
 ·cases d with
  | zero => exact h.no.elim
  | succ d => exact h.len
 ·omega
theorem Pd.kid {d : Nat} {T : Xt} (h : Pd (d + 1) T) : ∀ i, i < (T []).len → Pd d (kid T i) := fun i hi => by
 rcases h with h | h
 ·exact .inl (h.kid hi)
 ·omega
end Go.Proofs.YtgmndjbicandfaaDoor
