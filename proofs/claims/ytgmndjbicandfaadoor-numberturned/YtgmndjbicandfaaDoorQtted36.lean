/-
  Stage 12: own lists of constants; an append that leaves the old list as it was; an environment the other way round.
-/
import Derived.Test.YtgmndjbicandfaaDoorQtted00
import Derived.Test.YtgmndjbicandfaaDoorQtted27
import Derived.Test.YtgmndjbicandfaaDoorQtted30
import Derived.Test.YtgmndjbicandfaaDoorQtted35
set_option maxRecDepth 100000
set_option maxHeartbeats 16000000
namespace Go.Proofs.YtgmndjbicandfaaDoor
open Go.RowKit Go.Shelf Go.Maps
def crow (L : List Cn) : List Value := L.flatMap (fun c => [.string c.nm, .int .i64 c.n])
theorem crow_app (L M : List Cn) : crow (L ++ M) = crow L ++ crow M := by unfold crow; rw [List.flatMap_append]
theorem crow_get : ∀ (L : List Cn) (i : Nat) (c : Cn), L[i]? = some c → (crow L)[i * 2]? = some (.string c.nm) ∧ (crow L)[i * 2 + 1]? = some (.int .i64 c.n) := by
 intro L
 induction L with
 | nil => intro i c h; cases h
 | cons x L ih =>
  intro i c h
  cases i with
  | zero => cases h; exact ⟨rfl, rfl⟩
  | succ i =>
   have h2 : L[i]? = some c := by simpa using h
   obtain ⟨h3, h4⟩ := ih i c h2
   have e : (i + 1) * 2 = i * 2 + 1 + 1 := by omega
   rw [e]
   exact ⟨h3, h4⟩
/-- A list of constants of the call's own. -/
def Cw (w : World) (B : Nat) (v : Value) (L : List Cn) : Prop := w.ownsRow B 50 2 v L.length (crow L)
theorem Cw.nil (w : World) (B : Nat) : Cw w B (.slice none 0 0) [] := World.ownsRow_nil _ _ _ _
theorem Cw.later {w w' : World} {B : Nat} {v : Value} {L : List Cn} (h : Cw w B v L) (hb : Below w.heap.size w w') : Cw w' B v L := World.ownsRow.kept h (jgrown.mpr hb) (by cases hv : v.ownBlock <;> simp)
theorem Cw.kept {w w' : World} {B : Nat} {v : Value} {L : List Cn} {row : Option Nat} (h : Cw w B v L) (hg : w.grownBy w' row) (hne : v.ownBlock = none ∨ v.ownBlock ≠ row) : Cw w' B v L := World.ownsRow.kept h hg hne
theorem Cw.form {w : World} {B : Nat} {v : Value} {L : List Cn} (h : Cw w B v L) : ∃ a d, v = .slice a L.length d ∧ (a = none → L.length = 0 ∧ d = 0) := by
 rcases h.2 with ⟨e, h0⟩ | ⟨g, cap, cur, e, _⟩
 ·exact ⟨none, 0, by rw [e, h0], fun _ => ⟨h0, rfl⟩⟩
 ·exact ⟨_, _, e, fun x => by cases x⟩
theorem Cw.base {w : World} {B : Nat} {v : Value} {L : List Cn} (h : Cw w B v L) {g : Nat} (hg : v.ownBlock = some g) : B ≤ g ∧ g < w.heap.size := by
 rcases h.2 with ⟨e, _⟩ | ⟨g', cap, cur, e, hB, hb, _⟩
 ·rw [e] at hg; simp [Value.ownBlock] at hg
 ·rw [e] at hg; simp [Value.ownBlock] at hg; subst hg; exact ⟨hB, lt_of_block hb⟩
theorem Cw.push {w : World} {B : Nat} {v : Value} {L : List Cn} {c : Cn} (h : w.ownsRow B 50 2 v (L.length + 1) (crow L ++ [.string c.nm, .int .i64 c.n])) : Cw w B v (L ++ [c]) := by
 unfold Cw
 rw [crow_app, List.length_append]
 exact h
def cn0 : Cn := ⟨⟨#[]⟩, 0⟩
/-- Such a list, read. -/
theorem Cw.el {w : World} {B : Nat} {a : Option Addr} {n d : Nat} {L : List Cn} (h : Cw w B (.slice a n d) L) (hok : ∀ c ∈ L, CnOk c) : n = L.length ∧ EL w a L.length (fun i => L.getD i cn0) := by
 obtain ⟨a', d', e, hz⟩ := h.form
 obtain ⟨rfl, rfl, rfl⟩ : a = a' ∧ n = L.length ∧ d = d' := by cases e; exact ⟨rfl, rfl, rfl⟩
 refine ⟨rfl, fun i hi => ?_⟩
 have hg : L[i]? = some (L.getD i cn0) := by rw [List.getD_eq_getElem?_getD, List.getElem?_eq_getElem hi]; rfl
 obtain ⟨h0, h1⟩ := crow_get L i _ hg
 cases ha : a with
 | none => rw [ha] at hz; have := (hz rfl).1; omega
 | some x =>
  rw [ha] at h
  have hb : ∃ g, x = ⟨g, 0, none⟩ := by
   rcases h.2 with ⟨e, _⟩ | ⟨g, cap, cur, e, _⟩
   ·cases e
   ·cases e; exact ⟨g, rfl⟩
  obtain ⟨g, rfl⟩ := hb
  have hc : ∀ j u, (crow L)[j]? = some u → w.cell? ((⟨g, 0, none⟩ : Addr).add j) = some u := World.ownsRow.cells h (g := g) rfl
  refine ⟨hok _ (List.mem_of_getElem? hg), g, 0, rfl, ?_, ?_⟩
  ·have := hc _ _ h0
   rw [show (⟨g, 0, none⟩ : Addr).add (i * 2) = ⟨g, 0 + i * 2, none⟩ by unfold Addr.add; split <;> simp_all] at this
   exact this
  ·have := hc _ _ h1
   rw [show (⟨g, 0, none⟩ : Addr).add (i * 2 + 1) = ⟨g, 0 + i * 2 + 1, none⟩ by unfold Addr.add; split <;> simp_all] at this
   exact this
theorem jcnst : (Tryd.prog.info? 50).map (fun i => (i.zero, i.size, i.bytes)) = some (some (.agg #[.string ⟨#[]⟩, .int .i64 0]), 2, 24) := by kernel_rfl
/-- An append leaves the row that it was called with as it was. -/
theorem qbz {P : Program} {w w' : World} {t ty e : TypeId} {i : TypeInfo} {z : Value} (ht : P.underlying t = some (.slice e)) (hi : P.info? e = some i) (hz : i.zero = some z) {base : Nat} {v v' : Value} {n : Nat} {xs : List Value} (hown : w.ownsRow base e i.size v n xs)
  {a : Addr} {m c : Nat} {news : List Value} (hl : news.length = m * i.size) (hnews : ∀ j u, news[j]? = some u → w.cell? (a.add j) = some u) (h1 : ∀ u ∈ news, u.oneCell' = true) (h63 : n + m ≤ 9223372036854775807) (hbytes : (n + m) * i.bytes ≤ 140737488355328)
  (hr : (Builtin.append_ #[t, t] ty #[v, .slice (some a) m c]).run P w = .ok v' w') : w'.ownsRow base e i.size v n xs := by
 refine ⟨hown.1, ?_⟩
 rcases hown.2 with ⟨rfl, rfl⟩ | ⟨g, cap, cur, rfl, hB, hg, hnc, hcm, hcs, htk⟩
 ·exact .inl ⟨rfl, rfl⟩
 ·by_cases hroom : n + m ≤ cap
  ·have hfit : n * i.size + news.length ≤ cur.size := by rw [hl, hcs, ← Nat.add_mul]; exact Nat.mul_le_mul_right _ hroom
   rw [run_append_room (P := P) w t ty e i ht hi g n cap cur hg a m c news hl hnews h1 hroom hfit] at hr
   cases hr
   have hlen : (cur.toList.take (n * i.size)).length = n * i.size := by rw [htk]; exact hown.1
   refine .inr ⟨g, cap, _, rfl, hB, setRow_heap w g cur _ e _ hg, hnc, hcm, ?_, ?_⟩
   ·simp only [List.size_toArray, List.length_append, List.length_drop, Array.length_toList, hlen]
    omega
   ·show ((cur.toList.take (n * i.size) ++ news ++ cur.toList.drop (n * i.size + news.length)).take (n * i.size)) = xs
    rw [List.append_assoc, List.take_append_of_le_length (by omega), List.take_of_length_le (by omega), htk]
  ·have holds : ∀ j u, xs[j]? = some u → w.cell? ((⟨g, 0, none⟩ : Addr).add j) = some u := World.ownsRow.cells hown (g := g) rfl
   rw [run_append_grow (P := P) w t ty e i z ht hi hz ⟨g, 0, none⟩ n cap xs hown.1 holds a m c news hl hnews (by omega) (by omega) (growslice_fits (by omega) hbytes)] at hr
   cases hr
   refine .inr ⟨g, cap, cur, rfl, hB, ?_, hnc, hcm, hcs, htk⟩
   rw [← hg]
   exact (jlow w.drew _).block g (lt_of_block hg)
theorem qac {ops : Array Oper} {op : Oper} {a : Act} {w : World} {K : Act → World → Prop} {Q : Exit → Act → World → Prop} {E : Prop} (hgd : op.guard = none) (sl x : Operand) (ho : op.op = .call { callee := .builtin .append, args := #[sl, x], argTypes := #[26, 26] })
  (B : Nat) (v : Value) (L : List Cn) (cc : Cn) (hs : a.eval sl = v) (hown : Cw w B v L) (ad : Addr) (hx : a.eval x = .slice (some ad) 1 1) (hc : ∀ j u, [Value.string cc.nm, .int .i64 cc.n][j]? = some u → w.cell? (ad.add j) = some u) (hlim : (L.length + 1) * 24 ≤ 140737488355328) (hB : B ≤ w.heap.size)
  (h : ∀ v' w', Cw w' B v' (L ++ [cc]) → Cw w' B v L → w.grownBy w' v.ownBlock → Below B w w' → K (a.put op.dst v') w') : if Region.wanted op (yielded ops a.tmps) = true then Oper.wp Tryd.prog op a w K Q else E := by
 obtain ⟨i0, hi0, hz0, hz1, hz2⟩ := info_parts jcnst
 have hw : Region.wanted op (yielded ops a.tmps) = true := by simp [Region.wanted, hgd]
 rw [if_pos hw]
 have one : ∀ u ∈ [Value.string cc.nm, .int .i64 cc.n], u.oneCell' = true := by intro u hu; simp at hu; rcases hu with rfl | rfl <;> rfl
 obtain ⟨v', w', hrun, r1, r2, _⟩ := run_append_own (P := Tryd.prog) w B 26 op.type 50 i0 (.agg #[.string ⟨#[]⟩, .int .i64 0]) 2 24 Tryd.underlying26 hi0 hz0 hz1 hz2 rfl (by decide) v L.length (crow L) hown ad 1 1 [.string cc.nm, .int .i64 cc.n] rfl hc one (by unfold maxLen; omega) hlim hB
 have hk := qbz (P := Tryd.prog) (i := i0) (z := .agg #[.string ⟨#[]⟩, .int .i64 0]) Tryd.underlying26 hi0 hz0 (by rw [hz1]; exact hown) (by rw [hz1]; rfl) hc one (by omega) (by rw [hz2]; exact hlim) hrun
 rw [hz1] at hk
 unfold Oper.wp
 simp [execOp, ho, resolve, invoke, builtin, hs, hx, hrun, Result.andThen]
 exact h v' w' (Cw.push r1) hk r2 (jbelow r2 hB (fun k hk => (hown.base hk).1))
/-- The environment the other way round. -/
def rvE (F : Nat → Cn) (n : Nat) : List Cn := (List.range n).map fun i => F (n - 1 - i)
theorem qbo (F : Nat → Cn) (n : Nat) : (rvE F n).length = n := by simp [rvE]
theorem qe3 (F : Nat → Cn) (n i : Nat) (h : i < n) : (rvE F n)[i]? = some (F (n - 1 - i)) := by simp [rvE, h]
/-- The constants that are still to be put behind it: the first j of them, last first. -/
theorem rvE_take (F : Nat → Cn) (n i : Nat) (h : i < n) : (rvE F n).take i ++ [F (n - 1 - i)] = (rvE F n).take (i + 1) := by
 rw [List.take_add_one, qe3 F n i h]; rfl
theorem elk_hit {F : Nat → Cn} {n : Nat} {s : ByteArray} {v : Int} (h : elk F n s = some v) : ∃ i, i < n ∧ (F i).nm = s ∧ (F i).n = v := by
 induction n with
 | zero => cases h
 | succ n ih =>
  unfold elk at h
  by_cases e : sbq (F n).nm s = true
  ·rw [if_pos e] at h
   have e2 : (F n).nm = s := by
    by_cases e3 : (F n).nm = s
    ·exact e3
    ·rw [qbc e3] at e; cases e
   exact ⟨n, by omega, e2, Option.some.inj h⟩
  ·rw [if_neg e] at h
   obtain ⟨i, hi, h1, h2⟩ := ih h
   exact ⟨i, by omega, h1, h2⟩
/-- Two environments that may be and have the same constants but for one name are the same elsewhere. -/
theorem elk_same {F G : Nat → Cn} {n m : Nat} {z : ByteArray} (hG : mayE G m = true) (h1 : ∀ i, i < n → ∃ j, j < m ∧ G j = F i) (h2 : ∀ j, j < m → (G j).nm = z ∨ ∃ i, i < n ∧ G j = F i) {s : ByteArray} (hs : s ≠ z) : elk F n s = elk G m s := by
 cases h : elk F n s with
 | some v =>
  obtain ⟨i, hi, e1, e2⟩ := elk_hit h
  obtain ⟨j, hj, e⟩ := h1 i hi
  rw [elk_some hG hj (by rw [e]; exact e1), e, e2]
 | none =>
  symm
  rw [qb3] at h ⊢
  intro j hj e
  rcases h2 j hj with h3 | ⟨i, hi, h3⟩
  ·exact hs (e.symm.trans h3)
  ·exact h i hi (by rw [← h3]; exact e)
/-- What an expression comes to hangs on its names alone. -/
theorem ncat_mem {f : Xt → List (List UInt8)} {F : Nat → Xt} {x : List UInt8} : ∀ {n i : Nat}, i < n → x ∈ f (F i) → x ∈ ncat f F n := by
 intro n
 induction n with
 | zero => intro i hi _; omega
 | succ n ih =>
  intro i hi hx
  show x ∈ ncat f F n ++ f (F n)
  by_cases e : i = n
  ·subst e; exact List.mem_append_right _ hx
  ·exact List.mem_append_left _ (ih (by omega) hx)
theorem qd5 {E E' : ByteArray → Option Int} : ∀ {d : Nat} {T : Xt}, (∀ s : ByteArray, s.data.toList ∈ nmx d T → E s = E' s) → xval E d T = xval E' d T := by
 intro d
 induction d with
 | zero => intro T _; rfl
 | succ d ih =>
  intro T h
  by_cases h1 : (T []).k = 1
  ·rw [qds h1, qds h1]
  ·by_cases h2 : (T []).k = 2
   ·have e := h (T []).nm (by rw [qcq h2]; exact List.mem_singleton.2 rfl)
    cases hv : E' (T []).nm with
    | none => rw [qbw h2 (e.trans hv), qbw h2 hv]
    | some v => rw [qcz h2 (e.trans hv), qcz h2 hv]
   ·have hk : ∀ i, i < (T []).len → xval E d (kid T i) = xval E' d (kid T i) := fun i hi => ih (fun s hs => h s (by rw [qby h2]; exact ncat_mem hi hs))
    have e1 : xflt (fun i => xval E d (kid T i)) (T []).len = xflt (fun i => xval E' d (kid T i)) (T []).len := qd4 hk
    cases hf : xflt (fun i => xval E' d (kid T i)) (T []).len with
    | some r => rw [qdt h1 h2 (e1.trans hf), qdt h1 h2 hf]
    | none =>
     rw [qdu h1 h2 (e1.trans hf), qdu h1 h2 hf, qbd (fun j hj => by rw [hk j hj]) 0, qbd (fun j hj => by rw [hk j hj]) 1]
end Go.Proofs.YtgmndjbicandfaaDoor
