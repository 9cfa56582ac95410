/-
  Stage 13: what holds of every table that was made.
-/
import Derived.Test.YtemhodenkgngmaaDoorQkkwn00
import Derived.Test.YtemhodenkgngmaaDoorQkkwn43
set_option maxRecDepth 100000
set_option maxHeartbeats 16000000
namespace Go.Proofs.YtemhodenkgngmaaDoor
open Go.RowKit Go.Shelf Go.Maps
theorem qbq {α : Type} (T : List α) : T = [] ∨ ∃ V y, T = V ++ [y] := by
 rcases List.eq_nil_or_concat T with h | ⟨V, y, h⟩
 ·exact .inl h
 ·exact .inr ⟨V, y, by rw [h, List.concat_eq_append]⟩
theorem qci {s : ByteArray} : ∀ {L : List Sy}, skd L s = none ↔ ∀ y ∈ L, y.nm ≠ s := by
 intro L
 induction L with
 | nil => exact ⟨fun _ y hy => (by cases hy), fun _ => rfl⟩
 | cons x L ih =>
  show (if sbq x.nm s then some x.k else skd L s) = none ↔ _
  cases hq : sbq x.nm s with
  | true =>
   rw [if_pos rfl]
   refine ⟨fun h => (by cases h), fun h => ?_⟩
   refine absurd ?_ (h x (List.mem_cons_self ..))
   by_cases e : x.nm = s
   ·exact e
   ·rw [qdl e] at hq; cases hq
  | false =>
   rw [if_neg (by decide)]
   refine ⟨fun h y hy => ?_, fun h => ih.2 (fun y hy => h y (List.mem_cons_of_mem _ hy))⟩
   rcases List.mem_cons.1 hy with e | hy
   ·rw [e]; intro e2; rw [e2, qbc] at hq; cases hq
   ·exact ih.1 h y hy
/-- What holds of the symbol y behind those of L. -/
structure SyR (F : Nat → It) (n : Nat) (L : List Sy) (y : Sy) : Prop where
 nm : NameP y.nm
 k : y.k = 1 ∨ y.k = 2
 num : nmB y.n = true
 new : skd L y.nm = none
 at_ : ∃ i : Nat, i < n ∧ y.it = (i : Int) ∧ (F i).nm = y.nm ∧ ∀ z ∈ L, z.it < y.it
/-- Of all symbols. -/
def TR (F : Nat → It) (n : Nat) (T : List Sy) : Prop := ∀ L y R, T = L ++ y :: R → SyR F n L y
theorem SyR.more {F : Nat → It} {n : Nat} {L : List Sy} {y : Sy} (h : SyR F n L y) : SyR F (n + 1) L y := by
 obtain ⟨i, h1, h2, h3, h4⟩ := h.at_
 exact ⟨h.nm, h.k, h.num, h.new, i, by omega, h2, h3, h4⟩
theorem TR.push {F : Nat → It} {n : Nat} {T : List Sy} {y : Sy} (h : TR F n T) (hy : SyR F n T y) : TR F n (T ++ [y]) := by
 intro L z R e
 rcases qbq R with rfl | ⟨R', x, rfl⟩
 ·obtain ⟨rfl, e2⟩ := List.append_inj' e rfl
  cases e2
  exact hy
 ·have e2 : T ++ [y] = (L ++ z :: R') ++ [x] := by rw [e]; simp
  obtain ⟨rfl, _⟩ := List.append_inj' e2 rfl
  exact h L z R' rfl
theorem TR.mem {F : Nat → It} {n : Nat} {T : List Sy} (h : TR F n T) {y : Sy} (hy : y ∈ T) : ∃ L R, T = L ++ y :: R ∧ SyR F n L y := by
 obtain ⟨L, R, e⟩ := List.append_of_mem hy
 exact ⟨L, R, e, h L y R e⟩
theorem mi_nm {I : It} (h : MI I) (hk : I.k = 1 ∨ I.k = 2) : NameP I.nm := by
 rcases h with ⟨_, _, h, _⟩ | ⟨_, _, h, _⟩ | ⟨g, _⟩ | ⟨g, _⟩ | ⟨g, _⟩ | ⟨g, _⟩ | ⟨g, _⟩ | ⟨g, _⟩ | ⟨g, _⟩
 ·exact h
 ·exact h
 all_goals omega
theorem stp_tr {F : Nat → It} {n : Nat} {T U : List Sy} (hT : TR F n T) (hI : MI (F n)) (h : stp n (F n) T = .ok U) : TR F (n + 1) U := by
 have h1 : TR F (n + 1) T := fun L y R e => (hT L y R e).more
 unfold stp at h
 split at h
 ·cases h
 ·split at h
  ·cases h
  ·rename_i hc
   split at h
   ·rename_i hk
    split at h
    ·cases h
    ·rename_i hs
     cases h
     refine h1.push ⟨mi_nm hI hk, hk, ?_, by simpa using hs, n, by omega, rfl, rfl, fun z hz => ?_⟩
     ·show nmB (mdk (F n) T).v = true
      have hc0 : (mdk (F n) T).c = 0 := by omega
      unfold mdk at hc0 ⊢
      split
      ·rename_i hk1
       rw [if_pos hk1] at hc0
       exact (qdv hc0).2.2
      ·rfl
     ·obtain ⟨L, R, _, hz2⟩ := hT.mem hz
      obtain ⟨i, hi, e, _⟩ := hz2.at_
      show z.it < (n : Int)
      omega
   ·cases h; exact h1
theorem tbl_tr {F : Nat → It} : ∀ {n : Nat} {T : List Sy}, (∀ i, i < n → MI (F i)) → tbl F n = .ok T → TR F n T := by
 intro n
 induction n with
 | zero => intro T _ h; cases h; intro L y R e; simp at e
 | succ n ih =>
  intro T hM h
  rw [qbd] at h
  cases hn : tbl F n with
  | error qq => obtain ⟨c, l1, l2⟩ := qq; rw [hn] at h; cases h
  | ok V =>
   rw [hn] at h
   exact stp_tr (ih (fun i hi => hM i (by omega)) hn) (hM n (by omega)) h
theorem qe8 {F G : Nat → Cn} : ∀ {n : Nat}, (∀ i, i < n → F i = G i) → mayE F n = mayE G n := by
 have he : ∀ {n : Nat} {s : ByteArray}, (∀ i, i < n → F i = G i) → elk F n s = elk G n s := by
  intro n
  induction n with
  | zero => intro _ _; rfl
  | succ n ih =>
   intro s h
   show (if sbq (F n).nm s then some (F n).n else elk F n s) = (if sbq (G n).nm s then some (G n).n else elk G n s)
   rw [h n (by omega), ih (fun i hi => h i (by omega))]
 intro n
 induction n with
 | zero => intro _; rfl
 | succ n ih =>
  intro h
  show (mayE F n && (isN (F n).nm && nmB (F n).n && (elk F n (F n).nm).isNone)) = (mayE G n && (isN (G n).nm && nmB (G n).n && (elk G n (G n).nm).isNone))
  rw [ih (fun i hi => h i (by omega)), h n (by omega), he (fun i hi => h i (by omega))]
theorem qf3 {F G : Nat → Sy} : ∀ {n : Nat}, (∀ i, i < n → F i = G i) → cst F n = cst G n := by
 intro n
 induction n with
 | zero => intro _; rfl
 | succ n ih =>
  intro h
  show cst F n ++ (if (F n).k = 1 then [⟨(F n).nm, (F n).n⟩] else []) = cst G n ++ (if (G n).k = 1 then [⟨(G n).nm, (G n).n⟩] else [])
  rw [ih (fun i hi => h i (by omega)), h n (by omega)]
theorem qbr {α : Type} (L M : List α) (d : α) {i : Nat} (h : i < L.length) : (L ++ M).getD i d = L.getD i d := by
 rw [List.getD_eq_getElem?_getD, List.getD_eq_getElem?_getD, List.getElem?_append_left h]
theorem qcu {α : Type} (L : List α) (x d : α) : (L ++ [x]).getD L.length d = x := by
 rw [List.getD_eq_getElem?_getD, List.getElem?_append_right (Nat.le_refl _), Nat.sub_self]; rfl
theorem cst_push (T : List Sy) (y : Sy) : cst (fun j => (T ++ [y]).getD j sy0) (T ++ [y]).length = cst (fun j => T.getD j sy0) T.length ++ (if y.k = 1 then [⟨y.nm, y.n⟩] else []) := by
 rw [List.length_append]
 show cst (fun j => (T ++ [y]).getD j sy0) T.length ++ (if ((T ++ [y]).getD T.length sy0).k = 1 then [⟨((T ++ [y]).getD T.length sy0).nm, ((T ++ [y]).getD T.length sy0).n⟩] else []) = _
 rw [qcu, qf3 (fun i hi => qbr T [y] sy0 hi)]
theorem cst_mem : ∀ {n : Nat} {F : Nat → Sy} {c : Cn}, c ∈ cst F n → ∃ i, i < n ∧ (F i).nm = c.nm ∧ (F i).k = 1 ∧ (F i).n = c.n := by
 intro n
 induction n with
 | zero => intro F c h; cases h
 | succ n ih =>
  intro F c h
  rcases List.mem_append.1 h with h | h
  ·obtain ⟨i, hi, e⟩ := ih h
   exact ⟨i, by omega, e⟩
  ·split at h
   ·rename_i hk; rw [List.mem_singleton.1 h]; exact ⟨n, by omega, rfl, hk, rfl⟩
   ·cases h
theorem qcj {α : Type} {L : List α} {d : α} {i : Nat} (h : i < L.length) : L.getD i d ∈ L := by
 rw [List.getD_eq_getElem?_getD, List.getElem?_eq_getElem h]
 exact List.getElem_mem h
/-- The constants of a table may be an environment. -/
theorem TR.env {F : Nat → It} {n : Nat} {T : List Sy} (h : TR F n T) : mayE (fun i => (cst (fun j => T.getD j sy0) T.length).getD i cn0) (cst (fun j => T.getD j sy0) T.length).length = true := by
 have key : ∀ (m : Nat) (T : List Sy), T.length = m → TR F n T → mayE (fun i => (cst (fun j => T.getD j sy0) T.length).getD i cn0) (cst (fun j => T.getD j sy0) T.length).length = true := by
  intro m
  induction m with
  | zero =>
   intro T e _
   obtain rfl := List.eq_nil_of_length_eq_zero e
   rfl
  | succ m ih =>
   intro T e hT
   rcases qbq T with rfl | ⟨V, y, rfl⟩
   ·cases e
   ·rw [List.length_append] at e
    have e1 : V.length = m := by simpa using e
    have hV := ih V e1 (fun L z R e2 => hT L z (R ++ [y]) (by rw [e2]; simp))
    have hy := hT V y [] rfl
    rw [cst_push]
    generalize hC : cst (fun j => V.getD j sy0) V.length = C at hV ⊢
    split
    ·rw [List.length_append]
     show (mayE (fun i => (C ++ [(⟨y.nm, y.n⟩ : Cn)]).getD i cn0) C.length && (isN ((C ++ [(⟨y.nm, y.n⟩ : Cn)]).getD C.length cn0).nm && nmB ((C ++ [(⟨y.nm, y.n⟩ : Cn)]).getD C.length cn0).n && (elk (fun i => (C ++ [(⟨y.nm, y.n⟩ : Cn)]).getD i cn0) C.length ((C ++ [(⟨y.nm, y.n⟩ : Cn)]).getD C.length cn0).nm).isNone)) = true
     rw [qcu, qe8 (G := fun i => C.getD i cn0) (fun i hi => qbr C _ cn0 hi), hV, qaf.2 hy.nm, hy.num]
     have hz : elk (fun i => (C ++ [(⟨y.nm, y.n⟩ : Cn)]).getD i cn0) C.length y.nm = none := by
      rw [elk_none]
      intro i hi
      rw [qbr C _ cn0 hi]
      have hm : C.getD i cn0 ∈ C := qcj hi
      rw [← hC] at hm
      obtain ⟨q, hq, e3, _⟩ := cst_mem hm
      rw [hC] at e3
      rw [← e3]
      exact (qci.1 hy.new) _ (qcj hq)
     rw [hz]
     rfl
    ·rw [List.append_nil]; exact hV
 exact key _ T rfl h
end Go.Proofs.YtemhodenkgngmaaDoor
