/-
  Stage 13: the reference's Like over like lists; the tables of beginnings.
  Stage 13: what holds of every table that was made.
-/
import Derived.Test.YtemhodenkgngmaaDoorQttes00
import Derived.Test.YtemhodenkgngmaaDoorQttes32
set_option maxRecDepth 100000
set_option maxHeartbeats 16000000
namespace Go.Proofs.YtemhodenkgngmaaDoor
open Go.RowKit Go.Shelf Go.Maps
theorem qgf (w : World) (x3 x4 : Option Addr) (n d3 d4 : Nat) (F : Nat → Sy) (h3 : SyL w x3 n F) (h4 : SyL w x4 n F) (hn : n ≤ 3600000000000) :
  Calls Tryd.prog 11 #[.slice x3 n d3, .slice x4 n d4] w fun e w' => e = .returned (.bool true) ∧ Below w.heap.size w w' := by
 have H3 := qa0 h3
 have H4 := qa0 h4
 have hns := neq_sy13
 have hng := qcg
 clear h3 h4
 go_enter Tryd.func11, Tryd.ntmps11
 go_wp2
 go_loopw [5] (fun vi wr => ∃ i : Nat, i ≤ n ∧ vi = .int .i64 (i : Int) ∧ SyL wr x3 n F ∧ SyL wr x4 n F ∧ Below w.heap.size w wr) (fun vi _ => n - (intOf vi).toNat)
 case atStart => exact ⟨0, by omega, rfl, H3.out, H4.out, Below.refl _ _⟩
 case round =>
  obtain ⟨i, hi, rfl, hx, hy, hb⟩ := hrel
  have HX := qa0 hx
  have HY := qa0 hy
  have HB := qa0 hb
  clear hb H3 H4
  by_cases hlt : i < n
  ·have p0 : (0 : Int) ≤ (i : Int) := by omega
   have p1 : (i : Int) < (n : Int) := by omega
   obtain ⟨ok3, b3, o3, ex3, k0, k1, k2, k3⟩ := hx i hlt
   obtain ⟨ok4, b4, o4, ex4, r0, r1, r2, r3⟩ := hy i hlt
   subst ex3
   subst ex4
   generalize hyy : F i = y at k0 k1 k2 k3 r0 r1 r2 r3
   obtain ⟨yn, yk, yi, yv⟩ := y
   dsimp only at k0 k1 k2 k3 r0 r1 r2 r3
   clear ok3 ok4 hx hy hyy
   go_wp2
   refine wp_region_held (S := fun w' => w'.cell? ⟨b3, o3 + i * 4, none⟩ = some (.string yn) ∧ w'.cell? ⟨b3, o3 + i * 4 + 1, none⟩ = some (.int .u8 (yk : Int)) ∧ w'.cell? ⟨b3, o3 + i * 4 + 2, none⟩ = some (.int .i64 yi) ∧ w'.cell? ⟨b3, o3 + i * 4 + 3, none⟩ = some (.int .i64 yv) ∧ w'.cell? ⟨b4, o4 + i * 4, none⟩ = some (.string yn) ∧ w'.cell? ⟨b4, o4 + i * 4 + 1, none⟩ = some (.int .u8 (yk : Int)) ∧ w'.cell? ⟨b4, o4 + i * 4 + 2, none⟩ = some (.int .i64 yi) ∧ w'.cell? ⟨b4, o4 + i * 4 + 3, none⟩ = some (.int .i64 yv)) (by kernel_rfl) ?_
   change wpAnyH _ _ _ _ _ _ _ _ (World.drew _)
   obtain ⟨W0, HW0⟩ : ∃ W0, Hid (wr.drew = W0) := ⟨_, rfl⟩
   rw [HW0.out]
   have hbW : Below wr.heap.size wr W0 := by rw [← HW0.out]; exact (Below.refl _ _).drew
   have HB0 := qa0 (jtwo HB.out hbW)
   have HX0 := qa0 (HX.out.later hbW)
   have HY0 := qa0 (HY.out.later hbW)
   have c0 := cell_kept k0 hbW
   have c1 := cell_kept k1 hbW
   have c2 := cell_kept k2 hbW
   have c3 := cell_kept k3 hbW
   have e0 := cell_kept r0 hbW
   have e1 := cell_kept r1 hbW
   have e2 := cell_kept r2 hbW
   have e3 := cell_kept r3 hbW
   clear hbW k0 k1 k2 k3 r0 r1 r2 r3 HB HX HY HW0
   refine wtkq 0 ?v0 rfl (by kernel_rfl) (fun _ _ _ h => h) (by rfl) ?y0 ⟨c0, c1, c2, c3, e0, e1, e2, e3⟩ ?z0
   case y0 => (intro w hSw; (try dsimp only at hSw); go_simp; try with_reducible rfl)
   try simp only [mz1, mz3, Act.put, mz4, mz5, mz6]
   refine wtkq 1 ?v1 rfl (by kernel_rfl) (fun _ _ _ h => h) (by rfl) ?y1 ⟨c0, c1, c2, c3, e0, e1, e2, e3⟩ ?z1
   case y1 => (intro w hSw; (try dsimp only at hSw); go_simp; try with_reducible rfl)
   try simp only [mz1, mz2, mz3, Act.put, mz4, mz5, mz6]
   refine wtkq 2 ?v2 rfl (by kernel_rfl) (fun _ _ _ h => h) (by rfl) ?y2 ⟨c0, c1, c2, c3, e0, e1, e2, e3⟩ ?z2
   case y2 => (intro w hSw; (try dsimp only at hSw); go_simp; try with_reducible rfl)
   try simp only [mz1, mz2, mz3, Act.put, mz4, mz5, mz6]
   refine wtkq 3 ?v3 rfl (by kernel_rfl) (fun _ _ _ h => h) (by rfl) ?y3 ⟨c0, c1, c2, c3, e0, e1, e2, e3⟩ ?z3
   case y3 => (intro w hSw; (try dsimp only at hSw); go_simp; try with_reducible rfl)
   try simp only [mz1, mz2, mz3, Act.put, mz4, mz5, mz6]
   refine wtkq 4 ?v4 rfl (by kernel_rfl) (fun _ _ _ h => h) (by rfl) ?y4 ⟨c0, c1, c2, c3, e0, e1, e2, e3⟩ ?z4
   case y4 => (intro w hSw; (try dsimp only at hSw); go_simp; try with_reducible rfl)
   try simp only [mz1, mz2, mz3, Act.put, mz4, mz5, mz6]
   refine wtkq 5 ?v5 rfl (by kernel_rfl) (fun _ _ _ h => h) (by rfl) ?y5 ⟨c0, c1, c2, c3, e0, e1, e2, e3⟩ ?z5
   case y5 => (intro w hSw; (try dsimp only at hSw); go_simp; try with_reducible rfl)
   try simp only [mz1, mz2, mz3, Act.put, mz4, mz5, mz6]
   refine wtkq 6 ?v6 rfl (by kernel_rfl) (fun _ _ _ h => h) (by rfl) ?y6 ⟨c0, c1, c2, c3, e0, e1, e2, e3⟩ ?z6
   case y6 => (intro w hSw; (try dsimp only at hSw); go_simp; try with_reducible rfl)
   try simp only [mz1, mz2, mz3, Act.put, mz4, mz5, mz6]
   refine wtkq 7 ?v7 rfl (by kernel_rfl) (fun _ _ _ h => h) (by rfl) ?y7 ⟨c0, c1, c2, c3, e0, e1, e2, e3⟩ ?z7
   case y7 => (intro w hSw; (try dsimp only at hSw); go_simp; try with_reducible rfl)
   try simp only [mz1, mz2, mz3, Act.put, mz4, mz5, mz6]
   refine wtkq 8 ?v8 rfl (by kernel_rfl) (fun _ _ _ h => h) (by rfl) ?y8 ⟨c0, c1, c2, c3, e0, e1, e2, e3⟩ ?z8
   case y8 => (intro w hSw; (try dsimp only at hSw); go_simp; try with_reducible rfl)
   try simp only [mz1, mz2, mz3, Act.put, mz4, mz5, mz6]
   refine wpAnyH_done (by kernel_rfl) ?_ _
   go_wp2
   exact ⟨⟨i + 1, by omega, by go_num, HX0.out, HY0.out, HB0.out⟩, by simp [intOf]; omega⟩
  ·obtain rfl : i = n := by omega
   clear hx hy
   go_wp2
   go_ret
   exact ⟨rfl, HB.out⟩
theorem wfl_code {E : ByteArray → Option Nat} : ∀ {U : List Us}, wfl E U ≠ (0, 0, 0) → (wfl E U).1 ≠ 0 := by
 intro U
 induction U with
 | nil => intro h; exact absurd rfl h
 | cons u r ih =>
  show (match E u.nm with | none => ((121 : Int), u.ln, u.cl) | some k => if k = u.k then wfl E r else (131, u.ln, u.cl)) ≠ _ → _
  intro h
  show (match E u.nm with | none => ((121 : Int), u.ln, u.cl) | some k => if k = u.k then wfl E r else (131, u.ln, u.cl)).1 ≠ 0
  cases hE : E u.nm with
  | none => exact (by decide : (121 : Int) ≠ 0)
  | some k =>
   rw [hE] at h
   dsimp only at h ⊢
   by_cases hk : k = u.k
   ·rw [if_pos hk] at h ⊢; exact ih h
   ·rw [if_neg hk]; exact (by decide : (131 : Int) ≠ 0)
theorem qez (F : Nat → It) (n : Nat) : tbl F (n + 1) = (match tbl F n with | .error (c, ln, cl) => .error (c, ln, cl) | .ok T => stp n (F n) T) := rfl
theorem tbl_len {F : Nat → It} : ∀ {n : Nat} {T : List Sy}, tbl F n = .ok T → T.length ≤ n := by
 intro n
 induction n with
 | zero => intro T h; cases h; exact Nat.le_refl _
 | succ n ih =>
  intro T h
  rw [qez] at h
  cases hn : tbl F n with
  | error qq =>
   obtain ⟨c', l1, l2⟩ := qq
   rw [hn] at h; cases h
  | ok V =>
   rw [hn] at h
   have := ih hn
   dsimp only at h
   unfold stp at h
   split at h
   ·cases h
   ·split at h
    ·cases h
    ·split at h
     ·split at h
      ·cases h
      ·cases h; rw [List.length_append]; show _ + 1 ≤ _; omega
     ·cases h; omega
open Go.RowKit Go.Shelf Go.Maps
theorem qch {α : Type} (T : List α) : T = [] ∨ ∃ V y, T = V ++ [y] := by
 rcases List.eq_nil_or_concat T with h | ⟨V, y, h⟩
 ·exact .inl h
 ·exact .inr ⟨V, y, by rw [h, List.concat_eq_append]⟩
theorem qf0 {s : ByteArray} : ∀ {L : List Sy}, skd L s = none ↔ ∀ y ∈ L, y.nm ≠ s := by
 intro L
 induction L with
 | nil => exact ⟨fun _ y hy => (by cases hy), fun _ => rfl⟩
 | cons x L ih =>
  show (if sbq x.nm s then some x.k else skd L s) = none ↔ _
  cases hq : sbq x.nm s with
  | true =>
   rw [if_pos rfl]
   refine ⟨fun h => (by cases h), fun h => ?_⟩
   refine absurd ?_ (h x (List.mem_cons_self ..))
   by_cases e : x.nm = s
   ·exact e
   ·rw [qbt e] at hq; cases hq
  | false =>
   rw [if_neg (by decide)]
   refine ⟨fun h y hy => ?_, fun h => ih.2 (fun y hy => h y (List.mem_cons_of_mem _ hy))⟩
   rcases List.mem_cons.1 hy with e | hy
   ·rw [e]; intro e2; rw [e2, qb8] at hq; cases hq
   ·exact ih.1 h y hy
/-- What holds of the symbol y behind those of L. -/
structure SyR (F : Nat → It) (n : Nat) (L : List Sy) (y : Sy) : Prop where
 nm : NameP y.nm
 k : y.k = 1 ∨ y.k = 2
 num : nmB y.n = true
 new : skd L y.nm = none
 at_ : ∃ i : Nat, i < n ∧ y.it = (i : Int) ∧ (F i).nm = y.nm ∧ ∀ z ∈ L, z.it < y.it
/-- Of all symbols. -/
def TR (F : Nat → It) (n : Nat) (T : List Sy) : Prop := ∀ L y R, T = L ++ y :: R → SyR F n L y
theorem SyR.more {F : Nat → It} {n : Nat} {L : List Sy} {y : Sy} (h : SyR F n L y) : SyR F (n + 1) L y := by
 obtain ⟨i, h1, h2, h3, h4⟩ := h.at_
 exact ⟨h.nm, h.k, h.num, h.new, i, by omega, h2, h3, h4⟩
theorem TR.push {F : Nat → It} {n : Nat} {T : List Sy} {y : Sy} (h : TR F n T) (hy : SyR F n T y) : TR F n (T ++ [y]) := by
 intro L z R e
 rcases qch R with rfl | ⟨R', x, rfl⟩
 ·obtain ⟨rfl, e2⟩ := List.append_inj' e rfl
  cases e2
  exact hy
 ·have e2 : T ++ [y] = (L ++ z :: R') ++ [x] := by rw [e]; simp
  obtain ⟨rfl, _⟩ := List.append_inj' e2 rfl
  exact h L z R' rfl
theorem TR.mem {F : Nat → It} {n : Nat} {T : List Sy} (h : TR F n T) {y : Sy} (hy : y ∈ T) : ∃ L R, T = L ++ y :: R ∧ SyR F n L y := by
 obtain ⟨L, R, e⟩ := List.append_of_mem hy
 exact ⟨L, R, e, h L y R e⟩
theorem mi_nm {I : It} (h : MI I) (hk : I.k = 1 ∨ I.k = 2) : NameP I.nm := by
 rcases h with ⟨_, _, h, _⟩ | ⟨_, _, h, _⟩ | ⟨g, _⟩ | ⟨g, _⟩ | ⟨g, _⟩ | ⟨g, _⟩ | ⟨g, _⟩ | ⟨g, _⟩ | ⟨g, _⟩
 ·exact h
 ·exact h
 all_goals omega
theorem stp_tr {F : Nat → It} {n : Nat} {T U : List Sy} (hT : TR F n T) (hI : MI (F n)) (h : stp n (F n) T = .ok U) : TR F (n + 1) U := by
 have h1 : TR F (n + 1) T := fun L y R e => (hT L y R e).more
 unfold stp at h
 split at h
 ·cases h
 ·split at h
  ·cases h
  ·rename_i hc
   split at h
   ·rename_i hk
    split at h
    ·cases h
    ·rename_i hs
     cases h
     refine h1.push ⟨mi_nm hI hk, hk, ?_, by simpa using hs, n, by omega, rfl, rfl, fun z hz => ?_⟩
     ·show nmB (mdk (F n) T).v = true
      have hc0 : (mdk (F n) T).c = 0 := by omega
      unfold mdk at hc0 ⊢
      split
      ·rename_i hk1
       rw [if_pos hk1] at hc0
       exact (qd4 hc0).2.2
      ·rfl
     ·obtain ⟨L, R, _, hz2⟩ := hT.mem hz
      obtain ⟨i, hi, e, _⟩ := hz2.at_
      show z.it < (n : Int)
      omega
   ·cases h; exact h1
theorem tbl_tr {F : Nat → It} : ∀ {n : Nat} {T : List Sy}, (∀ i, i < n → MI (F i)) → tbl F n = .ok T → TR F n T := by
 intro n
 induction n with
 | zero => intro T _ h; cases h; intro L y R e; simp at e
 | succ n ih =>
  intro T hM h
  rw [qez] at h
  cases hn : tbl F n with
  | error qq => obtain ⟨c, l1, l2⟩ := qq; rw [hn] at h; cases h
  | ok V =>
   rw [hn] at h
   exact stp_tr (ih (fun i hi => hM i (by omega)) hn) (hM n (by omega)) h
theorem qfc {F G : Nat → Cn} : ∀ {n : Nat}, (∀ i, i < n → F i = G i) → mayE F n = mayE G n := by
 have he : ∀ {n : Nat} {s : ByteArray}, (∀ i, i < n → F i = G i) → elk F n s = elk G n s := by
  intro n
  induction n with
  | zero => intro _ _; rfl
  | succ n ih =>
   intro s h
   show (if sbq (F n).nm s then some (F n).n else elk F n s) = (if sbq (G n).nm s then some (G n).n else elk G n s)
   rw [h n (by omega), ih (fun i hi => h i (by omega))]
 intro n
 induction n with
 | zero => intro _; rfl
 | succ n ih =>
  intro h
  show (mayE F n && (isN (F n).nm && nmB (F n).n && (elk F n (F n).nm).isNone)) = (mayE G n && (isN (G n).nm && nmB (G n).n && (elk G n (G n).nm).isNone))
  rw [ih (fun i hi => h i (by omega)), h n (by omega), he (fun i hi => h i (by omega))]
theorem qgg {F G : Nat → Sy} : ∀ {n : Nat}, (∀ i, i < n → F i = G i) → cst F n = cst G n := by
 intro n
 induction n with
 | zero => intro _; rfl
 | succ n ih =>
  intro h
  show cst F n ++ (if (F n).k = 1 then [⟨(F n).nm, (F n).n⟩] else []) = cst G n ++ (if (G n).k = 1 then [⟨(G n).nm, (G n).n⟩] else [])
  rw [ih (fun i hi => h i (by omega)), h n (by omega)]
theorem qci {α : Type} (L M : List α) (d : α) {i : Nat} (h : i < L.length) : (L ++ M).getD i d = L.getD i d := by
 rw [List.getD_eq_getElem?_getD, List.getD_eq_getElem?_getD, List.getElem?_append_left h]
theorem qdj {α : Type} (L : List α) (x d : α) : (L ++ [x]).getD L.length d = x := by
 rw [List.getD_eq_getElem?_getD, List.getElem?_append_right (Nat.le_refl _), Nat.sub_self]; rfl
theorem cst_push (T : List Sy) (y : Sy) : cst (fun j => (T ++ [y]).getD j sy0) (T ++ [y]).length = cst (fun j => T.getD j sy0) T.length ++ (if y.k = 1 then [⟨y.nm, y.n⟩] else []) := by
 rw [List.length_append]
 show cst (fun j => (T ++ [y]).getD j sy0) T.length ++ (if ((T ++ [y]).getD T.length sy0).k = 1 then [⟨((T ++ [y]).getD T.length sy0).nm, ((T ++ [y]).getD T.length sy0).n⟩] else []) = _
 rw [qdj, qgg (fun i hi => qci T [y] sy0 hi)]
theorem cst_mem : ∀ {n : Nat} {F : Nat → Sy} {c : Cn}, c ∈ cst F n → ∃ i, i < n ∧ (F i).nm = c.nm ∧ (F i).k = 1 ∧ (F i).n = c.n := by
 intro n
 induction n with
 | zero => intro F c h; cases h
 | succ n ih =>
  intro F c h
  rcases List.mem_append.1 h with h | h
  ·obtain ⟨i, hi, e⟩ := ih h
   exact ⟨i, by omega, e⟩
  ·split at h
   ·rename_i hk; rw [List.mem_singleton.1 h]; exact ⟨n, by omega, rfl, hk, rfl⟩
   ·cases h
theorem qbx {α : Type} {L : List α} {d : α} {i : Nat} (h : i < L.length) : L.getD i d ∈ L := by
 rw [List.getD_eq_getElem?_getD, List.getElem?_eq_getElem h]
 exact List.getElem_mem h
/-- The constants of a table may be an environment. -/
theorem TR.env {F : Nat → It} {n : Nat} {T : List Sy} (h : TR F n T) : mayE (fun i => (cst (fun j => T.getD j sy0) T.length).getD i cn0) (cst (fun j => T.getD j sy0) T.length).length = true := by
 have key : ∀ (m : Nat) (T : List Sy), T.length = m → TR F n T → mayE (fun i => (cst (fun j => T.getD j sy0) T.length).getD i cn0) (cst (fun j => T.getD j sy0) T.length).length = true := by
  intro m
  induction m with
  | zero =>
   intro T e _
   obtain rfl := List.eq_nil_of_length_eq_zero e
   rfl
  | succ m ih =>
   intro T e hT
   rcases qch T with rfl | ⟨V, y, rfl⟩
   ·cases e
   ·rw [List.length_append] at e
    have e1 : V.length = m := by simpa using e
    have hV := ih V e1 (fun L z R e2 => hT L z (R ++ [y]) (by rw [e2]; simp))
    have hy := hT V y [] rfl
    rw [cst_push]
    generalize hC : cst (fun j => V.getD j sy0) V.length = C at hV ⊢
    split
    ·rw [List.length_append]
     show (mayE (fun i => (C ++ [(⟨y.nm, y.n⟩ : Cn)]).getD i cn0) C.length && (isN ((C ++ [(⟨y.nm, y.n⟩ : Cn)]).getD C.length cn0).nm && nmB ((C ++ [(⟨y.nm, y.n⟩ : Cn)]).getD C.length cn0).n && (elk (fun i => (C ++ [(⟨y.nm, y.n⟩ : Cn)]).getD i cn0) C.length ((C ++ [(⟨y.nm, y.n⟩ : Cn)]).getD C.length cn0).nm).isNone)) = true
     rw [qdj, qfc (G := fun i => C.getD i cn0) (fun i hi => qci C _ cn0 hi), hV, qac.2 hy.nm, hy.num]
     have hz : elk (fun i => (C ++ [(⟨y.nm, y.n⟩ : Cn)]).getD i cn0) C.length y.nm = none := by
      rw [qd0]
      intro i hi
      rw [qci C _ cn0 hi]
      have hm : C.getD i cn0 ∈ C := qbx hi
      rw [← hC] at hm
      obtain ⟨q, hq, e3, _⟩ := cst_mem hm
      rw [hC] at e3
      rw [← e3]
      exact (qf0.1 hy.new) _ (qbx hq)
     rw [hz]
     rfl
    ·rw [List.append_nil]; exact hV
 exact key _ T rfl h
end Go.Proofs.YtemhodenkgngmaaDoor
