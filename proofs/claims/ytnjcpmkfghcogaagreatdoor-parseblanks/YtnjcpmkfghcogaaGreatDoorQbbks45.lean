/-
  Contracts of the program's tree: putExpr, ExprText.
  Contracts of the program's tree: putExprs, putRows, putParts, putShape.
  Contracts of the program's tree: putShape.
  Contracts of the program's tree: putPlace, putItem.
  Contracts of the program's tree: ExprText; the anchor.
  Contracts of the program's tree: putItem whole; Text.
  Contracts of the program's tree: Text.
  Contracts of the program's parse: Tidy.
  Stage 11, mathematics: an item stands where its first token stands.
  Where tokens stand changes nothing but where parts stand: rows, shapes, items, descriptions.
  Stage 11, mathematics: counts go on by what is added; the text of an expression, of a shape, cut and read again.
  Stage 11, mathematics: a text that stands within a greater one is cut there as it is cut alone.
  Stage 11, mathematics: what is read of some tokens is read of them where others stand behind.
  Stage 11, mathematics: how texts are read: what was printed; blanks and remarks ahead and behind; one text behind the other.
  Stage 11: what Program and Tidy answer, as the laws ask; what ParseOnce needs.
-/
import Derived.Test.YtnjcpmkfghcogaaGreatDoorQbbks00
import Derived.Test.YtnjcpmkfghcogaaGreatDoorQbbks10
import Derived.Test.YtnjcpmkfghcogaaGreatDoorQbbks06
import Derived.Test.YtnjcpmkfghcogaaGreatDoorQbbks09
import Derived.Test.YtnjcpmkfghcogaaGreatDoorQbbks12
import Derived.Test.YtnjcpmkfghcogaaGreatDoorQbbks14
import Derived.Test.YtnjcpmkfghcogaaGreatDoorQbbks43
import Derived.Test.YtnjcpmkfghcogaaGreatDoorQbbks44
import Derived.Test.YtnjcpmkfghcogaaGreatDoorQbbks41
import Derived.Test.YtnjcpmkfghcogaaGreatDoorQbbks22
import Derived.Test.YtnjcpmkfghcogaaGreatDoorQbbks19
import Derived.Test.YtnjcpmkfghcogaaGreatDoorQbbks18
set_option maxRecDepth 100000
set_option maxHeartbeats 16000000
namespace Go.Proofs.YtnjcpmkfghcogaaGreatDoor
open Go.RowKit
def Few (L : List TV) (d : Nat) : Prop := ∃ _ : Unit, L.length + 100000 * d ≤ 900000000
theorem Few.le {L : List TV} {d : Nat} (h : Few L d) : L.length + 100000 * d ≤ 900000000 := by
 obtain ⟨_, h⟩ := h
 exact h
open Go.RowKit
theorem MS.no {S : St} (h : MS 0 S) : False := by
 obtain ⟨left, _, h⟩ := h
 exact absurd h (by show ¬ (0 : Int) ≤ -1; omega)
open Go.RowKit
theorem qk3 {t : TV} {r : List TV} {I : It} {s : List TV} (h : pit (t :: r) = .ok (I, s)) : I.ln = t.ln ∧ I.cl = t.cl := by
 rw [qbz] at h
 obtain ⟨x, q, h1, h2⟩ := qa3 h
 obtain ⟨u, _, _, rfl⟩ := qc8 h2
 by_cases hk : kitem t = 0
 ·have e : pbody t r = .error (t :: r) := by unfold pbody; rw [hk]; rfl
  rw [e] at h1
  cases h1
 ·rw [qfh t r hk (qdm t)] at h1
  obtain ⟨J, q', _, h3⟩ := qa3 h1
  injection h3 with h3
  injection h3 with h3 _
  rw [← h3]
  exact ⟨rfl, rfl⟩
theorem qib {P : Int → Int → Prop} : ∀ (n : Nat) (L : List TV) (l : List It), pits n L = .ok l → (∀ t ∈ L, P t.ln t.cl) → ∀ I ∈ l, P I.ln I.cl := by
 intro n
 induction n with
 | zero => intro L l h; cases h
 | succ n ih =>
  intro L l h hL
  cases L with
  | nil =>
   have e : l = [] := by injection h with h; exact h.symm
   subst e
   intro I hI
   cases hI
  | cons t r =>
   rw [qcc] at h
   obtain ⟨J, s, l', h1, h2, rfl⟩ := qjt h
   have hp := qk3 h1
   have hs := qjq (t :: r)
   rw [h1] at hs
   have hs2 : s <:+ t :: r := hs
   intro I hI
   rcases List.mem_cons.1 hI with rfl | hI
   ·rw [hp.1, hp.2]
    exact hL t (List.mem_cons_self ..)
   ·exact ih s l' h2 (fun u hu => hL u (hs2.subset hu)) I hI
theorem gof_one (s : ByteArray) (L : List Tk) (i : Nat) : 1 ≤ (gof s L i).ln ∧ 1 ≤ (gof s L i).cl := by
 unfold gof
 split
 ·have a1 := qco s (L.getD i ⟨0, 0, 0, 0⟩).lo
  have a2 := qcb s (L.getD i ⟨0, 0, 0, 0⟩).lo
  exact ⟨by show 1 ≤ ((lnn s _ : Nat) : Int); omega, by show 1 ≤ ((cln s _ : Nat) : Int); omega⟩
 ·have a1 := qco s s.size
  have a2 := qcb s s.size
  exact ⟨by show 1 ≤ ((lnn s _ : Nat) : Int); omega, by show 1 ≤ ((cln s _ : Nat) : Int); omega⟩
theorem qk4 {s : ByteArray} {L : List Tk} {n : Nat} {l : List It} (h : pits n (tks s L) = .ok l) {i : Nat} (hi : i < l.length) : 1 ≤ (gi l i).ln ∧ 1 ≤ (gi l i).cl := by
 refine qib (P := fun a b => 1 ≤ a ∧ 1 ≤ b) n (tks s L) l h (fun t ht => ?_) _ (List.mem_of_getElem? (qfx hi))
 obtain ⟨k, _, rfl⟩ := List.mem_map.1 ht
 have a1 := qco s k.lo
 have a2 := qcb s k.lo
 exact ⟨by show 1 ≤ ((lnn s _ : Nat) : Int); omega, by show 1 ≤ ((cln s _ : Nat) : Int); omega⟩
def LsQ {α : Type} (Q : α → α → Prop) (l l' : List α) : Prop := l.length = l'.length ∧ ∀ (i : Nat) x x', l[i]? = some x → l'[i]? = some x' → Q x x'
theorem LsQ.one {α : Type} {Q : α → α → Prop} {x x' : α} (h : Q x x') : LsQ Q [x] [x'] := ⟨rfl, fun i a b ha hb => by
 cases i with
 | zero => cases ha; cases hb; exact h
 | succ i => cases ha⟩
theorem LsQ.cons {α : Type} {Q : α → α → Prop} {x x' : α} {l l' : List α} (h : Q x x') (g : LsQ Q l l') : LsQ Q (x :: l) (x' :: l') := ⟨by rw [List.length_cons, List.length_cons, g.1], fun i a b ha hb => by
 cases i with
 | zero => cases ha; cases hb; exact h
 | succ i => exact g.2 i a b (by simpa using ha) (by simpa using hb)⟩
theorem LsQ.get {α : Type} {Q : α → α → Prop} {l l' : List α} (h : LsQ Q l l') (d : α) (hd : Q d d) (i : Nat) : Q (l.getD i d) (l'.getD i d) := by
 rcases Nat.lt_or_ge i l.length with hi | hi
 ·have hi' : i < l'.length := by rw [← h.1]; exact hi
  rw [List.getD_eq_getElem?_getD, List.getD_eq_getElem?_getD, List.getElem?_eq_getElem hi, List.getElem?_eq_getElem hi']
  exact h.2 i _ _ (List.getElem?_eq_getElem hi) (List.getElem?_eq_getElem hi')
 ·rw [List.getD_eq_getElem?_getD, List.getD_eq_getElem?_getD, List.getElem?_eq_none hi, List.getElem?_eq_none (by have := h.1; omega)]
  exact hd
theorem qg5 : ∀ n L L', LQ L L' → RQ (LsQ XQ) (prow n L) (prow n L') := by
 intro n
 induction n with
 | zero => intro L L' h; exact RQ.err h
 | succ n ih =>
  intro L L' h
  refine (qds h).thn (fun y s y' s' a b => ?_)
  cases s with
  | nil =>
   obtain rfl := b.nil
   exact RQ.ok (LsQ.one a) rfl
  | cons t r =>
   obtain ⟨u, r', rfl, h1, h2⟩ := b.cons
   show RQ _ (if t.tx = ⟨#[44]⟩ then thn (prow n r) (fun l q => .ok (y :: l, q)) else .ok ([y], t :: r)) (if u.tx = ⟨#[44]⟩ then thn (prow n r') (fun l q => .ok (y' :: l, q)) else .ok ([y'], u :: r'))
   rw [(qdf h1).2.1]
   split
   ·exact (ih r r' h2).thn (fun l s l' s' c d => RQ.ok (LsQ.cons a c) d)
   ·exact RQ.ok (LsQ.one a) b
theorem qk5 : ∀ n L L', LQ L L' → RQ (LsQ (LsQ XQ)) (prws n L) (prws n L') := by
 intro n
 induction n with
 | zero => intro L L' h; exact RQ.err h
 | succ n ih =>
  intro L L' h
  have hr : RQ (LsQ XQ) (prow (L.length + 1) L) (prow (L'.length + 1) L') := by rw [h.len]; exact qg5 _ _ _ h
  refine hr.thn (fun y s y' s' a b => ?_)
  cases s with
  | nil =>
   obtain rfl := b.nil
   exact RQ.ok (LsQ.one a) rfl
  | cons t r =>
   obtain ⟨u, r', rfl, h1, h2⟩ := b.cons
   show RQ _ (if t.tx = ⟨#[59]⟩ then thn (prws n r) (fun l q => .ok (y :: l, q)) else .ok ([y], t :: r)) (if u.tx = ⟨#[59]⟩ then thn (prws n r') (fun l q => .ok (y' :: l, q)) else .ok ([y'], u :: r'))
   rw [(qdf h1).2.1]
   split
   ·exact (ih r r' h2).thn (fun l s l' s' c d => RQ.ok (LsQ.cons a c) d)
   ·exact RQ.ok (LsQ.one a) b
theorem qk6 {α : Type} {Q : α → α → Prop} {f : List TV → Rd α} (hf : ∀ L L', LQ L L' → RQ Q (f L) (f L')) : ∀ c L L', LQ L L' → RQ (LsQ Q) (pcnt f c L) (pcnt f c L') := by
 intro c
 induction c with
 | zero =>
  intro L L' h
  exact (hf L L' h).thn (fun y s y' s' a b => RQ.ok (LsQ.one a) b)
 | succ c ih =>
  intro L L' h
  refine (hf L L' h).thn (fun y s y' s' a b => ?_)
  refine (qbf (Q := fun _ _ => True) (x := ()) (x' := ()) trivial b).thn (fun _ q _ q' _ d => ?_)
  exact (ih q q' d).thn (fun l s l' s' e g => RQ.ok (LsQ.cons a e) g)
theorem qfj {α : Type} {Q : α → α → Prop} {f : List TV → Rd α} (hf : ∀ L L', LQ L L' → RQ Q (f L) (f L')) {c : Nat} {L L' : List TV} (h : LQ L L') : RQ (LsQ Q) (pbr f c L) (pbr f c L') := by
 unfold pbr
 refine (qbf (Q := fun _ _ => True) (x := ()) (x' := ()) trivial h).thn (fun _ q _ q' _ d => ?_)
 exact (qk6 hf c q q' d).thn (fun l s l' s' e g => qbf e g)
def SQ (S U : St) : Prop := ∀ d, slk d S U
theorem SQ.refl (S : St) : SQ S S := fun d => by
 have hx : ∀ (d : Nat) (T : Xt), xlk d T T := fun d T => XQ.refl T d
 have : ∀ (d : Nat) (S : St), slk d S S := by
  intro d
  induction d with
  | zero => intro S; trivial
  | succ d ih => intro S; exact ⟨rfl, rfl, rfl, fun i _ => hx 16 _, rfl, fun i _ => ⟨rfl, fun q _ => hx 16 _⟩, rfl, fun i _ => ih _⟩
 exact this d S
theorem sq_name {t u : TV} (h : t.tx = u.tx) : SQ (ySn t) (ySn u) := fun d => by
 cases d with
 | zero => trivial
 | succ d => exact ⟨rfl, h, rfl, fun i hi => absurd hi (Nat.not_lt_zero _), rfl, fun i hi => absurd hi (Nat.not_lt_zero _), rfl, fun i hi => absurd hi (Nat.not_lt_zero _)⟩
theorem qk7 {k : Nat} {t u : TV} {l l' : List Xt} (h : LsQ XQ l l') : SQ (ySa k t l) (ySa k u l') := fun d => by
 cases d with
 | zero => trivial
 | succ d => exact ⟨rfl, rfl, h.1, fun i _ => h.get l0x (XQ.refl _) i 16, rfl, fun i hi => absurd hi (Nat.not_lt_zero _), rfl, fun i hi => absurd hi (Nat.not_lt_zero _)⟩
theorem sq_parts {k : Nat} {t u : TV} {l l' : List St} (h : LsQ SQ l l') : SQ (ySp k t l) (ySp k u l') := fun d => by
 cases d with
 | zero => trivial
 | succ d => exact ⟨rfl, rfl, rfl, fun i hi => absurd hi (Nat.not_lt_zero _), rfl, fun i hi => absurd hi (Nat.not_lt_zero _), h.1, fun i _ => h.get l0s (SQ.refl _) i d⟩
theorem sq_rows {t u : TV} {l l' : List (List Xt)} (h : LsQ (LsQ XQ) l l') : SQ (ySr t l) (ySr u l') := fun d => by
 have hn : LsQ XQ [] [] := ⟨rfl, fun i x x' hx => by cases hx⟩
 cases d with
 | zero => trivial
 | succ d => exact ⟨rfl, rfl, rfl, fun i hi => absurd hi (Nat.not_lt_zero _), h.1, fun i _ => ⟨(h.get [] hn i).1, fun q _ => (h.get [] hn i).get l0x (XQ.refl _) q 16⟩, rfl, fun i hi => absurd hi (Nat.not_lt_zero _)⟩
theorem psh_like : ∀ n L L', LQ L L' → RQ SQ (psh n L) (psh n L') := by
 intro n
 induction n with
 | zero => intro L L' h; exact RQ.err h
 | succ n ih =>
  intro L L' h
  cases L with
  | nil =>
   obtain rfl := h.nil
   exact RQ.err rfl
  | cons t r =>
   obtain ⟨u, r', rfl, h1, h2⟩ := h.cons
   obtain ⟨e1, e2, e3⟩ := qdf h1
   have ek : kshape t = kshape u := by unfold kshape; rw [e1, e2]
   rw [qcy, qcy, ek]
   split
   ·exact RQ.ok (sq_name e2) h2
   ·split
    ·exact (qfj (fun L L' h => qds h) h2).thn (fun l s l' s' a b => RQ.ok (qk7 a) b)
    ·split
     ·exact (qfj (fun L L' h => qds h) h2).thn (fun l s l' s' a b => RQ.ok (qk7 a) b)
     ·split
      ·exact (qfj ih h2).thn (fun l s l' s' a b => RQ.ok (sq_parts a) b)
      ·split
       ·refine (qbf (Q := fun _ _ => True) (x := ()) (x' := ()) trivial h2).thn (fun _ q _ q' _ d => ?_)
        have hr : RQ (LsQ (LsQ XQ)) (prws (q.length + 1) q) (prws (q'.length + 1) q') := by rw [d.len]; exact qk5 _ _ _ d
        refine hr.thn (fun l s l' s' a b => ?_)
        exact (qbf a b).thn (fun l s l' s' a b => RQ.ok (sq_rows a) b)
       ·exact RQ.err h
def IQ (I J : It) : Prop := I.k = J.k ∧ I.pl = J.pl ∧ I.nm = J.nm ∧ XQ I.val J.val ∧ SQ I.shp J.shp ∧ I.nl = J.nl ∧ ∀ i, XQ (I.list i) (J.list i)
theorem IQ.ilk {I J : It} (h : IQ I J) : ilk I J := ⟨h.1, h.2.1, h.2.2.1, h.2.2.2.1 16, h.2.2.2.2.1 16, h.2.2.2.2.2.1, fun i _ => h.2.2.2.2.2.2 i 16⟩
theorem qh2 {k : Nat} {nm nm' : ByteArray} {v v' : Xt} {s s' : St} {pl : Nat} {l l' : List Xt} {t u : TV} (h1 : nm = nm') (h2 : XQ v v') (h3 : SQ s s') (h4 : LsQ XQ l l') : IQ (yI k nm v s pl l t) (yI k nm' v' s' pl l' u) := ⟨rfl, rfl, h1, h2, h3, h4.1, fun i => h4.get l0x (XQ.refl _) i⟩
theorem qd9 {α : Type} {Q : α → α → Prop} : LsQ Q [] [] := ⟨rfl, fun i x x' hx => by cases hx⟩
theorem qfk {L L' : List TV} (h : LQ L L') : RQ (fun a b => a = b) (pnm L) (pnm L') := by
 cases L with
 | nil =>
  obtain rfl := h.nil
  exact RQ.err rfl
 | cons t r =>
  obtain ⟨u, r', rfl, h1, h2⟩ := h.cons
  obtain ⟨e1, e2, _⟩ := qdf h1
  rw [qdj, qdj, e1]
  split
  ·exact RQ.ok e2 h2
  ·exact RQ.err h
theorem qk8 {t u : TV} {L L' : List TV} (h : LQ L L') : RQ IQ (pplc t L) (pplc u L') := by
 cases L with
 | nil =>
  obtain rfl := h.nil
  exact RQ.err rfl
 | cons a r =>
  obtain ⟨b, r', rfl, h1, h2⟩ := h.cons
  have ek : kplace a = kplace b := by unfold kplace; rw [(qdf h1).2.1]
  rw [qb6, qb6, ek]
  split
  ·exact RQ.ok (qh2 rfl (XQ.refl _) (SQ.refl _) qd9) h2
  ·split
   ·exact (qds h2).thn (fun y s y' s' a b => RQ.ok (qh2 rfl a (SQ.refl _) qd9) b)
   ·split
    ·refine (qbf (Q := fun _ _ => True) (x := ()) (x' := ()) trivial h2).thn (fun _ q _ q' _ d => ?_)
     have hr : RQ (LsQ XQ) (prow (q.length + 1) q) (prow (q'.length + 1) q') := by rw [d.len]; exact qg5 _ _ _ d
     refine hr.thn (fun l s l' s' a b => ?_)
     exact (qbf a b).thn (fun l s l' s' a b => RQ.ok (qh2 rfl (XQ.refl _) (SQ.refl _) a) b)
    ·exact RQ.err h
theorem pit_like {L L' : List TV} (h : LQ L L') : RQ IQ (pit L) (pit L') := by
 cases L with
 | nil =>
  obtain rfl := h.nil
  exact RQ.err rfl
 | cons t r =>
  obtain ⟨u, r', rfl, h1, h2⟩ := h.cons
  have ek : kitem t = kitem u := by unfold kitem; rw [(qdf h1).2.1]
  rw [qbz, qbz]
  have hb : RQ IQ (pbody t r) (pbody u r') := by
   unfold pbody
   rw [ek]
   split
   ·refine (qfk h2).thn (fun nm s nm' s' a b => ?_)
    refine (qbf (Q := fun a b => a = b) a b).thn (fun nm q nm' q' c d => ?_)
    exact (qds d).thn (fun y s y' s' e g => RQ.ok (qh2 c e (SQ.refl _) qd9) g)
   ·split
    ·refine (qfk h2).thn (fun nm s nm' s' a b => ?_)
     refine (qbf (Q := fun a b => a = b) a b).thn (fun nm q nm' q' c d => ?_)
     have hr : RQ SQ (psh (q.length + 1) q) (psh (q'.length + 1) q') := by rw [d.len]; exact psh_like _ _ _ d
     exact hr.thn (fun y s y' s' e g => RQ.ok (qh2 c (XQ.refl _) e qd9) g)
    ·split
     ·exact (qfk h2).thn (fun nm s nm' s' a b => RQ.ok (qh2 a (XQ.refl _) (SQ.refl _) qd9) b)
     ·split
      ·exact qk8 h2
      ·split
       ·exact (qds h2).thn (fun y s y' s' a b => RQ.ok (qh2 rfl a (SQ.refl _) qd9) b)
       ·exact RQ.err h
  exact hb.thn (fun I s J s' a b => qbf a b)
def PQ (r r' : Except (List TV) (List It)) : Prop := (∃ l l', r = .ok l ∧ r' = .ok l' ∧ LsQ IQ l l') ∨ ∃ e e', r = .error e ∧ r' = .error e' ∧ LQ e e'
theorem qg6 : ∀ n L L', LQ L L' → PQ (pits n L) (pits n L') := by
 intro n
 induction n with
 | zero => intro L L' h; exact .inr ⟨L, L', rfl, rfl, h⟩
 | succ n ih =>
  intro L L' h
  cases L with
  | nil =>
   obtain rfl := h.nil
   exact .inl ⟨[], [], rfl, rfl, qd9⟩
  | cons t r =>
   obtain ⟨u, r', rfl, h1, h2⟩ := h.cons
   rw [qcc, qcc]
   rcases pit_like h with ⟨I, s, J, s', e1, e2, a, b⟩ | ⟨e, e', e1, e2, b⟩
   ·rw [e1, e2]
    rcases ih s s' b with ⟨l, l', g1, g2, g3⟩ | ⟨e, e', g1, g2, g3⟩
    ·exact .inl ⟨I :: l, J :: l', thl_ok g1, thl_ok g2, LsQ.cons a g3⟩
    ·refine .inr ⟨e, e', ?_, ?_, g3⟩
     ·show (match pits n s with | .error e => Except.error e | .ok l => Except.ok (I :: l)) = _
      rw [g1]
     ·show (match pits n s' with | .error e => Except.error e | .ok l => Except.ok (J :: l)) = _
      rw [g2]
   ·rw [e1, e2]
    exact .inr ⟨e, e', rfl, rfl, b⟩
theorem qfl : ∀ (d : Nat) (T U : Xt), xlk d T U → xlk d U T := by
 intro d
 induction d with
 | zero => intro T U _; trivial
 | succ d ih => intro T U h; exact ⟨h.1.symm, h.2.1.symm, h.2.2.1.symm, h.2.2.2.1.symm, fun i hi => ih _ _ (h.2.2.2.2 i (by rw [h.2.2.2.1]; exact hi))⟩
theorem slk_sym : ∀ (d : Nat) (S U : St), slk d S U → slk d U S := by
 intro d
 induction d with
 | zero => intro S U _; trivial
 | succ d ih =>
  intro S U h
  obtain ⟨h1, h2, h3, h4, h5, h6, h7, h8⟩ := h
  exact ⟨h1.symm, h2.symm, h3.symm, fun i hi => qfl _ _ _ (h4 i (by rw [h3]; exact hi)), h5.symm, fun i hi => ⟨(h6 i (by rw [h5]; exact hi)).1.symm, fun q hq => qfl _ _ _ ((h6 i (by rw [h5]; exact hi)).2 q (by rw [(h6 i (by rw [h5]; exact hi)).1]; exact hq))⟩, h7.symm, fun i hi => ih _ _ (h8 i (by rw [h7]; exact hi))⟩
theorem qk9 {I J : It} (h : ilk I J) : ilk J I := ⟨h.1.symm, h.2.1.symm, h.2.2.1.symm, qfl _ _ _ h.2.2.2.1, slk_sym _ _ _ h.2.2.2.2.1, h.2.2.2.2.2.1.symm, fun i hi => qfl _ _ _ (h.2.2.2.2.2.2 i (by rw [h.2.2.2.2.2.1]; exact hi))⟩
structure Inn (S s : ByteArray) (o : Nat) : Prop where
 fits : o + s.size ≤ S.size
 same : ∀ j, j < s.size → tb S (o + j) = tb s j
 apart : o + s.size < S.size → isD (tb S (o + s.size)) = false ∧ isL (tb S (o + s.size)) = false
theorem Inn.ends {S s : ByteArray} {o : Nat} (h : Inn S s o) {lt : Bool} {p e : Nat} (g : Ends s lt p e) : Ends S lt (o + p) (o + e) := by
 have := h.fits
 have := g.fits
 refine ⟨by have := g.le; omega, by omega, fun j h1 h2 => ?_, fun h1 => ?_⟩
 ·have e1 : o + (j - o) = j := by omega
  have := g.all (j - o) (by omega) (by omega)
  rw [← h.same (j - o) (by omega), e1] at this
  exact this
 ·by_cases he : e < s.size
  ·rw [h.same e he]
   exact g.stop he
  ·obtain rfl : e = s.size := by omega
   obtain ⟨a, b⟩ := h.apart h1
   rw [a, b]
   cases lt <;> rfl
theorem Inn.piece {S s : ByteArray} {o : Nat} (h : Inn S s o) {p e : Nat} (hp : p ≤ e) (he : e ≤ s.size) : S.extract (o + p) (o + e) = s.extract p e := by
 have hf := h.fits
 refine ba_ext ?_ ?_
 ·rw [size_extract (by omega), size_extract he]
  omega
 ·intro i hi
  rw [size_extract (by omega)] at hi
  rw [qaz (by omega) (by omega), qaz (by omega) he, Nat.add_assoc, h.same (p + i) (by omega)]
theorem Inn.nvl {S s : ByteArray} {o : Nat} (h : Inn S s o) {p : Nat} : ∀ k, p + k ≤ s.size → Go.Proofs.YtnjcpmkfghcogaaGreatDoor.nvl S (o + p) k = Go.Proofs.YtnjcpmkfghcogaaGreatDoor.nvl s p k := by
 intro k
 induction k with
 | zero => intro _; rfl
 | succ k ih =>
  intro hk
  show 10 * Go.Proofs.YtnjcpmkfghcogaaGreatDoor.nvl S (o + p) k + (tb S (o + p + k) - 48) = 10 * Go.Proofs.YtnjcpmkfghcogaaGreatDoor.nvl s p k + (tb s (p + k) - 48)
  rw [ih (by omega), Nat.add_assoc, h.same (p + k) (by omega)]
theorem Inn.num {S s : ByteArray} {o : Nat} (h : Inn S s o) {p e : Nat} (hp : p < s.size) (hpe : p ≤ e) (he : e ≤ s.size) : NumOk S (o + p) (o + e) ↔ NumOk s p e := by
 unfold NumOk
 rw [h.same p hp, show o + e - (o + p) = e - p by omega, h.nvl (e - p) (by omega)]
def TkS (S s : ByteArray) (L' L : List Tk) : Prop := LQ (tks S L') (tks s L)
theorem TkS.nil (S s : ByteArray) : TkS S s [] [] := rfl
theorem TkS.cons {S s : ByteArray} {o : Nat} (h : Inn S s o) {k p e n : Nat} (hp : p ≤ e) (he : e ≤ s.size) {L' L : List Tk} (g : TkS S s L' L) : TkS S s (⟨k, o + p, o + e, n⟩ :: L') (⟨k, p, e, n⟩ :: L) := by
 refine LQ.mk ?_ g
 show TV.mk k (ttx S ⟨k, o + p, o + e, n⟩) ((n : Nat) : Int) 0 0 = TV.mk k (ttx s ⟨k, p, e, n⟩) ((n : Nat) : Int) 0 0
 have : ttx S ⟨k, o + p, o + e, n⟩ = ttx s ⟨k, p, e, n⟩ := by
  unfold ttx
  show (if k = 3 then _ else S.extract (o + p) (o + e)) = (if k = 3 then _ else s.extract p e)
  rw [h.piece hp he]
 rw [this]
theorem Inn.cut {S s : ByteArray} {o : Nat} (h : Inn S s o) {M : List Tk} {E2 a2 : Nat} (hend : Cuts S (o + s.size) M E2 a2)
  (hrem : ∀ p, p < s.size → tb s p = 35 → (∀ j, p ≤ j → j < s.size → tb s j ≠ 10) → Cuts S (o + p) M E2 a2) :
  ∀ f p L E a, CutF s f p L E a → (E = 0 → ∃ L', Cuts S (o + p) (L' ++ M) E2 a2 ∧ TkS S s L' L) ∧ (E ≠ 0 → ∃ L' E' a', E' ≠ 0 ∧ Cuts S (o + p) L' E' a') := by
 have hf := h.fits
 intro f
 induction f with
 | zero => intro p L E a h; exact h.elim
 | succ f ih =>
  intro p L E a hc
  rcases hc with ⟨h1, rfl, rfl, rfl⟩ | ⟨h1, h2, hc⟩ | ⟨e, h1, h2, h3, h4, h5, hc⟩ | ⟨e, L1, h1, h2, h3, h4, hc, rfl⟩ | ⟨e, L1, h1, h2, h3, h4, h5, hc, rfl⟩ | ⟨e, h1, h2, h3, h4, h5, rfl, rfl, rfl⟩ | ⟨e, L1, h1, h2, h3, h4, h5, hc, rfl⟩ | ⟨e, h1, h2, h3, h4, rfl, rfl, rfl⟩ | ⟨e, h1, h2, h3, h4, h5, h6, rfl, rfl, rfl⟩ | ⟨L1, h1, h2, hc, rfl⟩ | ⟨h1, h2, h3, h4, h5, h6, rfl, rfl, rfl⟩
  ·refine ⟨fun _ => ⟨[], ?_, TkS.nil S s⟩, fun h => absurd rfl h⟩
   rw [h1]
   exact hend
  ·obtain ⟨i1, i2⟩ := ih _ _ _ _ hc
   have hb : isB (tb S (o + p)) = true := by rw [h.same p h1]; exact h2
   refine ⟨fun hE => ?_, fun hE => ?_⟩
   ·obtain ⟨L', c1, c2⟩ := i1 hE
    exact ⟨L', Cuts.skip (by omega) hb (by rw [Nat.add_assoc]; exact c1), c2⟩
   ·obtain ⟨L', E', a', c0, c1⟩ := i2 hE
    exact ⟨L', E', a', c0, Cuts.skip (by omega) hb (by rw [Nat.add_assoc]; exact c1)⟩
  ·obtain ⟨i1, i2⟩ := ih _ _ _ _ hc
   by_cases he : e < s.size
   ·have hr : ∀ {Lx : List Tk} {Ex ax : Nat}, Cuts S (o + e) Lx Ex ax → Cuts S (o + p) Lx Ex ax := fun hx => Cuts.rem (by omega) (by omega) (by rw [h.same p (by omega)]; exact h3) (fun j j1 j2 => by have := h4 (j - o) (by omega) (by omega); rw [← h.same (j - o) (by omega), show o + (j - o) = j by omega] at this; exact this) (fun _ => by rw [h.same e he]; exact h5 he) hx
    refine ⟨fun hE => ?_, fun hE => ?_⟩
    ·obtain ⟨L', c1, c2⟩ := i1 hE
     exact ⟨L', hr c1, c2⟩
    ·obtain ⟨L', E', a', c0, c1⟩ := i2 hE
     exact ⟨L', E', a', c0, hr c1⟩
   ·obtain rfl : e = s.size := by omega
    have hz : L = [] ∧ E = 0 := by
     rcases Cuts.inv ⟨f, hc⟩ with x | x | ⟨_, x1, x2, _⟩ | ⟨_, _, x, _⟩ | ⟨_, _, x, _⟩ | ⟨_, x, _⟩ | ⟨_, _, x, _⟩ | ⟨_, x, _⟩ | ⟨_, x, _⟩ | ⟨_, x, _⟩ | x
     ·exact ⟨x.2.1, x.2.2.1⟩
     all_goals omega
    obtain ⟨rfl, rfl⟩ := hz
    exact ⟨fun _ => ⟨[], hrem p (by omega) h3 h4, TkS.nil S s⟩, fun x => absurd rfl x⟩
  ·have hpe := h3.more h1 (by rw [h2]; simp)
   have hes := h3.fits
   obtain ⟨i1, i2⟩ := ih _ _ _ _ hc
   have hl : isL (tb S (o + p)) = true := by rw [h.same p h1]; exact h2
   have hw : isW (S.extract (o + p) (o + e)) = true := by rw [h.piece (by omega) hes]; exact h4
   refine ⟨fun hE => ?_, fun hE => ?_⟩
   ·obtain ⟨L', c1, c2⟩ := i1 hE
    exact ⟨⟨2, o + p, o + e, 0⟩ :: L', Cuts.word (by omega) hl (h.ends h3) hw c1, TkS.cons h (by omega) hes c2⟩
   ·obtain ⟨L', E', a', c0, c1⟩ := i2 hE
    exact ⟨_, E', a', c0, Cuts.word (by omega) hl (h.ends h3) hw c1⟩
  ·have hpe := h3.more h1 (by rw [h2]; simp)
   have hes := h3.fits
   obtain ⟨i1, i2⟩ := ih _ _ _ _ hc
   have hl : isL (tb S (o + p)) = true := by rw [h.same p h1]; exact h2
   have hw : isW (S.extract (o + p) (o + e)) = false := by rw [h.piece (by omega) hes]; exact h4
   refine ⟨fun hE => ?_, fun hE => ?_⟩
   ·obtain ⟨L', c1, c2⟩ := i1 hE
    exact ⟨⟨1, o + p, o + e, 0⟩ :: L', Cuts.name (by omega) hl (h.ends h3) hw (by omega) c1, TkS.cons h (by omega) hes c2⟩
   ·obtain ⟨L', E', a', c0, c1⟩ := i2 hE
    exact ⟨_, E', a', c0, Cuts.name (by omega) hl (h.ends h3) hw (by omega) c1⟩
  ·have hes := h3.fits
   have hw : isW (S.extract (o + p) (o + e)) = false := by rw [h.piece (by omega) hes]; exact h4
   exact ⟨fun x => absurd x (by decide), fun _ => ⟨[], 90, o + p, by decide, Cuts.long (by omega) (by rw [h.same p h1]; exact h2) (h.ends h3) hw (by omega)⟩⟩
  ·have hpe := h3.more h1 (by rw [h2]; simp)
   have hes := h3.fits
   obtain ⟨i1, i2⟩ := ih _ _ _ _ hc
   have hl : isD (tb S (o + p)) = true := by rw [h.same p h1]; exact h2
   have hn : NumOk S (o + p) (o + e) := (h.num h1 (by omega) hes).2 h4
   have hb : o + e < S.size → isL (tb S (o + e)) = false := fun hx => by
    by_cases hy : e < s.size
    ·rw [h.same e hy]; exact h5 hy
    ·obtain rfl : e = s.size := by omega
     exact (h.apart hx).2
   have hv : Go.Proofs.YtnjcpmkfghcogaaGreatDoor.nvl S (o + p) (o + e - (o + p)) = Go.Proofs.YtnjcpmkfghcogaaGreatDoor.nvl s p (e - p) := by rw [show o + e - (o + p) = e - p by omega, h.nvl (e - p) (by omega)]
   refine ⟨fun hE => ?_, fun hE => ?_⟩
   ·obtain ⟨L', c1, c2⟩ := i1 hE
    have hx := Cuts.num (by omega) hl (h.ends h3) hn hb c1
    rw [hv] at hx
    exact ⟨⟨3, o + p, o + e, Go.Proofs.YtnjcpmkfghcogaaGreatDoor.nvl s p (e - p)⟩ :: L', hx, TkS.cons h (by omega) hes c2⟩
   ·obtain ⟨L', E', a', c0, c1⟩ := i2 hE
    exact ⟨_, E', a', c0, Cuts.num (by omega) hl (h.ends h3) hn hb c1⟩
  ·have hpe := h3.le
   have hes := h3.fits
   exact ⟨fun x => absurd x (by decide), fun _ => ⟨[], 90, o + p, by decide, Cuts.numX (by omega) (by rw [h.same p h1]; exact h2) (h.ends h3) (fun x => h4 ((h.num h1 hpe hes).1 x))⟩⟩
  ·have hpe := h3.le
   have hes := h3.fits
   exact ⟨fun x => absurd x (by decide), fun _ => ⟨[], 90, o + e, by decide, Cuts.numL (by omega) (by rw [h.same p h1]; exact h2) (h.ends h3) ((h.num h1 hpe hes).2 h4) (by omega) (by rw [h.same e h5]; exact h6)⟩⟩
  ·obtain ⟨i1, i2⟩ := ih _ _ _ _ hc
   have hl : isS (tb S (o + p)) = true := by rw [h.same p h1]; exact h2
   refine ⟨fun hE => ?_, fun hE => ?_⟩
   ·obtain ⟨L', c1, c2⟩ := i1 hE
    exact ⟨⟨4, o + p, o + p + 1, 0⟩ :: L', Cuts.sign (by omega) hl (by rw [Nat.add_assoc]; exact c1), by rw [Nat.add_assoc]; exact TkS.cons h (by omega) (by omega) c2⟩
   ·obtain ⟨L', E', a', c0, c1⟩ := i2 hE
    exact ⟨_, E', a', c0, Cuts.sign (by omega) hl (by rw [Nat.add_assoc]; exact c1)⟩
  ·have e0 := h.same p h1
   exact ⟨fun x => absurd x (by decide), fun _ => ⟨[], 90, o + p, by decide, Cuts.bad (by omega) (by rw [e0]; exact h2) (by rw [e0]; exact h3) (by rw [e0]; exact h4) (by rw [e0]; exact h5) (by rw [e0]; exact h6)⟩⟩
theorem qka {l l' : List It} {n n' : Nat} {L L' : List TV} (h : pits n L = .ok l) (h' : pits n' L' = .ok l') (hq : LsQ IQ l l') : mayD (gi l) l.length = mayD (gi l') l'.length := by
 have hn := hq.1
 have hi : ∀ i, i < l.length → ilk (gi l i) (gi l' i) := fun i hi => (hq.2 i _ _ (qfx hi) (qfx (by omega))).ilk
 have hp : ∀ i, i < l.length → NoPl (gi l i) := fun i hi => qg2 _ _ _ h _ (List.mem_of_getElem? (qfx hi))
 have hp' : ∀ i, i < l.length → NoPl (gi l' i) := fun i hi => qg2 _ _ _ h' _ (List.mem_of_getElem? (qfx (by omega)))
 rw [Bool.eq_iff_iff]
 constructor
 ·intro hm
  rw [← hn]
  exact qfy (fun i hi' => ⟨qk9 (hi i hi'), hp' i hi'⟩) hm
 ·intro hm
  rw [← hn] at hm
  exact qfy (fun i hi' => ⟨hi i hi', hp i hi'⟩) hm
def Ex {α : Type} (M : List TV) (q q' : Rd α) : Prop := ∀ y t r, q = .ok (y, t :: r) → q' = .ok (y, t :: (r ++ M))
theorem Ex.ok {α : Type} (M : List TV) (x : α) (s : List TV) : Ex M (.ok (x, s)) (.ok (x, s ++ M)) := fun y t r e => by cases e; rfl
theorem Ex.err {α : Type} (M : List TV) (s : List TV) (q : Rd α) : Ex M (.error s) q := fun y t r e => by cases e
theorem Ex.non {α : Type} (M : List TV) (x : α) (q : Rd α) : Ex M (.ok (x, [])) q := fun y t r e => by cases e
theorem Ex.thn {α β : Type} {M : List TV} {q q' : Rd α} {f f' : α → List TV → Rd β} (h : Ex M q q') (hn : ∀ x z u, f x [] = .ok (z, u) → u = []) (hf : ∀ x t r, Ex M (f x (t :: r)) (f' x (t :: (r ++ M)))) : Ex M (Go.Proofs.YtnjcpmkfghcogaaGreatDoor.thn q f) (Go.Proofs.YtnjcpmkfghcogaaGreatDoor.thn q' f') := by
 intro z t r e
 obtain ⟨x, s, h1, h2⟩ := qa3 e
 cases s with
 | nil => have := hn _ _ _ h2; cases this
 | cons a s =>
  rw [h x a s h1, qa4]
  exact hf x a s z t r h2
theorem Ex.ask {α : Type} (M : List TV) (c : ByteArray) (x : α) (s : List TV) : Ex M (Go.Proofs.YtnjcpmkfghcogaaGreatDoor.ask c x s) (Go.Proofs.YtnjcpmkfghcogaaGreatDoor.ask c x (s ++ M)) := by
 cases s with
 | nil => exact Ex.err M [] _
 | cons u s =>
  show Ex M _ (Go.Proofs.YtnjcpmkfghcogaaGreatDoor.ask c x (u :: (s ++ M)))
  rw [qbr, qbr]
  split
  ·exact Ex.ok M x s
  ·exact Ex.err M _ _
def Reads (s : ByteArray) (l : List It) : Prop := ∃ L a, CutA s L 0 a ∧ pits (L.length + 1) (tks s L) = .ok l
theorem qek (s : ByteArray) (L : List Tk) : (tks s L).length = L.length := List.length_map ..
def NoRead (s : ByteArray) : Prop := ∃ L E a, CutA s L E a ∧ (E ≠ 0 ∨ ∃ r, pits (L.length + 1) (tks s L) = .error r)
def ahd : Nat → ByteArray
 | 0 => ⟨#[35, 32, 97, 104, 101, 97, 100, 10]⟩
 | k + 1 => ahd k ++ ⟨#[32]⟩
def bhd : ByteArray := ⟨#[32, 35, 32, 98, 101, 104, 105, 110, 100]⟩
def bS (k : Nat) (s : ByteArray) : ByteArray := ahd k ++ s ++ bhd
theorem qbs : ∀ k, (ahd k).size = 8 + k := by
 intro k
 induction k with
 | zero => rfl
 | succ k ih =>
  show (ahd k ++ ⟨#[32]⟩).size = _
  rw [ByteArray.size_append, ih]
  rfl
theorem ahd_low : ∀ i, i < 7 → tb (ahd 0) i ≠ 10 := by decide
theorem qel : ∀ k i, (i < 8 → tb (ahd k) i = tb (ahd 0) i) ∧ (8 ≤ i → i < 8 + k → tb (ahd k) i = 32) := by
 intro k
 induction k with
 | zero => intro i; exact ⟨fun _ => rfl, fun h g => by omega⟩
 | succ k ih =>
  intro i
  refine ⟨fun h => ?_, fun h g => ?_⟩
  ·show tb (ahd k ++ ⟨#[32]⟩) i = _
   rw [qay, qbs, if_pos (by omega)]
   exact (ih i).1 h
  ·show tb (ahd k ++ ⟨#[32]⟩) i = _
   rw [qay, qbs]
   by_cases g2 : i < 8 + k
   ·rw [if_pos g2]
    exact (ih i).2 h g2
   ·rw [if_neg g2, show i - (8 + k) = 0 by omega]
    rfl
theorem bhd_size : bhd.size = 9 := rfl
theorem bhd_ten : ∀ i, i < 9 → tb bhd i ≠ 10 := by decide
theorem qda (k : Nat) (s : ByteArray) : (bS k s).size = 8 + k + s.size + 9 := by
 unfold bS
 rw [ByteArray.size_append, ByteArray.size_append, qbs, bhd_size]
theorem qdo {k : Nat} {s : ByteArray} {i : Nat} (h : i < 8 + k) : tb (bS k s) i = tb (ahd k) i := by
 unfold bS
 rw [qay, ByteArray.size_append, qbs, if_pos (by omega), qay, qbs, if_pos h]
theorem qkb {k : Nat} {s : ByteArray} {i : Nat} (h : i < s.size) : tb (bS k s) (8 + k + i) = tb s i := by
 unfold bS
 rw [qay, ByteArray.size_append, qbs, if_pos (by omega), qay, qbs, if_neg (by omega), show 8 + k + i - (8 + k) = i by omega]
theorem qdp {k : Nat} {s : ByteArray} (i : Nat) : tb (bS k s) (8 + k + s.size + i) = tb bhd i := by
 unfold bS
 rw [qay, ByteArray.size_append, qbs, if_neg (by omega), show 8 + k + s.size + i - (8 + k + s.size) = i by omega]
theorem bS_inn (k : Nat) (s : ByteArray) : Inn (bS k s) s (8 + k) := by
 refine ⟨by rw [qda]; omega, fun j hj => qkb hj, fun _ => ?_⟩
 have e := qdp (k := k) (s := s) 0
 rw [Nat.add_zero] at e
 rw [e]
 decide
theorem bS_rem {k : Nat} {s : ByteArray} {p : Nat} (h1 : p < (bS k s).size) (h2 : tb (bS k s) p = 35) (h3 : ∀ j, p ≤ j → j < 8 + k + s.size → tb (bS k s) j ≠ 10) : Cuts (bS k s) p [] 0 0 := by
 refine Cuts.rem (e := (bS k s).size) h1 (Nat.le_refl _) h2 (fun j j1 j2 => ?_) (fun h => absurd h (Nat.lt_irrefl _)) (Cuts.done rfl)
 by_cases hj : j < 8 + k + s.size
 ·exact h3 j j1 hj
 ·rw [qda] at j2
  have e := qdp (k := k) (s := s) (j - (8 + k + s.size))
  rw [show 8 + k + s.size + (j - (8 + k + s.size)) = j by omega] at e
  rw [e]
  exact bhd_ten _ (by omega)
theorem bS_end (k : Nat) (s : ByteArray) : Cuts (bS k s) (8 + k + s.size) [] 0 0 := by
 have e0 := qdp (k := k) (s := s) 0
 rw [Nat.add_zero] at e0
 refine Cuts.skip (by rw [qda]; omega) (by rw [e0]; rfl) ?_
 refine bS_rem (by rw [qda]; omega) (by rw [qdp 1]; rfl) (fun j j1 j2 => by omega)
theorem qho {k : Nat} {s : ByteArray} {L : List Tk} {E a : Nat} (h : Cuts (bS k s) (8 + k) L E a) : Cuts (bS k s) 0 L E a := by
 have hz := qda k s
 have hb : ∀ d, d ≤ k → Cuts (bS k s) (8 + k - d) L E a := by
  intro d
  induction d with
  | zero => intro _; exact h
  | succ d ih =>
   intro hd
   have e : 8 + k - (d + 1) + 1 = 8 + k - d := by omega
   refine Cuts.skip (by omega) ?_ (by rw [e]; exact ih (by omega))
   rw [qdo (by omega), (qel k _).2 (by omega) (by omega)]
   rfl
 have h8 := hb k (Nat.le_refl _)
 rw [show 8 + k - k = 8 by omega] at h8
 have h7 : Cuts (bS k s) 7 L E a := Cuts.skip (by omega) (by rw [qdo (by omega), (qel k 7).1 (by omega)]; rfl) h8
 refine Cuts.rem (e := 7) (by omega) (by omega) (by rw [qdo (by omega), (qel k 0).1 (by omega)]; rfl) (fun j _ j2 => ?_) (fun _ => by rw [qdo (by omega), (qel k 7).1 (by omega)]; rfl) h7
 rw [qdo (by omega), (qel k j).1 (by omega)]
 exact ahd_low j j2
theorem TkS.len {S s : ByteArray} {L' L : List Tk} (h : TkS S s L' L) : L'.length = L.length := by
 have := LQ.len h
 rw [qek, qek] at this
 exact this
theorem blanks11 {s : ByteArray} {k : Nat} (hs : s.size + k + 20 ≤ 65536) :
  (∀ l, Reads s l → ∃ l', Reads (bS k s) l' ∧ l'.length = l.length ∧ (∀ j, j < l.length → ilk (gi l j) (gi l' j)) ∧ mayD (gi l') l'.length = mayD (gi l) l.length) ∧ (NoRead s → NoRead (bS k s)) := by
 have hin := bS_inn k s
 have hrem : ∀ p, p < s.size → tb s p = 35 → (∀ j, p ≤ j → j < s.size → tb s j ≠ 10) → Cuts (bS k s) (8 + k + p) [] 0 0 := fun p h1 h2 h3 => bS_rem (by rw [qda]; omega) (by rw [qkb h1]; exact h2) (fun j j1 j2 => by
  have e := qkb (k := k) (s := s) (i := j - (8 + k)) (by omega)
  rw [show 8 + k + (j - (8 + k)) = j by omega] at e
  rw [e]
  exact h3 _ (by omega) (by omega))
 have hcut := hin.cut (bS_end k s) hrem
 have hsz : (bS k s).size ≤ 65536 := by rw [qda]; omega
 have hyes : ∀ L a, CutA s L 0 a → ∃ L', CutA (bS k s) L' 0 0 ∧ TkS (bS k s) s L' L := fun L a h => by
  rcases h with h | ⟨_, f, h⟩
  ·omega
  ·obtain ⟨L', c1, c2⟩ := (hcut f 0 L 0 a h).1 rfl
   rw [Nat.add_zero, List.append_nil] at c1
   exact ⟨L', .inr ⟨hsz, qho c1⟩, c2⟩
 refine ⟨fun l hl => ?_, fun hn => ?_⟩
 ·obtain ⟨L, a, hc, hq⟩ := hl
  obtain ⟨L', c1, c2⟩ := hyes L a hc
  have hlen := c2.len
  have hp := qg6 (L.length + 1) _ _ c2
  rcases hp with ⟨x, x', p1, p2, p3⟩ | ⟨e, e', p1, p2, p3⟩
  ·rw [hq] at p2
   cases p2
   refine ⟨x, ⟨L', 0, c1, by rw [hlen]; exact p1⟩, p3.1, fun j hj => qk9 (p3.2 j _ _ (qfx (by rw [p3.1]; exact hj)) (qfx hj)).ilk, qka p1 hq p3⟩
  ·rw [hq] at p2
   cases p2
 ·obtain ⟨L, E, a, hc, h⟩ := hn
  by_cases hE : E = 0
  ·subst hE
   rcases h with h | ⟨r, hq⟩
   ·exact absurd rfl h
   ·obtain ⟨L', c1, c2⟩ := hyes L a hc
    have hlen := c2.len
    rcases qg6 (L.length + 1) _ _ c2 with ⟨x, x', p1, p2, p3⟩ | ⟨e, e', p1, p2, p3⟩
    ·rw [hq] at p2
     cases p2
    ·exact ⟨L', 0, 0, c1, .inr ⟨e, by rw [hlen]; exact p1⟩⟩
  ·rcases hc with h | ⟨_, f, h⟩
   ·omega
   ·obtain ⟨L', E', a', c0, c1⟩ := (hcut f 0 L E a h).2 hE
    rw [Nat.add_zero] at c1
    exact ⟨L', E', a', .inr ⟨hsz, qho c1⟩, .inl c0⟩
open Go.RowKit
def PgOk (s : ByteArray) (l : List It) : Prop := ∀ w : World, Ev9 w → Calls Tryz.prog 9 #[.string s] w fun e w' => (∃ v, e = .returned (.tuple #[v, .agg #[.int .i64 0, .int .i64 0, .int .i64 0]]) ∧ Fr w.heap.size w' (fun u => ItV u v l)) ∧ Below w.heap.size w w'
def PgNo (P : Int → Prop) (s : ByteArray) : Prop := ∀ w : World, Ev9 w → Calls Tryz.prog 9 #[.string s] w fun e w' => (∃ c ln cl : Int, e = .returned (.tuple #[.slice none 0 0, .agg #[.int .i64 c, .int .i64 ln, .int .i64 cl]]) ∧ c ≠ 0 ∧ P c ∧ 1 ≤ ln ∧ 1 ≤ cl) ∧ Below w.heap.size w w'
theorem PgNo.any {P : Int → Prop} {s : ByteArray} (h : PgNo P s) : PgNo (fun _ => True) s := fun w he => (h w he).mono (fun e w' h => by
 obtain ⟨⟨c, ln, cl, h1, h2, _, h4⟩, hb⟩ := h
 exact ⟨⟨c, ln, cl, h1, h2, trivial, h4⟩, hb⟩)
theorem pg_ok {s : ByteArray} {l : List It} (h : Reads s l) (hm : mayD (gi l) l.length = true) : PgOk s l := by
 obtain ⟨L, a, hc, hq⟩ := h
 intro w he
 refine (qk2 w s L 0 a hc he).mono ?_
 intro e w' h
 rw [qek, hq] at h
 have h2 : if mayD (gi l) l.length = true then _ else _ := h.2
 rw [if_pos hm] at h2
 exact ⟨h2, h.1⟩
theorem qkc {s : ByteArray} {l : List It} (h : Reads s l) (hm : mayD (gi l) l.length = false) : PgNo (fun c => c = 4) s := by
 obtain ⟨L, a, hc, hq⟩ := h
 intro w he
 refine (qk2 w s L 0 a hc he).mono ?_
 intro e w' h
 rw [qek, hq] at h
 have h2 : if mayD (gi l) l.length = true then _ else _ := h.2
 rw [if_neg (by rw [hm]; decide)] at h2
 obtain ⟨i, rfl, hi, _⟩ := h2
 obtain ⟨p1, p2⟩ := qk4 hq hi
 exact ⟨⟨4, _, _, rfl, by omega, rfl, p1, p2⟩, h.1⟩
theorem lnn_one (s : ByteArray) (p : Nat) : (1 : Int) ≤ ((lnn s p : Nat) : Int) := by have := qco s p; omega
theorem cln_one (s : ByteArray) (p : Nat) : (1 : Int) ≤ ((cln s p : Nat) : Int) := by have := qcb s p; omega
theorem qkd {s : ByteArray} (h : NoRead s) : PgNo (fun _ => True) s := by
 obtain ⟨L, E, a, hc, h⟩ := h
 intro w he
 refine (qk2 w s L E a hc he).mono ?_
 intro e w' h'
 by_cases hE : E = 0
 ·subst hE
  rw [qek] at h'
  rcases h with h | ⟨r, hq⟩
  ·exact absurd rfl h
  ·rw [hq] at h'
   have h2 : e = rfail (.slice none 0 0) (gof s L (L.length - r.length)) := h'.2
   obtain ⟨p1, p2⟩ := gof_one s L (L.length - r.length)
   exact ⟨⟨110, _, _, h2, by omega, trivial, p1, p2⟩, h'.1⟩
 ·have h2 := h'.2
  rw [if_neg hE] at h2
  exact ⟨⟨_, _, _, h2, by omega, trivial, lnn_one s a, cln_one s a⟩, h'.1⟩
theorem pg_ways (s : ByteArray) : (∃ l, Reads s l ∧ mayD (gi l) l.length = true) ∨ (∃ l, Reads s l ∧ mayD (gi l) l.length = false) ∨ NoRead s := by
 obtain ⟨L, E, a, hc⟩ := cuta_ex s
 by_cases hE : E = 0
 ·subst hE
  cases hq : pits (L.length + 1) (tks s L) with
  | error r => exact .inr (.inr ⟨L, 0, a, hc, .inr ⟨r, hq⟩⟩)
  | ok l =>
   cases hm : mayD (gi l) l.length with
   | true => exact .inl ⟨l, ⟨L, a, hc, hq⟩, hm⟩
   | false => exact .inr (.inl ⟨l, ⟨L, a, hc, hq⟩, hm⟩)
 ·exact .inr (.inr ⟨L, E, a, hc, .inl hE⟩)
end Go.Proofs.YtnjcpmkfghcogaaGreatDoor
