/-
  How tokens are read as rows: the mathematics.
  How tokens are read as shapes: the mathematics.
  How tokens are read as items and descriptions: the mathematics.
-/
import Derived.Test.YtnjcpmkfghcogaaGreatDoorQbbks00
import Derived.Test.YtnjcpmkfghcogaaGreatDoorQbbks17
import Derived.Test.YtnjcpmkfghcogaaGreatDoorQbbks15
set_option maxRecDepth 100000
set_option maxHeartbeats 16000000
namespace Go.Proofs.YtnjcpmkfghcogaaGreatDoor
def pX (L : List TV) : Rd Xt := px (4 * L.length + 3) 3 l0x L
theorem qev {L : List TV} {y : Xt} {s : List TV} (h : pX L = .ok (y, s)) : s.length < L.length := (qed _).2.2.2.1 _ _ _ _ h
theorem XQ.refl (x : Xt) : XQ x x := fun d => by
 have : ∀ (d : Nat) (T : Xt), xlk d T T := by
  intro d
  induction d with
  | zero => intro T; trivial
  | succ d ih => intro T; exact ⟨rfl, rfl, rfl, rfl, fun i _ => ih (kid T i)⟩
 exact this d x
theorem LQ.len {L M : List TV} (h : LQ L M) : L.length = M.length := by
 have := congrArg List.length h
 simpa using this
theorem qds {L M : List TV} (h : LQ L M) : RQ XQ (pX L) (pX M) := by
 unfold pX
 rw [h.len]
 exact px_like _ _ _ _ _ _ (XQ.refl _) h
def prow : Nat → List TV → Rd (List Xt)
 | 0, L => .error L
 | n + 1, L => thn (pX L) (fun y s => match s with
  | [] => .ok ([y], [])
  | t :: r => if t.tx = ⟨#[44]⟩ then thn (prow n r) (fun l q => .ok (y :: l, q)) else .ok ([y], t :: r))
def prws : Nat → List TV → Rd (List (List Xt))
 | 0, L => .error L
 | n + 1, L => thn (prow (L.length + 1) L) (fun y s => match s with
  | [] => .ok ([y], [])
  | t :: r => if t.tx = ⟨#[59]⟩ then thn (prws n r) (fun l q => .ok (y :: l, q)) else .ok ([y], t :: r))
def pcnt {α : Type} (f : List TV → Rd α) : Nat → List TV → Rd (List α)
 | 0, L => thn (f L) (fun y s => .ok ([y], s))
 | c + 1, L => thn (f L) (fun y s => thn (ask ⟨#[44]⟩ () s) (fun _ q => thn (pcnt f c q) (fun l z => .ok (y :: l, z))))
def pbr {α : Type} (f : List TV → Rd α) (c : Nat) (L : List TV) : Rd (List α) := thn (ask ⟨#[40]⟩ () L) (fun _ q => thn (pcnt f c q) (fun l s => ask ⟨#[41]⟩ l s))
def kshape (t : TV) : Nat := if t.tx = ⟨(wdb 2).toArray⟩ then 2 else if t.tx = ⟨(wdb 3).toArray⟩ then 3 else if t.tx = ⟨(wdb 4).toArray⟩ then 4 else if t.tx = ⟨(wdb 5).toArray⟩ then 5 else if t.tx = ⟨(wdb 6).toArray⟩ then 6 else if t.tx = ⟨(wdb 7).toArray⟩ then 7 else if t.tx = ⟨(wdb 8).toArray⟩ then 8 else if t.k = 1 then 1 else 0
def gx (l : List Xt) (i : Nat) : Xt := l.getD i l0x
def gs (l : List St) (i : Nat) : St := l.getD i l0s
def ySn (t : TV) : St := mkS ⟨1, t.tx, 0, fun _ => l0x, 0, 0, fun _ => 0, fun _ _ => l0x, t.ln, t.cl⟩ (fun _ => l0s)
def ySa (k : Nat) (t : TV) (l : List Xt) : St := mkS ⟨k, ⟨#[]⟩, l.length, gx l, 0, 0, fun _ => 0, fun _ _ => l0x, t.ln, t.cl⟩ (fun _ => l0s)
def ySp (k : Nat) (t : TV) (l : List St) : St := mkS ⟨k, ⟨#[]⟩, 0, fun _ => l0x, l.length, 0, fun _ => 0, fun _ _ => l0x, t.ln, t.cl⟩ (gs l)
def ySr (t : TV) (l : List (List Xt)) : St := mkS ⟨8, ⟨#[]⟩, 0, fun _ => l0x, 0, l.length, fun i => (l.getD i []).length, fun i j => gx (l.getD i []) j, t.ln, t.cl⟩ (fun _ => l0s)
def psh : Nat → List TV → Rd St
 | 0, L => .error L
 | n + 1, L =>
  match L with
  | [] => .error []
  | t :: r =>
   if kshape t = 1 then .ok (ySn t, r)
   else if kshape t = 2 ∨ kshape t = 3 then thn (pbr pX 1 r) (fun l s => .ok (ySa (kshape t) t l, s))
   else if kshape t = 4 ∨ kshape t = 5 then thn (pbr pX 2 r) (fun l s => .ok (ySa (kshape t) t l, s))
   else if kshape t = 6 ∨ kshape t = 7 then thn (pbr (psh n) 1 r) (fun l s => .ok (ySp (kshape t) t l, s))
   else if kshape t = 8 then thn (ask ⟨#[91]⟩ () r) (fun _ q => thn (prws (q.length + 1) q) (fun l s => thn (ask ⟨#[93]⟩ l s) (fun l z => .ok (ySr t l, z))))
   else .error (t :: r)
theorem qcy (n : Nat) (t : TV) (r : List TV) : psh (n + 1) (t :: r) = if kshape t = 1 then .ok (ySn t, r)
      else if kshape t = 2 ∨ kshape t = 3 then thn (pbr pX 1 r) (fun l s => .ok (ySa (kshape t) t l, s))
      else if kshape t = 4 ∨ kshape t = 5 then thn (pbr pX 2 r) (fun l s => .ok (ySa (kshape t) t l, s))
      else if kshape t = 6 ∨ kshape t = 7 then thn (pbr (psh n) 1 r) (fun l s => .ok (ySp (kshape t) t l, s))
      else if kshape t = 8 then thn (ask ⟨#[91]⟩ () r) (fun _ q => thn (prws (q.length + 1) q) (fun l s => thn (ask ⟨#[93]⟩ l s) (fun l z => .ok (ySr t l, z))))
      else .error (t :: r) := rfl
def kitem (t : TV) : Nat := if t.tx = iwd 1 then 1 else if t.tx = iwd 2 then 2 else if t.tx = iwd 3 then 3 else if t.tx = iwd 4 then 4 else if t.tx = iwd 5 then 5 else if t.tx = iwd 6 then 6 else 0
def kplace (t : TV) : Nat := if t.tx = pwd 1 then 1 else if t.tx = pwd 2 then 2 else if t.tx = pwd 3 then 3 else if t.tx = pwd 4 then 4 else 0
def pnm (L : List TV) : Rd ByteArray :=
 match L with
 | [] => .error []
 | t :: r => if t.k = 1 then .ok (t.tx, r) else .error (t :: r)
theorem qdj (t : TV) (r : List TV) : pnm (t :: r) = if t.k = 1 then .ok (t.tx, r) else .error (t :: r) := rfl
def yI (k : Nat) (nm : ByteArray) (v : Xt) (s : St) (pl : Nat) (l : List Xt) (t : TV) : It := ⟨k, nm, v, s, pl, l.length, gx l, t.ln, t.cl⟩
def pplc (t : TV) (L : List TV) : Rd It :=
 match L with
 | [] => .error []
 | u :: q =>
  if kplace u = 1 ∨ kplace u = 2 then .ok (yI 5 ⟨#[]⟩ l0x l0s (kplace u) [] t, q)
  else if kplace u = 3 then thn (pX q) (fun y z => .ok (yI 5 ⟨#[]⟩ y l0s 3 [] t, z))
  else if kplace u = 4 then thn (ask ⟨#[91]⟩ () q) (fun _ s => thn (prow (s.length + 1) s) (fun l z => thn (ask ⟨#[93]⟩ l z) (fun l a => .ok (yI 5 ⟨#[]⟩ l0x l0s 4 l t, a))))
  else .error (u :: q)
theorem qb6 (t u : TV) (q : List TV) : pplc t (u :: q) = if kplace u = 1 ∨ kplace u = 2 then .ok (yI 5 ⟨#[]⟩ l0x l0s (kplace u) [] t, q)
  else if kplace u = 3 then thn (pX q) (fun y z => .ok (yI 5 ⟨#[]⟩ y l0s 3 [] t, z))
  else if kplace u = 4 then thn (ask ⟨#[91]⟩ () q) (fun _ s => thn (prow (s.length + 1) s) (fun l z => thn (ask ⟨#[93]⟩ l z) (fun l a => .ok (yI 5 ⟨#[]⟩ l0x l0s 4 l t, a))))
  else .error (u :: q) := rfl
def pbody (t : TV) (r : List TV) : Rd It :=
 if kitem t = 1 then thn (pnm r) (fun nm s => thn (ask ⟨#[61]⟩ nm s) (fun nm q => thn (pX q) (fun y z => .ok (yI 1 nm y l0s 0 [] t, z))))
 else if kitem t = 2 then thn (pnm r) (fun nm s => thn (ask ⟨#[61]⟩ nm s) (fun nm q => thn (psh (q.length + 1) q) (fun y z => .ok (yI 2 nm l0x y 0 [] t, z))))
 else if kitem t = 3 then thn (pnm r) (fun nm s => .ok (yI 3 nm l0x l0s 0 [] t, s))
 else if kitem t = 5 then pplc t r
 else if kitem t = 4 ∨ kitem t = 6 then thn (pX r) (fun y z => .ok (yI (kitem t) ⟨#[]⟩ y l0s 0 [] t, z))
 else .error (t :: r)
def pit (L : List TV) : Rd It :=
 match L with
 | [] => .error []
 | t :: r => thn (pbody t r) (fun I s => ask ⟨#[59]⟩ I s)
theorem qbz (t : TV) (r : List TV) : pit (t :: r) = thn (pbody t r) (fun I s => ask ⟨#[59]⟩ I s) := rfl
def thl (r : Rd It) (f : List TV → Except (List TV) (List It)) : Except (List TV) (List It) :=
 match r with
 | .error e => .error e
 | .ok (I, s) =>
  match f s with
  | .error e => .error e
  | .ok l => .ok (I :: l)
theorem thl_ok {I : It} {s : List TV} {f : List TV → Except (List TV) (List It)} {l : List It} (h : f s = .ok l) : thl (.ok (I, s)) f = .ok (I :: l) := by
 show (match f s with | .error e => Except.error e | .ok l => Except.ok (I :: l)) = _
 rw [h]
def pits : Nat → List TV → Except (List TV) (List It)
 | 0, L => .error L
 | n + 1, L =>
  match L with
  | [] => .ok []
  | t :: r => thl (pit (t :: r)) (pits n)
theorem qcc (n : Nat) (t : TV) (r : List TV) : pits (n + 1) (t :: r) = thl (pit (t :: r)) (pits n) := rfl
theorem qi1 {k : Nat} (h1 : 1 ≤ k) (h6 : k ≤ 6) {t : TV} (ht : t.tx = iwd k) : kitem t = k := by
 unfold kitem
 rw [ht]
 obtain rfl | rfl | rfl | rfl | rfl | rfl : k = 1 ∨ k = 2 ∨ k = 3 ∨ k = 4 ∨ k = 5 ∨ k = 6 := by omega
 ·rw [if_pos rfl]
 ·rw [if_neg (by decide), if_pos rfl]
 ·rw [if_neg (by decide), if_neg (by decide), if_pos rfl]
 ·rw [if_neg (by decide), if_neg (by decide), if_neg (by decide), if_pos rfl]
 ·rw [if_neg (by decide), if_neg (by decide), if_neg (by decide), if_neg (by decide), if_pos rfl]
 ·rw [if_neg (by decide), if_neg (by decide), if_neg (by decide), if_neg (by decide), if_neg (by decide), if_pos rfl]
theorem zs0 : ZS l0s := ⟨rfl, rfl, rfl, rfl, rfl⟩
theorem qff : ∀ n L l s, prow n L = .ok (l, s) → s.length < L.length := by
 intro n
 induction n with
 | zero => intro L l s h; cases h
 | succ n ih =>
  intro L l s h
  obtain ⟨y, q, h1, h2⟩ := qa3 (show thn (pX L) _ = _ from h)
  have h3 := qev h1
  cases q with
  | nil =>
   cases h2
   exact h3
  | cons t r =>
   rw [List.length_cons] at h3
   have h2 : (if t.tx = ⟨#[44]⟩ then thn (prow n r) (fun l q => .ok (y :: l, q)) else .ok ([y], t :: r)) = .ok (l, s) := h2
   split at h2
   ·obtain ⟨l2, q2, g1, g2⟩ := qa3 h2
    cases g2
    have := ih _ _ _ g1
    omega
   ·cases h2
    rw [List.length_cons]
    omega
theorem prws_len : ∀ n L l s, prws n L = .ok (l, s) → s.length < L.length := by
 intro n
 induction n with
 | zero => intro L l s h; cases h
 | succ n ih =>
  intro L l s h
  obtain ⟨y, q, h1, h2⟩ := qa3 (show thn (prow (L.length + 1) L) _ = _ from h)
  have h3 := qff _ _ _ _ h1
  cases q with
  | nil =>
   cases h2
   exact h3
  | cons t r =>
   rw [List.length_cons] at h3
   have h2 : (if t.tx = ⟨#[59]⟩ then thn (prws n r) (fun l q => .ok (y :: l, q)) else .ok ([y], t :: r)) = .ok (l, s) := h2
   split at h2
   ·obtain ⟨l2, q2, g1, g2⟩ := qa3 h2
    cases g2
    have := ih _ _ _ g1
    omega
   ·cases h2
    rw [List.length_cons]
    omega
theorem pcnt_len {α : Type} {f : List TV → Rd α} (hf : ∀ L y s, f L = .ok (y, s) → s.length < L.length) : ∀ c L l s, pcnt f c L = .ok (l, s) → s.length < L.length := by
 intro c
 induction c with
 | zero =>
  intro L l s h
  obtain ⟨y, q, h1, h2⟩ := qa3 (show thn (f L) _ = _ from h)
  cases h2
  exact hf _ _ _ h1
 | succ c ih =>
  intro L l s h
  obtain ⟨y, q, h1, h2⟩ := qa3 (show thn (f L) _ = _ from h)
  obtain ⟨_, q2, h3, h4⟩ := qa3 h2
  obtain ⟨u, rfl, _, _⟩ := qc8 h3
  obtain ⟨l2, q3, h5, h6⟩ := qa3 h4
  cases h6
  have := hf _ _ _ h1
  have := ih _ _ _ h5
  rw [List.length_cons] at *
  omega
theorem qgo {α : Type} {f : List TV → Rd α} (hf : ∀ L y s, f L = .ok (y, s) → s.length < L.length) {c : Nat} {L : List TV} {l : List α} {s : List TV} (h : pbr f c L = .ok (l, s)) : s.length < L.length := by
 unfold pbr at h
 obtain ⟨_, q, h1, h2⟩ := qa3 h
 obtain ⟨u, rfl, _, _⟩ := qc8 h1
 obtain ⟨l2, q2, h3, h4⟩ := qa3 h2
 obtain ⟨v, rfl, _, _⟩ := qc8 h4
 have := pcnt_len hf _ _ _ _ h3
 rw [List.length_cons] at *
 omega
theorem psh_len : ∀ n L y s, psh n L = .ok (y, s) → s.length < L.length := by
 intro n
 induction n with
 | zero => intro L y s h; cases h
 | succ n ih =>
  intro L y s h
  cases L with
  | nil => cases h
  | cons t r =>
   rw [qcy] at h
   rw [List.length_cons]
   split at h
   ·cases h; omega
   ·split at h
    ·obtain ⟨l, q, h1, h2⟩ := qa3 h
     cases h2
     have := qgo (fun L y s h => qev h) h1
     omega
    ·split at h
     ·obtain ⟨l, q, h1, h2⟩ := qa3 h
      cases h2
      have := qgo (fun L y s h => qev h) h1
      omega
     ·split at h
      ·obtain ⟨l, q, h1, h2⟩ := qa3 h
       cases h2
       have := qgo ih h1
       omega
      ·split at h
       ·obtain ⟨_, q, h1, h2⟩ := qa3 h
        obtain ⟨u, rfl, _, _⟩ := qc8 h1
        obtain ⟨l, q2, h3, h4⟩ := qa3 h2
        obtain ⟨l3, q3, h5, h6⟩ := qa3 h4
        obtain ⟨v, rfl, _, _⟩ := qc8 h5
        cases h6
        have := prws_len _ _ _ _ h3
        rw [List.length_cons] at *
        omega
       ·cases h
end Go.Proofs.YtnjcpmkfghcogaaGreatDoor
