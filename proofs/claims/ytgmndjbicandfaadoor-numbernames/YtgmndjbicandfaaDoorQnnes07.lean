/-
  Stage 10: texts as tokens. No Go in sight.
  Stage 10: items as tokens; how many nodes an item leaves. No Go in sight.
-/
import Derived.Test.YtgmndjbicandfaaDoorQnnes00
import Derived.Test.YtgmndjbicandfaaDoorQnnes06
import Derived.Test.YtgmndjbicandfaaDoorQnnes01
set_option maxRecDepth 100000
set_option maxHeartbeats 16000000
namespace Go.Proofs.YtgmndjbicandfaaDoor
open Go.RowKit
/-- The bytes of a token. -/
def fb (t : TV) : List UInt8 := (frm t).data.toList
/-- The bytes of tokens, a blank between two. -/
def jl : List TV → List UInt8
 | [] => []
 | t :: r => fb t ++ (if r = [] then [] else 32 :: jl r)
theorem qck (t : TV) (r : List TV) (h : r ≠ []) : jl (t :: r) = fb t ++ 32 :: jl r := by
 show fb t ++ (if r = [] then [] else 32 :: jl r) = _
 rw [if_neg h]
theorem jl_one (t : TV) : jl [t] = fb t := by
 show fb t ++ (if [] = [] then [] else 32 :: jl []) = _
 rw [if_pos rfl, List.append_nil]
theorem jl_app : ∀ (L M : List TV), L ≠ [] → M ≠ [] → jl (L ++ M) = jl L ++ 32 :: jl M := by
 intro L
 induction L with
 | nil => intro M h _; exact absurd rfl h
 | cons t L ih =>
  intro M _ hM
  cases L with
  | nil => rw [List.cons_append, List.nil_append, qck t M hM, jl_one]
  | cons u L =>
   rw [List.cons_append, qck t _ (by simp), qck t _ (by simp), ih M (by simp) hM]
   simp
/-- A name, a word, a number, a sign. -/
def tkN (x : ByteArray) : TV := ⟨1, x, 0, 0, 0⟩
def tkW (x : ByteArray) : TV := ⟨2, x, 0, 0, 0⟩
def tkU (n : Int) : TV := ⟨3, ⟨#[]⟩, n, 0, 0⟩
def tkS (x : ByteArray) : TV := ⟨4, x, 0, 0, 0⟩
/-- Tokens that may be, and their bytes. -/
structure TkF (L : List TV) (b : List UInt8) : Prop where
 ne : L ≠ []
 ok : ∀ t ∈ L, mayB t = true ∧ TvOk t
 by_ : jl L = b
theorem TkF.app {L M : List TV} {a b : List UInt8} (h : TkF L a) (g : TkF M b) : TkF (L ++ M) (a ++ 32 :: b) := by
 refine ⟨by simp [h.ne], fun t ht => ?_, by rw [jl_app L M h.ne g.ne, h.by_, g.by_]⟩
 rcases List.mem_append.1 ht with x | x
 ·exact h.ok t x
 ·exact g.ok t x
theorem TkF.cons {t : TV} {M : List TV} {a b : List UInt8} (h : TkF [t] a) (g : TkF M b) : TkF (t :: M) (a ++ 32 :: b) := h.app g
theorem qbq {t : TV} (h : mayB t = true) (g : TvOk t) : TkF [t] (fb t) := ⟨by simp, fun u hu => by rw [List.mem_singleton.1 hu]; exact ⟨h, g⟩, jl_one t⟩
theorem qcw {x : ByteArray} (h : NameP x) : TkF [tkN x] x.data.toList :=
 qbq (by simp [mayB, tkN, qap.2 h]) ⟨by show 1 < 256; omega, by have := h.most; show x.size ≤ _; omega, by show _ ≤ (0 : Int); omega, by show (0 : Int) ≤ _; omega⟩
theorem tkf_word {x : ByteArray} (h : isW x = true) (hs : x.size ≤ 9) : TkF [tkW x] x.data.toList :=
 qbq (by simp [mayB, tkW, h]) ⟨by show 2 < 256; omega, by show x.size ≤ _; omega, by show _ ≤ (0 : Int); omega, by show (0 : Int) ≤ _; omega⟩
theorem tkf_num {n : Int} (h0 : 0 ≤ n) (h1 : n ≤ 2147483647) : TkF [tkU n] (Lib.itoa n) :=
 qbq (by
  have e : (⟨#[]⟩ : ByteArray).size = 0 := rfl
  simp [mayB, tkU, h0, h1, e]) ⟨by show 3 < 256; omega, by show 0 ≤ _; omega, by show _ ≤ n; omega, by show n ≤ _; omega⟩
theorem qa8 {c : UInt8} (h : isS c.toNat = true) : TkF [tkS ⟨#[c]⟩] [c] :=
 qbq (by
  have e : tb ⟨#[c]⟩ 0 = c.toNat := by unfold tb; rfl
  have e2 : (⟨#[c]⟩ : ByteArray).size = 1 := rfl
  simp [mayB, tkS, e, e2, h]) ⟨by show 4 < 256; omega, by show 1 ≤ _; omega, by show _ ≤ (0 : Int); omega, by show (0 : Int) ≤ _; omega⟩
/-- The tokens of an expression. -/
def xtk : Nat → Xt → List TV
 | 0, _ => []
 | d + 1, T => if (T []).k = 1 then [tkU (T []).n] else if (T []).k = 2 then [tkN (T []).nm] else if (T []).k = 3 then tkS ⟨#[45]⟩ :: xtk d (kid T 0)
  else tkS ⟨#[40]⟩ :: (xtk d (kid T 0) ++ tkS (opb (T []).k) :: (xtk d (kid T 1) ++ [tkS ⟨#[41]⟩]))
theorem qcx (d : Nat) (T : Xt) : xtk (d + 1) T = if (T []).k = 1 then [tkU (T []).n] else if (T []).k = 2 then [tkN (T []).nm] else if (T []).k = 3 then tkS ⟨#[45]⟩ :: xtk d (kid T 0)
  else tkS ⟨#[40]⟩ :: (xtk d (kid T 0) ++ tkS (opb (T []).k) :: (xtk d (kid T 1) ++ [tkS ⟨#[41]⟩])) := rfl
theorem tkf_op (k : Nat) : TkF [tkS (opb k)] (opb k).data.toList := by
 unfold opb
 repeat' split
 all_goals exact qa8 (by decide)
theorem xtk_f : ∀ (d : Nat) (T : Xt), MX d T → TkF (xtk d T) (xby d T) := by
 intro d
 induction d with
 | zero => intro T h; obtain ⟨left, _, h⟩ := h; rw [qa7] at h; omega
 | succ d ih =>
  intro T h
  have hk := fun i (hi : i < (T []).len) => h.kid hi
  obtain ⟨left, _, h⟩ := h
  obtain ⟨m, hw, h1, _, _⟩ := qa6 h
  have hlen := (qaf hw).1
  unfold xby
  rw [qcx, qak]
  rcases qan hw with ⟨k1, rfl, n1, n2, _⟩ | ⟨k2, rfl, _, hN⟩ | ⟨k3, rfl, _, _⟩ | ⟨k4, k8, rfl, _, _⟩
  ·rw [if_pos k1, if_pos k1]
   exact tkf_num n1 n2
  ·rw [if_neg (by omega), if_pos k2, if_neg (by omega), if_pos k2]
   exact qcw (qap.1 hN)
  ·rw [if_neg (by omega), if_neg (by omega), if_pos k3, if_neg (by omega), if_neg (by omega), if_pos k3, qcp]
   exact (qa8 (c := 45) (by decide)).cons (ih _ (hk 0 (by omega)))
  ·rw [if_neg (by omega), if_neg (by omega), if_neg (by omega), if_neg (by omega), if_neg (by omega), if_neg (by omega)]
   simp only [qcp, List.append_assoc]
   exact (qa8 (c := 40) (by decide)).cons ((ih _ (hk 0 (by omega))).app ((tkf_op _).cons ((ih _ (hk 1 (by omega))).app (qa8 (c := 41) (by decide)))))
theorem qdu : ∀ d T left, 0 ≤ xleft d T left → ((xtk d T).length : Int) ≤ 5 * (left - xleft d T left) := by
 intro d
 induction d with
 | zero => intro T left h; rw [qa7] at h; omega
 | succ d ih =>
  intro T left h
  obtain ⟨m, hw, h1, he, hk⟩ := qa6 h
  rw [he, qcx]
  rcases qan hw with ⟨k1, rfl, n1, n2, _⟩ | ⟨k2, rfl, _, hN⟩ | ⟨k3, rfl, _, _⟩ | ⟨k4, k8, rfl, _, _⟩
  ·rw [if_pos k1, qaa]
   show (1 : Int) ≤ _
   omega
  ·rw [if_neg (by omega), if_pos k2, qaa]
   show (1 : Int) ≤ _
   omega
  ·rw [if_neg (by omega), if_neg (by omega), if_pos k3]
   obtain ⟨g1, g2⟩ := hk 0 (by omega)
   have h3 := ih _ _ g2
   rw [qa4, if_neg (by omega)]
   rw [qaa] at *
   simp only [List.length_cons]
   omega
  ·rw [if_neg (by omega), if_neg (by omega), if_neg (by omega)]
   obtain ⟨g1, g2⟩ := hk 0 (by omega)
   obtain ⟨g3, g4⟩ := hk 1 (by omega)
   have h3 := ih _ _ g2
   have h4 := ih _ _ g4
   rw [qa4 _ _ 1, if_neg (by omega)]
   rw [qa4 _ _ 0, if_neg (by omega)] at *
   rw [qaa] at *
   simp only [List.length_cons, List.length_append, List.length_nil]
   omega
theorem MX.toks {d : Nat} {T : Xt} (h : MX d T) : (xtk d T).length ≤ 40960 := by
 obtain ⟨left, hl, h⟩ := h
 have := qdu d T left h
 omega
/-- The tokens of a row. -/
def rtk (F : Nat → Xt) : Nat → List TV
 | 0 => []
 | k + 1 => (if k = 0 then [] else rtk F k ++ [tkS ⟨#[44]⟩]) ++ xtk 16 (F k)
theorem qbr (F : Nat → Xt) (k : Nat) : rtk F (k + 1) = (if k = 0 then [] else rtk F k ++ [tkS ⟨#[44]⟩]) ++ xtk 16 (F k) := rfl
theorem rtk_f (F : Nat → Xt) : ∀ n, (∀ i, i < n + 1 → MX 16 (F i)) → TkF (rtk F (n + 1)) (rtr 16 F (n + 1) 0) := by
 intro n
 induction n with
 | zero =>
  intro h
  rw [qbr, qcr, if_pos rfl, if_pos rfl]
  exact xtk_f 16 _ (h 0 (by omega))
 | succ n ih =>
  intro h
  have h1 := ih (fun i hi => h i (by omega))
  rw [qbr, qcr, if_neg (by omega), if_neg (by omega), Nat.zero_add]
  have h2 := (h1.app (qa8 (c := 44) (by decide))).app (xtk_f 16 _ (h (n + 1) (by omega)))
  simpa using h2
theorem qdv {F : Nat → Xt} {left : Int} (_ : 0 ≤ left) : ∀ n, 0 ≤ xks (xleft 16) F n left → ((rtk F n).length : Int) ≤ 6 * (left - xks (xleft 16) F n left) := by
 intro n
 induction n with
 | zero => intro _; rw [qaa]; show (0 : Int) ≤ _; omega
 | succ n ih =>
  intro h
  have h1 := qau h n (by omega)
  have h2 := ih h1
  rw [qa4, if_neg (by omega)] at h ⊢
  have h3 := qdu 16 (F n) _ h
  have h4 : xleft 16 (F n) (xks (xleft 16) F n left) < xks (xleft 16) F n left := by
   obtain ⟨m, _, g1, g2, _⟩ := qa6 (d := 15) h
   have := qbn (F := kid (F n)) (qa5 15) (left := xks (xleft 16) F n left - 1) (by omega) m
   have e : xleft 16 (F n) (xks (xleft 16) F n left) = xleft (15 + 1) (F n) (xks (xleft 16) F n left) := rfl
   omega
  rw [qbr]
  split
  ·simp only [List.length_append, List.length_nil]; omega
  ·simp only [List.length_append, List.length_cons, List.length_nil]; omega
/-- The tokens of rows. -/
def mtk (len : Nat → Nat) (F : Nat → Nat → Xt) : Nat → List TV
 | 0 => []
 | k + 1 => (if k = 0 then [] else mtk len F k ++ [tkS ⟨#[59]⟩]) ++ rtk (F k) (len k)
theorem qbs (len : Nat → Nat) (F : Nat → Nat → Xt) (k : Nat) : mtk len F (k + 1) = (if k = 0 then [] else mtk len F k ++ [tkS ⟨#[59]⟩]) ++ rtk (F k) (len k) := rfl
theorem mtk_f (len : Nat → Nat) (F : Nat → Nat → Xt) : ∀ n, (∀ i, i < n + 1 → 1 ≤ len i ∧ ∀ q, q < len i → MX 16 (F i q)) → TkF (mtk len F (n + 1)) (mtr len F (n + 1) 0) := by
 intro n
 have one : ∀ i, (1 ≤ len i ∧ ∀ q, q < len i → MX 16 (F i q)) → TkF (rtk (F i) (len i)) (rtr 16 (F i) (len i) 0) := fun i h => by
  obtain ⟨m, hm⟩ : ∃ m, len i = m + 1 := ⟨len i - 1, by omega⟩
  rw [hm] at h ⊢
  exact rtk_f _ m h.2
 induction n with
 | zero =>
  intro h
  rw [qbs, qcs, if_pos rfl, if_pos rfl]
  exact one 0 (h 0 (by omega))
 | succ n ih =>
  intro h
  have h1 := ih (fun i hi => h i (by omega))
  rw [qbs, qcs, if_neg (by omega), if_neg (by omega), Nat.zero_add]
  have h2 := (h1.app (qa8 (c := 59) (by decide))).app (one (n + 1) (h (n + 1) (by omega)))
  simpa using h2
theorem mtk_len {len : Nat → Nat} {F : Nat → Nat → Xt} {left : Int} (_ : 0 ≤ left) : ∀ n, 0 ≤ rks len F n left → ((mtk len F n).length : Int) ≤ 7 * (left - rks len F n left) := by
 intro n
 induction n with
 | zero => intro _; show (0 : Int) ≤ 7 * (left - left); omega
 | succ n ih =>
  intro h
  have h1 := qch h n (by omega)
  have h2 := ih h1
  have e : rks len F (n + 1) left = if rks len F n left < 0 then rks len F n left else if len n < 1 ∨ 64 < len n then -1 else xks (xleft 16) (F n) (len n) (rks len F n left) := rfl
  rw [e, if_neg (by omega)] at h ⊢
  split at h
  ·omega
  ·rename_i hl
   rw [if_neg hl]
   have h3 := qdv h1 _ h
   have h4 : xks (xleft 16) (F n) (len n) (rks len F n left) < rks len F n left := by
    have g1 := qau h 1 (by omega)
    have g2 : xks (xleft 16) (F n) 1 (rks len F n left) = xleft 16 (F n 0) (rks len F n left) := by
     rw [qa4, qaa, if_neg (by omega)]
    rw [g2] at g1
    obtain ⟨m, _, k1, k2, _⟩ := qa6 (d := 15) g1
    have k3 := qbn (F := kid (F n 0)) (qa5 15) (left := rks len F n left - 1) (by omega) m
    have e3 : xleft 16 (F n 0) (rks len F n left) = xleft (15 + 1) (F n 0) (rks len F n left) := rfl
    have k4 : xks (xleft 16) (F n) (len n) (rks len F n left) ≤ xks (xleft 16) (F n) 1 (rks len F n left) := by
     have : ∀ j, 0 ≤ xks (xleft 16) (F n) (1 + j) (rks len F n left) → xks (xleft 16) (F n) (1 + j) (rks len F n left) ≤ xks (xleft 16) (F n) 1 (rks len F n left) := by
      intro j
      induction j with
      | zero => intro _; exact Int.le_refl _
      | succ j ihj =>
       intro hj
       have h5 := qau hj (1 + j) (by omega)
       have h6 := ihj h5
       rw [← Nat.add_assoc, qa4, if_neg (by omega)]
       have := (qa5 16 (F n (1 + j)) _ h5).2
       omega
     have := this (len n - 1) (by rw [show 1 + (len n - 1) = len n by omega]; exact h)
     rw [show 1 + (len n - 1) = len n by omega] at this
     exact this
    omega
   rw [qbs]
   split
   ·simp only [List.length_append, List.length_nil]; omega
   ·simp only [List.length_append, List.length_cons, List.length_nil]; omega
/-- The tokens of parts. -/
def ptk (f : St → List TV) (F : Nat → St) : Nat → List TV
 | 0 => []
 | k + 1 => (if k = 0 then [] else ptk f F k ++ [tkS ⟨#[44]⟩]) ++ f (F k)
theorem qbt (f : St → List TV) (F : Nat → St) (k : Nat) : ptk f F (k + 1) = (if k = 0 then [] else ptk f F k ++ [tkS ⟨#[44]⟩]) ++ f (F k) := rfl
/-- The tokens of a shape. -/
def stk : Nat → St → List TV
 | 0, _ => []
 | d + 1, S => if (S []).k = 1 then [tkN (S []).nm]
  else if (S []).k = 8 then tkW ⟨(wdb (S []).k).toArray⟩ :: tkS ⟨#[91]⟩ :: (mtk (S []).rl (S []).rows (S []).nr ++ [tkS ⟨#[93]⟩])
  else tkW ⟨(wdb (S []).k).toArray⟩ :: tkS ⟨#[40]⟩ :: (rtk (S []).args (S []).na ++ (ptk (stk d) (part S) (S []).np ++ [tkS ⟨#[41]⟩]))
theorem qcy (d : Nat) (S : St) : stk (d + 1) S = if (S []).k = 1 then [tkN (S []).nm]
  else if (S []).k = 8 then tkW ⟨(wdb (S []).k).toArray⟩ :: tkS ⟨#[91]⟩ :: (mtk (S []).rl (S []).rows (S []).nr ++ [tkS ⟨#[93]⟩])
  else tkW ⟨(wdb (S []).k).toArray⟩ :: tkS ⟨#[40]⟩ :: (rtk (S []).args (S []).na ++ (ptk (stk d) (part S) (S []).np ++ [tkS ⟨#[41]⟩])) := rfl
theorem qbc {k : Nat} (h2 : 2 ≤ k) (h8 : k ≤ 8) : TkF [tkW ⟨(wdb k).toArray⟩] (wdb k) := by
 have h := tkf_word (qag h2 h8).2.1 (by
  show (wdb k).toArray.size ≤ 9
  rw [List.size_toArray]
  unfold wdb
  repeat' split
  all_goals decide)
 simpa using h
theorem stk_f : ∀ (d : Nat) (S : St), MS d S → TkF (stk d S) (sby d S) := by
 intro d
 induction d with
 | zero =>
  intro S h
  obtain ⟨left, _, h⟩ := h
  exact absurd h (by show ¬ (0 : Int) ≤ -1; omega)
 | succ d ih =>
  intro S h
  obtain ⟨hw, ha, hr, hp⟩ := h.parts
  rw [qcy]
  rcases qah hw with ⟨k1, hn, _⟩ | ⟨k2, k5, _, na, np, _⟩ | ⟨k6, k7, _, na, np, _⟩ | ⟨k8, _, _, _, nr⟩
  ·rw [if_pos k1]
   have e : sby (d + 1) S = (S []).nm.data.toList := by show (if _ then _ else _) = _; rw [if_pos k1]
   rw [e]
   exact qcw hn
  ·rw [if_neg (by omega), if_neg (by omega), qbo (by omega) k5, np]
   obtain ⟨m, hm⟩ : ∃ m, (S []).na = m + 1 := ⟨(S []).na - 1, by omega⟩
   rw [hm] at ha ⊢
   exact (qbc k2 (by omega)).cons ((qa8 (c := 40) (by decide)).cons ((rtk_f _ m ha).app (qa8 (c := 41) (by decide))))
  ·rw [if_neg (by omega), if_neg (by omega), qcj k6 k7, np, na, qbt, qbt, if_neg (by omega), if_pos rfl]
   have h2 := ((ih _ (hp 0 (by omega))).app (qa8 (c := 44) (by decide))).app (ih _ (hp 1 (by omega)))
   have h3 := (qbc (k := (S []).k) (by omega) (by omega)).cons ((qa8 (c := 40) (by decide)).cons (h2.app (qa8 (c := 41) (by decide))))
   simpa [rtk] using h3
  ·rw [if_neg (by omega), if_pos k8, qbp k8]
   obtain ⟨m, hm⟩ : ∃ m, (S []).nr = m + 1 := ⟨(S []).nr - 1, by omega⟩
   rw [hm] at hr ⊢
   exact (qbc (k := (S []).k) (by omega) (by omega)).cons ((qa8 (c := 91) (by decide)).cons ((mtk_f _ _ m (fun i hi => ⟨(hr i hi).1, (hr i hi).2.2⟩)).app (qa8 (c := 93) (by decide))))
open Go.RowKit
theorem sleft_le : ∀ d T l, 0 ≤ l → -1 ≤ sleft d T l ∧ sleft d T l ≤ l := by
 intro d
 induction d with
 | zero => intro T l h; show -1 ≤ (-1 : Int) ∧ (-1 : Int) ≤ l; omega
 | succ d ih =>
  intro T l h
  show -1 ≤ (if _ then _ else _) ∧ (if _ then _ else _) ≤ l
  split
  ·omega
  ·split
   ·omega
   ·obtain ⟨B, hB⟩ : ∃ B, xks (xleft 16) (T []).args (T []).na (l - 1) = B := ⟨_, rfl⟩
    obtain ⟨Q, hQ⟩ : ∃ Q, rks (T []).rl (T []).rows (T []).nr B = Q := ⟨_, rfl⟩
    rw [hB, hQ]
    have b1 := qb4 (qa5 16) (F := (T []).args) (T []).na (l - 1) (by omega)
    rw [hB] at b1
    have b2 : -1 ≤ Q ∧ Q ≤ B := by
     rw [← hQ]
     by_cases hb : 0 ≤ B
     ·exact qc0 _ _ hb
     ·have := qax (len := (T []).rl) (F := (T []).rows) (k := 0) (left := B) (by show B < 0; omega) (T []).nr
      rw [Nat.zero_add] at this
      rw [this]
      show -1 ≤ B ∧ B ≤ B
      omega
    by_cases hq : 0 ≤ Q
    ·have := qct ih (F := part T) (T []).np Q hq
     omega
    ·have := qay (f := sleft d) (F := part T) (k := 0) (left := Q) (by show Q < 0; omega) (T []).np
     rw [Nat.zero_add] at this
     rw [this]
     show -1 ≤ Q ∧ Q ≤ l
     omega
theorem sks_succ (f : St → Int → Int) (F : Nat → St) (k : Nat) (left : Int) : sks f F (k + 1) left = if sks f F k left < 0 then sks f F k left else f (F k) (sks f F k left) := rfl
theorem qdb (d : Nat) (S : St) (left : Int) : sleft (d + 1) S left = if left - 1 < 0 then -1 else if swant (S []) = false then -1 else sks (sleft d) (part S) (S []).np (rks (S []).rl (S []).rows (S []).nr (xks (xleft 16) (S []).args (S []).na (left - 1))) := rfl
/-- The steps of a shape's count that is not below 0. -/
theorem qbd {d : Nat} {S : St} {left : Int} (h : 0 ≤ sleft (d + 1) S left) : ∃ A R : Int, 1 ≤ left ∧ swant (S []) = true ∧ xks (xleft 16) (S []).args (S []).na (left - 1) = A ∧ rks (S []).rl (S []).rows (S []).nr A = R ∧ sleft (d + 1) S left = sks (sleft d) (part S) (S []).np R ∧ 0 ≤ A ∧ 0 ≤ R := by
 rw [qdb] at h ⊢
 split at h
 ·omega
 ·rename_i hl1
  split at h
  ·omega
  ·rename_i hs
   obtain ⟨A, hA⟩ : ∃ A, xks (xleft 16) (S []).args (S []).na (left - 1) = A := ⟨_, rfl⟩
   obtain ⟨R, hR⟩ : ∃ R, rks (S []).rl (S []).rows (S []).nr A = R := ⟨_, rfl⟩
   rw [hA, hR] at h
   have hR0 : 0 ≤ R := by
    rcases Int.lt_or_le R 0 with g | g
    ·have := qay (f := sleft d) (F := part S) (k := 0) (left := R) g (S []).np
     rw [Nat.zero_add] at this
     have h2 : sks (sleft d) (part S) 0 R = R := rfl
     omega
    ·exact g
   have hA0 : 0 ≤ A := by
    rcases Int.lt_or_le A 0 with g | g
    ·have := qax (len := (S []).rl) (F := (S []).rows) (k := 0) (left := A) g (S []).nr
     rw [Nat.zero_add] at this
     have h2 : rks (S []).rl (S []).rows 0 A = A := rfl
     omega
    ·exact g
   refine ⟨A, R, by omega, by cases hw : swant (S []) with | true => rfl | false => exact absurd hw hs, hA, hR, ?_, hA0, hR0⟩
   rw [if_neg hl1, if_neg hs, hA, hR]
theorem stk_len : ∀ d S left, 0 ≤ sleft d S left → ((stk d S).length : Int) ≤ 7 * (left - sleft d S left) := by
 intro d
 induction d with
 | zero => intro S left h; exact absurd h (by show ¬ (0 : Int) ≤ -1; omega)
 | succ d ih =>
  intro S left h
  obtain ⟨A, R, h1, hw, hA, hR, e, hA0, hR0⟩ := qbd h
  rw [e] at h ⊢
  have a1 := qdv (F := (S []).args) (left := left - 1) (by omega) (S []).na (by rw [hA]; exact hA0)
  have a2 := mtk_len (len := (S []).rl) (F := (S []).rows) (left := A) hA0 (S []).nr (by rw [hR]; exact hR0)
  rw [hA] at a1
  rw [hR] at a2
  have a3 : ∀ n, 0 ≤ sks (sleft d) (part S) n R → ((ptk (stk d) (part S) n).length : Int) ≤ 7 * (R - sks (sleft d) (part S) n R) + n := by
   intro n
   induction n with
   | zero => intro _; show (0 : Int) ≤ 7 * (R - R) + 0; omega
   | succ n ihn =>
    intro hn
    have g1 := qci hn n (by omega)
    have g2 := ihn g1
    rw [sks_succ, if_neg (by omega)] at hn ⊢
    have g3 := ih _ _ hn
    rw [qbt]
    split
    ·simp only [List.length_append, List.length_nil]; omega
    ·simp only [List.length_append, List.length_cons, List.length_nil]; omega
  have a4 := a3 _ h
  have hxt := (qb4 (qa5 16) (F := (S []).args) (S []).na (left - 1) (by omega)).2
  rw [hA] at hxt
  have hrt := (qc0 (len := (S []).rl) (F := (S []).rows) (S []).nr A hA0).2
  rw [hR] at hrt
  have hst := (qct (sleft_le d) (F := part S) (S []).np R hR0).2
  rw [qcy]
  rcases qah hw with ⟨k1, hn, _⟩ | ⟨k2, k5, _, na, np, _⟩ | ⟨k6, k7, _, na, np, _⟩ | ⟨k8, _, _, _, nr⟩
  ·rw [if_pos k1]
   show (1 : Int) ≤ _
   omega
  ·rw [if_neg (by omega), if_neg (by omega)]
   simp only [List.length_append, List.length_cons, List.length_nil]
   rw [np] at a4 ⊢
   omega
  ·rw [if_neg (by omega), if_neg (by omega)]
   simp only [List.length_append, List.length_cons, List.length_nil]
   rw [np] at a4 ⊢
   omega
  ·rw [if_neg (by omega), if_pos k8]
   simp only [List.length_append, List.length_cons, List.length_nil]
   omega
theorem MS.toks {d : Nat} {S : St} (h : MS d S) : (stk d S).length ≤ 57344 := by
 obtain ⟨left, hl, h⟩ := h
 have h0 : 0 ≤ left := by
  cases d with
  | zero => exact absurd h (by show ¬ (0 : Int) ≤ -1; omega)
  | succ d => obtain ⟨A, R, h1, _⟩ := qbd h; omega
 have := stk_len d S left h
 omega
theorem TkF.re {L : List TV} {a b : List UInt8} (h : TkF L a) (e : a = b) : TkF L b := e ▸ h
end Go.Proofs.YtgmndjbicandfaaDoor
