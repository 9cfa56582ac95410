/-
  The mathematics of P9.4: what is joined is cut into the same.
  The mathematics of P9.4, on: a token's text is cut into that token; what is cut may be.
-/
import Derived.Test.YtnjcpmkfghcogaaGreatDoorQbbks00
import Derived.Test.YtnjcpmkfghcogaaGreatDoorQbbks01
set_option maxRecDepth 100000
set_option maxHeartbeats 16000000
namespace Go.Proofs.YtnjcpmkfghcogaaGreatDoor
open Go.RowKit
theorem ba_ext {a b : ByteArray} (hs : a.size = b.size) (h : ∀ i, i < a.size → tb a i = tb b i) : a = b := by
 obtain ⟨x⟩ := a
 obtain ⟨y⟩ := b
 congr 1
 refine Array.ext hs (fun i h1 h2 => ?_)
 have := h i h1
 unfold tb at this
 rw [dif_pos (show i < (ByteArray.mk x).size from h1), dif_pos (show i < (ByteArray.mk y).size from h2)] at this
 exact UInt8.toNat_inj.1 this
theorem qay {a b : ByteArray} {i : Nat} : tb (a ++ b) i = if i < a.size then tb a i else tb b (i - a.size) := by
 unfold tb
 by_cases h1 : i < a.size
 ·rw [if_pos h1, dif_pos (show i < (a ++ b).size by rw [ByteArray.size_append]; omega), dif_pos h1, ByteArray.getElem_append_left h1]
 ·rw [if_neg h1]
  by_cases h2 : i < a.size + b.size
  ·rw [dif_pos (show i < (a ++ b).size by rw [ByteArray.size_append]; omega), dif_pos (show i - a.size < b.size by omega), ByteArray.getElem_append_right (by omega)]
  ·rw [dif_neg (show ¬ i < (a ++ b).size by rw [ByteArray.size_append]; omega), dif_neg (show ¬ i - a.size < b.size by omega)]
theorem jn_spec (K : Nat → TV) : ∀ n, 0 < n → (jn K n).size + 1 = jz K n ∧ (∀ i, i < n → ∀ j, j < (frm (K i)).size → tb (jn K n) (jz K i + j) = tb (frm (K i)) j) ∧ ∀ i, i + 1 < n → tb (jn K n) (jz K i + (frm (K i)).size) = 32 := by
 intro n
 induction n with
 | zero => intro h; omega
 | succ n ih =>
  intro _
  rw [jn_succ, qc7]
  by_cases h0 : n = 0
  ·subst h0
   rw [if_pos rfl]
   refine ⟨by rw [ByteArray.size_append]; show 0 + _ + 1 = 0 + _; omega, fun i hi j hj => ?_, fun i hi => by omega⟩
   obtain rfl : i = 0 := by omega
   rw [qay, if_neg (by show ¬ 0 + j < 0; omega)]
   congr 1
   show 0 + j - 0 = j
   omega
  ·obtain ⟨h1, h2, h3⟩ := ih (by omega)
   rw [if_neg h0]
   have hs : (jn K n ++ ⟨#[32]⟩).size = jz K n := by rw [ByteArray.size_append]; exact h1
   refine ⟨by rw [ByteArray.size_append, hs]; omega, fun i hi j hj => ?_, fun i hi => ?_⟩
   ·rw [qay, hs]
    by_cases e : i = n
    ·subst e
     rw [if_neg (by omega)]
     congr 1
     omega
    ·have hm := qf3 K (i + 1) (n - (i + 1))
     rw [show i + 1 + (n - (i + 1)) = n by omega, qc7] at hm
     rw [if_pos (by omega), qay, if_pos (by omega)]
     exact h2 i (by omega) j hj
   ·rw [qay, hs]
    have hm := qf3 K (i + 1) (n - (i + 1))
    rw [show i + 1 + (n - (i + 1)) = n by omega, qc7] at hm
    rw [if_pos (by omega), qay]
    by_cases e : i + 1 = n
    ·subst e
     rw [qc7] at h1
     rw [if_neg (by omega)]
     rw [show jz K i + (frm (K i)).size - (jn K (i + 1)).size = 0 by omega]
     rfl
    ·have hm2 := qf3 K (i + 1 + 1) (n - (i + 1 + 1))
     rw [show i + 1 + 1 + (n - (i + 1 + 1)) = n by omega, qc7 K (i + 1), qc7] at hm2
     rw [if_pos (by omega)]
     exact h3 i (by omega)
theorem dd_spec : ∀ u, (∀ b ∈ Lib.decDigits u, 48 ≤ b.toNat ∧ b.toNat ≤ 57) ∧ (10 ≤ u → ∃ b r, Lib.decDigits u = b :: r ∧ b.toNat ≠ 48 ∧ r ≠ []) ∧ (u < 10 → Lib.decDigits u = [UInt8.ofNat (48 + u)]) ∧ 1 ≤ (Lib.decDigits u).length := by
 intro u
 induction u using Nat.strongRecOn with
 | _ u ih =>
  by_cases h : u < 10
  ·have e : Lib.decDigits u = [UInt8.ofNat (48 + u)] := by rw [Lib.decDigits, dif_pos h]
   have ht : (UInt8.ofNat (48 + u)).toNat = 48 + u := by simp; omega
   refine ⟨fun b hb => ?_, fun h' => by omega, fun _ => e, by rw [e]; simp⟩
   rw [e] at hb
   simp only [List.mem_singleton] at hb
   subst hb
   rw [ht]
   omega
  ·have e : Lib.decDigits u = Lib.decDigits (u / 10) ++ [UInt8.ofNat (48 + u % 10)] := by rw [Lib.decDigits, dif_neg h]
   obtain ⟨i1, i2, i3, i4⟩ := ih (u / 10) (by omega)
   have ht : (UInt8.ofNat (48 + u % 10)).toNat = 48 + u % 10 := by simp; omega
   refine ⟨fun b hb => ?_, fun _ => ?_, fun h' => absurd h' h, by rw [e]; simp⟩
   ·rw [e] at hb
    rcases List.mem_append.1 hb with hb | hb
    ·exact i1 b hb
    ·simp only [List.mem_singleton] at hb
     subst hb
     rw [ht]
     omega
   ·by_cases h2 : u / 10 < 10
    ·refine ⟨UInt8.ofNat (48 + u / 10), [UInt8.ofNat (48 + u % 10)], by rw [e, i3 h2]; rfl, ?_, by simp⟩
     have : (UInt8.ofNat (48 + u / 10)).toNat = 48 + u / 10 := by simp; omega
     rw [this]
     omega
    ·obtain ⟨b, r, e2, hb, hr⟩ := i2 (by omega)
     exact ⟨b, r ++ [UInt8.ofNat (48 + u % 10)], by rw [e, e2]; rfl, hb, by simp⟩
theorem qdv (l : List UInt8) (i : Nat) (h : i < l.length) : tb ⟨l.toArray⟩ i = (l[i]).toNat := by
 unfold tb
 rw [dif_pos (show i < (ByteArray.mk l.toArray).size from (by show i < l.toArray.size; simpa using h))]
 rfl
theorem nvl_dd : ∀ u, nvl ⟨(Lib.decDigits u).toArray⟩ 0 (Lib.decDigits u).length = u := by
 intro u
 induction u using Nat.strongRecOn with
 | _ u ih =>
  by_cases h : u < 10
  ·have e : Lib.decDigits u = [UInt8.ofNat (48 + u)] := by rw [Lib.decDigits, dif_pos h]
   rw [e]
   show 10 * 0 + (tb _ (0 + 0) - 48) = u
   rw [qdv _ _ (by simp)]
   have ht : (UInt8.ofNat (48 + u)).toNat = 48 + u := by simp; omega
   simp only [Nat.add_zero, mz3, ht]
   omega
  ·have e : Lib.decDigits u = Lib.decDigits (u / 10) ++ [UInt8.ofNat (48 + u % 10)] := by rw [Lib.decDigits, dif_neg h]
   have hi := ih (u / 10) (by omega)
   obtain ⟨d, hd⟩ : ∃ d, Lib.decDigits (u / 10) = d := ⟨_, rfl⟩
   rw [hd] at e hi
   rw [e, List.length_append, List.length_singleton, qdb]
   have hc : ∀ k, k ≤ d.length → nvl ⟨(d ++ [UInt8.ofNat (48 + u % 10)]).toArray⟩ 0 k = nvl ⟨d.toArray⟩ 0 k := by
    intro k
    induction k with
    | zero => intro _; rfl
    | succ k ihk =>
     intro hk
     rw [qdb, qdb, ihk (by omega), qdv _ _ (by simp; omega), qdv _ _ (by omega), List.getElem_append_left (by omega)]
   have ht : (UInt8.ofNat (48 + u % 10)).toNat = 48 + u % 10 := by simp; omega
   rw [hc _ (Nat.le_refl _), hi, qdv _ _ (by simp)]
   have hg : (d ++ [UInt8.ofNat (48 + u % 10)])[0 + d.length]'(by simp) = UInt8.ofNat (48 + u % 10) := by
    rw [List.getElem_append_right (by omega)]
    simp
   rw [hg, ht]
   omega
open Go.RowKit
theorem word_all : ∀ x ∈ wds, 1 ≤ x.size ∧ ∀ j, j < x.size → isL (tb x j) = true := by decide
theorem cls_32 : isB 32 = true ∧ isL 32 = false ∧ isD 32 = false := by decide
def tnm (v : TV) : Nat := if v.k = 3 then v.n.toNat else 0
theorem qex {S x : ByteArray} {p : Nat} (hfit : p + x.size ≤ S.size) (hb : ∀ j, j < x.size → tb S (p + j) = tb x j) : S.extract p (p + x.size) = x := by
 refine ba_ext (by rw [size_extract hfit]; omega) (fun i hi => ?_)
 rw [size_extract hfit] at hi
 rw [qaz (by omega) hfit]
 exact hb i (by omega)
theorem nvl_is {S x : ByteArray} {p : Nat} : ∀ k, (∀ j, j < k → tb S (p + j) = tb x j) → nvl S p k = nvl x 0 k := by
 intro k
 induction k with
 | zero => intro _; rfl
 | succ k ih =>
  intro h
  rw [qdb, qdb, ih (fun j hj => h j (by omega)), h k (by omega), Nat.zero_add]
theorem qjp {S : ByteArray} {v : TV} {p : Nat} {L : List Tk} {E a : Nat} (hm : mayB v = true) (hfit : p + (frm v).size ≤ S.size) (hb : ∀ j, j < (frm v).size → tb S (p + j) = tb (frm v) j)
  (he : p + (frm v).size < S.size → tb S (p + (frm v).size) = 32) (h : Cuts S (p + (frm v).size) L E a) : Cuts S p (⟨v.k, p, p + (frm v).size, tnm v⟩ :: L) E a := by
 obtain ⟨k, x, n, ln, cl⟩ := v
 obtain ⟨c1, c2, c3⟩ := cls_32
 by_cases k1 : k = 1
 ·subst k1
  have hN : NameP x := by
   have : (decide (n = 0) && isN x) = true := hm
   rw [Bool.and_eq_true] at this
   exact qbc.1 this.2
  have hf : frm ⟨1, x, n, ln, cl⟩ = x := rfl
  rw [hf] at hfit hb he h ⊢
  have hx := qex hfit hb
  have h0 := hb 0 hN.pos
  rw [Nat.add_zero] at h0
  refine Cuts.name (e := p + x.size) (by have := hN.pos; omega) (by rw [h0]; exact hN.first) ⟨by omega, hfit, fun j h1 h2 => ?_, fun h3 => by rw [he h3, c2, c3]; rfl⟩ (by rw [hx]; exact hN.noWord) (by have := hN.most; omega) h
  have h4 := hb (j - p) (by omega)
  rw [show p + (j - p) = j by omega] at h4
  have h5 := hN.all (j - p) (by omega)
  rw [h4, Bool.or_comm]
  simpa using h5
 by_cases k2 : k = 2
 ·subst k2
  have hW : isW x = true := by
   have : (decide (n = 0) && isW x) = true := hm
   rw [Bool.and_eq_true] at this
   exact this.2
  obtain ⟨w1, w2⟩ := word_all x (qf0.1 hW)
  have hf : frm ⟨2, x, n, ln, cl⟩ = x := rfl
  rw [hf] at hfit hb he h ⊢
  have hx := qex hfit hb
  have h0 := hb 0 w1
  rw [Nat.add_zero] at h0
  refine Cuts.word (e := p + x.size) (by omega) (by rw [h0]; exact w2 0 w1) ⟨by omega, hfit, fun j h1 h2 => ?_, fun h3 => by rw [he h3, c2, c3]; rfl⟩ (by rw [hx]; exact hW) h
  have h4 := hb (j - p) (by omega)
  rw [show p + (j - p) = j by omega] at h4
  rw [h4, w2 (j - p) (by omega)]
  simp
 by_cases k3 : k = 3
 ·subst k3
  obtain ⟨hn0, hnM⟩ : 0 ≤ n ∧ n ≤ 2147483647 := by
   have : (decide (x.size = 0) && (decide (0 ≤ n) && decide (n ≤ 2147483647))) = true := hm
   simp only [Bool.and_eq_true, decide_eq_true_eq] at this
   exact this.2
  obtain ⟨u, rfl⟩ : ∃ u : Nat, n = (u : Int) := ⟨n.toNat, by omega⟩
  have hit : Lib.itoa (u : Int) = Lib.decDigits u := by unfold Lib.itoa; rw [if_neg (by omega)]; rfl
  have hf : frm ⟨3, x, (u : Int), ln, cl⟩ = ⟨(Lib.decDigits u).toArray⟩ := by unfold frm; rw [if_pos rfl, hit]
  rw [hf] at hfit hb he h ⊢
  obtain ⟨d1, d2, d3, d4⟩ := dd_spec u
  have hsz : (ByteArray.mk (Lib.decDigits u).toArray).size = (Lib.decDigits u).length := by show (Lib.decDigits u).toArray.size = _; simp
  rw [hsz] at hfit hb he h ⊢
  have hd : ∀ j, j < (Lib.decDigits u).length → isD (tb S (p + j)) = true := fun j hj => by
   rw [hb j hj, qdv _ _ hj]
   exact qb5.2 (d1 _ (List.getElem_mem _))
  have hnv : nvl S p (Lib.decDigits u).length = u := by rw [nvl_is _ hb]; exact nvl_dd u
  have h0 := hd 0 (by omega)
  rw [Nat.add_zero] at h0
  have hc := Cuts.num (s := S) (p := p) (e := p + (Lib.decDigits u).length) (L := L) (E := E) (a := a) (by omega) h0 ⟨by omega, hfit, fun j h1 h2 => ?_, fun h3 => by rw [he h3, c3]; rfl⟩ ⟨fun ⟨z1, z2⟩ => ?_, ?_⟩ (fun h3 => by rw [he h3]; exact c2) h
  ·rw [Nat.add_sub_cancel_left, hnv] at hc
   exact hc
  ·have h4 := hd (j - p) (by omega)
   rw [show p + (j - p) = j by omega] at h4
   rw [h4]
   rfl
  ·rw [Nat.add_sub_cancel_left] at z2
   have h5 := hb 0 (by omega)
   rw [Nat.add_zero, z1, qdv _ _ (by omega)] at h5
   by_cases h10 : 10 ≤ u
   ·obtain ⟨b, r, e1, e2, _⟩ := d2 h10
    apply e2
    have : (Lib.decDigits u)[0]'(by omega) = b := by simp [e1]
    rw [← this]
    exact h5.symm
   ·rw [d3 (by omega)] at z2
    simp at z2
  ·rw [Nat.add_sub_cancel_left, hnv]
   omega
 by_cases k4 : k = 4
 ·subst k4
  obtain ⟨hs1, hS⟩ : x.size = 1 ∧ isS (tb x 0) = true := by
   have : (decide (n = 0) && (decide (x.size = 1) && isS (tb x 0))) = true := hm
   simp only [Bool.and_eq_true, decide_eq_true_eq] at this
   exact this.2
  have hf : frm ⟨4, x, n, ln, cl⟩ = x := rfl
  rw [hf] at hfit hb he h ⊢
  have h0 := hb 0 (by omega)
  rw [Nat.add_zero] at h0
  rw [hs1] at hfit hb he h ⊢
  exact Cuts.sign (by omega) (by rw [h0]; exact hS) h
 ·exfalso
  have : mayB ⟨k, x, n, ln, cl⟩ = false := by unfold mayB; simp [k1, k2, k3, k4]
  rw [this] at hm
  cases hm
def tkl (K : Nat → TV) (i : Nat) : Nat → List Tk
 | 0 => []
 | d + 1 => ⟨(K i).k, jz K i, jz K i + (frm (K i)).size, tnm (K i)⟩ :: tkl K (i + 1) d
theorem join_cut {K : Nat → TV} {n : Nat} (hm : ∀ i, i < n → mayB (K i) = true) : Cuts (jn K n) 0 (tkl K 0 n) 0 0 := by
 by_cases h0 : n = 0
 ·subst h0
  exact Cuts.done rfl
 ·obtain ⟨h1, h2, h3⟩ := jn_spec K n (by omega)
  have go : ∀ d i, i + (d + 1) = n → Cuts (jn K n) (jz K i) (tkl K i (d + 1)) 0 0 := by
   intro d
   induction d with
   | zero =>
    intro i hi
    have e : jz K i + (frm (K i)).size = (jn K n).size := by
     have := qc7 K i
     rw [show i + 1 = n by omega] at this
     omega
    exact qjp (hm i (by omega)) (by omega) (h2 i (by omega)) (fun h => by omega) (by rw [e]; exact Cuts.done rfl)
   | succ d ih =>
    intro i hi
    have hz := qc7 K i
    have hm2 := qf3 K (i + 1 + 1) (n - (i + 1 + 1))
    rw [show i + 1 + 1 + (n - (i + 1 + 1)) = n by omega, qc7 K (i + 1), hz] at hm2
    have h32 := h3 i (by omega)
    refine qjp (hm i (by omega)) (by omega) (h2 i (by omega)) (fun _ => h32) (Cuts.skip (by omega) (by rw [h32]; exact cls_32.1) ?_)
    have := ih (i + 1) (by omega)
    rw [hz, ← Nat.add_assoc] at this
    exact this
  have := go (n - 1) 0 (by omega)
  rw [show n - 1 + 1 = n by omega] at this
  exact this
end Go.Proofs.YtnjcpmkfghcogaaGreatDoor
