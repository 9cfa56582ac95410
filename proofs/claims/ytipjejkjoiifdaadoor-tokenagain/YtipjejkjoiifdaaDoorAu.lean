/-
  The mathematics of P9.4, on: a token's text is cut into that token; what is cut may be.
-/
import Derived.Test.YtipjejkjoiifdaaDoorAt
namespace Go.Proofs.YtipjejkjoiifdaaDoor
open Go.RowKit
theorem word_all : ∀ x ∈ wds, 1 ≤ x.size ∧ ∀ j, j < x.size → isL (tb x j) = true := by decide
theorem cls_32 : isB 32 = true ∧ isL 32 = false ∧ isD 32 = false := by decide
/-- A token's number. -/
def tnm (v : TV) : Nat := if v.k = 3 then v.n.toNat else 0
theorem extract_is {S x : ByteArray} {p : Nat} (hfit : p + x.size ≤ S.size) (hb : ∀ j, j < x.size → tb S (p + j) = tb x j) : S.extract p (p + x.size) = x := by
  refine ba_ext (by rw [size_extract hfit]; omega) (fun i hi => ?_)
  rw [size_extract hfit] at hi
  rw [tb_extract (by omega) hfit]
  exact hb i (by omega)
theorem nvl_is {S x : ByteArray} {p : Nat} : ∀ k, (∀ j, j < k → tb S (p + j) = tb x j) → nvl S p k = nvl x 0 k := by
  intro k
  induction k with
  | zero => intro _; rfl
  | succ k ih =>
    intro h
    rw [nvl_succ, nvl_succ, ih (fun j hj => h j (by omega)), h k (by omega), Nat.zero_add]
/-- A token's text, a blank or the end behind it, is cut into that token. -/
theorem tok_cut {S : ByteArray} {v : TV} {p : Nat} {L : List Tk} {E a : Nat} (hm : mayB v = true) (hfit : p + (frm v).size ≤ S.size) (hb : ∀ j, j < (frm v).size → tb S (p + j) = tb (frm v) j)
    (he : p + (frm v).size < S.size → tb S (p + (frm v).size) = 32) (h : Cuts S (p + (frm v).size) L E a) : Cuts S p (⟨v.k, p, p + (frm v).size, tnm v⟩ :: L) E a := by
  obtain ⟨k, x, n, ln, cl⟩ := v
  obtain ⟨c1, c2, c3⟩ := cls_32
  by_cases k1 : k = 1
  · subst k1
    have hN : NameP x := by
      have : (decide (n = 0) && isN x) = true := hm
      rw [Bool.and_eq_true] at this
      exact isN_iff.1 this.2
    have hf : frm ⟨1, x, n, ln, cl⟩ = x := rfl
    rw [hf] at hfit hb he h ⊢
    have hx := extract_is hfit hb
    have h0 := hb 0 hN.pos
    rw [Nat.add_zero] at h0
    refine Cuts.name (e := p + x.size) (by have := hN.pos; omega) (by rw [h0]; exact hN.first) ⟨by omega, hfit, fun j h1 h2 => ?_, fun h3 => by rw [he h3, c2, c3]; rfl⟩ (by rw [hx]; exact hN.noWord) (by have := hN.most; omega) h
    have h4 := hb (j - p) (by omega)
    rw [show p + (j - p) = j by omega] at h4
    have h5 := hN.all (j - p) (by omega)
    rw [h4, Bool.or_comm]
    simpa using h5
  by_cases k2 : k = 2
  · subst k2
    have hW : isW x = true := by
      have : (decide (n = 0) && isW x) = true := hm
      rw [Bool.and_eq_true] at this
      exact this.2
    obtain ⟨w1, w2⟩ := word_all x (isW_iff.1 hW)
    have hf : frm ⟨2, x, n, ln, cl⟩ = x := rfl
    rw [hf] at hfit hb he h ⊢
    have hx := extract_is hfit hb
    have h0 := hb 0 w1
    rw [Nat.add_zero] at h0
    refine Cuts.word (e := p + x.size) (by omega) (by rw [h0]; exact w2 0 w1) ⟨by omega, hfit, fun j h1 h2 => ?_, fun h3 => by rw [he h3, c2, c3]; rfl⟩ (by rw [hx]; exact hW) h
    have h4 := hb (j - p) (by omega)
    rw [show p + (j - p) = j by omega] at h4
    rw [h4, w2 (j - p) (by omega)]
    simp
  by_cases k3 : k = 3
  · subst k3
    obtain ⟨hn0, hnM⟩ : 0 ≤ n ∧ n ≤ 2147483647 := by
      have : (decide (x.size = 0) && (decide (0 ≤ n) && decide (n ≤ 2147483647))) = true := hm
      simp only [Bool.and_eq_true, decide_eq_true_eq] at this
      exact this.2
    obtain ⟨u, rfl⟩ : ∃ u : Nat, n = (u : Int) := ⟨n.toNat, by omega⟩
    have hit : Lib.itoa (u : Int) = Lib.decDigits u := by unfold Lib.itoa; rw [if_neg (by omega)]; rfl
    have hf : frm ⟨3, x, (u : Int), ln, cl⟩ = ⟨(Lib.decDigits u).toArray⟩ := by unfold frm; rw [if_pos rfl, hit]
    rw [hf] at hfit hb he h ⊢
    obtain ⟨d1, d2, d3, d4⟩ := dd_spec u
    have hsz : (ByteArray.mk (Lib.decDigits u).toArray).size = (Lib.decDigits u).length := by show (Lib.decDigits u).toArray.size = _; simp
    rw [hsz] at hfit hb he h ⊢
    have hd : ∀ j, j < (Lib.decDigits u).length → isD (tb S (p + j)) = true := fun j hj => by
      rw [hb j hj, tb_list _ _ hj]
      exact isD_iff.2 (d1 _ (List.getElem_mem _))
    have hnv : nvl S p (Lib.decDigits u).length = u := by rw [nvl_is _ hb]; exact nvl_dd u
    have h0 := hd 0 (by omega)
    rw [Nat.add_zero] at h0
    have hc := Cuts.num (s := S) (p := p) (e := p + (Lib.decDigits u).length) (L := L) (E := E) (a := a) (by omega) h0 ⟨by omega, hfit, fun j h1 h2 => ?_, fun h3 => by rw [he h3, c3]; rfl⟩ ⟨fun ⟨z1, z2⟩ => ?_, ?_⟩ (fun h3 => by rw [he h3]; exact c2) h
    · rw [Nat.add_sub_cancel_left, hnv] at hc
      exact hc
    · have h4 := hd (j - p) (by omega)
      rw [show p + (j - p) = j by omega] at h4
      rw [h4]
      rfl
    · rw [Nat.add_sub_cancel_left] at z2
      have h5 := hb 0 (by omega)
      rw [Nat.add_zero, z1, tb_list _ _ (by omega)] at h5
      by_cases h10 : 10 ≤ u
      · obtain ⟨b, r, e1, e2, _⟩ := d2 h10
        apply e2
        have : (Lib.decDigits u)[0]'(by omega) = b := by simp [e1]
        rw [← this]
        exact h5.symm
      · rw [d3 (by omega)] at z2
        simp at z2
    · rw [Nat.add_sub_cancel_left, hnv]
      omega
  by_cases k4 : k = 4
  · subst k4
    obtain ⟨hs1, hS⟩ : x.size = 1 ∧ isS (tb x 0) = true := by
      have : (decide (n = 0) && (decide (x.size = 1) && isS (tb x 0))) = true := hm
      simp only [Bool.and_eq_true, decide_eq_true_eq] at this
      exact this.2
    have hf : frm ⟨4, x, n, ln, cl⟩ = x := rfl
    rw [hf] at hfit hb he h ⊢
    have h0 := hb 0 (by omega)
    rw [Nat.add_zero] at h0
    rw [hs1] at hfit hb he h ⊢
    exact Cuts.sign (by omega) (by rw [h0]; exact hS) h
  · exfalso
    have : mayB ⟨k, x, n, ln, cl⟩ = false := by unfold mayB; simp [k1, k2, k3, k4]
    rw [this] at hm
    cases hm
/-- The tokens that are cut from the token i on. -/
def tkl (K : Nat → TV) (i : Nat) : Nat → List Tk
  | 0 => []
  | d + 1 => ⟨(K i).k, jz K i, jz K i + (frm (K i)).size, tnm (K i)⟩ :: tkl K (i + 1) d
theorem tkl_len (K : Nat → TV) : ∀ d i, (tkl K i d).length = d := by
  intro d
  induction d with
  | zero => intro i; rfl
  | succ d ih => intro i; simp [tkl, ih]
theorem tkl_get (K : Nat → TV) : ∀ d i j, j < d → (tkl K i d).getD j ⟨0, 0, 0, 0⟩ = ⟨(K (i + j)).k, jz K (i + j), jz K (i + j) + (frm (K (i + j))).size, tnm (K (i + j))⟩ := by
  intro d
  induction d with
  | zero => intro i j h; omega
  | succ d ih =>
    intro i j h
    cases j with
    | zero => rfl
    | succ j =>
      have := ih (i + 1) j (by omega)
      rw [show i + 1 + j = i + (j + 1) by omega] at this
      simpa [tkl] using this
theorem join_cut {K : Nat → TV} {n : Nat} (hm : ∀ i, i < n → mayB (K i) = true) : Cuts (jn K n) 0 (tkl K 0 n) 0 0 := by
  by_cases h0 : n = 0
  · subst h0
    exact Cuts.done rfl
  · obtain ⟨h1, h2, h3⟩ := jn_spec K n (by omega)
    have go : ∀ d i, i + (d + 1) = n → Cuts (jn K n) (jz K i) (tkl K i (d + 1)) 0 0 := by
      intro d
      induction d with
      | zero =>
        intro i hi
        have e : jz K i + (frm (K i)).size = (jn K n).size := by
          have := jz_succ K i
          rw [show i + 1 = n by omega] at this
          omega
        exact tok_cut (hm i (by omega)) (by omega) (h2 i (by omega)) (fun h => by omega) (by rw [e]; exact Cuts.done rfl)
      | succ d ih =>
        intro i hi
        have hz := jz_succ K i
        have hm2 := jz_mono K (i + 1 + 1) (n - (i + 1 + 1))
        rw [show i + 1 + 1 + (n - (i + 1 + 1)) = n by omega, jz_succ K (i + 1), hz] at hm2
        have h32 := h3 i (by omega)
        refine tok_cut (hm i (by omega)) (by omega) (h2 i (by omega)) (fun _ => h32) (Cuts.skip (by omega) (by rw [h32]; exact cls_32.1) ?_)
        have := ih (i + 1) (by omega)
        rw [hz, ← Nat.add_assoc] at this
        exact this
    have := go (n - 1) 0 (by omega)
    rw [show n - 1 + 1 = n by omega] at this
    exact this
/-- The text of a token that is cut. -/
theorem tkl_tx {K : Nat → TV} {n i : Nat} (hm : ∀ i, i < n → mayB (K i) = true) (hi : i < n) : ttx (jn K n) ⟨(K i).k, jz K i, jz K i + (frm (K i)).size, tnm (K i)⟩ = (K i).tx ∧ ((tnm (K i) : Nat) : Int) = (K i).n := by
  obtain ⟨h1, h2, _⟩ := jn_spec K n (by omega)
  have hmi := hm i hi
  have hfit : jz K i + (frm (K i)).size ≤ (jn K n).size := by
    have := jz_mono K (i + 1) (n - (i + 1))
    rw [show i + 1 + (n - (i + 1)) = n by omega, jz_succ] at this
    omega
  have hx := extract_is hfit (h2 i hi)
  generalize K i = v at *
  obtain ⟨k, x, nn, ll, cc⟩ := v
  unfold ttx tnm
  unfold mayB at hmi
  by_cases k3 : k = 3
  · subst k3
    have hm3 : x.size = 0 ∧ 0 ≤ nn ∧ nn ≤ 2147483647 := by simpa using hmi
    refine ⟨?_, by simp; omega⟩
    rw [if_pos rfl]
    exact (ba_ext (by show 0 = x.size; omega) (fun i hi => by have : i < 0 := hi; omega))
  · have hf : frm ⟨k, x, nn, ll, cc⟩ = x := by unfold frm; rw [if_neg k3]
    rw [hf] at hx ⊢
    have hn0 : nn = 0 := by
      simp only [k3, if_false] at hmi
      split at hmi
      · simp only [Bool.and_eq_true, decide_eq_true_eq] at hmi; exact hmi.1
      · split at hmi
        · simp only [Bool.and_eq_true, decide_eq_true_eq] at hmi; exact hmi.1
        · split at hmi
          · simp only [Bool.and_eq_true, decide_eq_true_eq] at hmi; exact hmi.1
          · cases hmi
    refine ⟨?_, by simp [k3, hn0]⟩
    rw [if_neg k3]
    exact hx
/-- The text of a token that may be has at most 16 bytes. -/
theorem may_16 {v : TV} (h : mayB v = true) : (frm v).size ≤ 16 := by
  obtain ⟨k, x, n, ln, cl⟩ := v
  unfold mayB at h
  unfold frm
  by_cases k3 : k = 3
  · subst k3
    have hm3 : x.size = 0 ∧ 0 ≤ n ∧ n ≤ 2147483647 := by simpa using h
    obtain ⟨u, rfl⟩ : ∃ u : Nat, n = (u : Int) := ⟨n.toNat, by omega⟩
    have hit : Lib.itoa (u : Int) = Lib.decDigits u := by unfold Lib.itoa; rw [if_neg (by omega)]; rfl
    rw [if_pos rfl, hit]
    have := nd_le 10 u (by omega) (by have : (10 : Nat) ^ 10 = 10000000000 := by decide
                                      omega)
    show (Lib.decDigits u).toArray.size ≤ 16
    simp
    omega
  · rw [if_neg k3]
    simp only [k3, if_false] at h
    split at h
    · simp only [Bool.and_eq_true] at h
      exact (isN_iff.1 h.2).most
    · split at h
      · simp only [Bool.and_eq_true] at h
        have := word_size _ (isW_iff.1 h.2)
        show x.size ≤ 16
        have : x.size ≤ 9 := this
        omega
      · split at h
        · simp only [Bool.and_eq_true, decide_eq_true_eq] at h
          show x.size ≤ 16
          omega
        · cases h
theorem jz_17 {K : Nat → TV} : ∀ k, (∀ i, i < k → mayB (K i) = true) → jz K k ≤ 17 * k := by
  intro k
  induction k with
  | zero => intro _; exact Nat.le_refl _
  | succ k ih =>
    intro h
    have h1 := ih (fun i hi => h i (by omega))
    have h2 := may_16 (h k (by omega))
    rw [jz_succ]
    omega
end Go.Proofs.YtipjejkjoiifdaaDoor
