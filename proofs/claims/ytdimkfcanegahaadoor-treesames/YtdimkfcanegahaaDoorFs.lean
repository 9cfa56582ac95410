/-
  What is stripped is the same, and may be.
-/
import Derived.Test.YtdimkfcanegahaaDoorFt
import Derived.Test.YtdimkfcanegahaaDoorDw
namespace Go.Proofs.YtdimkfcanegahaaDoor
theorem xks_congr {f : Xt → Int → Int} {F G : Nat → Xt} (h : ∀ i l, f (F i) l = f (G i) l) : ∀ n l, xks f F n l = xks f G n l := by
  intro n
  induction n with
  | zero => intro l; rfl
  | succ n ih => intro l; rw [xks_succ, xks_succ, ih, h]
theorem xleft_st : ∀ (d : Nat) (T : Xt) (left : Int), xleft d (xst T) left = xleft d T left := by
  intro d
  induction d with
  | zero => intro T left; rfl
  | succ d ih =>
    intro T left
    have e : xwant (xst T []) = xwant (T []) := rfl
    show (if left - 1 < 0 then -1 else match xwant (xst T []) with | none => -1 | some m => xks (xleft d) (kid (xst T)) m (left - 1)) = (if left - 1 < 0 then -1 else match xwant (T []) with | none => -1 | some m => xks (xleft d) (kid T) m (left - 1))
    rw [e]
    cases xwant (T []) with
    | none => rfl
    | some m =>
      show (if left - 1 < 0 then -1 else xks (xleft d) (kid (xst T)) m (left - 1)) = (if left - 1 < 0 then -1 else xks (xleft d) (kid T) m (left - 1))
      rw [xks_congr (f := xleft d) (F := kid (xst T)) (G := kid T) (fun i l => ih (kid T i) l)]
theorem rks_congr {len : Nat → Nat} {F G : Nat → Nat → Xt} (h : ∀ i q l, xleft 16 (F i q) l = xleft 16 (G i q) l) : ∀ n l, rks len F n l = rks len G n l := by
  intro n
  induction n with
  | zero => intro l; rfl
  | succ n ih => intro l; rw [rks_succ, rks_succ, ih, xks_congr (f := xleft 16) (fun q l => h n q l)]
theorem sks_congr {f : St → Int → Int} {F G : Nat → St} (h : ∀ i l, f (F i) l = f (G i) l) : ∀ n l, sks f F n l = sks f G n l := by
  intro n
  induction n with
  | zero => intro l; rfl
  | succ n ih => intro l; rw [sks_succ, sks_succ, ih, h]
theorem sleft_st : ∀ (d : Nat) (S : St) (left : Int), sleft d (sst S) left = sleft d S left := by
  intro d
  induction d with
  | zero => intro S left; rfl
  | succ d ih =>
    intro S left
    have e : swant (sst S []) = swant (S []) := rfl
    rw [sleft_succ, sleft_succ, e]
    show (if left - 1 < 0 then -1 else if swant (S []) = false then -1 else sks (sleft d) (part (sst S)) (S []).np (rks (S []).rl (fun i j => xst ((S []).rows i j)) (S []).nr (xks (xleft 16) (fun i => xst ((S []).args i)) (S []).na (left - 1)))) = _
    rw [xks_congr (f := xleft 16) (G := (S []).args) (fun i l => xleft_st 16 _ l), rks_congr (G := (S []).rows) (fun i q l => xleft_st 16 _ l), sks_congr (f := sleft d) (F := part (sst S)) (G := part S) (fun i l => ih (part S i) l)]
theorem zx_st {T : Xt} (h : zxB (T []) = true ∨ (T []).k ≠ 0) : zxB (xst T []) = zxB (T []) := by
  rcases h with h | h
  · rw [h]
    have h2 := h
    unfold zxB at h2
    simp only [Bool.and_eq_true, decide_eq_true_eq] at h2
    show zxB { T [] with ln := 0, cl := 0 } = true
    unfold zxB
    simp only [Bool.and_eq_true, decide_eq_true_eq]
    exact ⟨h2.1, h2.2.1, h2.2.2.1, h2.2.2.2.1, trivial, trivial⟩
  · have e1 : zxB (T []) = false := by unfold zxB; rw [decide_eq_false h]; rfl
    have e2 : zxB (xst T []) = false := by unfold zxB; rw [decide_eq_false (show ¬ (xst T []).k = 0 from h)]; rfl
    rw [e1, e2]
theorem zs_st {S : St} (h : zsB (S []) = true ∨ (S []).k ≠ 0) : zsB (sst S []) = zsB (S []) := by
  rcases h with h | h
  · rw [h]
    have h2 := h
    unfold zsB at h2
    simp only [Bool.and_eq_true, decide_eq_true_eq] at h2
    show zsB { S [] with args := fun i => xst ((S []).args i), rows := fun i j => xst ((S []).rows i j), ln := 0, cl := 0 } = true
    unfold zsB
    simp only [Bool.and_eq_true, decide_eq_true_eq]
    exact ⟨trivial, trivial, h2.2.2.1, h2.2.2.2.1, h2.2.2.2.2.1, h2.2.2.2.2.2.1, h2.2.2.2.2.2.2⟩
  · have e1 : zsB (S []) = false := by unfold zsB; rw [decide_eq_false h]; simp
    have e2 : zsB (sst S []) = false := by unfold zsB; rw [decide_eq_false (show ¬ (sst S []).k = 0 from h)]; simp
    rw [e1, e2]
theorem MX.k0 {T : Xt} (h : MX 16 T) : (T []).k ≠ 0 := by
  obtain ⟨left, _, h⟩ := h
  obtain ⟨m, hw, _⟩ := xleft_parts h
  rcases xwant_cases hw with ⟨h, _⟩ | ⟨h, _⟩ | ⟨h, _⟩ | ⟨h, _⟩ <;> omega
theorem MS.k0 {S : St} (h : MS 16 S) : (S []).k ≠ 0 := by
  rcases swant_cases h.parts.1 with ⟨h, _⟩ | ⟨h, _⟩ | ⟨h, _⟩ | ⟨h, _⟩ <;> omega
theorem iw_zx {I : It} (hw : iwant I = true) (hM : MI I) : (zxB (I.val []) = true ∨ (I.val []).k ≠ 0) ∧ (zsB (I.shp []) = true ∨ (I.shp []).k ≠ 0) := by
  obtain ⟨k, nm, T, S, pl, nl, F, ln, cl⟩ := I
  rcases hM with ⟨k1, p1, n1, v1, s1, l1⟩ | ⟨k1, p1, n1, v1, s1, l1⟩ | ⟨k1, p1, n1, v1, s1, l1⟩ | ⟨k1, p1, n1, v1, s1, l1⟩ | ⟨k1, p1, n1, v1, s1, l1⟩ | ⟨k1, p1, n1, v1, s1, l1⟩ | ⟨k1, p1, n1, v1, s1, l1⟩ | ⟨k1, p1, n1, v1, s1, l1⟩ | ⟨k1, p1, n1, v1, s1, l1⟩
  all_goals
    replace k1 : k = _ := k1
    replace p1 : pl = _ := p1
    subst k1
    subst p1
    unfold iwant at hw
    simp at hw
    refine ⟨?_, ?_⟩
    · first
      | exact .inr (MX.k0 v1)
      | exact .inl (by simp [hw])
    · first
      | exact .inr (MS.k0 s1)
      | exact .inl (by simp [hw])
theorem iwant_st {I : It} (hw : iwant I = true) (hM : MI I) : iwant (ist I) = true := by
  obtain ⟨h1, h2⟩ := iw_zx hw hM
  obtain ⟨k, nm, T, S, pl, nl, F, ln, cl⟩ := I
  rw [← hw]
  unfold iwant
  show (if k = 1 then isN nm && (!zxB (xst T []) && (zsB (sst S []) && (decide (pl = 0) && decide (nl = 0)))) else if k = 2 then isN nm && (zxB (xst T []) && (!zsB (sst S []) && (decide (pl = 0) && decide (nl = 0)))) else if k = 3 then isN nm && (zxB (xst T []) && (zsB (sst S []) && (decide (pl = 0) && decide (nl = 0)))) else decide (nm.size = 0) && (zsB (sst S []) && (if k = 4 ∨ k = 6 then !zxB (xst T []) && (decide (pl = 0) && decide (nl = 0)) else if k = 5 then (if pl = 1 ∨ pl = 2 then zxB (xst T []) && decide (nl = 0) else if pl = 3 then !zxB (xst T []) && decide (nl = 0) else if pl = 4 then zxB (xst T []) && (decide (1 ≤ nl) && decide (nl ≤ 64)) else false) else false))) = _
  rw [zx_st h1, zs_st h2]
theorem ileft_st {I : It} {left : Int} (hl : left ≤ 8192) (h : 0 ≤ ileft I left) : ileft (ist I) left = ileft I left := by
  have hM := mi_of hl h
  have hw : iwant I = true := by
    cases hc : iwant I with
    | true => rfl
    | false =>
      unfold ileft at h
      rw [hc] at h
      by_cases g : left - 1 < 0
      · rw [if_pos g] at h; omega
      · rw [if_neg g, if_pos rfl] at h; omega
  have hw2 := iwant_st hw hM
  show (if left - 1 < 0 then -1 else if iwant (ist I) = false then -1 else if ival I = true then xleft 16 (xst I.val) (left - 1) else if I.k = 2 then sleft 16 (sst I.shp) (left - 1) else xks (xleft 16) (fun i => xst (I.list i)) I.nl (left - 1)) = (if left - 1 < 0 then -1 else if iwant I = false then -1 else if ival I = true then xleft 16 I.val (left - 1) else if I.k = 2 then sleft 16 I.shp (left - 1) else xks (xleft 16) I.list I.nl (left - 1))
  rw [hw, hw2, xleft_st, sleft_st, xks_congr (f := xleft 16) (G := I.list) (fun i l => xleft_st 16 _ l)]
theorem mayD_st {F : Nat → It} {n : Nat} (h : mayD F n = true) : mayD (fun i => ist (F i)) n = true := by
  have h0 := h
  unfold mayD at h
  simp only [Bool.and_eq_true, decide_eq_true_eq] at h
  have e : ∀ i, i ≤ n → dks (fun i => ist (F i)) i 8192 = dks F i 8192 := by
    intro i
    induction i with
    | zero => intro _; rfl
    | succ i ih =>
      intro hi
      have h1 := dks_mid (by omega) h.2 (i + 1) hi
      have h2 := (dks_low (F := F) (left := 8192) (by omega) i).2
      rw [dks_succ] at h1
      rw [dks_succ, dks_succ, ih (by omega), ileft_st h2 h1]
  unfold mayD
  rw [e n (Nat.le_refl _)]
  simp only [Bool.and_eq_true, decide_eq_true_eq]
  exact h
theorem xlk_st : ∀ (d : Nat) (T : Xt), xlk d (xst T) T := by
  intro d
  induction d with
  | zero => intro T; trivial
  | succ d ih => intro T; exact ⟨rfl, rfl, rfl, rfl, fun i _ => ih (kid T i)⟩
theorem xlk_self : ∀ (d : Nat) (T : Xt), xlk d T T := by
  intro d
  induction d with
  | zero => intro T; trivial
  | succ d ih => intro T; exact ⟨rfl, rfl, rfl, rfl, fun i _ => ih (kid T i)⟩
theorem lsB_st : ∀ (d : Nat) (S : St), lsB d (sst S) S = true := by
  intro d
  induction d with
  | zero => intro S; rfl
  | succ d ih =>
    intro S
    have e : lsB (d + 1) (sst S) S = (decide ((S []).k = (S []).k) && (decide ((S []).nm = (S []).nm) && (llB (fun i => xst ((S []).args i)) (S []).args 16 (S []).na (S []).na && ((decide ((S []).np = (S []).np) && alB (fun i => lsB d (sst (part S i)) (part S i)) (S []).np) && (decide ((S []).nr = (S []).nr) && alB (fun i => llB (fun j => xst ((S []).rows i j)) ((S []).rows i) 16 ((S []).rl i) ((S []).rl i)) (S []).nr))))) := rfl
    rw [e]
    simp only [Bool.and_eq_true, decide_eq_true_eq, alB_iff, ll_iff, true_and]
    exact ⟨fun i _ => xlk_st 16 _, fun i _ => ih _, fun i _ j _ => xlk_st 16 _⟩
theorem lsB_self : ∀ (d : Nat) (S : St), lsB d S S = true := by
  intro d
  induction d with
  | zero => intro S; rfl
  | succ d ih =>
    intro S
    have e : lsB (d + 1) S S = (decide ((S []).k = (S []).k) && (decide ((S []).nm = (S []).nm) && (llB (S []).args (S []).args 16 (S []).na (S []).na && ((decide ((S []).np = (S []).np) && alB (fun i => lsB d (part S i) (part S i)) (S []).np) && (decide ((S []).nr = (S []).nr) && alB (fun i => llB ((S []).rows i) ((S []).rows i) 16 ((S []).rl i) ((S []).rl i)) (S []).nr))))) := rfl
    rw [e]
    simp only [Bool.and_eq_true, decide_eq_true_eq, alB_iff, ll_iff, true_and]
    exact ⟨fun i _ => xlk_self 16 _, fun i _ => ih _, fun i _ j _ => xlk_self 16 _⟩
theorem liB_st (I : It) : liB (ist I) I = true := by
  show (decide (I.k = I.k) && (decide (I.nm = I.nm) && (decide (I.pl = I.pl) && (lkB 16 (xst I.val) I.val && (lsB 16 (sst I.shp) I.shp && llB (fun i => xst (I.list i)) I.list 16 I.nl I.nl))))) = true
  simp only [Bool.and_eq_true, decide_eq_true_eq, lk_iff, ll_iff, true_and, lsB_st]
  exact ⟨xlk_st 16 _, fun i _ => xlk_st 16 _⟩
theorem liB_self (I : It) : liB I I = true := by
  unfold liB
  simp only [Bool.and_eq_true, decide_eq_true_eq, lk_iff, ll_iff, true_and, lsB_self]
  exact ⟨xlk_self 16 _, fun i _ => xlk_self 16 _⟩
theorem FinX.st : ∀ {d : Nat} {T : Xt}, FinX d T → FinX d (xst T) := by
  intro d
  induction d with
  | zero => intro T h; exact h
  | succ d ih => intro T h i hi; exact ih (h i hi)
theorem FinS.st : ∀ {d : Nat} {S : St}, FinS d S → FinS d (sst S) := by
  intro d
  induction d with
  | zero => intro S h; exact h
  | succ d ih => intro S h; exact ⟨fun i hi => (h.1 i hi).st, fun i hi q hq => (h.2.1 i hi q hq).st, fun i hi => ih (h.2.2 i hi)⟩
theorem al_all {B : Nat → Bool} (h : ∀ i, B i = true) (n : Nat) : alB B n = true := alB_iff.2 (fun i _ => h i)
end Go.Proofs.YtdimkfcanegahaaDoor
