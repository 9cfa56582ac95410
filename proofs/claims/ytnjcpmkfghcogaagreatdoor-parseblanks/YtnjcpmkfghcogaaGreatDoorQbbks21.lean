/-
  How the text of a description is cut into tokens: the mathematics.
  What is printed, cut and read again: the mathematics of P11.4.
-/
import Derived.Test.YtnjcpmkfghcogaaGreatDoorQbbks00
import Derived.Test.YtnjcpmkfghcogaaGreatDoorQbbks20
import Derived.Test.YtnjcpmkfghcogaaGreatDoorQbbks19
import Derived.Test.YtnjcpmkfghcogaaGreatDoorQbbks14
set_option maxRecDepth 100000
set_option maxHeartbeats 16000000
namespace Go.Proofs.YtnjcpmkfghcogaaGreatDoor
theorem qe5 {f : Xt → Int → Int} {F G : Nat → Xt} : ∀ n, (∀ i, i < n → ∀ l, f (F i) l = f (G i) l) → ∀ l, xks f F n l = xks f G n l := by
 intro n
 induction n with
 | zero => intro _ l; rfl
 | succ n ih => intro h l; rw [qac, qac, ih (fun i hi => h i (by omega)), h n (by omega)]
theorem qi4 {a b : Lx} (h1 : a.k = b.k) (h2 : a.n = b.n) (h3 : a.nm = b.nm) (h4 : a.len = b.len) : xwant a = xwant b := by
 unfold xwant
 rw [h1, h2, h3, h4]
theorem qcz : ∀ (d : Nat) (T U : Xt) (left : Int), xlk d T U → xleft d T left = xleft d U left := by
 intro d
 induction d with
 | zero => intro T U left _; rfl
 | succ d ih =>
  intro T U left h
  obtain ⟨h1, h2, h3, h4, h5⟩ := h
  have e := qi4 h1 h2 h3 h4
  show (if left - 1 < 0 then -1 else match xwant (T []) with | none => -1 | some m => xks (xleft d) (kid T) m (left - 1)) = (if left - 1 < 0 then -1 else match xwant (U []) with | none => -1 | some m => xks (xleft d) (kid U) m (left - 1))
  rw [← e]
  cases hw : xwant (T []) with
  | none => rfl
  | some m =>
   have hm := (qbu hw).1
   show (if left - 1 < 0 then -1 else xks (xleft d) (kid T) m (left - 1)) = (if left - 1 < 0 then -1 else xks (xleft d) (kid U) m (left - 1))
   rw [qe5 (f := xleft d) (F := kid T) (G := kid U) m (fun i hi l => ih _ _ l (h5 i (by omega)))]
theorem rks_like {len len' : Nat → Nat} {F G : Nat → Nat → Xt} : ∀ n, (∀ i, i < n → len i = len' i ∧ ∀ q, q < len i → xlk 16 (F i q) (G i q)) → ∀ l, rks len F n l = rks len' G n l := by
 intro n
 induction n with
 | zero => intro _ l; rfl
 | succ n ih =>
  intro h l
  obtain ⟨h1, h2⟩ := h n (by omega)
  rw [qe3, qe3, ih (fun i hi => h i (by omega)), ← h1, qe5 (f := xleft 16) (len n) (fun q hq l => qcz 16 _ _ l (h2 q hq))]
theorem sks_like {f : St → Int → Int} {F G : Nat → St} : ∀ n, (∀ i, i < n → ∀ l, f (F i) l = f (G i) l) → ∀ l, sks f F n l = sks f G n l := by
 intro n
 induction n with
 | zero => intro _ l; rfl
 | succ n ih => intro h l; rw [qe2, qe2, ih (fun i hi => h i (by omega)), h n (by omega)]
theorem qi5 : ∀ (d : Nat) (S U : St) (left : Int), slk d S U → sleft d S left = sleft d U left := by
 intro d
 induction d with
 | zero => intro S U left _; rfl
 | succ d ih =>
  intro S U left h
  obtain ⟨h1, h2, h3, h4, h5, h6, h7, h8⟩ := h
  have e : swant (S []) = swant (U []) := by
   unfold swant
   rw [h1, h2, h3, h5, h7]
  rw [qbt, qbt, ← e, ← h3, ← h5, ← h7, qe5 (f := xleft 16) (F := (S []).args) (G := (U []).args) (S []).na (fun i hi l => qcz 16 _ _ l (h4 i hi)), rks_like (len := (S []).rl) (len' := (U []).rl) (F := (S []).rows) (G := (U []).rows) (S []).nr h6, sks_like (f := sleft d) (F := part S) (G := part U) (S []).np (fun i hi l => ih _ _ l (h8 i hi))]
def NoPl (J : It) : Prop := ((J.val []).k = 0 → zxB (J.val []) = true) ∧ ((J.shp []).k = 0 → zsB (J.shp []) = true)
theorem zx_k {T : Xt} (h : zxB (T []) = true) : (T []).k = 0 := by
 unfold zxB at h
 simp only [Bool.and_eq_true, decide_eq_true_eq] at h
 exact h.1
theorem zs_k {S : St} (h : zsB (S []) = true) : (S []).k = 0 := by
 unfold zsB at h
 simp only [Bool.and_eq_true, decide_eq_true_eq] at h
 exact h.2.2.1
theorem MX.k1 {T : Xt} (h : MX 16 T) : (T []).k ≠ 0 := by
 obtain ⟨left, _, h⟩ := h
 obtain ⟨m, hw, _⟩ := qav h
 rcases qbi hw with ⟨h, _⟩ | ⟨h, _⟩ | ⟨h, _⟩ | ⟨h, _⟩ <;> omega
theorem MS.k1 {S : St} (h : MS 16 S) : (S []).k ≠ 0 := by
 rcases qbj h.parts.1 with ⟨h, _⟩ | ⟨h, _⟩ | ⟨h, _⟩ | ⟨h, _⟩ <;> omega
theorem mi_nopl {I : It} (hw : iwant I = true) (hM : MI I) : NoPl I := by
 obtain ⟨k, nm, T, S, pl, nl, F, ln, cl⟩ := I
 rcases hM with ⟨k1, p1, n1, v1, s1, l1⟩ | ⟨k1, p1, n1, v1, s1, l1⟩ | ⟨k1, p1, n1, v1, s1, l1⟩ | ⟨k1, p1, n1, v1, s1, l1⟩ | ⟨k1, p1, n1, v1, s1, l1⟩ | ⟨k1, p1, n1, v1, s1, l1⟩ | ⟨k1, p1, n1, v1, s1, l1⟩ | ⟨k1, p1, n1, v1, s1, l1⟩ | ⟨k1, p1, n1, v1, s1, l1⟩
 all_goals
  replace k1 : k = _ := k1
  replace p1 : pl = _ := p1
  subst k1
  subst p1
  unfold iwant at hw
  simp at hw
  refine ⟨fun h0 => ?_, fun h0 => ?_⟩
  ·first
   | exact absurd h0 (MX.k1 v1)
   | simp [hw]
  ·first
   | exact absurd h0 (MS.k1 s1)
   | simp [hw]
theorem xlk_k {T U : Xt} (h : xlk 16 T U) : (T []).k = (U []).k := h.1
theorem slk_k {S U : St} (h : slk 16 S U) : (S []).k = (U []).k := h.1
theorem qi6 {J I : It} (h : ilk J I) (hJ : NoPl J) (hI : NoPl I) (left : Int) : ileft J left = ileft I left := by
 obtain ⟨h1, h2, h3, h4, h5, h6, h7⟩ := h
 have ez : zxB (J.val []) = zxB (I.val []) := by
  by_cases h0 : (I.val []).k = 0
  ·rw [hI.1 h0, hJ.1 (by rw [xlk_k h4]; exact h0)]
  ·cases ha : zxB (J.val []) with
   | true => exact absurd (by rw [← xlk_k h4]; exact zx_k ha) h0
   | false =>
    cases hb : zxB (I.val []) with
    | true => exact absurd (zx_k hb) h0
    | false => rfl
 have es : zsB (J.shp []) = zsB (I.shp []) := by
  by_cases h0 : (I.shp []).k = 0
  ·rw [hI.2 h0, hJ.2 (by rw [slk_k h5]; exact h0)]
  ·cases ha : zsB (J.shp []) with
   | true => exact absurd (by rw [← slk_k h5]; exact zs_k ha) h0
   | false =>
    cases hb : zsB (I.shp []) with
    | true => exact absurd (zs_k hb) h0
    | false => rfl
 have ew : iwant J = iwant I := by
  unfold iwant
  rw [h1, h2, h3, h6, ez, es]
 have ev : ival J = ival I := by
  unfold ival
  rw [h1, h2]
 unfold ileft
 rw [ew, ev, h1, h6, qcz 16 _ _ _ h4, qi5 16 _ _ _ h5, qe5 (f := xleft 16) (F := J.list) (G := I.list) I.nl (fun i hi l => qcz 16 _ _ l (h7 i (by omega)))]
def gi (l : List It) (i : Nat) : It := l.getD i l0i
theorem qfx {l : List It} {i : Nat} (h : i < l.length) : l[i]? = some (gi l i) := by
 unfold gi
 rw [List.getElem?_eq_getElem h, List.getD_eq_getElem?_getD, List.getElem?_eq_getElem h]
 rfl
theorem qfy {F G : Nat → It} {n : Nat} (h : ∀ i, i < n → ilk (F i) (G i) ∧ NoPl (F i)) (hm : mayD G n = true) : mayD F n = true := by
 have hd : ∀ i, i ≤ n → dks F i 8192 = dks G i 8192 := by
  intro i
  induction i with
  | zero => intro _; rfl
  | succ i ih =>
   intro hi
   rw [qcm, qcm, ih (by omega), qi6 (h i (by omega)).1 (h i (by omega)).2 (mi_nopl (mayD_nl hm i (by omega)) ((qgl hm).2 i (by omega)))]
 unfold mayD at *
 rw [hd n (Nat.le_refl _)]
 exact hm
end Go.Proofs.YtnjcpmkfghcogaaGreatDoor
