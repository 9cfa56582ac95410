/-
  Stage 13: what holds of every table that was made.
  Stage 13: how many names a description uses at most.
-/
import Derived.Test.YtemhodenkgngmaaDoorQuues00
import Derived.Test.YtemhodenkgngmaaDoorQuues31
import Derived.Sort.KeysCollected
set_option maxRecDepth 100000
set_option maxHeartbeats 16000000
namespace Go.Proofs.YtemhodenkgngmaaDoor
open Go.RowKit Go.Shelf Go.Maps
theorem qbp {f : Xt → Int → Int} {g : Xt → List Us} {F : Nat → Xt} : ∀ {n : Nat} {left : Int}, (∀ i, i < n → ∀ l, 0 ≤ f (F i) l → ((g (F i)).length : Int) ≤ l - f (F i) l) → 0 ≤ xks f F n left → ((xcat g F n).length : Int) ≤ left - xks f F n left := by
 intro n
 induction n with
 | zero => intro left _ _; show ((0 : Nat) : Int) ≤ left - left; omega
 | succ n ih =>
  intro left h h0
  rw [qa4] at h0 ⊢
  by_cases hn : xks f F n left < 0
  ·rw [if_pos hn] at h0; omega
  ·rw [if_neg hn] at h0 ⊢
   have h1 := ih (fun i hi => h i (by omega)) (left := left) (by omega)
   have h2 := h n (by omega) _ h0
   show (((xcat g F n) ++ g (F n)).length : Int) ≤ _
   rw [List.length_append]
   omega
theorem qc7 : ∀ {d : Nat} {T : Xt} {left : Int}, 0 ≤ xleft d T left → ((xus d T).length : Int) ≤ left - xleft d T left := by
 intro d
 induction d with
 | zero => intro T left h; rw [qae] at h; omega
 | succ d ih =>
  intro T left h
  obtain ⟨m, hw, h1, he, hk⟩ := qa9 h
  rw [he] at h ⊢
  have hl := qb3 (d := d) (F := kid T) (left := left - 1) (by omega) m
  unfold xus
  split
  ·show ((1 : Nat) : Int) ≤ _
   omega
  ·rw [show (T []).len = m from (qav hw).1]
   have := qbp (f := xleft d) (g := xus d) (F := kid T) (n := m) (left := left - 1) (fun i _ l hl => ih hl) h
   omega
theorem rcat_cnt {len : Nat → Nat} {F : Nat → Nat → Xt} : ∀ {n : Nat} {left : Int}, 0 ≤ rks len F n left → ((rcat len F n).length : Int) ≤ left - rks len F n left := by
 intro n
 induction n with
 | zero => intro left _; show ((0 : Nat) : Int) ≤ left - left; omega
 | succ n ih =>
  intro left h0
  have e : rks len F (n + 1) left = if rks len F n left < 0 then rks len F n left else if len n < 1 ∨ 64 < len n then -1 else xks (xleft 16) (F n) (len n) (rks len F n left) := rfl
  rw [e] at h0 ⊢
  by_cases hn : rks len F n left < 0
  ·rw [if_pos hn] at h0; omega
  ·rw [if_neg hn] at h0 ⊢
   by_cases hb : len n < 1 ∨ 64 < len n
   ·rw [if_pos hb] at h0; omega
   ·rw [if_neg hb] at h0 ⊢
    have h1 := ih (left := left) (by omega)
    have h2 := qbp (f := xleft 16) (g := xus 16) (F := F n) (n := len n) (fun i _ l hl => qc7 hl) h0
    show (((rcat len F n) ++ xcat (xus 16) (F n) (len n)).length : Int) ≤ _
    rw [List.length_append]
    omega
theorem scat_cnt {f : St → Int → Int} {g : St → List Us} {F : Nat → St} : ∀ {n : Nat} {left : Int}, (∀ i, i < n → ∀ l, 0 ≤ f (F i) l → ((g (F i)).length : Int) ≤ l - f (F i) l) → 0 ≤ sks f F n left → ((scat g F n).length : Int) ≤ left - sks f F n left ∧ 0 ≤ left := by
 intro n
 induction n with
 | zero => intro left _ h; exact ⟨by show ((0 : Nat) : Int) ≤ left - left; omega, h⟩
 | succ n ih =>
  intro left h h0
  have e : sks f F (n + 1) left = if sks f F n left < 0 then sks f F n left else f (F n) (sks f F n left) := rfl
  rw [e] at h0 ⊢
  by_cases hn : sks f F n left < 0
  ·rw [if_pos hn] at h0; omega
  ·rw [if_neg hn] at h0 ⊢
   have h1 := ih (fun i hi => h i (by omega)) (left := left) (by omega)
   have h2 := h n (by omega) _ h0
   refine ⟨?_, h1.2⟩
   show (((scat g F n) ++ g (F n)).length : Int) ≤ _
   rw [List.length_append]
   omega
theorem rks_pos {len : Nat → Nat} {F : Nat → Nat → Xt} : ∀ {n : Nat} {left : Int}, 0 ≤ rks len F n left → 0 ≤ left := by
 intro n
 induction n with
 | zero => intro left h; exact h
 | succ n ih =>
  intro left h0
  have e : rks len F (n + 1) left = if rks len F n left < 0 then rks len F n left else if len n < 1 ∨ 64 < len n then -1 else xks (xleft 16) (F n) (len n) (rks len F n left) := rfl
  rw [e] at h0
  by_cases hn : rks len F n left < 0
  ·rw [if_pos hn] at h0; omega
  ·exact ih (by omega)
theorem qfn : ∀ {d : Nat} {S : St} {left : Int}, 0 ≤ sleft d S left → ((sus d S).length : Int) ≤ left - sleft d S left := by
 intro d
 induction d with
 | zero => intro S left h; have : sleft 0 S left = -1 := rfl; omega
 | succ d ih =>
  intro S left h
  have e : sleft (d + 1) S left = if left - 1 < 0 then -1 else if swant (S []) = false then -1 else sks (sleft d) (part S) (S []).np (rks (S []).rl (S []).rows (S []).nr (xks (xleft 16) (S []).args (S []).na (left - 1))) := rfl
  rw [e] at h ⊢
  by_cases h1 : left - 1 < 0
  ·rw [if_pos h1] at h; omega
  ·rw [if_neg h1] at h ⊢
   by_cases h2 : swant (S []) = false
   ·rw [if_pos h2] at h; omega
   ·rw [if_neg h2] at h ⊢
    have a1 := scat_cnt (f := sleft d) (g := sus d) (F := part S) (n := (S []).np) (fun i _ l hl => ih hl) h
    have a2 := rcat_cnt (len := (S []).rl) (F := (S []).rows) (n := (S []).nr) a1.2
    have a3 := qbp (f := xleft 16) (g := xus 16) (F := (S []).args) (n := (S []).na) (left := left - 1) (fun i _ l hl => qc7 hl) (rks_pos a1.2)
    unfold sus
    split
    ·show ((1 : Nat) : Int) ≤ _
     omega
    ·rw [List.length_append, List.length_append]
     omega
theorem qcq {T : Xt} (h : ZX T) : xus 16 T = [] := by
 show (if (T []).k = 2 then [xu T] else xcat (xus 15) (kid T) (T []).len) = []
 rw [if_neg (by have := h.1; omega), h.2.2.2]
 rfl
theorem qcr {S : St} (h : ZS S) : sus 16 S = [] := by
 show (if (S []).k = 1 then [su S] else scat (sus 15) (part S) (S []).np ++ (rcat (S []).rl (S []).rows (S []).nr ++ xcat (xus 16) (S []).args (S []).na)) = []
 rw [if_neg (by have := h.1; omega), h.2.2.1, h.2.2.2.1, h.2.2.2.2]
 rfl
theorem ius_cnt {I : It} {left : Int} (hM : MI I) (h : 0 ≤ ileft I left) : ((ius I).length : Int) ≤ left - ileft I left := by
 unfold ileft at h ⊢
 by_cases h1 : left - 1 < 0
 ·rw [if_pos h1] at h; omega
 ·rw [if_neg h1] at h ⊢
  by_cases h2 : iwant I = false
  ·rw [if_pos h2] at h; omega
  ·rw [if_neg h2] at h ⊢
   have val : ival I = true → ZS I.shp → I.nl = 0 → I.k ≠ 3 → ((ius I).length : Int) ≤ left - (if ival I = true then xleft 16 I.val (left - 1) else if I.k = 2 then sleft 16 I.shp (left - 1) else xks (xleft 16) I.list I.nl (left - 1)) := fun hv hs hl hk => by
    rw [if_pos hv] at h ⊢
    have := qc7 h
    unfold ius
    rw [if_neg hk, qcr hs, hl]
    show ((xus 16 I.val ++ ([] ++ [])).length : Int) ≤ _
    rw [List.append_nil, List.append_nil]
    omega
   have lst : ival I = false → I.k ≠ 2 → ZX I.val → ZS I.shp → I.k ≠ 3 → ((ius I).length : Int) ≤ left - (if ival I = true then xleft 16 I.val (left - 1) else if I.k = 2 then sleft 16 I.shp (left - 1) else xks (xleft 16) I.list I.nl (left - 1)) := fun hv hk2 hx hs hk => by
    rw [if_neg (by rw [hv]; decide), if_neg hk2] at h ⊢
    have := qbp (f := xleft 16) (g := xus 16) (F := I.list) (n := I.nl) (left := left - 1) (fun i _ l hl => qc7 hl) h
    unfold ius
    rw [if_neg hk, qcr hs, qcq hx]
    show ((xcat (xus 16) I.list I.nl).length : Int) ≤ _
    omega
   rcases hM with ⟨k, p, _, a, b, c⟩ | ⟨k, p, _, a, b, c⟩ | ⟨k, p, _, a, b, c⟩ | ⟨k, p, _, a, b, c⟩ | ⟨k, p, _, a, b, c⟩ | ⟨k, p, _, a, b, c⟩ | ⟨k, p, _, a, b, c⟩ | ⟨k, p, _, a, b, c⟩ | ⟨k, p, _, a, b, c⟩
   ·exact val (by unfold ival; simp [k]) b c (by omega)
   ·rw [if_neg (by unfold ival; simp [k]), if_pos k] at h ⊢
    have := qfn h
    unfold ius
    rw [if_neg (by omega), qcq a, c]
    show (([] ++ (sus 16 I.shp ++ [])).length : Int) ≤ _
    rw [List.append_nil, List.nil_append]
    omega
   ·rw [if_neg (by unfold ival; simp [k]), if_neg (by omega), c] at h ⊢
    unfold ius
    rw [if_pos k]
    show ((1 : Nat) : Int) ≤ left - (left - 1)
    omega
   ·exact val (by unfold ival; simp [k]) b c (by omega)
   ·exact val (by unfold ival; simp [k]) b c (by omega)
   ·exact lst (by unfold ival; simp [k, p]) (by omega) a b (by omega)
   ·exact lst (by unfold ival; simp [k, p]) (by omega) a b (by omega)
   ·exact val (by unfold ival; simp [k, p]) b c (by omega)
   ·exact lst (by unfold ival; simp [k, p]) (by omega) a b (by omega)
/-- The names of the first n items. -/
def usl (F : Nat → It) : Nat → List Us
 | 0 => []
 | n + 1 => usl F n ++ ius (F n)
theorem usl_cnt {F : Nat → It} : ∀ {n : Nat} {left : Int}, -1 ≤ left → 0 ≤ dks F n left → (∀ i, i < n → MI (F i)) → ((usl F n).length : Int) ≤ left - dks F n left := by
 intro n
 induction n with
 | zero => intro left _ _ _; show ((0 : Nat) : Int) ≤ left - left; omega
 | succ n ih =>
  intro left hl h hM
  have h0 : 0 ≤ dks F n left := qc0 hl h n (by omega)
  rw [qb0] at h ⊢
  have h1 := ih hl h0 (fun i hi => hM i (by omega))
  have h2 := ius_cnt (hM n (by omega)) h
  show (((usl F n) ++ ius (F n)).length : Int) ≤ _
  rw [List.length_append]
  omega
theorem qdi {F : Nat → It} {n : Nat} (h : mayD F n = true) : (usl F n).length ≤ 8192 := by
 have hM := (qdg h).2
 unfold mayD at h
 simp only [Bool.and_eq_true, decide_eq_true_eq] at h
 have := usl_cnt (by omega) h.2 hM
 omega
/-- Each name once. -/
def nam : List Us → List (List UInt8)
 | [] => []
 | u :: r => if u.nm.data.toList ∈ nam r then nam r else u.nm.data.toList :: nam r
theorem qd6 : ∀ (U : List Us), (nam U).Nodup := by
 intro U
 induction U with
 | nil => exact List.nodup_nil
 | cons u r ih =>
  show (if u.nm.data.toList ∈ nam r then nam r else u.nm.data.toList :: nam r).Nodup
  split
  ·exact ih
  ·rename_i h; exact List.nodup_cons.2 ⟨h, ih⟩
theorem qfo {x : List UInt8} : ∀ {U : List Us}, x ∈ nam U ↔ ∃ u ∈ U, u.nm.data.toList = x := by
 intro U
 induction U with
 | nil => exact ⟨fun h => (by cases h), fun ⟨u, h, _⟩ => by cases h⟩
 | cons u r ih =>
  show x ∈ (if u.nm.data.toList ∈ nam r then nam r else u.nm.data.toList :: nam r) ↔ _
  split
  ·rename_i h
   rw [ih]
   constructor
   ·rintro ⟨v, hv, e⟩; exact ⟨v, List.mem_cons_of_mem _ hv, e⟩
   ·rintro ⟨v, hv, e⟩
    rcases List.mem_cons.1 hv with rfl | hv
    ·exact ih.1 (by rw [← e]; exact h)
    ·exact ⟨v, hv, e⟩
  ·rw [List.mem_cons, ih]
   constructor
   ·rintro (rfl | ⟨v, hv, e⟩)
    ·exact ⟨u, List.mem_cons_self .., rfl⟩
    ·exact ⟨v, List.mem_cons_of_mem _ hv, e⟩
   ·rintro ⟨v, hv, e⟩
    rcases List.mem_cons.1 hv with rfl | hv
    ·exact .inl e.symm
    ·exact .inr ⟨v, hv, e⟩
theorem qdj : ∀ (U : List Us), (nam U).length ≤ U.length := by
 intro U
 induction U with
 | nil => exact Nat.le_refl _
 | cons u r ih =>
  show (if u.nm.data.toList ∈ nam r then nam r else u.nm.data.toList :: nam r).length ≤ r.length + 1
  split
  ·omega
  ·show (nam r).length + 1 ≤ _; omega
/-- How the map of names reads: each element as nothing. -/
def RU (_ : Value) : Option (DataW Unit × List MemPlace) := some (.lit (.bool true), [])
/-- The map of the names of some uses. -/
def Nk (w : World) (b n : Nat) (U : List Us) : Prop := ∃ D : DataW Unit, w.ownsMap Tryd.prog 9 RU b n D ∧ ∀ x, has D (.string x) = true ↔ ∃ u ∈ U, u.nm.data.toList = x
theorem Nk.later {w w' : World} {b n : Nat} {U : List Us} (h : Nk w b n U) (hb : Below w.heap.size w w') : Nk w' b n U := by
 obtain ⟨D, h1, h2⟩ := h
 exact ⟨D, h1.kept (jgrown.mpr hb) (by simp), h2⟩
theorem Nk.kept {w w' : World} {b n : Nat} {U : List Us} {row : Option Nat} (h : Nk w b n U) (hg : w.grownBy w' row) (hne : some b ≠ row) : Nk w' b n U := by
 obtain ⟨D, h1, h2⟩ := h
 exact ⟨D, h1.kept hg hne, h2⟩
theorem Nk.lt {w : World} {b n : Nat} {U : List Us} (h : Nk w b n U) : b < w.heap.size := by
 obtain ⟨D, h1, _⟩ := h
 exact h1.lt
theorem has_nam {D : DataW Unit} {U : List Us} {u : Us} (hD : IsMap D) (h : ∀ x, has D (.string x) = true ↔ ∃ u ∈ U, u.nm.data.toList = x) : ∀ x, has (D.put (.string u.nm.data.toList) (.lit (.bool true))) (.string x) = true ↔ ∃ v ∈ U ++ [u], v.nm.data.toList = x := by
 intro x
 by_cases e : x = u.nm.data.toList
 ·subst e
  exact ⟨fun _ => ⟨u, List.mem_append_right _ (List.mem_singleton.2 rfl), rfl⟩, fun _ => has_put_same hD (by trivial) _⟩
 ·rw [has_put_other (fun e2 => e (by injection e2)), h x]
  constructor
  ·rintro ⟨v, hv, e2⟩; exact ⟨v, List.mem_append_left _ hv, e2⟩
  ·rintro ⟨v, hv, e2⟩
   rcases List.mem_append.1 hv with hv | hv
   ·exact ⟨v, hv, e2⟩
   ·rw [List.mem_singleton.1 hv] at e2; exact absurd e2.symm e
/-- The keys of the map, once each. -/
theorem Nk.perm {w : World} {b n : Nat} {D : DataW Unit} {U : List Us} (h1 : w.ownsMap Tryd.prog 9 RU b n D) (h2 : ∀ x, has D (.string x) = true ↔ ∃ u ∈ U, u.nm.data.toList = x) : (nam U).Perm (strKeys D) :=
 Collected.perm (left := fun _ => false) ⟨qd6 U, fun x => by rw [qfo, h2]; simp⟩ h1 qau Tryd.underlying9 (fun _ => rfl)
theorem Nk.size {w : World} {b n : Nat} {D : DataW Unit} {U : List Us} (h1 : w.ownsMap Tryd.prog 9 RU b n D) (h2 : ∀ x, has D (.string x) = true ↔ ∃ u ∈ U, u.nm.data.toList = x) : Maps.size D ≤ U.length := by
 have hp := (Nk.perm h1 h2).length_eq
 obtain ⟨es, rfl, _⟩ := h1.keysOf
 have e : (strKeys (.map es : DataW Unit)).length = es.length := List.length_map ..
 have := qdj U
 show es.length ≤ _
 omega
theorem qdk (w : World) (o : Obj) (T : TypeId) (xs : Array Value) : Vn ((w.alloc o).alloc (.cells xs T)) (w.heap.size + 1) T xs := by
 have h := Vn.new (w.alloc o) T xs
 rw [World.size_alloc] at h
 exact h
end Go.Proofs.YtemhodenkgngmaaDoor
