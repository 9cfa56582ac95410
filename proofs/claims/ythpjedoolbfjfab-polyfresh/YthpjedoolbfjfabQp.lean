/-
  What PolyFresh needs: every answer is a list of the call's own, apart from the others.
-/
import Derived.Test.YthpjedoolbfjfabQo
namespace Go.Proofs.Ythpjedoolbfjfab
open Go.RowKit
/-- A list of a call's own, laid from B on. -/
def Res (w : World) (B : Nat) (v : Value) : Prop := ∃ s n c ls, v = .slice s n c ∧ n ≤ 140737488351232 ∧ w.ownsRow B 5 1 v n ls
/-- Its block lies from a to below b. -/
def InB (a b : Nat) (v : Value) : Prop := ∀ g, v.ownBlock = some g → a ≤ g ∧ g < b
theorem Ow.res {w : World} {B n c : Nat} {s : Option Addr} {f : Nat → Nat} (h : Ow w B s n c f) (hn : n ≤ 140737488351232) : Res w B (.slice s n c) := ⟨s, n, c, _, rfl, hn, h⟩
theorem Res.nil (w : World) (B : Nat) : Res w B (.slice none 0 0) := ⟨none, 0, 0, [], rfl, by omega, World.ownsRow_nil _ _ _ _⟩
theorem Res.kept {w w' : World} {B : Nat} {v : Value} {row : Option Nat} (h : Res w B v) (hg : w.grownBy w' row) (hne : v.ownBlock = none ∨ v.ownBlock ≠ row) : Res w' B v := by
  obtain ⟨s, n, c, ls, e, hn, ho⟩ := h
  exact ⟨s, n, c, ls, e, hn, ho.kept hg hne⟩
theorem Res.later {w w' : World} {B : Nat} {v : Value} (h : Res w B v) (hb : Below w.heap.size w w') : Res w' B v := h.kept (grown_none.mpr hb) (by cases hv : v.ownBlock <;> simp)
theorem Res.inb {w : World} {B : Nat} {v : Value} (h : Res w B v) : InB B w.heap.size v := by
  obtain ⟨s, n, c, ls, rfl, hn, ho⟩ := h
  intro g hg
  refine ⟨own_base ho g hg, ?_⟩
  rcases ho.2 with ⟨e, _⟩ | ⟨g', cap, cur, e, _, hb, _⟩
  · rw [e] at hg; simp [Value.ownBlock] at hg
  · rw [e] at hg; simp [Value.ownBlock] at hg; subst hg; exact lt_of_block hb
theorem Res.form {w : World} {B : Nat} {v : Value} (h : Res w B v) : ∃ s n c, v = .slice s n c := by
  obtain ⟨s, n, c, _, e, _⟩ := h
  exact ⟨s, n, c, e⟩
theorem spoil_res (w : World) (B : Nat) (v : Value) (m : Int) (h : Res w B v) : Calls Try.prog 22 #[v, .int .u8 m] w fun e w' => e = .returned (.tuple #[]) ∧ w.grownBy w' v.ownBlock := by
  obtain ⟨s, n, c, ls, rfl, hn, ho⟩ := h
  exact spoil_any w s n c m _ ls hn rfl (own_mono ho (Nat.zero_le _))
theorem ptrim_res (w : World) (a : Option Addr) (n c : Nat) (f : Nat → Nat) (h : Lk w a n c f) : Calls Try.prog 15 #[.slice a n c] w fun e w' => ∃ v, e = .returned v ∧ Res w' w.heap.size v ∧ Below w.heap.size w w' :=
  (ptrim_lk w a n c _ f h rfl).mono fun _ _ ⟨_, _, e, ho, hb⟩ => ⟨_, e, ho.res (by have := tlen_le f n; have := h.2.2.2; omega), hb⟩
theorem padd_res (w : World) (a b : Option Addr) (n m c d : Nat) (f h : Nat → Nat) (ha : Lk w a n c f) (hb : Lk w b m d h) :
    Calls Try.prog 8 #[.slice a n c, .slice b m d] w fun e w' => ∃ v r, e = .returned (.tuple #[v, .int .i64 r]) ∧ Res w' w.heap.size v ∧ Below w.heap.size w w' := by
  by_cases h1 : 512 < tlen f n ∨ 512 < tlen h m
  · exact (padd_long w a b n m c d _ _ f h ha hb rfl rfl h1).mono fun _ _ ⟨e, b⟩ => ⟨_, 4, e, Res.nil _ _, b⟩
  · exact (padd_any w a b n m c d _ _ _ f h ha hb rfl rfl (by omega) (by omega) rfl).mono fun _ _ ⟨_, _, e, ho, b⟩ => ⟨_, 0, e, ho.res (by have := tlen_le (pa (zx f n) (zx h m)) 512; omega), b⟩
theorem pmul_res (w : World) (a b : Option Addr) (n m c d : Nat) (f h : Nat → Nat) (ha : Lk w a n c f) (hb : Lk w b m d h) :
    Calls Try.prog 9 #[.slice a n c, .slice b m d] w fun e w' => ∃ v r, e = .returned (.tuple #[v, .int .i64 r]) ∧ Res w' w.heap.size v ∧ Below w.heap.size w w' := by
  by_cases h1 : 512 < tlen f n ∨ 512 < tlen h m ∨ (0 < tlen f n ∧ 0 < tlen h m ∧ 513 < tlen f n + tlen h m)
  · exact (pmul_bad w a b n m c d _ _ f h ha hb rfl rfl h1).mono fun _ _ ⟨e, b⟩ => ⟨_, 4, e, Res.nil _ _, b⟩
  · exact (pmul_any w a b n m c d _ _ _ f h ha hb rfl rfl (by omega) (by omega) (by omega) rfl).mono fun _ _ ⟨_, _, e, ho, b⟩ => ⟨_, 0, e, ho.res (by have := tlen_le (pm (zx f n) (zx h m)) (tlen f n + tlen h m); omega), b⟩
theorem pdivmod_res (w : World) (a b : Option Addr) (n m c d : Nat) (f h : Nat → Nat) (ha : Lk w a n c f) (hb : Lk w b m d h) :
    Calls Try.prog 13 #[.slice a n c, .slice b m d] w fun e w' => ∃ u v r, e = .returned (.tuple #[u, v, .int .i64 r]) ∧ Res w' w.heap.size u ∧ Res w' w.heap.size v ∧ (∀ g, u.ownBlock = some g → v.ownBlock ≠ some g) ∧ Below w.heap.size w w' := by
  have nn : ∀ g, (Value.slice none 0 0).ownBlock = some g → (Value.slice none 0 0).ownBlock ≠ some g := fun g hg => by simp [Value.ownBlock] at hg
  by_cases h1 : 512 < tlen f n ∨ 512 < tlen h m
  · exact (pdivmod_long w a b n m c d _ _ f h ha hb rfl rfl h1).mono fun _ _ ⟨e, b⟩ => ⟨_, _, 4, e, Res.nil _ _, Res.nil _ _, nn, b⟩
  · by_cases h0 : tlen h m = 0
    · exact (pdivmod_zero w a b n m c d _ f h ha hb rfl h0 (by omega)).mono fun _ _ ⟨e, b⟩ => ⟨_, _, 5, e, Res.nil _ _, Res.nil _ _, nn, b⟩
    · obtain ⟨u, hu⟩ : ∃ u, tlen h m = u + 1 := ⟨tlen h m - 1, by omega⟩
      refine (pdivmod_any w a b n m c d _ u f h ha hb rfl hu (by omega) (by omega)).mono ?_
      rintro e w' ⟨Q, R, r, nq, s1, k1, s2, k2, rfl, hP⟩
      have := pq_le hP
      have := hP.ok.less
      exact ⟨_, _, 0, rfl, hP.quo.res (by omega), hP.rem.res (by omega), hP.apart, hP.below⟩
theorem pgcd_res (w : World) (a b : Option Addr) (n m c d : Nat) (f h : Nat → Nat) (ha : Lk w a n c f) (hb : Lk w b m d h) :
    Calls Try.prog 19 #[.slice a n c, .slice b m d] w fun e w' => ∃ v r, e = .returned (.tuple #[v, .int .i64 r]) ∧ Res w' w.heap.size v ∧ Below w.heap.size w w' := by
  by_cases h1 : 512 < tlen f n ∨ 512 < tlen h m
  · exact (pgcd_long w a b n m c d _ _ f h ha hb rfl rfl h1).mono fun _ _ ⟨e, b⟩ => ⟨_, 4, e, Res.nil _ _, b⟩
  · exact (pgcd_any w a b n m c d _ _ f h ha hb rfl rfl (by omega) (by omega)).mono fun _ _ ⟨_, _, _, _, e, ho, _, _, hg, b⟩ => ⟨_, 0, e, ho.res (by omega), b⟩
theorem pinter_res (w : World) (a b : Option Addr) (n m c d : Nat) (f h : Nat → Nat) (ha : Lk w a n c f) (hb : Lk w b m d h) :
    Calls Try.prog 21 #[.slice a n c, .slice b m d] w fun e w' => ∃ v r, e = .returned (.tuple #[v, .int .i64 r]) ∧ Res w' w.heap.size v ∧ Below w.heap.size w w' := by
  by_cases hn : n = m
  · subst hn
    refine (pinter_any w a b n c d f h ha hb).mono ?_
    rintro e w' (⟨rfl, _, hb⟩ | ⟨F, T, s, k, rfl, hP⟩)
    · exact ⟨_, 2, rfl, Res.nil _ _, hb⟩
    · exact ⟨_, 0, rfl, hP.own.res (by have := tlen_le F n; have := hP.len; have := ha.2.2.2; omega), hP.below⟩
  · exact (pinter_shape w a b n m c d hn).mono fun _ w' ⟨e, hw⟩ => ⟨_, 3, e, Res.nil _ _, by rw [← hw]; exact Below.refl _ _⟩
theorem proots_res (w : World) (a : Option Addr) (n c : Nat) (f : Nat → Nat) (ha : Lk w a n c f) :
    Calls Try.prog 18 #[.slice a n c] w fun e w' => ∃ v, e = .returned v ∧ Res w' w.heap.size v ∧ Below w.heap.size w w' := by
  by_cases h0 : tlen f n = 0
  · exact (proots_zero w a n c f ha h0).mono fun _ w' ⟨e, hw⟩ => ⟨_, e, Res.nil _ _, by rw [← hw]; exact Below.refl _ _⟩
  · refine (proots_any w a n c _ f ha rfl h0).mono ?_
    rintro e w' ⟨v, rfl, ho, hb⟩
    have hl := rootsTo_len f n 256
    obtain ⟨s, k, rfl, _, _⟩ := lk_list ho (rootsTo_lt f n 256) (by omega)
    exact ⟨_, rfl, ⟨s, _, k, _, rfl, by omega, ho⟩, hb⟩
/-- The eight answers. -/
def vs8 (a b c d e f g h : Value) (i : Nat) : Value := if i = 0 then a else if i = 1 then b else if i = 2 then c else if i = 3 then d else if i = 4 then e else if i = 5 then f else if i = 6 then g else h
theorem vs8_get (a b c d e f g h : Value) (i : Nat) (hi : i < 8) : #[a, b, c, d, e, f, g, h][i]? = some (vs8 a b c d e f g h i) := by
  rcases (by omega : i = 0 ∨ i = 1 ∨ i = 2 ∨ i = 3 ∨ i = 4 ∨ i = 5 ∨ i = 6 ∨ i = 7) with rfl | rfl | rfl | rfl | rfl | rfl | rfl | rfl <;> rfl
/-- All of the eight are lists of their own, apart from each other. -/
structure Eight (w : World) (B : Nat) (v : Nat → Value) : Prop where
  res : ∀ i, i < 8 → Res w B (v i)
  apart : ∀ i j, i < 8 → j < 8 → i ≠ j → ∀ g, (v i).ownBlock = some g → (v j).ownBlock ≠ some g
theorem Res.mono {w : World} {B B' : Nat} {v : Value} (h : Res w B v) (hB : B' ≤ B) : Res w B' v := by
  obtain ⟨s, n, c, ls, e, hn, ho⟩ := h
  exact ⟨s, n, c, ls, e, hn, own_mono ho hB⟩
theorem eight {w : World} {a b c d e f g h : Value} {m0 m1 m2 m3 m4 m5 m6 m7 : Nat} (ra : Res w m0 a) (rb : Res w m1 b) (rc : Res w m2 c) (rd : Res w m3 d) (re : Res w m3 e) (rf : Res w m4 f) (rg : Res w m5 g) (rh : Res w m6 h)
    (ia : InB m0 m1 a) (ib : InB m1 m2 b) (ic : InB m2 m3 c) (id' : InB m3 m4 d) (ie : InB m3 m4 e) (if' : InB m4 m5 f) (ig : InB m5 m6 g) (ih : InB m6 m7 h) (hde : ∀ g, d.ownBlock = some g → e.ownBlock ≠ some g)
    (h1 : m0 ≤ m1) (h2 : m1 ≤ m2) (h3 : m2 ≤ m3) (h4 : m3 ≤ m4) (h5 : m4 ≤ m5) (h6 : m5 ≤ m6) : Eight w m0 (vs8 a b c d e f g h) := by
  refine ⟨?_, ?_⟩
  · intro i hi
    rcases (by omega : i = 0 ∨ i = 1 ∨ i = 2 ∨ i = 3 ∨ i = 4 ∨ i = 5 ∨ i = 6 ∨ i = 7) with rfl | rfl | rfl | rfl | rfl | rfl | rfl | rfl
    · exact ra
    · exact rb.mono (by omega)
    · exact rc.mono (by omega)
    · exact rd.mono (by omega)
    · exact re.mono (by omega)
    · exact rf.mono (by omega)
    · exact rg.mono (by omega)
    · exact rh.mono (by omega)
  · have H : ∀ i, i < 8 → ∃ lo hi, InB lo hi (vs8 a b c d e f g h i) ∧ (i = 0 → lo = m0 ∧ hi = m1) ∧ (i = 1 → lo = m1 ∧ hi = m2) ∧ (i = 2 → lo = m2 ∧ hi = m3) ∧ (i = 3 → lo = m3 ∧ hi = m4) ∧ (i = 4 → lo = m3 ∧ hi = m4) ∧ (i = 5 → lo = m4 ∧ hi = m5) ∧ (i = 6 → lo = m5 ∧ hi = m6) ∧ (i = 7 → lo = m6 ∧ hi = m7) := by
      intro i hi
      rcases (by omega : i = 0 ∨ i = 1 ∨ i = 2 ∨ i = 3 ∨ i = 4 ∨ i = 5 ∨ i = 6 ∨ i = 7) with rfl | rfl | rfl | rfl | rfl | rfl | rfl | rfl
      · exact ⟨_, _, ia, by omega⟩
      · exact ⟨_, _, ib, by omega⟩
      · exact ⟨_, _, ic, by omega⟩
      · exact ⟨_, _, id', by omega⟩
      · exact ⟨_, _, ie, by omega⟩
      · exact ⟨_, _, if', by omega⟩
      · exact ⟨_, _, ig, by omega⟩
      · exact ⟨_, _, ih, by omega⟩
    intro i j hi hj hij x hx hy
    by_cases e1 : i = 3 ∧ j = 4
    · obtain ⟨rfl, rfl⟩ := e1
      exact hde x hx hy
    · by_cases e2 : i = 4 ∧ j = 3
      · obtain ⟨rfl, rfl⟩ := e2
        exact hde x hy hx
      · obtain ⟨l1, u1, n1, p1⟩ := H i hi
        obtain ⟨l2, u2, n2, p2⟩ := H j hj
        have := n1 x hx
        have := n2 x hy
        omega
/-- What the loop that spoils keeps. -/
structure Sp (wb wr : World) (gl : Nat) (v : Nat → Value) (cs : Array Value) (k : Nat) : Prop where
  res : ∀ j, k ≤ j → j < 8 → Res wr wb.heap.size (v j)
  arr : wr.heap[gl]? = some (.cells cs 22 (0, 0))
  below : Below wb.heap.size wb wr
theorem sp_next {wb wr w' : World} {gl k : Nat} {v : Nat → Value} {cs : Array Value} (I : Sp wb wr gl v cs k) (hk : k < 8) (hg : wr.grownBy w' (v k).ownBlock) (ap : ∀ i j, i < 8 → j < 8 → i ≠ j → ∀ g, (v i).ownBlock = some g → (v j).ownBlock ≠ some g) (hgl : ∀ j, j < 8 → (v j).ownBlock ≠ some gl) : Sp wb w' gl v cs (k + 1) := by
  refine ⟨fun j hj hj8 => (I.res j (by omega) hj8).kept hg ?_, ?_, ?_⟩
  · cases e : (v j).ownBlock with
    | none => exact .inl rfl
    | some g => exact .inr (fun h => ap j k hj8 hk (by omega) g e h.symm)
  · rw [hg.block gl (lt_of_block I.arr) (fun e => hgl k hk e.symm)]; exact I.arr
  · cases e : (v k).ownBlock with
    | none => rw [e] at hg; exact two_below I.below (grown_none.mp hg)
    | some g => rw [e] at hg; exact below_row I.below hg ((I.res k (Nat.le_refl _) hk).inb g e).1
end Go.Proofs.Ythpjedoolbfjfab
