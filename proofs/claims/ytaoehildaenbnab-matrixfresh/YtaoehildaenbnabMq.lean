/-
  What MatrixFresh needs: every answer is a list of the call's own, apart from the others; copies of two matrices.
-/
import Derived.Test.YtaoehildaenbnabMp
import Derived.Test.YtaoehildaenbnabSr
import Derived.Test.YtaoehildaenbnabPk
namespace Go.Proofs.Ytaoehildaenbnab
open Go.RowKit
/-- A list of a call's own, laid from B on. -/
def Rs (w : World) (B : Nat) (v : Value) : Prop := ∃ s n c ls, v = .slice s n c ∧ n ≤ 140737488351232 ∧ w.ownsRow B 5 1 v n ls
/-- Its block lies from a to below b. -/
def Ib (a b : Nat) (v : Value) : Prop := ∀ g, v.ownBlock = some g → a ≤ g ∧ g < b
theorem Rs.nil (w : World) (B : Nat) : Rs w B (.slice none 0 0) := ⟨none, 0, 0, [], rfl, by omega, World.ownsRow_nil _ _ _ _⟩
theorem Rs.kept {w w' : World} {B : Nat} {v : Value} {row : Option Nat} (h : Rs w B v) (hg : w.grownBy w' row) (hne : v.ownBlock = none ∨ v.ownBlock ≠ row) : Rs w' B v := by
  obtain ⟨s, n, c, ls, e, hn, ho⟩ := h
  exact ⟨s, n, c, ls, e, hn, ho.kept hg hne⟩
theorem Rs.later {w w' : World} {B : Nat} {v : Value} (h : Rs w B v) (hb : Below w.heap.size w w') : Rs w' B v := h.kept (grown_none.mpr hb) (by cases hv : v.ownBlock <;> simp)
theorem Rs.ib {w : World} {B : Nat} {v : Value} (h : Rs w B v) : Ib B w.heap.size v := by
  obtain ⟨s, n, c, ls, rfl, hn, ho⟩ := h
  intro g hg
  refine ⟨own_base ho g hg, ?_⟩
  rcases ho.2 with ⟨e, _⟩ | ⟨g', cap, cur, e, _, hb, _⟩
  · rw [e] at hg; simp [Value.ownBlock] at hg
  · rw [e] at hg; simp [Value.ownBlock] at hg; subst hg; exact lt_of_block hb
theorem Rs.mono {w : World} {B B' : Nat} {v : Value} (h : Rs w B v) (hB : B' ≤ B) : Rs w B' v := by
  obtain ⟨s, n, c, ls, e, hn, ho⟩ := h
  exact ⟨s, n, c, ls, e, hn, own_mono ho hB⟩
theorem spoil_rs (w : World) (B : Nat) (v : Value) (m : Int) (h : Rs w B v) : Calls Try.prog 19 #[v, .int .u8 m] w fun e w' => e = .returned (.tuple #[]) ∧ w.grownBy w' v.ownBlock := by
  obtain ⟨s, n, c, ls, rfl, hn, ho⟩ := h
  exact spoil_any w s n c m _ ls hn rfl (own_mono ho (Nat.zero_le _))
theorem row_own {w : World} {B g n : Nat} {f : Nat → Nat} (h : RowAt w g 5 n f) (hn : n ≤ 140737488351232) (hB : B ≤ g) : w.ownsRow B 5 1 (.slice (some ⟨g, 0, none⟩) n n) n (row n f).toList :=
  ⟨by simp [row_size], .inr ⟨g, n, row n f, rfl, hB, h, Nat.le_refl _, by unfold maxLen; omega, by simp [row_size], List.take_of_length_le (by simp [row_size])⟩⟩
/-- A matrix of the call's own and an error are answered. -/
def RAns (w w' : World) (e : Ending) : Prop := ∃ R C s N d E, e = .returned (.tuple #[mv R C s N d, .int .i64 E]) ∧ Rs w' w.heap.size (.slice s N d) ∧ Below w.heap.size w w'
/-- A list of the call's own and an error are answered. -/
def RLAns (w w' : World) (e : Ending) : Prop := ∃ s N d E, e = .returned (.tuple #[.slice s N d, .int .i64 E]) ∧ Rs w' w.heap.size (.slice s N d) ∧ Below w.heap.size w w'
theorem rans_row {w w' : World} {e : Ending} {R C E : Int} {N : Nat} {f : Nat → Nat} (hN : N ≤ 140737488351232) (h : ∃ g, e = .returned (.tuple #[mv R C (some ⟨g, 0, none⟩) N N, .int .i64 E]) ∧ RowAt w' g 5 N f ∧ w.heap.size ≤ g ∧ Below w.heap.size w w') : RAns w w' e := by
  obtain ⟨g, he, hr, hg, hb⟩ := h
  exact ⟨R, C, _, N, N, E, he, ⟨_, _, _, _, rfl, hN, row_own hr hN hg⟩, hb⟩
theorem rans_bad {w w' : World} {e : Ending} {E : Int} (h : e = .returned (.tuple #[mv 0 0 none 0 0, .int .i64 E]) ∧ Below w.heap.size w w') : RAns w w' e := ⟨0, 0, none, 0, 0, E, h.1, Rs.nil _ _, h.2⟩
theorem mul_rs (w : World) (r c r' c' : Int) (n m k d : Nat) (a b : Option Addr) (F G : Nat → Nat) (ha : Mt w a n k F) (hb : Mt w b m d G) : Calls Try.prog 8 #[mv r c a n k, mv r' c' b m d] w (fun e w' => RAns w w' e) := by
  by_cases h : FitP r c n r' c' m
  · obtain ⟨h1, h2, h3⟩ := h
    obtain ⟨ra, ca, rfl, rfl, RA⟩ := right_rt h1
    obtain ⟨rb, cb, rfl, rfl, RB⟩ := right_rt h2
    obtain rfl : ca = rb := by omega
    have RC : Rt ra cb (ra * cb) := ⟨RA.r64, RB.c64, rfl⟩
    have := RC.le
    exact (mmul_ok w ra ca cb n m _ k d a b F G ha hb RA RB RC).mono (fun _ _ h => rans_row (by omega) h)
  · exact (mmul_bad w r c r' c' n k m d a b h).mono (fun _ _ h => rans_bad h)
theorem trans_rs (w : World) (r c : Int) (n k : Nat) (a : Option Addr) (F : Nat → Nat) (ha : Mt w a n k F) : Calls Try.prog 7 #[mv r c a n k] w (fun e w' => RAns w w' e) := by
  by_cases h : RightP r c n
  · obtain ⟨ra, ca, rfl, rfl, RA⟩ := right_rt h
    have := RA.le
    exact (mtrans_ok w ra ca n k a F ha RA).mono (fun _ _ h => rans_row (by omega) h)
  · exact (mtrans_bad w r c n k a h).mono (fun _ _ h => rans_bad h)
theorem stack_rs (w : World) (r c r' c' : Int) (n m k d : Nat) (a b : Option Addr) (F G : Nat → Nat) (ha : Mt w a n k F) (hb : Mt w b m d G) : Calls Try.prog 17 #[mv r c a n k, mv r' c' b m d] w (fun e w' => RAns w w' e) := by
  by_cases h : RightP r c n ∧ RightP r' c' m ∧ c = c'
  · obtain ⟨h1, h2, h3⟩ := h
    obtain ⟨ra, ca, rfl, rfl, RA⟩ := right_rt h1
    obtain ⟨rb, cb, rfl, rfl, RB⟩ := right_rt h2
    obtain rfl : ca = cb := by omega
    by_cases hl : 64 < ra + rb
    · exact (mstack_limit w ra ca rb n m _ k d a b RA RB rfl hl).mono (fun _ _ h => rans_bad h)
    · have := RA.le
      have := RB.le
      exact (mstack_ok w ra rb ca n m _ (n + m) k d a b F G ha hb RA RB rfl (by omega) rfl).mono (fun _ _ h => rans_row (by omega) h)
  · exact (mstack_bad w r c r' c' n k m d a b h).mono (fun _ _ h => rans_bad h)
theorem kron_rs (w : World) (r c r' c' : Int) (n m k d : Nat) (a b : Option Addr) (F G : Nat → Nat) (ha : Mt w a n k F) (hb : Mt w b m d G) : Calls Try.prog 12 #[mv r c a n k, mv r' c' b m d] w (fun e w' => RAns w w' e) := by
  by_cases h : RightP r c n ∧ RightP r' c' m
  · obtain ⟨h1, h2⟩ := h
    obtain ⟨ra, ca, rfl, rfl, RA⟩ := right_rt h1
    obtain ⟨rb, cb, rfl, rfl, RB⟩ := right_rt h2
    by_cases hl : 64 < ra * rb ∨ 64 < ca * cb
    · exact (mkron_limit w ra ca rb cb n m _ _ k d a b RA RB rfl rfl hl).mono (fun _ _ h => rans_bad h)
    · have RC : Rt (ra * rb) (ca * cb) (ra * rb * (ca * cb)) := ⟨by omega, by omega, rfl⟩
      have := RC.le
      exact (mkron_ok w ra ca rb cb n m _ _ _ k d a b F G ha hb RA RB rfl rfl RC).mono (fun _ _ h => rans_row (by omega) h)
  · exact (mkron_bad w r c r' c' n k m d a b h).mono (fun _ _ h => rans_bad h)
theorem row_rs (w : World) (r c i : Int) (n k : Nat) (a : Option Addr) (F : Nat → Nat) (ha : Mt w a n k F) : Calls Try.prog 18 #[mv r c a n k, .int .i64 i] w (fun e w' => RLAns w w' e) := by
  have bad : ∀ (E : Int) (e : Ending) (w' : World), (e = .returned (.tuple #[.slice none 0 0, .int .i64 E]) ∧ Below w.heap.size w w') → RLAns w w' e := fun E e w' h => ⟨none, 0, 0, E, h.1, Rs.nil _ _, h.2⟩
  by_cases h : RightP r c n
  · obtain ⟨ra, ca, rfl, rfl, RA⟩ := right_rt h
    by_cases hi : 0 ≤ i ∧ i < ra
    · obtain ⟨j, rfl⟩ := Int.eq_ofNat_of_zero_le hi.1
      have hj : j < ra := by omega
      have := RA.c64
      refine (mrow_ok w ra ca n k j a F ha RA hj).mono ?_
      rintro e w' ⟨v, he, ho, hb⟩
      obtain ⟨s, d, rfl, _, _⟩ := own_sl' ho
      exact ⟨s, _, d, 0, he, ⟨_, _, _, _, rfl, by omega, ho⟩, hb⟩
    · exact (mrow_arg w ra ca n k i a RA hi).mono (bad _)
  · exact (mrow_shape w r c i n k a h).mono (bad _)
/-- A list's block lies from lo to below hi. -/
def Iv (lo hi : Nat) (s : Option Addr) : Prop := ∀ x, s = some x → lo ≤ x.block ∧ x.block < hi
theorem own_iv {w : World} {B n d : Nat} {s : Option Addr} {ls : List Value} (h : w.ownsRow B 5 1 (.slice s n d) n ls) : Iv B w.heap.size s := by
  intro x hx
  rcases h.2 with ⟨e, _⟩ | ⟨g, cap, cur, e, hb, hg, _⟩
  · cases e; cases hx
  · cases e; cases hx; exact ⟨hb, lt_of_block hg⟩
theorem cp_ans (w : World) (r c : Int) (n k : Nat) (a : Option Addr) (F : Nat → Nat) (ha : Mt w a n k F) (hn : n ≤ 140737488351232) :
    Calls Try.prog 16 #[mv r c a n k] w fun e w' => ∃ s d, e = .returned (mv r c s n d) ∧ Mt w' s n d F ∧ Iv w.heap.size w'.heap.size s ∧ Below w.heap.size w w' :=
  (rcopy3_any w r c n k a F ha.sl hn ha.nil).mono fun _ _ ⟨s, d, he, ho, hb⟩ => ⟨s, d, he, own_mt ho ha.sl.1, own_iv ho, hb⟩
/-- Two matrices and their copies, each in a variable. -/
structure Cps (w wc : World) (p q : Nat) (r0 c0 r1 c1 : Int) (a0 a1 sa sb : Option Addr) (n0 k0 n1 k1 da db : Nat) (F0 F1 : Nat → Nat) : Prop where
  va : Vr wc w.heap.size (.int .i64 r0) (.int .i64 c0) (.slice a0 n0 k0)
  vb : Vr wc (w.heap.size + 1) (.int .i64 r1) (.int .i64 c1) (.slice a1 n1 k1)
  vc : Vr wc p (.int .i64 r0) (.int .i64 c0) (.slice sa n0 da)
  vd : Vr wc q (.int .i64 r1) (.int .i64 c1) (.slice sb n1 db)
  mc : Mt wc sa n0 da F0
  md : Mt wc sb n1 db F1
  below : Below w.heap.size w wc
/-- Ahead of the two stores. -/
structure Pre (w wc : World) (p q : Nat) (r0 c0 r1 c1 : Int) (a0 a1 sa sb : Option Addr) (n0 k0 n1 k1 da db : Nat) (F0 F1 : Nat → Nat) : Prop where
  va : Vr wc w.heap.size (.int .i64 r0) (.int .i64 c0) (.slice a0 n0 k0)
  vb : Vr wc (w.heap.size + 1) (.int .i64 r1) (.int .i64 c1) (.slice a1 n1 k1)
  vc : Vr wc p (.int .i64 0) (.int .i64 0) (.slice none 0 0)
  vd : Vr wc q (.int .i64 0) (.int .i64 0) (.slice none 0 0)
  mc : Mt wc sa n0 da F0
  md : Mt wc sb n1 db F1
  below : Below w.heap.size w wc
  pq : p ≠ q
  p2 : w.heap.size + 1 < p
  q2 : w.heap.size + 1 < q
  pa : Off p sa
  pb : Off p sb
  qa : Off q sa
  qb : Off q sb
theorem Pre.mid {w wc w8 : World} {p q : Nat} {r0 c0 r1 c1 : Int} {a0 a1 sa sb : Option Addr} {n0 k0 n1 k1 da db : Nat} {F0 F1 : Nat → Nat} (h : Pre w wc p q r0 c0 r1 c1 a0 a1 sa sb n0 k0 n1 k1 da db F0 F1) (g8 : wc.grownBy w8 (some p)) :
    Vr w8 w.heap.size (.int .i64 r0) (.int .i64 c0) (.slice a0 n0 k0) ∧ Vr w8 (w.heap.size + 1) (.int .i64 r1) (.int .i64 c1) (.slice a1 n1 k1) ∧ Vr w8 q (.int .i64 0) (.int .i64 0) (.slice none 0 0) := by
  have := h.p2
  exact ⟨h.va.kept g8 (by omega), h.vb.kept g8 (by omega), h.vd.kept g8 (Ne.symm h.pq)⟩
theorem Pre.fin {w wc w8 w9 : World} {p q : Nat} {r0 c0 r1 c1 : Int} {a0 a1 sa sb : Option Addr} {n0 k0 n1 k1 da db : Nat} {F0 F1 : Nat → Nat} (h : Pre w wc p q r0 c0 r1 c1 a0 a1 sa sb n0 k0 n1 k1 da db F0 F1)
    (v8 : Vr w8 p (.int .i64 r0) (.int .i64 c0) (.slice sa n0 da)) (g8 : wc.grownBy w8 (some p)) (v9 : Vr w9 q (.int .i64 r1) (.int .i64 c1) (.slice sb n1 db)) (g9 : w8.grownBy w9 (some q)) : Cps w w9 p q r0 c0 r1 c1 a0 a1 sa sb n0 k0 n1 k1 da db F0 F1 := by
  have := h.p2
  have := h.q2
  obtain ⟨h1, h2, h3⟩ := h.mid g8
  exact ⟨h1.kept g9 (by omega), h2.kept g9 (by omega), v8.kept g9 h.pq, v9, (h.mc.kept g8 (fun _ => h.pa)).kept g9 (fun _ => h.qa), (h.md.kept g8 (fun _ => h.pb)).kept g9 (fun _ => h.qb), below_row (below_row h.below g8 (by omega)) g9 (by omega)⟩
theorem iv_off {lo hi g : Nat} {s : Option Addr} (h : Iv lo hi s) (hg : g < lo ∨ hi ≤ g) : Off g s := fun x hx e => by have := h x hx; omega
/-- The five answers. -/
def vs5 (a b c d e : Value) (i : Nat) : Value := if i = 0 then a else if i = 1 then b else if i = 2 then c else if i = 3 then d else e
theorem vs5_get (a b c d e : Value) (i : Nat) (hi : i < 5) : #[a, b, c, d, e][i]? = some (vs5 a b c d e i) := by
  rcases (by omega : i = 0 ∨ i = 1 ∨ i = 2 ∨ i = 3 ∨ i = 4) with rfl | rfl | rfl | rfl | rfl <;> rfl
/-- All of the five are lists of their own, apart from each other. -/
structure Five (w : World) (B : Nat) (v : Nat → Value) : Prop where
  res : ∀ i, i < 5 → Rs w B (v i)
  apart : ∀ i j, i < 5 → j < 5 → i ≠ j → ∀ g, (v i).ownBlock = some g → (v j).ownBlock ≠ some g
theorem five {w : World} {a b c d e : Value} {B l0 u0 l1 u1 l2 u2 l3 u3 l4 u4 : Nat} (ra : Rs w B a) (rb : Rs w B b) (rc : Rs w B c) (rd : Rs w B d) (re : Rs w B e)
    (ia : Ib l0 u0 a) (ib : Ib l1 u1 b) (ic : Ib l2 u2 c) (id' : Ib l3 u3 d) (ie : Ib l4 u4 e) (h1 : u0 ≤ l1) (h2 : l1 ≤ u1) (h3 : u1 ≤ l2) (h4 : l2 ≤ u2) (h5 : u2 ≤ l3) (h6 : l3 ≤ u3) (h7 : u3 ≤ l4) : Five w B (vs5 a b c d e) := by
  refine ⟨?_, ?_⟩
  · intro i hi
    rcases (by omega : i = 0 ∨ i = 1 ∨ i = 2 ∨ i = 3 ∨ i = 4) with rfl | rfl | rfl | rfl | rfl
    · exact ra
    · exact rb
    · exact rc
    · exact rd
    · exact re
  · have H : ∀ i, i < 5 → ∃ lo hi, Ib lo hi (vs5 a b c d e i) ∧ (i = 0 → lo = l0 ∧ hi = u0) ∧ (i = 1 → lo = l1 ∧ hi = u1) ∧ (i = 2 → lo = l2 ∧ hi = u2) ∧ (i = 3 → lo = l3 ∧ hi = u3) ∧ (i = 4 → lo = l4 ∧ hi = u4) := by
      intro i hi
      rcases (by omega : i = 0 ∨ i = 1 ∨ i = 2 ∨ i = 3 ∨ i = 4) with rfl | rfl | rfl | rfl | rfl
      · exact ⟨_, _, ia, by omega⟩
      · exact ⟨_, _, ib, by omega⟩
      · exact ⟨_, _, ic, by omega⟩
      · exact ⟨_, _, id', by omega⟩
      · exact ⟨_, _, ie, by omega⟩
    intro i j hi hj hij x hx hy
    obtain ⟨a1, b1, n1, p1⟩ := H i hi
    obtain ⟨a2, b2, n2, p2⟩ := H j hj
    have := n1 x hx
    have := n2 x hy
    omega
/-- What the loop that spoils keeps. -/
structure Sp5 (wb wr : World) (gl : Nat) (v : Nat → Value) (cs : Array Value) (k : Nat) : Prop where
  res : ∀ j, k ≤ j → j < 5 → Rs wr wb.heap.size (v j)
  arr : wr.heap[gl]? = some (.cells cs 22 (0, 0))
  below : Below wb.heap.size wb wr
theorem sp5_next {wb wr w' : World} {gl k : Nat} {v : Nat → Value} {cs : Array Value} (I : Sp5 wb wr gl v cs k) (hk : k < 5) (hg : wr.grownBy w' (v k).ownBlock) (ap : ∀ i j, i < 5 → j < 5 → i ≠ j → ∀ g, (v i).ownBlock = some g → (v j).ownBlock ≠ some g) (hgl : ∀ j, j < 5 → (v j).ownBlock ≠ some gl) : Sp5 wb w' gl v cs (k + 1) := by
  refine ⟨fun j hj hj8 => (I.res j (by omega) hj8).kept hg ?_, ?_, ?_⟩
  · cases e : (v j).ownBlock with
    | none => exact .inl rfl
    | some g => exact .inr (fun h => ap j k hj8 hk (by omega) g e h.symm)
  · rw [hg.block gl (lt_of_block I.arr) (fun e => hgl k hk e.symm)]; exact I.arr
  · cases e : (v k).ownBlock with
    | none => rw [e] at hg; exact two_below I.below (grown_none.mp hg)
    | some g => rw [e] at hg; exact below_row I.below hg ((I.res k (Nat.le_refl _) hk).ib g e).1
end Go.Proofs.Ytaoehildaenbnab
