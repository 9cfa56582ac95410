/-
  What MatrixFresh needs: every answer is a list of the call's own, apart from the others; copies of two matrices.
  What GaussFresh needs: lists of the calls' own that are written over.
-/
import Derived.Test.YtblfldjlehjnbabGc
import Derived.Test.YtblfldjlehjnbabGb
import Derived.Test.YtblfldjlehjnbabGp
import Derived.ArgAppend
namespace Go.Proofs.Ytblfldjlehjnbab
open Go.RowKit
/-- A list of a call's own, laid from B on. -/
def Rs (w : World) (B : Nat) (v : Value) : Prop := ∃ s n c ls, v = .slice s n c ∧ n ≤ 140737488351232 ∧ w.ownsRow B 5 1 v n ls
/-- Its block lies from a to below b. -/
def Ib (a b : Nat) (v : Value) : Prop := ∀ g, v.ownBlock = some g → a ≤ g ∧ g < b
theorem Rs.nil (w : World) (B : Nat) : Rs w B (.slice none 0 0) := ⟨none, 0, 0, [], rfl, by omega, World.ownsRow_nil _ _ _ _⟩
theorem Rs.kept {w w' : World} {B : Nat} {v : Value} {row : Option Nat} (h : Rs w B v) (hg : w.grownBy w' row) (hne : v.ownBlock = none ∨ v.ownBlock ≠ row) : Rs w' B v := by
  obtain ⟨s, n, c, ls, e, hn, ho⟩ := h
  exact ⟨s, n, c, ls, e, hn, ho.kept hg hne⟩
theorem Rs.later {w w' : World} {B : Nat} {v : Value} (h : Rs w B v) (hb : Below w.heap.size w w') : Rs w' B v := h.kept (grown_none.mpr hb) (by cases hv : v.ownBlock <;> simp)
theorem Rs.ib {w : World} {B : Nat} {v : Value} (h : Rs w B v) : Ib B w.heap.size v := by
  obtain ⟨s, n, c, ls, rfl, hn, ho⟩ := h
  intro g hg
  refine ⟨own_base ho g hg, ?_⟩
  rcases ho.2 with ⟨e, _⟩ | ⟨g', cap, cur, e, _, hb, _⟩
  · rw [e] at hg; simp [Value.ownBlock] at hg
  · rw [e] at hg; simp [Value.ownBlock] at hg; subst hg; exact lt_of_block hb
theorem Rs.mono {w : World} {B B' : Nat} {v : Value} (h : Rs w B v) (hB : B' ≤ B) : Rs w B' v := by
  obtain ⟨s, n, c, ls, e, hn, ho⟩ := h
  exact ⟨s, n, c, ls, e, hn, own_mono ho hB⟩
theorem spoil_rs (w : World) (B : Nat) (v : Value) (m : Int) (h : Rs w B v) : Calls Try.prog 19 #[v, .int .u8 m] w fun e w' => e = .returned (.tuple #[]) ∧ w.grownBy w' v.ownBlock := by
  obtain ⟨s, n, c, ls, rfl, hn, ho⟩ := h
  exact spoil_any w s n c m _ ls hn rfl (own_mono ho (Nat.zero_le _))
theorem row_own {w : World} {B g n : Nat} {f : Nat → Nat} (h : RowAt w g 5 n f) (hn : n ≤ 140737488351232) (hB : B ≤ g) : w.ownsRow B 5 1 (.slice (some ⟨g, 0, none⟩) n n) n (row n f).toList :=
  ⟨by simp [row_size], .inr ⟨g, n, row n f, rfl, hB, h, Nat.le_refl _, by unfold maxLen; omega, by simp [row_size], List.take_of_length_le (by simp [row_size])⟩⟩
/-- A matrix of the call's own and an error are answered. -/
def RAns (w w' : World) (e : Ending) : Prop := ∃ R C s N d E, e = .returned (.tuple #[mv R C s N d, .int .i64 E]) ∧ Rs w' w.heap.size (.slice s N d) ∧ Below w.heap.size w w'
/-- A list of the call's own and an error are answered. -/
def RLAns (w w' : World) (e : Ending) : Prop := ∃ s N d E, e = .returned (.tuple #[.slice s N d, .int .i64 E]) ∧ Rs w' w.heap.size (.slice s N d) ∧ Below w.heap.size w w'
theorem rans_row {w w' : World} {e : Ending} {R C E : Int} {N : Nat} {f : Nat → Nat} (hN : N ≤ 140737488351232) (h : ∃ g, e = .returned (.tuple #[mv R C (some ⟨g, 0, none⟩) N N, .int .i64 E]) ∧ RowAt w' g 5 N f ∧ w.heap.size ≤ g ∧ Below w.heap.size w w') : RAns w w' e := by
  obtain ⟨g, he, hr, hg, hb⟩ := h
  exact ⟨R, C, _, N, N, E, he, ⟨_, _, _, _, rfl, hN, row_own hr hN hg⟩, hb⟩
theorem rans_bad {w w' : World} {e : Ending} {E : Int} (h : e = .returned (.tuple #[mv 0 0 none 0 0, .int .i64 E]) ∧ Below w.heap.size w w') : RAns w w' e := ⟨0, 0, none, 0, 0, E, h.1, Rs.nil _ _, h.2⟩
theorem mul_rs (w : World) (r c r' c' : Int) (n m k d : Nat) (a b : Option Addr) (F G : Nat → Nat) (ha : Mt w a n k F) (hb : Mt w b m d G) : Calls Try.prog 27 #[mv r c a n k, mv r' c' b m d] w (fun e w' => RAns w w' e) := by
  by_cases h : FitP r c n r' c' m
  · obtain ⟨h1, h2, h3⟩ := h
    obtain ⟨ra, ca, rfl, rfl, RA⟩ := right_rt h1
    obtain ⟨rb, cb, rfl, rfl, RB⟩ := right_rt h2
    obtain rfl : ca = rb := by omega
    have RC : Rt ra cb (ra * cb) := ⟨RA.r64, RB.c64, rfl⟩
    have := RC.le
    exact (mmul_ok w ra ca cb n m _ k d a b F G ha hb RA RB RC).mono (fun _ _ h => rans_row (by omega) h)
  · exact (mmul_bad w r c r' c' n k m d a b h).mono (fun _ _ h => rans_bad h)
theorem trans_rs (w : World) (r c : Int) (n k : Nat) (a : Option Addr) (F : Nat → Nat) (ha : Mt w a n k F) : Calls Try.prog 38 #[mv r c a n k] w (fun e w' => RAns w w' e) := by
  by_cases h : RightP r c n
  · obtain ⟨ra, ca, rfl, rfl, RA⟩ := right_rt h
    have := RA.le
    exact (mtrans_ok w ra ca n k a F ha RA).mono (fun _ _ h => rans_row (by omega) h)
  · exact (mtrans_bad w r c n k a h).mono (fun _ _ h => rans_bad h)
/-- A list's block lies from lo to below hi. -/
def Iv (lo hi : Nat) (s : Option Addr) : Prop := ∀ x, s = some x → lo ≤ x.block ∧ x.block < hi
theorem own_iv {w : World} {B n d : Nat} {s : Option Addr} {ls : List Value} (h : w.ownsRow B 5 1 (.slice s n d) n ls) : Iv B w.heap.size s := by
  intro x hx
  rcases h.2 with ⟨e, _⟩ | ⟨g, cap, cur, e, hb, hg, _⟩
  · cases e; cases hx
  · cases e; cases hx; exact ⟨hb, lt_of_block hg⟩
theorem cp_ans (w : World) (r c : Int) (n k : Nat) (a : Option Addr) (F : Nat → Nat) (ha : Mt w a n k F) (hn : n ≤ 140737488351232) :
    Calls Try.prog 15 #[mv r c a n k] w fun e w' => ∃ s d, e = .returned (mv r c s n d) ∧ Mt w' s n d F ∧ Iv w.heap.size w'.heap.size s ∧ Below w.heap.size w w' :=
  (rcopy3_any w r c n k a F ha.sl hn ha.nil).mono fun _ _ ⟨s, d, he, ho, hb⟩ => ⟨s, d, he, own_mt ho ha.sl.1, own_iv ho, hb⟩
/-- Two matrices and their copies, each in a variable. -/
structure Cps (w wc : World) (p q : Nat) (r0 c0 r1 c1 : Int) (a0 a1 sa sb : Option Addr) (n0 k0 n1 k1 da db : Nat) (F0 F1 : Nat → Nat) : Prop where
  va : Vr wc w.heap.size (.int .i64 r0) (.int .i64 c0) (.slice a0 n0 k0)
  vb : Vr wc (w.heap.size + 1) (.int .i64 r1) (.int .i64 c1) (.slice a1 n1 k1)
  vc : Vr wc p (.int .i64 r0) (.int .i64 c0) (.slice sa n0 da)
  vd : Vr wc q (.int .i64 r1) (.int .i64 c1) (.slice sb n1 db)
  mc : Mt wc sa n0 da F0
  md : Mt wc sb n1 db F1
  below : Below w.heap.size w wc
/-- Ahead of the two stores. -/
structure Pre (w wc : World) (p q : Nat) (r0 c0 r1 c1 : Int) (a0 a1 sa sb : Option Addr) (n0 k0 n1 k1 da db : Nat) (F0 F1 : Nat → Nat) : Prop where
  va : Vr wc w.heap.size (.int .i64 r0) (.int .i64 c0) (.slice a0 n0 k0)
  vb : Vr wc (w.heap.size + 1) (.int .i64 r1) (.int .i64 c1) (.slice a1 n1 k1)
  vc : Vr wc p (.int .i64 0) (.int .i64 0) (.slice none 0 0)
  vd : Vr wc q (.int .i64 0) (.int .i64 0) (.slice none 0 0)
  mc : Mt wc sa n0 da F0
  md : Mt wc sb n1 db F1
  below : Below w.heap.size w wc
  pq : p ≠ q
  p2 : w.heap.size + 1 < p
  q2 : w.heap.size + 1 < q
  pa : Off p sa
  pb : Off p sb
  qa : Off q sa
  qb : Off q sb
theorem Pre.mid {w wc w8 : World} {p q : Nat} {r0 c0 r1 c1 : Int} {a0 a1 sa sb : Option Addr} {n0 k0 n1 k1 da db : Nat} {F0 F1 : Nat → Nat} (h : Pre w wc p q r0 c0 r1 c1 a0 a1 sa sb n0 k0 n1 k1 da db F0 F1) (g8 : wc.grownBy w8 (some p)) :
    Vr w8 w.heap.size (.int .i64 r0) (.int .i64 c0) (.slice a0 n0 k0) ∧ Vr w8 (w.heap.size + 1) (.int .i64 r1) (.int .i64 c1) (.slice a1 n1 k1) ∧ Vr w8 q (.int .i64 0) (.int .i64 0) (.slice none 0 0) := by
  have := h.p2
  exact ⟨h.va.kept g8 (by omega), h.vb.kept g8 (by omega), h.vd.kept g8 (Ne.symm h.pq)⟩
theorem Pre.fin {w wc w8 w9 : World} {p q : Nat} {r0 c0 r1 c1 : Int} {a0 a1 sa sb : Option Addr} {n0 k0 n1 k1 da db : Nat} {F0 F1 : Nat → Nat} (h : Pre w wc p q r0 c0 r1 c1 a0 a1 sa sb n0 k0 n1 k1 da db F0 F1)
    (v8 : Vr w8 p (.int .i64 r0) (.int .i64 c0) (.slice sa n0 da)) (g8 : wc.grownBy w8 (some p)) (v9 : Vr w9 q (.int .i64 r1) (.int .i64 c1) (.slice sb n1 db)) (g9 : w8.grownBy w9 (some q)) : Cps w w9 p q r0 c0 r1 c1 a0 a1 sa sb n0 k0 n1 k1 da db F0 F1 := by
  have := h.p2
  have := h.q2
  obtain ⟨h1, h2, h3⟩ := h.mid g8
  exact ⟨h1.kept g9 (by omega), h2.kept g9 (by omega), v8.kept g9 h.pq, v9, (h.mc.kept g8 (fun _ => h.pa)).kept g9 (fun _ => h.qa), (h.md.kept g8 (fun _ => h.pb)).kept g9 (fun _ => h.qb), below_row (below_row h.below g8 (by omega)) g9 (by omega)⟩
theorem iv_off {lo hi g : Nat} {s : Option Addr} (h : Iv lo hi s) (hg : g < lo ∨ hi ≤ g) : Off g s := fun x hx e => by have := h x hx; omega
/-- The five answers. -/
def vs5 (a b c d e : Value) (i : Nat) : Value := if i = 0 then a else if i = 1 then b else if i = 2 then c else if i = 3 then d else e
theorem vs5_get (a b c d e : Value) (i : Nat) (hi : i < 5) : #[a, b, c, d, e][i]? = some (vs5 a b c d e i) := by
  rcases (by omega : i = 0 ∨ i = 1 ∨ i = 2 ∨ i = 3 ∨ i = 4) with rfl | rfl | rfl | rfl | rfl <;> rfl
/-- All of the five are lists of their own, apart from each other. -/
structure Five (w : World) (B : Nat) (v : Nat → Value) : Prop where
  res : ∀ i, i < 5 → Rs w B (v i)
  apart : ∀ i j, i < 5 → j < 5 → i ≠ j → ∀ g, (v i).ownBlock = some g → (v j).ownBlock ≠ some g
theorem five {w : World} {a b c d e : Value} {B l0 u0 l1 u1 l2 u2 l3 u3 l4 u4 : Nat} (ra : Rs w B a) (rb : Rs w B b) (rc : Rs w B c) (rd : Rs w B d) (re : Rs w B e)
    (ia : Ib l0 u0 a) (ib : Ib l1 u1 b) (ic : Ib l2 u2 c) (id' : Ib l3 u3 d) (ie : Ib l4 u4 e) (h1 : u0 ≤ l1) (h2 : l1 ≤ u1) (h3 : u1 ≤ l2) (h4 : l2 ≤ u2) (h5 : u2 ≤ l3) (h6 : l3 ≤ u3) (h7 : u3 ≤ l4) : Five w B (vs5 a b c d e) := by
  refine ⟨?_, ?_⟩
  · intro i hi
    rcases (by omega : i = 0 ∨ i = 1 ∨ i = 2 ∨ i = 3 ∨ i = 4) with rfl | rfl | rfl | rfl | rfl
    · exact ra
    · exact rb
    · exact rc
    · exact rd
    · exact re
  · have H : ∀ i, i < 5 → ∃ lo hi, Ib lo hi (vs5 a b c d e i) ∧ (i = 0 → lo = l0 ∧ hi = u0) ∧ (i = 1 → lo = l1 ∧ hi = u1) ∧ (i = 2 → lo = l2 ∧ hi = u2) ∧ (i = 3 → lo = l3 ∧ hi = u3) ∧ (i = 4 → lo = l4 ∧ hi = u4) := by
      intro i hi
      rcases (by omega : i = 0 ∨ i = 1 ∨ i = 2 ∨ i = 3 ∨ i = 4) with rfl | rfl | rfl | rfl | rfl
      · exact ⟨_, _, ia, by omega⟩
      · exact ⟨_, _, ib, by omega⟩
      · exact ⟨_, _, ic, by omega⟩
      · exact ⟨_, _, id', by omega⟩
      · exact ⟨_, _, ie, by omega⟩
    intro i j hi hj hij x hx hy
    obtain ⟨a1, b1, n1, p1⟩ := H i hi
    obtain ⟨a2, b2, n2, p2⟩ := H j hj
    have := n1 x hx
    have := n2 x hy
    omega
/-- What the loop that spoils keeps. -/
structure Sp5 (wb wr : World) (gl : Nat) (v : Nat → Value) (cs : Array Value) (k : Nat) : Prop where
  res : ∀ j, k ≤ j → j < 5 → Rs wr wb.heap.size (v j)
  arr : wr.heap[gl]? = some (.cells cs 22 (0, 0))
  below : Below wb.heap.size wb wr
theorem sp5_next {wb wr w' : World} {gl k : Nat} {v : Nat → Value} {cs : Array Value} (I : Sp5 wb wr gl v cs k) (hk : k < 5) (hg : wr.grownBy w' (v k).ownBlock) (ap : ∀ i j, i < 5 → j < 5 → i ≠ j → ∀ g, (v i).ownBlock = some g → (v j).ownBlock ≠ some g) (hgl : ∀ j, j < 5 → (v j).ownBlock ≠ some gl) : Sp5 wb w' gl v cs (k + 1) := by
  refine ⟨fun j hj hj8 => (I.res j (by omega) hj8).kept hg ?_, ?_, ?_⟩
  · cases e : (v j).ownBlock with
    | none => exact .inl rfl
    | some g => exact .inr (fun h => ap j k hj8 hk (by omega) g e h.symm)
  · rw [hg.block gl (lt_of_block I.arr) (fun e => hgl k hk e.symm)]; exact I.arr
  · cases e : (v k).ownBlock with
    | none => rw [e] at hg; exact two_below I.below (grown_none.mp hg)
    | some g => rw [e] at hg; exact below_row I.below hg ((I.res k (Nat.le_refl _) hk).ib g e).1
end Go.Proofs.Ytblfldjlehjnbab

namespace Go.Proofs.Ytblfldjlehjnbab
open Go.RowKit
/-- The first N cells of a block may be written. -/
def Wrt (w : World) (g N : Nat) : Prop := ∀ i, i < N → (∃ v, w.cell? ⟨g, i, none⟩ = some v) ∧ w.frozen? ⟨g, i, none⟩ = false
theorem Wrt.le {w : World} {g N M : Nat} (h : Wrt w g N) (hM : M ≤ N) : Wrt w g M := fun i hi => h i (by omega)
theorem Wrt.later {w w' : World} {g N : Nat} (h : Wrt w g N) (hb : Below w.heap.size w w') : Wrt w' g N := fun i hi => by
  obtain ⟨⟨y, hy⟩, hf⟩ := h i hi
  have hblk := hb.block g (cell_lt hy)
  exact ⟨⟨y, by rw [World.cell?_of_block (a := ⟨g, i, none⟩) hblk]; exact hy⟩, by rw [World.frozen?_of_block (a := ⟨g, i, none⟩) hblk]; exact hf⟩
theorem Wrt.set {w : World} {g N q : Nat} {v : Value} (h : Wrt w g N) : Wrt (w.setCell ⟨g, q, none⟩ v) g N := fun i hi => by
  obtain ⟨⟨y, hy⟩, hf⟩ := h i hi
  exact ⟨cell?_setCell_some hy, by simpa using hf⟩
theorem grown_any {w w' : World} (h : w.grownBy w' none) (row : Option Nat) : w.grownBy w' row := ⟨h.os, h.tape, h.output, h.size, fun k hk _ => h.block k hk (by simp)⟩
theorem wpList_append_wrt {ops : Array Oper} {rest : List Oper} {o : Oper} {a : Act} {Q : Exit → Act → World → Prop} {w : World}
    (hg : o.guard = none) (s x : Operand) (hop : o.op = Op.call { callee := Callee.builtin Builtin.append, args := #[s, x], argTypes := #[22, 22] })
    (g n d : Nat) (hs : a.eval s = .slice (some ⟨g, 0, none⟩) n d) (hw : Wrt w g d) (hnd : n ≤ d) (hn : n ≤ 4096)
    (ad : Addr) (m : Int) (hx : a.eval x = .slice (some ad) 3 3) (hc : ∀ j u, [Value.int .u8 m, .int .u8 m, .int .u8 m][j]? = some u → w.cell? (ad.add j) = some u)
    (hK : ∀ gg cap w', (gg = g ∧ d ≠ 0 ∧ w.grownBy w' (some g)) ∨ (w.heap.size ≤ gg ∧ w.grownBy w' none) → Wrt w' gg (n + 3) → wpList Try.prog ops Q rest (a.put o.dst (.slice (some ⟨gg, 0, none⟩) (n + 3) cap)) w') :
    wpList Try.prog ops Q (o :: rest) a w := by
  obtain ⟨i0, hi, hz0, hz1, hz2⟩ := info_parts info8
  refine wpList_append_arg w hg s x 22 hop 5 i0 (.int .u8 0) 1 1 Try.underlying22 hi hz0 hz1 hz2 rfl (by decide) g 0 n d ((List.range n).map fun j => (w.cell? ⟨g, j, none⟩).getD (.int .u8 0)) hs (by simp) ?_ ad 3 3 [Value.int .u8 m, .int .u8 m, .int .u8 m] hx rfl hc (three_one m) ?_ (by unfold maxLen; omega) (by omega) ?_ ?_
  · intro j u hj
    have hjn : j < n := by
      have := (List.getElem?_eq_some_iff.1 hj).1
      simpa using this
    obtain ⟨⟨y, hy⟩, _⟩ := hw j (by omega)
    rw [List.getElem?_map, List.getElem?_range hjn] at hj
    simp only [Option.map_some, hy, Option.getD_some, Option.some.injEq] at hj
    rw [Nat.zero_add, hy, hj]
  · intro hr j hj
    have hj3 : j < 3 := hj
    obtain ⟨⟨y, hy⟩, hf⟩ := hw (n + j) (by omega)
    rw [show 0 + n * 1 + j = n + j by omega]
    exact ⟨by rw [hy]; rfl, hf⟩
  · intro hr
    exact hK g d _ (.inl ⟨rfl, by omega, grown_trans (grown_trans (grown_setCell _ _ _ _) (grown_setCell _ _ _ _)) (grown_setCell _ _ _ _)⟩) (((hw.le hr).set (q := 0 + n * 1) (v := .int .u8 m)).set (q := 0 + n * 1 + 1) (v := .int .u8 m) |>.set (q := 0 + n * 1 + 1 + 1) (v := .int .u8 m))
  · intro hr v' w' ho hgr
    rcases ho.2 with ⟨_, h0⟩ | ⟨gg, cap, cur, rfl, hB, _⟩
    · omega
    · exact hK gg cap w' (.inr ⟨hB, hgr⟩) (fun i hi => ⟨own_cell ho hi, ho.frozenAt i⟩)
set_option maxRecDepth 20000 in
set_option maxHeartbeats 1000000 in
theorem spoil_wrt (w : World) (g n d : Nat) (m : Int) (row : Option Nat) (hn : n ≤ 4096) (hnd : n ≤ d) (hw : Wrt w g d) (hrow : Hid (d ≠ 0 → row = some g)) :
    Calls Try.prog 19 #[.slice (some ⟨g, 0, none⟩) n d, .int .u8 m] w fun e w' => e = .returned (.tuple #[]) ∧ w.grownBy w' row := by
  go_enter Try.func19, Try.ntmps19
  go_wp2
  go_loopw [4] (fun i wr => ∃ k : Nat, k ≤ n ∧ i = .int .i64 (k : Int) ∧ Wrt wr g d ∧ w.grownBy wr row) (fun i _ => n - (intOf i).toNat)
  case atStart => exact ⟨0, by omega, rfl, hw, World.grownBy.refl _ _⟩
  case round =>
    clear hw
    obtain ⟨k, hk, rfl, ho, hg⟩ := hrel
    by_cases hlt : k < n
    · obtain ⟨⟨v0, hc⟩, hf⟩ := ho k (by omega)
      have HO : Hid (Wrt wr g d) := ho
      have HG : Hid (w.grownBy wr row) := hg
      clear ho hg
      go_wp2
      exact ⟨⟨k + 1, by omega, by go_num, HO.out.set, grown_at HG.out (.inl (hrow.out (by omega)))⟩, by simp [intOf]; omega⟩
    · have HO : Hid (Wrt wr g d) := ho
      have HG : Hid (w.grownBy wr row) := hg
      clear ho hg
      go_wp2_with (at_builtin; refine wpList_append_wrt rfl _ _ rfl g n d rfl (HO.out.later (alloc_low _ _)) hnd hn ⟨wr.heap.size, 0, none⟩ m rfl (three_new _ _ _) ?_; intro gg cap w1 hat hw1)
      have HG1 : Hid (w.grownBy w1 row) := by
        refine grown_trans (grown_trans HG.out (World.grownBy_alloc _ (.cells #[.int .u8 m, .int .u8 m, .int .u8 m] 5) _)) ?_
        rcases hat with ⟨_, hd, h⟩ | ⟨_, h⟩
        · rw [hrow.out hd]; exact h
        · exact grown_any h _
      have HAt : Hid (row = some gg ∨ w.heap.size ≤ gg) := by
        have hs := HG.out.size
        rcases hat with ⟨e, hd, _⟩ | ⟨hat, _⟩
        · exact .inl (by rw [hrow.out hd, e])
        · exact .inr (by simp at hat; omega)
      have HO1 : Hid (Wrt w1 gg (n + 3)) := hw1
      clear hw1 hat HO HG
      go_loopw [5] (fun i wr => ∃ k : Nat, k ≤ n + 3 ∧ i = .int .i64 (k : Int) ∧ Wrt wr gg (n + 3) ∧ w.grownBy wr row) (fun i _ => n + 3 - (intOf i).toNat)
      case atStart => exact ⟨0, by omega, rfl, HO1.out, HG1.out⟩
      case round =>
        clear HO1 HG1
        obtain ⟨k, hk, rfl, ho, hg⟩ := hrel
        by_cases hlt : k < n + 3
        · obtain ⟨⟨v0, hc⟩, hf⟩ := ho k hlt
          have HO : Hid (Wrt wr gg (n + 3)) := ho
          have HG : Hid (w.grownBy wr row) := hg
          clear ho hg
          go_wp2
          exact ⟨⟨k + 1, by omega, by go_num, HO.out.set, grown_at HG.out HAt.out⟩, by simp [intOf]; omega⟩
        · go_wp2
          go_end0
          exact ⟨rfl, hg⟩
/-- The block that a list writes, if it has room. -/
def bk : Value → Option Nat
  | .slice (some a) _ d => if d = 0 then none else some a.block
  | _ => none
/-- A list of a call's own that may be spoilt. -/
def Fs (w : World) (B : Nat) (v : Value) : Prop := ∃ s n d, v = .slice s n d ∧ n ≤ 4096 ∧ Frs w B s n d
theorem Fs.nil (w : World) (B : Nat) : Fs w B (.slice none 0 0) := ⟨none, 0, 0, rfl, by omega, Frs.mt0 _ _⟩
theorem Fs.mono {w : World} {B B' : Nat} {v : Value} (h : Fs w B v) (hB : B' ≤ B) : Fs w B' v := by
  obtain ⟨s, n, d, e, hn, hf⟩ := h
  exact ⟨s, n, d, e, hn, hf.mono hB⟩
theorem Fs.later {w w' : World} {B : Nat} {v : Value} (h : Fs w B v) (hb : Below w.heap.size w w') : Fs w' B v := by
  obtain ⟨s, n, d, e, hn, hf⟩ := h
  exact ⟨s, n, d, e, hn, hf.later hb⟩
theorem Fs.at {w : World} {B : Nat} {v : Value} (h : Fs w B v) : bk v = none ∨ ∃ g n d, v = .slice (some ⟨g, 0, none⟩) n d ∧ d ≠ 0 ∧ bk v = some g ∧ B ≤ g ∧ g < w.heap.size := by
  obtain ⟨s, n, d, rfl, hn, hf⟩ := h
  cases s with
  | none => exact .inl rfl
  | some x =>
    obtain ⟨g, rfl, hB, hc⟩ := hf.own x rfl
    by_cases hd : d = 0
    · exact .inl (if_pos hd)
    · obtain ⟨⟨y, hy⟩, _⟩ := hc 0 (by omega)
      exact .inr ⟨g, n, d, rfl, hd, if_neg hd, hB, cell_lt hy⟩
theorem Fs.ib {w : World} {B : Nat} {v : Value} (h : Fs w B v) : ∀ g, bk v = some g → B ≤ g ∧ g < w.heap.size := fun g hg => by
  rcases h.at with e | ⟨g', _, _, _, _, e, h1, h2⟩
  · rw [e] at hg; cases hg
  · rw [e] at hg; cases hg; exact ⟨h1, h2⟩
theorem Fs.kept {w w' : World} {B : Nat} {v : Value} {row : Option Nat} (h : Fs w B v) (hg : w.grownBy w' row) (hne : bk v = none ∨ bk v ≠ row) : Fs w' B v := by
  have ha := h.at
  obtain ⟨s, n, d, rfl, hn, hf⟩ := h
  refine ⟨s, n, d, rfl, hn, hf.room, hf.cap, hf.nil, fun x hx => ?_⟩
  obtain ⟨g, e, hB, r⟩ := hf.own x hx
  refine ⟨g, e, hB, fun i hi => ?_⟩
  obtain ⟨⟨y, hy⟩, hfz⟩ := r i hi
  have hbk : bk (.slice s n d) = some g := by
    rw [hx, e]
    exact if_neg (by omega)
  have hblk := hg.block g (cell_lt hy) (fun e2 => by
    rcases hne with h0 | h0
    · rw [hbk] at h0; cases h0
    · exact h0 (by rw [hbk, e2]))
  exact ⟨⟨y, by rw [World.cell?_of_block (a := ⟨g, i, none⟩) hblk]; exact hy⟩, by rw [World.frozen?_of_block (a := ⟨g, i, none⟩) hblk]; exact hfz⟩
theorem spoil_fs (w : World) (B : Nat) (v : Value) (m : Int) (h : Fs w B v) : Calls Try.prog 19 #[v, .int .u8 m] w fun e w' => e = .returned (.tuple #[]) ∧ w.grownBy w' (bk v) := by
  obtain ⟨s, n, d, rfl, hn, hf⟩ := h
  cases s with
  | none =>
    obtain ⟨rfl, rfl⟩ := hf.nil rfl
    exact (spoil_nil w m).mono fun _ _ h => ⟨h.1, grown_none.mpr h.2⟩
  | some x =>
    obtain ⟨g, rfl, hB, r⟩ := hf.own x rfl
    refine spoil_wrt w g n d m _ hn hf.room (fun i hi => ?_) (fun hd => if_neg hd)
    obtain ⟨⟨y, hy⟩, hfz⟩ := r i hi
    exact ⟨⟨_, hy⟩, hfz⟩
/-- A matrix and columns of the call's own. -/
def F3 (w w' : World) (e : Ending) : Prop := ∃ (R C : Int) (s : Option Addr) (N d : Nat) (ps : Option Addr) (t pd : Nat) (E : Int), e = .returned (.tuple #[mv R C s N d, .slice ps t pd, .int .i64 E]) ∧ Fs w' w.heap.size (.slice s N d) ∧ Below w.heap.size w w'
def F2 (w w' : World) (e : Ending) : Prop := ∃ (R C : Int) (s : Option Addr) (N d : Nat) (E : Int), e = .returned (.tuple #[mv R C s N d, .int .i64 E]) ∧ Fs w' w.heap.size (.slice s N d) ∧ Below w.heap.size w w'
def F1 (w w' : World) (e : Ending) : Prop := ∃ (s : Option Addr) (N d : Nat) (b : Bool) (E : Int), e = .returned (.tuple #[.slice s N d, .bool b, .int .i64 E]) ∧ Fs w' w.heap.size (.slice s N d) ∧ Below w.heap.size w w'
theorem red_f (w : World) (r c : Int) (n k : Nat) (a : Option Addr) (F : Nat → Nat) (ha : Mt w a n k F) : Calls Try.prog 62 #[mv r c a n k] w (fun e w' => F3 w w' e) := by
  by_cases h : RightP r c n
  · obtain ⟨r, c, rfl, rfl, R⟩ := right_rt h
    refine (gred_x w r c n k a F ha R).mono ?_
    rintro e w' ⟨⟨_, _, _, _, _, _, _, _, _, _, _, _, _, hb⟩, s, d, ps, t, pd, rfl, hf⟩
    exact ⟨r, c, s, n, d, ps, t, pd, 0, rfl, ⟨_, _, _, rfl, R.le, hf⟩, hb⟩
  · exact (gred_bad w r c n k a h).mono fun _ _ h => ⟨0, 0, none, 0, 0, none, 0, 0, 3, h.1, Fs.nil _ _, h.2⟩
theorem inv_f (w : World) (r c : Int) (n k : Nat) (a : Option Addr) (F : Nat → Nat) (ha : Mt w a n k F) : Calls Try.prog 26 #[mv r c a n k] w (fun e w' => F2 w w' e) := by
  by_cases h : RightP r c n ∧ r = c
  · obtain ⟨h, rfl⟩ := h
    obtain ⟨r, c, rfl, e, R⟩ := right_rt h
    obtain rfl : r = c := by omega
    refine (ginv_x w r n k a F ha R).mono ?_
    rintro e w' (⟨⟨_, _, _, _, _, _, hb⟩, _, s, d, rfl, hf⟩ | ⟨rfl, hb, _⟩)
    · exact ⟨r, r, s, n, d, 0, rfl, ⟨_, _, _, rfl, R.le, hf⟩, hb⟩
    · exact ⟨0, 0, none, 0, 0, 6, rfl, Fs.nil _ _, hb⟩
  · exact (ginv_bad w r c n k a h).mono fun _ _ h => ⟨0, 0, none, 0, 0, 3, h.1, Fs.nil _ _, h.2⟩
theorem ker_f (w : World) (r c : Int) (n k : Nat) (a : Option Addr) (F : Nat → Nat) (ha : Mt w a n k F) : Calls Try.prog 39 #[mv r c a n k] w (fun e w' => F2 w w' e) := by
  by_cases h : RightP r c n
  · obtain ⟨r, c, rfl, rfl, R⟩ := right_rt h
    refine (gker_x w r c n k a F ha R).mono ?_
    rintro e w' ⟨⟨s1, d1, kr1, t1, p1, G1, H1, e1, _, _, _, _, hk, _, hb⟩, s, N, d, kr, rfl, hf⟩
    have hN : N = kr1 * c := by
      simp only [Ending.returned.injEq, Value.tuple.injEq, Array.mk.injEq, List.cons.injEq, mv, Value.agg.injEq, Value.slice.injEq] at e1
      exact e1.1.2.2.1.2.1
    have hkr : kr1 ≤ 64 := by have := cnt_not (fre p1 t1) c; have := R.c64; omega
    exact ⟨kr, c, s, N, d, 0, rfl, ⟨_, _, _, rfl, by rw [hN]; exact Nat.mul_le_mul hkr R.c64, hf⟩, hb⟩
  · exact (gker_bad w r c n k a h).mono fun _ _ h => ⟨0, 0, none, 0, 0, 3, h.1, Fs.nil _ _, h.2⟩
theorem none_f {w w' : World} {e : Ending} {E : Int} (h : NoneP w w' e E) : F1 w w' e := ⟨none, 0, 0, false, E, h.1, Fs.nil _ _, h.2⟩
/-- All of the five are lists of their own, apart from each other. -/
structure Fiv (w : World) (B : Nat) (v : Nat → Value) : Prop where
  res : ∀ i, i < 5 → Fs w B (v i)
  apart : ∀ i j, i < 5 → j < 5 → i ≠ j → ∀ g, bk (v i) = some g → bk (v j) ≠ some g
def Ik (a b : Nat) (v : Value) : Prop := ∀ g, bk v = some g → a ≤ g ∧ g < b
theorem fiv {w : World} {a b c d e : Value} {B l0 u0 l1 u1 l2 u2 l3 u3 l4 u4 : Nat} (ra : Fs w B a) (rb : Fs w B b) (rc : Fs w B c) (rd : Fs w B d) (re : Fs w B e)
    (ia : Ik l0 u0 a) (ib : Ik l1 u1 b) (ic : Ik l2 u2 c) (id' : Ik l3 u3 d) (ie : Ik l4 u4 e) (h1 : u0 ≤ l1) (h2 : l1 ≤ u1) (h3 : u1 ≤ l2) (h4 : l2 ≤ u2) (h5 : u2 ≤ l3) (h6 : l3 ≤ u3) (h7 : u3 ≤ l4) : Fiv w B (vs5 a b c d e) := by
  refine ⟨?_, ?_⟩
  · intro i hi
    rcases (by omega : i = 0 ∨ i = 1 ∨ i = 2 ∨ i = 3 ∨ i = 4) with rfl | rfl | rfl | rfl | rfl
    · exact ra
    · exact rb
    · exact rc
    · exact rd
    · exact re
  · have H : ∀ i, i < 5 → ∃ lo hi, Ik lo hi (vs5 a b c d e i) ∧ (i = 0 → lo = l0 ∧ hi = u0) ∧ (i = 1 → lo = l1 ∧ hi = u1) ∧ (i = 2 → lo = l2 ∧ hi = u2) ∧ (i = 3 → lo = l3 ∧ hi = u3) ∧ (i = 4 → lo = l4 ∧ hi = u4) := by
      intro i hi
      rcases (by omega : i = 0 ∨ i = 1 ∨ i = 2 ∨ i = 3 ∨ i = 4) with rfl | rfl | rfl | rfl | rfl
      · exact ⟨_, _, ia, by omega⟩
      · exact ⟨_, _, ib, by omega⟩
      · exact ⟨_, _, ic, by omega⟩
      · exact ⟨_, _, id', by omega⟩
      · exact ⟨_, _, ie, by omega⟩
    intro i j hi hj hij x hx hy
    obtain ⟨a1, b1, n1, p1⟩ := H i hi
    obtain ⟨a2, b2, n2, p2⟩ := H j hj
    have := n1 x hx
    have := n2 x hy
    omega
/-- What the loop that spoils keeps. -/
structure Spv (wb wr : World) (gl : Nat) (v : Nat → Value) (cs : Array Value) (k : Nat) : Prop where
  res : ∀ j, k ≤ j → j < 5 → Fs wr wb.heap.size (v j)
  arr : wr.heap[gl]? = some (.cells cs 22 (0, 0))
  below : Below wb.heap.size wb wr
theorem spv_next {wb wr w' : World} {gl k : Nat} {v : Nat → Value} {cs : Array Value} (I : Spv wb wr gl v cs k) (hk : k < 5) (hg : wr.grownBy w' (bk (v k))) (ap : ∀ i j, i < 5 → j < 5 → i ≠ j → ∀ g, bk (v i) = some g → bk (v j) ≠ some g) (hgl : ∀ j, j < 5 → bk (v j) ≠ some gl) : Spv wb w' gl v cs (k + 1) := by
  refine ⟨fun j hj hj8 => (I.res j (by omega) hj8).kept hg ?_, ?_, ?_⟩
  · cases e : bk (v j) with
    | none => exact .inl rfl
    | some g => exact .inr (fun h => ap j k hj8 hk (by omega) g e h.symm)
  · rw [hg.block gl (lt_of_block I.arr) (fun e => hgl k hk e.symm)]; exact I.arr
  · cases e : bk (v k) with
    | none => rw [e] at hg; exact two_below I.below (grown_none.mp hg)
    | some g => rw [e] at hg; exact below_row I.below hg ((I.res k (Nat.le_refl _) hk).ib g e).1
end Go.Proofs.Ytblfldjlehjnbab
