/-
  Stage 19: answers that are one: Sizes and Choices of both sides.
  Stage 19: the anchor: one repair that the document fixes.
  Stage 19: what is answered is new memory, and one thing on both sides.
  Stage 19: for LocalFresh.
-/
import Derived.Test.YtblagbghpfopcaaGreatQffsh00
import Derived.Test.YtblagbghpfopcaaGreatQffsh49
import Derived.Test.YtblagbghpfopcaaGreatQffsh45
import Derived.Test.YtblagbghpfopcaaGreatQffsh03
import Derived.Test.YtblagbghpfopcaaGreatQffsh39
set_option maxRecDepth 100000
set_option maxHeartbeats 16000000
namespace Go.Proofs.YtblagbghpfopcaaGreat
open Go.RowKit Go.Shelf
/-- A property of a list and an error that only one list and one error have. -/
def Det (N : Nat → Int → (Nat → Int) → Prop) : Prop := ∀ L E q L' E' q', N L E q → N L' E' q' → L = L' ∧ E = E' ∧ ∀ n, n < L → q n = q' n
/-- A list and an error are answered. -/
def AnsN (K : IntKind) (N : Nat → Int → (Nat → Int) → Prop) (w w' : World) (e : Ending) : Prop := ∃ (s : Option Addr) (L d : Nat) (E : Int) (q : Nat → Int), e = .returned (.tuple #[.slice s L d, .int .i64 E]) ∧ L ≤ 9223372036854775807 ∧ Jl w' s K L q ∧ N L E q ∧ Below w.heap.size w w'
theorem Jo.max {w : World} {B n : Nat} {T : TypeId} {K : IntKind} {v : Value} {f : Nat → Nat} (h : Jo w B T K v n f) : n ≤ 9223372036854775807 := by
 rcases h.2 with ⟨_, h0⟩ | ⟨g, cap, cur, _, _, _, h1, h2, _⟩
 ·omega
 ·unfold maxLen at h2; omega
def SzN (M : Nat → Nat → Nat) (r : Nat) (C : Nat → Nat → Nat) (G : Nat → Nat → Nat → Nat) (L : Nat) (E : Int) (q : Nat → Int) : Prop :=
 (L = 0 ∧ E = 4 ∧ ∃ b, b < r ∧ SrP M r b (C b) (G b) 0 false 4) ∨ (L = r ∧ E = 0 ∧ ∀ i, i < r → SzP M r i (C i) (G i) (q i))
theorem SzA.ans {w w' : World} {e : Ending} {M : Nat → Nat → Nat} {r : Nat} {C : Nat → Nat → Nat} {G : Nat → Nat → Nat → Nat} (hr : r ≤ 64) (h : SzA w w' e M r C G) : AnsN .i64 (SzN M r C G) w w' e := by
 obtain ⟨hb, ⟨b, h1, h2, he⟩ | ⟨s, d, z, he, hz, hs⟩⟩ := h
 ·exact ⟨none, 0, 0, 4, fun _ => 0, he, by omega, fun i hi => by omega, .inl ⟨rfl, rfl, b, h1, h2⟩, hb⟩
 ·exact ⟨s, r, d, 0, z, he, by omega, hz.jl, .inr ⟨rfl, rfl, hs⟩, hb⟩
def ChN (M : Nat → Nat → Nat) (r b : Nat) (C : Nat → Nat) (G : Nat → Nat → Nat) (most : Int) (L : Nat) (E : Int) (q : Nat → Int) : Prop :=
  ∃ (x : Nat) (v : Bool) (er : Nat), SrP M r b C G x v er ∧
  ((er ≠ 0 ∧ L = 0 ∧ E = (er : Int)) ∨ (er = 0 ∧ most < 0 ∧ L = 0 ∧ E = 2) ∨ (er = 0 ∧ 0 ≤ most ∧ v = false ∧ L = 0 ∧ E = 0) ∨
   (er = 0 ∧ 0 ≤ most ∧ v = true ∧ 16384 < upv (r - 1) (cn x r : Int) ∧ L = 0 ∧ E = 4) ∨
   (er = 0 ∧ 0 ≤ most ∧ v = true ∧ ¬ 16384 < upv (r - 1) (cn x r : Int) ∧ E = 0 ∧ ∃ u : Nat → Nat, (∀ n, n < L → q n = (G (cn x r) (u n) : Int)) ∧ Enm (fun i => SS M r (G (cn x r) i) (M b)) most.toNat (C (cn x r)) L u))
theorem ChP.ans {w w' : World} {e : Ending} {M : Nat → Nat → Nat} {r b : Nat} {C : Nat → Nat} {G : Nat → Nat → Nat} {most : Int} (h : ChP w w' e M r b C G most) : AnsN .u64 (ChN M r b C G most) w w' e := by
 obtain ⟨x, v, er, hs, hb, h⟩ := h
 rcases h with ⟨a1, he⟩ | ⟨a1, a2, he⟩ | ⟨a1, a2, a3, he⟩ | ⟨a1, a2, a3, a4, he⟩ | ⟨a1, a2, a3, a4, s, L, d, u, he, hj, hn⟩
 ·exact ⟨none, 0, 0, _, fun _ => 0, he, by omega, fun i hi => by omega, ⟨x, v, er, hs, .inl ⟨a1, rfl, rfl⟩⟩, hb⟩
 ·exact ⟨none, 0, 0, _, fun _ => 0, he, by omega, fun i hi => by omega, ⟨x, v, er, hs, .inr (.inl ⟨a1, a2, rfl, rfl⟩)⟩, hb⟩
 ·exact ⟨none, 0, 0, _, fun _ => 0, he, by omega, fun i hi => by omega, ⟨x, v, er, hs, .inr (.inr (.inl ⟨a1, a2, a3, rfl, rfl⟩))⟩, hb⟩
 ·exact ⟨none, 0, 0, _, fun _ => 0, he, by omega, fun i hi => by omega, ⟨x, v, er, hs, .inr (.inr (.inr (.inl ⟨a1, a2, a3, a4, rfl, rfl⟩)))⟩, hb⟩
 ·exact ⟨s, L, d, 0, _, he, hj.max, hj.jl, ⟨x, v, er, hs, .inr (.inr (.inr (.inr ⟨a1, a2, a3, a4, rfl, u, fun n _ => rfl, hn⟩)))⟩, hb⟩
theorem bad_det (E0 : Int) : Det (fun L E _ => L = 0 ∧ E = E0) := by
 rintro L E q L' E' q' ⟨rfl, rfl⟩ ⟨rfl, rfl⟩
 exact ⟨rfl, rfl, fun n h => by omega⟩
open Go.RowKit Go.Shelf
attribute [local go_sem] Oper.semAt_some
theorem ss_two {M : Nat → Nat → Nat} {R s i j : Nat} {y : Nat → Nat} (h : SS M R s y) (h0 : ∀ q, q < R → bt s q = 1 → M q i = M q j) : y i = y j := by
 obtain ⟨a, _, hy⟩ := h
 rw [hy i, hy j]
 refine qa7 (fun q hq => ?_)
 show fm (a q) (mk M s q i) = fm (a q) (mk M s q j)
 unfold mk
 split
 ·rw [h0 q hq (by assumption)]
 ·rfl
theorem g5_need {t : Nat} (hb : ¬ bt t 0 = 1) (hs : SS (m2 g5 5 2) 5 t (m2 g5 5 2 0)) : bt t 1 = 1 ∧ (bt t 2 = 1 ∨ bt t 3 = 1) := by
 have five : ∀ q, q < 5 → q = 0 ∨ q = 1 ∨ q = 2 ∨ q = 3 ∨ q = 4 := fun q hq => by omega
 constructor
 ·refine Classical.byContradiction (fun hn => ?_)
  have h := ss_two (i := 0) (j := 1) hs (fun q hq hqb => by
   rcases five q hq with rfl | rfl | rfl | rfl | rfl
   ·exact absurd hqb hb
   ·exact absurd hqb hn
   ·decide
   ·decide
   ·decide)
  exact absurd h (by decide)
 ·refine Classical.byContradiction (fun hn => ?_)
  have h := ss_col (j := 0) hs (fun q hq hqb => by
   rcases five q hq with rfl | rfl | rfl | rfl | rfl
   ·exact absurd hqb hb
   ·decide
   ·exact absurd (Or.inl hqb) hn
   ·exact absurd (Or.inr hqb) hn
   ·decide)
  exact absurd h (by decide)
theorem g5_least : ∀ t, t < 32 → bt t 1 = 1 → (bt t 2 = 1 ∨ bt t 3 = 1) → 2 ≤ cn t 5 ∧ (cn t 5 = 2 → pla 6 5 ≤ pla t 5) := by decide +kernel
/-- The factors. -/
def p5 (i : Nat) : Nat := if i = 1 then 1 else if i = 2 then 1 else 0
theorem p5_el : El p5 := fun i => by
 unfold p5
 repeat' split
 all_goals decide
theorem g5_sum (j : Nat) : m2 g5 5 2 0 j = lc p5 (m2 g5 5 2) 5 j := by
 by_cases hj : j < 2
 ·rcases (by omega : j = 0 ∨ j = 1) with rfl | rfl <;> decide
 ·rw [qad _ (by omega)]
  exact (qag (fun i _ => by rw [qad _ (by omega), qa9])).symm
theorem g5_out (i : Nat) (h : ¬ bt 6 i = 1) : p5 i = 0 := by
 unfold p5
 by_cases h1 : i = 1
 ·subst h1; exact absurd (by decide) h
 ·by_cases h2 : i = 2
  ·subst h2; exact absurd (by decide) h
  ·rw [if_neg h1, if_neg h2]
theorem g5_comb : CmbS (m2 g5 5 2) 5 0 6 p5 :=
 ⟨p5_el, fun i hi => by
  rcases (by omega : i = 0 ∨ i = 1 ∨ i = 2 ∨ i = 3 ∨ i = 4) with rfl | rfl | rfl | rfl | rfl <;> decide, g5_out, g5_sum⟩
theorem g5_lst : LstS (m2 g5 5 2) 5 0 6 :=
 ⟨by decide, by decide, ⟨p5, p5_el, fun j => by rw [g5_sum j, ← lc_mk g5_out j]⟩, fun t ht htb hs => by
  obtain ⟨h1, h2⟩ := g5_need htb hs
  exact g5_least t ht h1 h2⟩
theorem g5_six : ∀ t, t < 32 → cn 6 5 = cn t 5 → pla 6 5 = pla t 5 → t = 6 := by decide +kernel
/-- Least's answer at the document's matrix. -/
theorem g5_ans {w w' : World} {e : Ending} {C : Nat → Nat} {f ix G : Nat → Nat → Nat} (O : qcn 5 0 C f ix G) (hC : ∀ k j, k < 5 → j < C k → sm19 C k + j ≠ 16384) (h : LeaP w w' e (m2 g5 5 2) 5 0 C G) : ∃ g : Nat, e = .returned (.tuple #[.int .u64 6, .slice (some ⟨g, 0, none⟩) 5 5, .bool true, .int .i64 0]) ∧ RowAt w' g 5 5 p5 ∧ w.heap.size ≤ g ∧ Below w.heap.size w w' := by
 rcases h with ⟨er, _, h, _⟩ | ⟨x, g, P, he, hs, hc, hr, hg, hb⟩
 ·rcases h with ⟨_, _, _, h4⟩ | ⟨h1, _⟩ | ⟨_, _, _, k, j, hk, hj, h4, _⟩
  ·exact absurd g5_lst.is (h4 6 (by decide) (by decide))
  ·exact absurd h1 (by decide)
  ·exact absurd h4 (hC k j hk hj)
 ·rcases hs.lst O (by decide) with ⟨_, h1, _⟩ | ⟨_, _, hl⟩ | ⟨_, h1, _⟩
  ·exact absurd h1 (by decide)
  ·obtain ⟨e1, e2⟩ := g5_lst.one hl
   have hx := g5_six x hl.lt e1 e2
   subst hx
   exact ⟨g, he, hr.congr (fun i hi => hc.one g5_el (by decide) hl g5_comb i hi), hg, hb⟩
  ·exact absurd h1 (by decide)
/-- All sets of the search are no more than the sets of all others. -/
theorem qko {C D : Nat → Nat} : ∀ k, (∀ i, i < k → C i = D i) → sm19 C k = sm19 D k := by
 intro k
 induction k with
 | zero => intro _; rfl
 | succ k ih => intro h; show sm19 C k + C k = sm19 D k + D k; rw [ih (fun i hi => h i (by omega)), h k (by omega)]
theorem qni : ∀ k, sm19 (bin 0) (k + 1) = 1 := by
 intro k
 induction k with
 | zero => rfl
 | succ k ih => show sm19 (bin 0) (k + 1) + bin 0 (k + 1) = 1; rw [ih, qgb]
theorem qnj (m : Nat) : ∀ k, sm19 (bin (m + 1)) (k + 1) = sm19 (bin m) (k + 1) + sm19 (bin m) k := by
 intro k
 induction k with
 | zero => show 0 + bin (m + 1) 0 = 0 + bin m 0 + 0; rw [qau, qau]
 | succ k ih =>
  show sm19 (bin (m + 1)) (k + 1) + bin (m + 1) (k + 1) = (sm19 (bin m) (k + 1) + bin m (k + 1)) + (sm19 (bin m) k + bin m k)
  rw [ih, qb4]
  omega
theorem sm19_bin : ∀ m k, sm19 (bin m) k ≤ 2 ^ m := by
 intro m
 induction m with
 | zero =>
  intro k
  cases k with
  | zero => exact Nat.zero_le _
  | succ k => rw [qni]; decide
 | succ m ih =>
  intro k
  cases k with
  | zero => exact Nat.zero_le _
  | succ k =>
   rw [qnj, Nat.pow_succ]
   have := ih (k + 1)
   have := ih k
   omega
theorem few19 {r b : Nat} {C : Nat → Nat} {f ix G : Nat → Nat → Nat} (O : qcn r b C f ix G) (hr : r ≤ 15) : ∀ k j, k < r → j < C k → sm19 C k + j ≠ 16384 := fun k j hk hj => by
 have h1 := sm19_bin (r - 1) (k + 1)
 rw [← qko (C := C) (k + 1) (fun i hi => (O i (by omega)).cnt)] at h1
 have h2 : 2 ^ (r - 1) ≤ 2 ^ 14 := Nat.pow_le_pow_right (by decide) (by omega)
 have h3 : (2 : Nat) ^ 14 = 16384 := by decide
 have h4 : sm19 C (k + 1) = sm19 C k + C k := rfl
 omega
theorem p5_row (w : World) : RowAt (w.alloc (.cells #[.int .u8 0, .int .u8 1, .int .u8 1, .int .u8 0, .int .u8 0] 5)) w.heap.size 5 5 p5 := by
 unfold RowAt
 rw [qcc]
 kernel_rfl
theorem anch19 (w : World) : Calls Tryz.prog 18 #[] w fun e w' => e = .returned (.bool true) ∧ Below w.heap.size w w' := by
 obtain ⟨C, fs, ix, G, O⟩ := qef 5 0 (by decide) (by decide)
 obtain ⟨f, HF⟩ : ∃ f, Hid (g5 = f) := ⟨_, rfl⟩
 obtain ⟨p, HP⟩ : ∃ p, Hid (p5 = p) := ⟨_, rfl⟩
 have HG : Hid (∀ w : World, Mt (w.alloc (.cells #[.int .u8 1, .int .u8 0, .int .u8 0, .int .u8 1, .int .u8 1, .int .u8 1, .int .u8 2, .int .u8 2, .int .u8 0, .int .u8 0] 5)) (some ⟨w.heap.size, 0, none⟩) 10 10 f) := fun w => by
  rw [← HF.out]
  exact (g5_row w).mt (fun i _ => g5_lt i)
 have HPr : Hid (∀ w : World, Mt (w.alloc (.cells #[.int .u8 0, .int .u8 1, .int .u8 1, .int .u8 0, .int .u8 0] 5)) (some ⟨w.heap.size, 0, none⟩) 5 5 p) := fun w => by
  rw [← HP.out]
  exact (p5_row w).mt (fun i _ => p5_el i)
 have HPe : Hid (∀ i, i < 5 → p i < 256) := fun i _ => by rw [← HP.out]; exact p5_el i
 have HL : Hid (∀ (w : World) (a : Option Addr), Mt w a 10 10 f → Calls Tryz.prog 7 #[mv 5 2 a 10 10, .int .i64 0] w fun e w' => ∃ g : Nat, e = .returned (.tuple #[.int .u64 6, .slice (some ⟨g, 0, none⟩) 5 5, .bool true, .int .i64 0]) ∧ RowAt w' g 5 5 p ∧ w.heap.size ≤ g ∧ Below w.heap.size w w') := fun w a h => by
  rw [← HF.out] at h
  rw [← HP.out]
  exact (qhf w 5 2 10 10 0 a g5 h g5_rt ⟨g5_rt.p, by decide, by decide⟩ (by decide) C fs ix G O).mono (fun e w' hh => g5_ans O (few19 O (by decide)) hh)
 clear HF HP O
 go_enter Tryz.func18, Tryz.ntmps18
 go_wp2_with (first
  | (go_at_call 7; refine (HL.out _ _ ((HG.out w).later (qa0 _ _))).mono ?_; rintro e w1 ⟨g, rfl, hr, hg, hb⟩; have HR1 : Hid (RowAt w1 g 5 5 p) := hr; have HB1 : Hid (Below w.heap.size w w1) := qa1 (qa1 (qa0 _ _) (qa0 _ _)) hb; clear hr hg hb)
  | (go_at_call 9; refine (same7 _ _ _ 5 5 5 p ((HR1.out.mt HPe.out).later (qa0 _ _)) (HPr.out w1)).mono ?_; rintro e w2 ⟨rfl, hb⟩; have HB2 : Hid (Below w.heap.size w w2) := qa1 (qa1 HB1.out (qa0 _ _)) hb; clear hb))
 go_ret
 exact ⟨rfl, HB2.out⟩
open Go.RowKit Go.Shelf
/-- A list that may be written, in a block from lo on and below hi. -/
def WrS (w : World) (s : Option Addr) (L : Nat) (lo hi : Nat) : Prop := L = 0 ∨ ∃ (g : Nat) (T : TypeId) (cs : Array Value), s = some ⟨g, 0, none⟩ ∧ lo ≤ g ∧ g < hi ∧ w.heap[g]? = some (.cells cs T (0, 0)) ∧ L ≤ cs.size
theorem WrS.kept {w w' : World} {s : Option Addr} {L lo hi : Nat} {row : Option Nat} (h : WrS w s L lo hi) (hg : w.grownBy w' row) (hr : ∀ g, row = some g → g < lo ∨ hi ≤ g) : WrS w' s L lo hi := by
 rcases h with h | ⟨g, T, cs, e, h1, h2, h3, h4⟩
 ·exact .inl h
 ·refine .inr ⟨g, T, cs, e, h1, h2, ?_, h4⟩
  rw [hg.block g (lt_of_block h3) (fun e => by have := hr g e.symm; omega)]
  exact h3
theorem WrS.later {w w' : World} {s : Option Addr} {L lo hi : Nat} (h : WrS w s L lo hi) (hb : Below w.heap.size w w') : WrS w' s L lo hi := h.kept (jgrown.mpr hb) (fun g e => by cases e)
theorem WrS.open {w : World} {s : Option Addr} {L lo hi i : Nat} (h : WrS w s L lo hi) (hi2 : i < L) : ∃ g y, s = some ⟨g, 0, none⟩ ∧ lo ≤ g ∧ g < hi ∧ w.cell? ⟨g, i, none⟩ = some y ∧ w.frozen? ⟨g, i, none⟩ = false ∧ ∀ v, WrS (w.setCell ⟨g, i, none⟩ v) s L lo hi := by
 rcases h with h | ⟨g, T, cs, e, h1, h2, h3, h4⟩
 ·omega
 ·refine ⟨g, cs[i]'(by omega), e, h1, h2, ?_, ?_, fun v => .inr ⟨g, T, cs.setIfInBounds i v, e, h1, h2, ?_, by simpa using h4⟩⟩
  ·rw [cell_of_row w g i _ _ _ h3, Array.getElem?_eq_getElem (by omega)]
  ·simp [World.frozen?, h3]
  ·rw [setCell_eq_setRow w g i _ _ (0, 0) _ h3, setRow_heap w g _ _ _ (0, 0) h3]
theorem Jo.wr {w : World} {B L d hi : Nat} {T : TypeId} {K : IntKind} {s : Option Addr} {f : Nat → Nat} (h : Jo w B T K (.slice s L d) L f) (hh : w.heap.size ≤ hi) : WrS w s L B hi := by
 rcases h.2 with ⟨_, h0⟩ | ⟨g, cap, cur, e, hb, hg, h1, _, hs, _⟩
 ·exact .inl h0
 ·cases e
  exact .inr ⟨g, T, cur, rfl, hb, by have := lt_of_block hg; omega, hg, by omega⟩
theorem Zo.wr {w : World} {B L d hi : Nat} {s : Option Addr} {f : Nat → Int} (h : Zo w B (.slice s L d) L f) (hh : w.heap.size ≤ hi) : WrS w s L B hi := by
 rcases h.2 with ⟨_, h0⟩ | ⟨g, cap, cur, e, hb, hg, h1, _, hs, _⟩
 ·exact .inl h0
 ·cases e
  exact .inr ⟨g, _, cur, rfl, hb, by have := lt_of_block hg; omega, hg, by omega⟩
/-- A list that may be written is answered. -/
def AnsW (w w' : World) (e : Ending) : Prop := ∃ (s : Option Addr) (L d : Nat) (E : Int), e = .returned (.tuple #[.slice s L d, .int .i64 E]) ∧ L ≤ 9223372036854775807 ∧ WrS w' s L w.heap.size w'.heap.size ∧ Below w.heap.size w w'
theorem qc0 {w w' : World} {e : Ending} {E : Int} (he : e = .returned (.tuple #[.slice none 0 0, .int .i64 E])) (hb : Below w.heap.size w w') : AnsW w w' e := ⟨none, 0, 0, E, he, by omega, .inl rfl, hb⟩
theorem ChP.answ {w w' : World} {e : Ending} {M : Nat → Nat → Nat} {r b : Nat} {C : Nat → Nat} {G : Nat → Nat → Nat} {most : Int} (h : ChP w w' e M r b C G most) : AnsW w w' e := by
 obtain ⟨x, v, er, hs, hb, h⟩ := h
 rcases h with ⟨a1, he⟩ | ⟨a1, a2, he⟩ | ⟨a1, a2, a3, he⟩ | ⟨a1, a2, a3, a4, he⟩ | ⟨a1, a2, a3, a4, s, L, d, u, he, hj, hn⟩
 ·exact qc0 he hb
 ·exact qc0 he hb
 ·exact qc0 he hb
 ·exact qc0 he hb
 ·exact ⟨s, L, d, 0, he, hj.max, hj.wr (Nat.le_refl _), hb⟩
theorem SzA.answ {w w' : World} {e : Ending} {M : Nat → Nat → Nat} {r : Nat} {C : Nat → Nat → Nat} {G : Nat → Nat → Nat → Nat} (hr : r ≤ 64) (h : SzA w w' e M r C G) : AnsW w w' e := by
 obtain ⟨hb, ⟨b, h1, h2, he⟩ | ⟨s, d, z, he, hz, hs⟩⟩ := h
 ·exact qc0 he hb
 ·exact ⟨s, r, d, 0, he, by omega, hz.wr (Nat.le_refl _), hb⟩
theorem sizes_w (w' : World) (r c : Int) (n k : Nat) (a : Option Addr) (F : Nat → Nat) (ha : Mt w' a n k F) : Calls Tryz.prog 10 #[mv r c a n k] w' fun e w'' => AnsW w' w'' e := by
 by_cases h : GenQ r c n
 ·have hq := h
  obtain ⟨r, c, rfl, rfl, R, _, _⟩ := h.nat
  have hr := R.r64
  obtain ⟨C, f, ix, G, O⟩ : ∃ (C : Nat → Nat → Nat) (f ix G : Nat → Nat → Nat → Nat), ∀ b, b < r → qcn r b (C b) (f b) (ix b) (G b) := by
   have h : ∀ b, ∃ x : (Nat → Nat) × (Nat → Nat → Nat) × (Nat → Nat → Nat) × (Nat → Nat → Nat), b < r → qcn r b x.1 x.2.1 x.2.2.1 x.2.2.2 := fun b => by
    by_cases hb : b < r
    ·obtain ⟨C, f, ix, G, h⟩ := qef r b hr hb
     exact ⟨(C, f, ix, G), fun _ => h⟩
    ·exact ⟨(id, fun _ => id, fun _ => id, fun _ => id), fun h => absurd h hb⟩
   obtain ⟨x, hx⟩ := Classical.skolem.mp h
   exact ⟨fun b => (x b).1, fun b => (x b).2.1, fun b => (x b).2.2.1, fun b => (x b).2.2.2, hx⟩
  exact (qnh w' r c n k a F ha R hq C f ix G O).mono (fun e w'' h => h.answ hr)
 ·exact (qkn w' r c n k a h).mono (fun e w'' h => qc0 h.1 h.2)
theorem qnk (w' : World) (r c b most : Int) (n k : Nat) (a : Option Addr) (F : Nat → Nat) (ha : Mt w' a n k F) : Calls Tryz.prog 12 #[mv r c a n k, .int .i64 b, .int .i64 most] w' fun e w'' => AnsW w' w'' e := by
 obtain ⟨E, hE⟩ := wrg_ex r c b n
 by_cases h0 : E = 0
 ·subst h0
  rcases hE with ⟨_, h⟩ | ⟨_, _, h⟩ | ⟨hq, hb, _⟩
  ·exact absurd h (by decide)
  ·exact absurd h (by decide)
  ·obtain ⟨r, c, rfl, rfl, R, _, _⟩ := hq.nat
   obtain ⟨b, rfl⟩ := Int.eq_ofNat_of_zero_le hb.1
   have hbr : b < r := by omega
   obtain ⟨C, f, ix, G, O⟩ := qef r b R.r64 hbr
   exact (qi4 w' r c n k b most a F ha R hq hbr C f ix G O).mono (fun e w'' h => h.answ)
 ·exact (qhg w' r c b E most n k a hE h0).mono (fun e w'' h => qc0 h.1 h.2)
/-- What Least answers: factors in new memory. -/
def AnsL (N : Nat → Int → (Nat → Int) → Prop) (w w' : World) (e : Ending) : Prop := ∃ (x : Nat) (v : Bool) (s : Option Addr) (L : Nat) (E : Int) (P : Nat → Nat), e = .returned (.tuple #[.int .u64 (x : Int), .slice s L L, .bool v, .int .i64 E]) ∧ ((s = none ∧ L = 0) ∨ ∃ g, s = some ⟨g, 0, none⟩ ∧ w.heap.size ≤ g ∧ RowAt w' g 5 L P) ∧ L ≤ 64 ∧ (∀ i, i < L → P i < 256) ∧ N L E (fun i => (P i : Int)) ∧ Below w.heap.size w w'
def LeN (M : Nat → Nat → Nat) (r b : Nat) (C : Nat → Nat) (G : Nat → Nat → Nat) (L : Nat) (E : Int) (q : Nat → Int) : Prop :=
 (L = 0 ∧ ∃ er : Nat, SrP M r b C G 0 false er ∧ E = (er : Int)) ∨ (L = r ∧ E = 0 ∧ ∃ (x : Nat) (P : Nat → Nat), SrP M r b C G x true 0 ∧ CmbS M r b x P ∧ ∀ i, i < r → q i = (P i : Int))
theorem len_det {M : Nat → Nat → Nat} (hM : El2 M) {r b : Nat} {C : Nat → Nat} {f ix G : Nat → Nat → Nat} (hr : r ≤ 64) (O : qcn r b C f ix G) (hb : b < r) : Det (LeN M r b C G) := by
 rintro L E q L' E' q' (⟨rfl, er, h1, rfl⟩ | ⟨rfl, rfl, x, P, h1, h2, h3⟩) (⟨rfl, er', h1', rfl⟩ | ⟨rfl, rfl, x', P', h1', h2', h3'⟩)
 ·obtain ⟨_, _, e⟩ := SrP.one O hb h1 h1'
  exact ⟨rfl, by rw [e], fun n h => by omega⟩
 ·exact absurd (SrP.one O hb h1 h1').2.1 (by decide)
 ·exact absurd (SrP.one O hb h1 h1').2.1 (by decide)
 ·obtain ⟨e, _, _⟩ := SrP.one O hb h1 h1'
  subst e
  have hl : LstS M L' b x := by
   rcases h1.lst O hb with ⟨_, h, _⟩ | ⟨_, _, hl⟩ | ⟨_, h, _⟩
   ·exact absurd h (by decide)
   ·exact hl
   ·exact absurd h (by decide)
  exact ⟨rfl, rfl, fun n hn => by rw [h3 n hn, h3' n hn, h2.one hM hr hl h2' n hn]⟩
theorem LeaP.ans {w w' : World} {e : Ending} {M : Nat → Nat → Nat} {r b : Nat} {C : Nat → Nat} {G : Nat → Nat → Nat} (hr : r ≤ 64) (h : LeaP w w' e M r b C G) : AnsL (LeN M r b C G) w w' e := by
 rcases h with ⟨er, he, hs, hb⟩ | ⟨x, g, P, he, hs, hc, hrow, hg, hb⟩
 ·exact ⟨0, false, none, 0, er, fun _ => 0, he, .inl ⟨rfl, rfl⟩, by omega, fun i hi => by omega, .inl ⟨rfl, er, hs, rfl⟩, hb⟩
 ·exact ⟨x, true, _, r, 0, P, he, .inr ⟨g, rfl, hg, hrow⟩, hr, fun i _ => hc.el i, .inr ⟨rfl, rfl, x, P, hs, hc, fun i _ => rfl⟩, hb⟩
theorem qjm {E0 : Int} {w w' : World} {e : Ending} (h : e = .returned (.tuple #[.int .u64 0, .slice none 0 0, .bool false, .int .i64 E0]) ∧ Below w.heap.size w w') : AnsL (fun L E _ => L = 0 ∧ E = E0) w w' e :=
 ⟨0, false, none, 0, E0, fun _ => 0, h.1, .inl ⟨rfl, rfl⟩, by omega, fun i hi => by omega, ⟨rfl, rfl⟩, h.2⟩
/-- Both sides' Least answer one thing of matrices that read the same. -/
theorem qnl (r c b : Int) (n : Nat) (F : Nat → Nat) (hF : ∀ i, i < n → F i < 256) : ∃ N, Det N ∧ (∀ w' a k, Mt w' a n k F → Calls Tryz.prog 7 #[mv r c a n k, .int .i64 b] w' fun e w'' => AnsL N w' w'' e) ∧ (∀ w' a k, Mt w' a n k F → Calls Tryz.prog 8 #[mv r c a n k, .int .i64 b] w' fun e w'' => AnsL N w' w'' e) := by
 obtain ⟨E, hE⟩ := wrg_ex r c b n
 by_cases h0 : E = 0
 ·subst h0
  rcases hE with ⟨_, h⟩ | ⟨_, _, h⟩ | ⟨hq, hb, _⟩
  ·exact absurd h (by decide)
  ·exact absurd h (by decide)
  ·obtain ⟨r, c, rfl, rfl, R, _, _⟩ := hq.nat
   obtain ⟨b, rfl⟩ := Int.eq_ofNat_of_zero_le hb.1
   have hbr : b < r := by omega
   have hr := R.r64
   obtain ⟨C, f, ix, G, O⟩ := qef r b hr hbr
   exact ⟨_, len_det (qax hF R) hr O hbr, fun w' a k ha => (qhf w' r c n k b a F ha R hq hbr C f ix G O).mono (fun e w'' h => h.ans hr), fun w' a k ha => (qi7 w' r c n k b a F ha R hq hbr C f ix G O).mono (fun e w'' h => h.ans hr)⟩
 ·exact ⟨_, bad_det E, fun w' a k _ => (qkm w' r c b E n k a hE h0).mono (fun e w'' h => qjm h), fun w' a k _ => (qhh w' r c b E n k a hE h0).mono (fun e w'' h => qjm h)⟩
/-- The factors are written over. -/
theorem spoil19 (w : World) (s : Option Addr) (L B : Nat) (P : Nat → Nat) (hL : L ≤ 64) (h : (s = none ∧ L = 0) ∨ ∃ g, s = some ⟨g, 0, none⟩ ∧ B ≤ g ∧ RowAt w g 5 L P) : ∃ row : Option Nat, (∀ g, row = some g → B ≤ g ∧ ∃ gg, s = some ⟨gg, 0, none⟩ ∧ g = gg) ∧ Calls Tryz.prog 23 #[.slice s L L, .int .u8 9] w fun e w' => e = .returned (.tuple #[]) ∧ w.grownBy w' row := by
 rcases h with ⟨rfl, rfl⟩ | ⟨g, rfl, hg, hrow⟩
 ·exact ⟨none, (fun g e => by cases e), (qlb w 9).mono (fun e w' h => ⟨h.1, jgrown.mpr h.2⟩)⟩
 ·exact ⟨some g, (fun g' e => by cases e; exact ⟨hg, g, rfl, rfl⟩), qla w g L 9 P (by omega) hrow⟩
open Go.RowKit Go.Shelf
theorem qnm {w w' : World} {s : Option Addr} {L : Nat} {P : Nat → Nat} (h : (s = none ∧ L = 0) ∨ ∃ g, s = some ⟨g, 0, none⟩ ∧ w.heap.size ≤ g ∧ RowAt w' g 5 L P) (hP : ∀ i, i < L → P i < 256) : Sl w' s L P := by
 rcases h with ⟨rfl, rfl⟩ | ⟨g, rfl, _, hr⟩
 ·exact Sl.nil _ _ _
 ·exact hr.sl hP
theorem sl_same {w : World} {s : Option Addr} {L : Nat} {P Q : Nat → Nat} (h : Sl w s L Q) (hP : ∀ i, i < L → P i < 256) (e : ∀ n, n < L → (P n : Int) = (Q n : Int)) : Sl w s L P := by
 refine ⟨hP, fun i hi => ?_⟩
 obtain ⟨b, o, e1, hc⟩ := h.2 i hi
 refine ⟨b, o, e1, ?_⟩
 rw [e i hi]
 exact hc
end Go.Proofs.YtblagbghpfopcaaGreat
