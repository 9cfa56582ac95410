/-
  Stage 19: the search's answer is one.
  Stage 19: Sizes of both sides.
  Stage 19: answers that are one: Sizes and Choices of both sides.
-/
import Derived.Test.YtblagbghpfopcaaGreatQsses00
import Derived.Test.YtblagbghpfopcaaGreatQsses46
import Derived.Test.YtblagbghpfopcaaGreatQsses49
set_option maxRecDepth 100000
set_option maxHeartbeats 16000000
namespace Go.Proofs.YtblagbghpfopcaaGreat
open Go.RowKit Go.Shelf
theorem qms (C : Nat → Nat) (k : Nat) : ∀ d, sm19 C k ≤ sm19 C (k + d) := by
 intro d
 induction d with
 | zero => exact Nat.le_refl _
 | succ d ih => show sm19 C k ≤ sm19 C (k + d) + C (k + d); omega
theorem NoneB.before {M : Nat → Nat → Nat} {r b k j k' j' : Nat} {C : Nat → Nat} {G : Nat → Nat → Nat} (h : NoneB M r b C G k' j') (hj : j < C k) (hj' : j' < C k') (hs : SS M r (G k j) (M b)) (hl : sm19 C k + j < sm19 C k' + j') : False := by
 rcases Nat.lt_trichotomy k k' with h1 | h1 | h1
 ·exact h k j (.inl ⟨h1, hj⟩) hs
 ·subst h1
  exact h k j (.inr ⟨rfl, by omega⟩) hs
 ·have h2 := qms C (k' + 1) (k - (k' + 1))
  rw [show k' + 1 + (k - (k' + 1)) = k by omega] at h2
  have h3 : sm19 C (k' + 1) = sm19 C k' + C k' := rfl
  omega
theorem SrP.one {M : Nat → Nat → Nat} {r b x x' e e' : Nat} {v v' : Bool} {C : Nat → Nat} {f ix G : Nat → Nat → Nat} (O : qc7 r b C f ix G) (hb : b < r) (h : SrP M r b C G x v e) (h2 : SrP M r b C G x' v' e') : x = x' ∧ v = v' ∧ e = e' := by
 rcases h with ⟨a1, a2, a3, a4⟩ | ⟨a1, a2, k, j, hk, hj, a3, a4, a5, a6⟩ | ⟨a1, a2, a3, k, j, hk, hj, a4, a5, t, a6, a7, a8⟩
 ·rcases h2 with ⟨b1, b2, b3, b4⟩ | ⟨b1, b2, k', j', hk', hj', b3, b4, b5, b6⟩ | ⟨b1, b2, b3, k', j', hk', hj', b4, b5, t', b6, b7, b8⟩
  ·exact ⟨by rw [a1, b1], by rw [a2, b2], by rw [a3, b3]⟩
  ·rw [b3] at b5
   exact absurd b5 (a4 _ ((O k' hk').lt j' hj') ((O k' hk').none j' hj'))
  ·exact absurd b8 (a4 _ b6 b7)
 ·have hl := SrP.lst O hb (.inr (.inl ⟨a1, a2, k, j, hk, hj, a3, a4, a5, a6⟩))
  rcases h2 with ⟨b1, b2, b3, b4⟩ | ⟨b1, b2, k', j', hk', hj', b3, b4, b5, b6⟩ | ⟨b1, b2, b3, k', j', hk', hj', b4, b5, t', b6, b7, b8⟩
  ·rw [a3] at a5
   exact absurd a5 (b4 _ ((O k hk).lt j hj) ((O k hk).none j hj))
  ·have hl2 := SrP.lst O hb (.inr (.inl ⟨b1, b2, k', j', hk', hj', b3, b4, b5, b6⟩))
   rcases hl with ⟨_, c, _⟩ | ⟨_, _, c⟩ | ⟨_, c, _⟩
   ·rw [a1] at c; cases c
   ·rcases hl2 with ⟨_, d, _⟩ | ⟨_, _, d⟩ | ⟨_, d, _⟩
    ·rw [b1] at d; cases d
    ·obtain ⟨e1, e2⟩ := c.one d
     refine ⟨?_, by rw [a1, b1], by rw [a2, b2]⟩
     rw [← qcl r x c.lt, ← qcl r x' d.lt, e1, e2]
    ·rw [b1] at d; cases d
   ·rw [a1] at c; cases c
  ·rw [a3] at a5
   exact (b5.before hj hj' a5 (by omega)).elim
 ·rcases h2 with ⟨b1, b2, b3, b4⟩ | ⟨b1, b2, k', j', hk', hj', b3, b4, b5, b6⟩ | ⟨b1, b2, b3, k', j', hk', hj', b4, b5, t', b6, b7, b8⟩
  ·exact absurd a8 (b4 _ a6 a7)
  ·rw [b3] at b5
   exact (a5.before hj' hj b5 (by omega)).elim
  ·exact ⟨by rw [a1, b1], by rw [a2, b2], by rw [a3, b3]⟩
open Go.RowKit Go.Shelf
attribute [local go_sem] Oper.semAt_some
/-- The cells of a list of n numbers of a kind. -/
def zrow (K : IntKind) (n : Nat) (f : Nat → Int) : Array Value := (Array.range n).map fun i => .int K (f i)
theorem qci (K : IntKind) (n : Nat) (f : Nat → Int) : (zrow K n f).size = n := by simp [zrow]
theorem qdf (K : IntKind) (n : Nat) (f : Nat → Int) (i : Nat) (h : i < n) : (zrow K n f)[i]? = some (.int K (f i)) := by simp [zrow, h]
theorem zrow_set (K : IntKind) (n : Nat) (f : Nat → Int) (i : Nat) (v : Int) : (zrow K n f).setIfInBounds i (.int K v) = zrow K n (fun j => if j = i then v else f j) := by
 apply Array.ext
 ·simp [zrow]
 ·intro j h1 h2
  by_cases e : i = j
  ·subst e; simp [zrow]
  ·rw [Array.getElem_setIfInBounds_ne (by simpa using h1) e]; simp [zrow, Ne.symm e]
theorem qmt (K : IntKind) (n : Nat) (f : Nat → Int) (v : Int) : (zrow K n f).toList ++ [.int K (v : Int)] = (zrow K (n + 1) (fun i => if i = n then v else f i)).toList := by
 apply List.ext_getElem?
 intro i
 have hl : (zrow K n f).toList.length = n := by simp [qci]
 by_cases h1 : i < n
 ·rw [List.getElem?_append_left (by omega), Array.getElem?_toList, Array.getElem?_toList, qdf K n f i h1, qdf K (n + 1) _ i (by omega), if_neg (by omega)]
 ·rw [List.getElem?_append_right (by omega), hl]
  by_cases h2 : i = n
  ·subst h2
   have e2 : (zrow K (i + 1) (fun t => if t = i then v else f t)).toList[i]? = some (.int K v) := by rw [Array.getElem?_toList, qdf K (i + 1) _ i (by omega), if_pos rfl]
   rw [Nat.sub_self, e2]; rfl
  ·have l2 : (zrow K (n + 1) (fun i => if i = n then v else f i)).toList.length = n + 1 := by simp [qci]
   rw [List.getElem?_eq_none (by simp; omega), List.getElem?_eq_none (by omega)]
/-- A block of n numbers. -/
def ZAt (w : World) (b : Nat) (n : Nat) (f : Nat → Int) : Prop := w.heap[b]? = some (.cells (zrow .i64 n f) 3 (0, 0))
theorem ZAt.cell {w : World} {b n : Nat} {f : Nat → Int} (h : ZAt w b n f) (i : Nat) (hi : i < n) : w.cell? ⟨b, i, none⟩ = some (.int .i64 (f i)) := by
 rw [cell_of_row w b i _ _ _ h, qdf .i64 n f i hi]
theorem ZAt.free {w : World} {b n : Nat} {f : Nat → Int} (h : ZAt w b n f) (i : Nat) : w.frozen? ⟨b, i, none⟩ = false := by
 unfold ZAt at h
 simp [World.frozen?, h]
theorem ZAt.lt {w : World} {b n : Nat} {f : Nat → Int} (h : ZAt w b n f) : b < w.heap.size := lt_of_block h
theorem ZAt.set {w : World} {b n : Nat} {f : Nat → Int} (h : ZAt w b n f) (i : Nat) (v : Int) : ZAt (w.setCell ⟨b, i, none⟩ (.int .i64 v)) b n (fun j => if j = i then v else f j) := by
 unfold ZAt at *
 rw [setCell_eq_setRow w b i _ _ (0, 0) _ h, setRow_heap w b _ _ _ (0, 0) h, zrow_set]
theorem ZAt.later {w w' : World} {b n : Nat} {f : Nat → Int} (h : ZAt w b n f) (hb : Below w.heap.size w w') : ZAt w' b n f := by unfold ZAt; rw [hb.block b h.lt]; exact h
theorem ZAt.of_j {w : World} {b n : Nat} (h : JAt w b 3 .i64 n (fun _ => 0)) : ZAt w b n (fun _ => 0) := by
 unfold ZAt
 unfold JAt at h
 rw [h]
 rfl
/-- Numbers of the call's own. -/
def Zo (w : World) (B : Nat) (v : Value) (n : Nat) (f : Nat → Int) : Prop := w.ownsRow B 3 1 v n (zrow .i64 n f).toList
theorem Zo.nil (w : World) (B : Nat) (f : Nat → Int) : Zo w B (.slice none 0 0) 0 f := by
 unfold Zo
 have e : (zrow .i64 0 f).toList = [] := by simp [zrow]
 rw [e]
 exact World.ownsRow_nil _ _ _ _
theorem ZAt.zo {w : World} {B g n : Nat} {f : Nat → Int} (h : ZAt w g n f) (hn : n ≤ 140737488351232) (hB : B ≤ g) : Zo w B (.slice (some ⟨g, 0, none⟩) n n) n f :=
 ⟨by simp [qci], .inr ⟨g, n, zrow .i64 n f, rfl, hB, h, Nat.le_refl _, by unfold maxLen; omega, by simp [qci], List.take_of_length_le (by simp [qci])⟩⟩
theorem Zo.jl {w : World} {B n d : Nat} {s : Option Addr} {f : Nat → Int} (h : Zo w B (.slice s n d) n f) : Jl w s .i64 n f := fun i hi => by
 rcases h.2 with ⟨e, h0⟩ | ⟨g, cap, cur, e, _, hg, h1, _, hs, ht⟩
 ·omega
 ·cases e
  refine ⟨g, 0, rfl, ?_⟩
  rw [Nat.zero_add, cell_of_row w g i _ _ _ hg]
  have h2 : (cur.toList.take (n * 1))[i]? = (zrow .i64 n f).toList[i]? := by rw [ht]
  rw [List.getElem?_take_of_lt (by omega), Array.getElem?_toList, Array.getElem?_toList, qdf .i64 n f i hi] at h2
  exact h2
theorem Zo.later {w w' : World} {B n : Nat} {v : Value} {f : Nat → Int} (h : Zo w B v n f) (hb : Below w.heap.size w w') : Zo w' B v n f := World.ownsRow.kept h (jgrown.mpr hb) (by cases hv : v.ownBlock <;> simp)
theorem Zo.form {w : World} {B n : Nat} {v : Value} {f : Nat → Int} (h : Zo w B v n f) : ∃ s d, v = .slice s n d ∧ (s = none → n = 0 ∧ d = 0) := by
 rcases h.2 with ⟨e, h0⟩ | ⟨g, cap, cur, e, _⟩
 ·exact ⟨none, 0, by rw [e, h0], fun _ => ⟨h0, rfl⟩⟩
 ·exact ⟨_, cap, e, fun e => by cases e⟩
theorem qjf (w : World) (t : TypeId) (x : Int) : ∀ j u, [Value.int .i64 x][j]? = some u → (w.alloc (.cells #[.int .i64 x] t)).cell? ((⟨w.heap.size, 0, none⟩ : Addr).add j) = some u := by
 intro j u hj
 match j, hj with
 | 0, hj => simp at hj; subst hj; simp [Addr.add]
theorem qjg (x : Int) : ∀ u ∈ [Value.int .i64 x], u.oneCell' = true := by intro u hu; simp at hu; subst hu; rfl
theorem Zo.push {w w2 : World} {B n : Nat} {v v' : Value} {f : Nat → Int} {x : Int} {o : Obj} (h : Zo w B v n f) (hB : B ≤ w.heap.size)
  (hown : w2.ownsRow B 3 1 v' (n + 1) ((zrow .i64 n f).toList ++ [.int .i64 x])) (hg : (w.alloc o).grownBy w2 v.ownBlock) : Zo w2 B v' (n + 1) (fun i => if i = n then x else f i) ∧ Below B w w2 := by
 refine ⟨?_, ?_⟩
 ·unfold Zo
  rw [← qmt]
  exact hown
 ·have h1 : Below B w (w.alloc o) := (jlow w o).mono hB
  exact h1.trans (jbelow hg (by simp; omega) (fun k hk => by
   rcases h.2 with ⟨e, _⟩ | ⟨g, cap, cur, e, hb, _⟩
   ·rw [e] at hk; cases hk
   ·rw [e] at hk
    have : g = k := Option.some.inj hk
    omega))
/-- The size that is told of a block. -/
def SzP (M : Nat → Nat → Nat) (r b : Nat) (C : Nat → Nat) (G : Nat → Nat → Nat) (z : Int) : Prop := ∃ (x : Nat) (v : Bool), SrP M r b C G x v 0 ∧ z = (if v = true then (cn x r : Int) else -1)
theorem szp_one {M : Nat → Nat → Nat} {r b : Nat} {C : Nat → Nat} {f ix G : Nat → Nat → Nat} {z z' : Int} (O : qc7 r b C f ix G) (hb : b < r) (h : SzP M r b C G z) (h' : SzP M r b C G z') : z = z' := by
 obtain ⟨x, v, h1, rfl⟩ := h
 obtain ⟨x', v', h2, rfl⟩ := h'
 obtain ⟨rfl, rfl, _⟩ := SrP.one O hb h1 h2
 rfl
/-- What Sizes answers of a generator. -/
def SzA (w w' : World) (e : Ending) (M : Nat → Nat → Nat) (r : Nat) (C : Nat → Nat → Nat) (G : Nat → Nat → Nat → Nat) : Prop := Below w.heap.size w w' ∧
  ((∃ b, b < r ∧ SrP M r b (C b) (G b) 0 false 4 ∧ e = .returned (.tuple #[.slice none 0 0, .int .i64 4])) ∨
   (∃ (s : Option Addr) (d : Nat) (z : Nat → Int), e = .returned (.tuple #[.slice s r d, .int .i64 0]) ∧ Zo w' w.heap.size (.slice s r d) r z ∧ ∀ i, i < r → SzP M r i (C i) (G i) (z i)))
theorem qkc (w : World) (r c : Int) (n k : Nat) (a : Option Addr) (h : ¬ GenQ r c n) :
  Calls Tryz.prog 10 #[mv r c a n k] w fun e w' => e = .returned (.tuple #[.slice none 0 0, .int .i64 3]) ∧ Below w.heap.size w w' := by
 have HP : Hid (∀ w' : World, Calls Tryz.prog 40 #[mv r c a n k] w' fun e w'' => e = .returned (.bool false) ∧ Below w'.heap.size w' w'') := fun w' => qh1 w' r c n k a false (by simp [h])
 clear h
 go_enter Tryz.func10, Tryz.ntmps10
 go_wp2_with (go_at_call 40; refine (HP.out _).mono ?_; rintro e w1 ⟨rfl, hb⟩; have HB1 : Hid (Below w.heap.size w w1) := qa0 (qa1 _ _) hb; clear hb)
 refine bodyPost_ret (v := .tuple #[.slice none 0 0, .int .i64 3]) (by simp [results, Tryz.results10, go_sem]) rfl ?_
 exact ⟨rfl, HB1.out⟩
theorem qkd (w : World) (r c : Int) (n k : Nat) (a : Option Addr) (h : ¬ GenQ r c n) :
  Calls Tryz.prog 11 #[mv r c a n k] w fun e w' => e = .returned (.tuple #[.slice none 0 0, .int .i64 3]) ∧ Below w.heap.size w w' := by
 have HP : Hid (∀ w' : World, Calls Tryz.prog 42 #[mv r c a n k] w' fun e w'' => e = .returned (.bool false) ∧ Below w'.heap.size w' w'') := fun w' => qh2 w' r c n k a false (by simp [h])
 clear h
 go_enter Tryz.func11, Tryz.ntmps11
 go_wp2_with (go_at_call 42; refine (HP.out _).mono ?_; rintro e w1 ⟨rfl, hb⟩; have HB1 : Hid (Below w.heap.size w w1) := qa0 (qa1 _ _) hb; clear hb)
 refine bodyPost_ret (v := .tuple #[.slice none 0 0, .int .i64 3]) (by simp [results, Tryz.results11, go_sem]) rfl ?_
 exact ⟨rfl, HB1.out⟩
theorem qmu (w : World) (r c n k : Nat) (a : Option Addr) (F : Nat → Nat) (ha : Mt w a n k F) (R : Rt r c n) (hg : GenQ r c n) (C : Nat → Nat → Nat) (f ix G : Nat → Nat → Nat → Nat) (O : ∀ b, b < r → qc7 r b (C b) (f b) (ix b) (G b)) :
  Calls Tryz.prog 10 #[mv r c a n k] w fun e w' => SzA w w' e (m2 F r c) r C G := by
 have hr := R.r64
 have HGn : Hid (∀ w' : World, Calls Tryz.prog 40 #[mv r c a n k] w' fun e w'' => e = .returned (.bool true) ∧ Below w'.heap.size w' w'') := fun w' => qh1 w' r c n k a true (by simp [hg])
 obtain ⟨wb, HW⟩ : ∃ wb, Hid (wb = w.alloc (.cells #[.int .i64 (r : Int), .int .i64 (c : Int), .slice a n k] 24)) := ⟨_, rfl⟩
 have HVa : Hid (Vr wb w.heap.size (.int .i64 (r : Int)) (.int .i64 (c : Int)) (.slice a n k)) := by show Vr _ _ _ _ _; rw [HW.out]; exact Vr.new _ _ _ _
 have HB0 : Hid (Below w.heap.size w wb) := by rw [HW.out]; exact qa1 _ _
 have HA := qa3 ha
 have HR := qa3 R
 have HO := qa3 O
 have HMe := qa3 (qbl ha.sl.1 R)
 obtain ⟨i0, hi0, hz0, hz1, hz2⟩ := info_parts ji64
 have hml : r ≤ maxLen := by unfold maxLen; omega
 have hnv : (!true) = false := rfl
 clear ha R O hg
 go_enter Tryz.func10, Tryz.ntmps10
 go_wp2_with (first
  | (go_at_call 40; rw [← HW.out]; refine (HGn.out _).mono ?_; rintro e w1 ⟨rfl, hb1⟩; have HV1 : Hid (Vr w1 w.heap.size (.int .i64 (r : Int)) (.int .i64 (c : Int)) (.slice a n k)) := HVa.out.later hb1; have HB1 : Hid (Below w.heap.size w w1) := qa0 HB0.out hb1; have u0 := HV1.out.c0; have u1 := HV1.out.c1; have u2 := HV1.out.c2; clear hb1)
  | (go_at_call 26; refine (qmh _ r c n k a F (HA.out.later HB1.out) HR.out).mono ?_; rintro e w2 ⟨g, top, N, H, rfl, hrow, hH, RN, hK, hb2⟩; have HH : Hid (∀ q, q < N → H q < 256) := hH; have HRN : Hid (Rt r top N) := RN; have HK : Hid (KerEq (m2 F r c) (m2 H r top) r) := hK; have HM2 : Hid (Mt (w2.alloc (.cells #[.int .i64 (r : Int), .int .i64 (top : Int), .slice (some ⟨g, 0, none⟩) N N] 24)) (some ⟨g, 0, none⟩) N N H) := (hrow.mt hH).later (qa1 _ _); have HVb : Hid (Vr (w2.alloc (.cells #[.int .i64 (r : Int), .int .i64 (top : Int), .slice (some ⟨g, 0, none⟩) N N] 24)) w2.heap.size (.int .i64 (r : Int)) (.int .i64 (top : Int)) (.slice (some ⟨g, 0, none⟩) N N)) := Vr.new _ _ _ _; have HB2 : Hid (Below w.heap.size w (w2.alloc (.cells #[.int .i64 (r : Int), .int .i64 (top : Int), .slice (some ⟨g, 0, none⟩) N N] 24))) := qa0 (qa0 HB1.out hb2) (qa1 _ _); have t0 := ((HV1.out.later hb2).later (qa1 _ (.cells #[.int .i64 (r : Int), .int .i64 (top : Int), .slice (some ⟨g, 0, none⟩) N N] 24))).c0; clear hrow hH RN hK hb2)
  | (at_make; refine wpList_make_full _ rfl _ _ 34 rfl (w2.alloc (.cells #[.int .i64 (r : Int), .int .i64 (top : Int), .slice (some ⟨g, 0, none⟩) N N] 24)).heap.size 3 i0 (.int .i64 0) 1 Tryz.underlying34 hi0 hz0 hz1 .i64 .i64 _ _ r rfl rfl rfl rfl (by rw [hz2]; omega) hml (Nat.le_refl _) ?_; intro w7 hown hgrow; have HZ7 : Hid (ZAt w7 (w2.alloc (.cells #[.int .i64 (r : Int), .int .i64 (top : Int), .slice (some ⟨g, 0, none⟩) N N] 24)).heap.size r (fun _ => 0)) := ZAt.of_j (qit hown); have HB7 : Hid (Below (w2.alloc (.cells #[.int .i64 (r : Int), .int .i64 (top : Int), .slice (some ⟨g, 0, none⟩) N N] 24)).heap.size (w2.alloc (.cells #[.int .i64 (r : Int), .int .i64 (top : Int), .slice (some ⟨g, 0, none⟩) N N] 24)) w7) := jgrown.mp hgrow; clear hown hgrow))
 obtain ⟨W6, HW6⟩ : ∃ W, Hid (W = w2.alloc (.cells #[.int .i64 (r : Int), .int .i64 (top : Int), .slice (some ⟨g, 0, none⟩) N N] 24)) := ⟨_, rfl⟩
 obtain ⟨gz, Hgz⟩ : ∃ z, Hid ((w2.alloc (.cells #[.int .i64 (r : Int), .int .i64 (top : Int), .slice (some ⟨g, 0, none⟩) N N] 24)).heap.size = z) := ⟨_, rfl⟩
 have hgz : w2.heap.size + 1 = gz := by rw [← Hgz.out]; simp
 have hw2 : w.heap.size ≤ gz := by rw [← Hgz.out]; exact HB2.out.size
 rw [Hgz.out] at HZ7 HB7
 rw [← HW6.out] at HB7 HB2 HM2 HVb
 have hW6 : W6.heap.size = gz := by rw [HW6.out]; exact Hgz.out
 simp only [hgz]
 clear t0 u0 u1 u2 HV1 HB1 HGn HVa HB0 HW HW6
 go_loopw [20] (fun si wi => ∃ (i : Nat) (z : Nat → Int), i ≤ r ∧ si = .int .i64 (i : Int) ∧ ZAt wi gz r z ∧ Hid (∀ t, t < i → SzP (m2 F r c) r t (C t) (G t) (z t)) ∧ Below gz W6 wi) (fun si _ => r - (intOf si).toNat)
 case atStart => exact ⟨0, _, by omega, rfl, HZ7.out, fun t h => by omega, HB7.out⟩
 case round =>
  clear HZ7 HB7
  obtain ⟨i, z, hi, rfl, hZ, hS, hB⟩ := hrel
  have HZ := qa3 hZ
  have HB := qa3 hB
  have HB' : Hid (Below W6.heap.size W6 wr) := by rw [hW6]; exact hB
  have HVr : Hid (Vr wr w2.heap.size (.int .i64 (r : Int)) (.int .i64 (top : Int)) (.slice (some ⟨g, 0, none⟩) N N)) := HVb.out.later HB'.out
  have HMr : Hid (Mt wr (some ⟨g, 0, none⟩) N N H) := HM2.out.later HB'.out
  have b0 := HVr.out.c0
  have b1 := HVr.out.c1
  have b2 := HVr.out.c2
  have hgr : gz ≤ wr.heap.size := by rw [← hW6]; exact hB.size
  clear hZ hB
  by_cases hlt : i < r
  ·have d1 : decide ((i : Int) < (r : Int)) = true := decide_eq_true (by omega)
   have d2 : decide (i < r) = true := decide_eq_true hlt
   go_wp2_with (go_at_call 27; refine (lsearch _ r top N N i (some ⟨g, 0, none⟩) H HMr.out HRN.out hlt (C i) (f i) (ix i) (G i) (HO.out i hlt)).mono ?_)
   rintro e w9 ⟨x, v, er, rfl, hs9, hb9⟩
   have HS9 : Hid (SrP (m2 F r c) r i (C i) (G i) x v er) := hs9.ker (qbl HH.out HRN.out) HMe.out HK.out.symm hlt
   have HB9 := qa3 hb9
   have HZ9 : Hid (ZAt w9 gz r z) := HZ.out.later hb9
   clear hb9 hs9 b0 b1 b2
   by_cases he : er = 0
   ·subst he
    have e00 : ((0 : Nat) : Int) = 0 := rfl
    rw [e00]
    clear e00
    obtain ⟨zi, HZi⟩ : ∃ y, Hid (z i = y) := ⟨_, rfl⟩
    have hcl : w9.cell? ⟨gz, i, none⟩ = some (.int .i64 zi) := by rw [← HZi.out]; exact HZ9.out.cell i hlt
    have hfl : w9.frozen? ⟨gz, i, none⟩ = false := HZ9.out.free i
    have p0 : (0 : Int) ≤ (i : Int) := by omega
    have p1 : (i : Int) < (r : Int) := by omega
    cases v
    ·have hF : Hid (SzP (m2 F r c) r i (C i) (G i) (-1)) := ⟨x, false, HS9.out, rfl⟩
     go_wp2
     refine ⟨⟨i + 1, _, by omega, by go_num, HZ9.out.set i (-1), fun t ht => ?_, (HB.out.trans (HB9.out.mono hgr)).trans (jbelow (qal _ _ _ _) (by have := HB9.out.size; omega) (fun q e => by have := Option.some.inj e; omega))⟩, by simp [intOf]; omega⟩
     by_cases e : t = i
     ·subst e; simp only [if_true]; exact hF.out
     ·simp only [if_neg e]; exact hS.out t (by omega)
    ·have hl : LstS (m2 F r c) r i x := by
      rcases HS9.out.lst (HO.out i hlt) hlt with ⟨_, h1, _⟩ | ⟨_, _, hl⟩ | ⟨_, h1, _⟩
      ·exact absurd h1 (by decide)
      ·exact hl
      ·exact absurd h1 (by decide)
     obtain ⟨kx, HKx⟩ : ∃ k, Hid (cn x r = k) := ⟨_, rfl⟩
     have HCt : Hid (∀ w' : World, Calls Tryz.prog 41 #[.int .u64 (x : Int)] w' fun e w'' => e = .returned (.int .i64 (kx : Int)) ∧ w' = w'') := fun w' => by
      have h := qda x w' (qc0 hr hl.lt)
      rw [qdp hr hl.lt, HKx.out] at h
      exact h
     have hF : Hid (SzP (m2 F r c) r i (C i) (G i) (kx : Int)) := ⟨x, true, HS9.out, by rw [HKx.out]; rfl⟩
     clear hl
     go_wp2_with (go_at_call 41; refine (HCt.out _).mono ?_; rintro e w' ⟨rfl, rfl⟩)
     refine ⟨⟨i + 1, _, by omega, by go_num, HZ9.out.set i (kx : Int), fun t ht => ?_, (HB.out.trans (HB9.out.mono hgr)).trans (jbelow (qal _ _ _ _) (by have := HB9.out.size; omega) (fun q e => by have := Option.some.inj e; omega))⟩, by simp [intOf]; omega⟩
     by_cases e : t = i
     ·subst e; simp only [if_true]; exact hF.out
     ·simp only [if_neg e]; exact hS.out t (by omega)
   ·have h4 : er = 4 ∧ x = 0 ∧ v = false := by
     rcases HS9.out with ⟨_, _, h, _⟩ | ⟨_, h, _⟩ | ⟨h1, h2, h, _⟩
     ·exact absurd h he
     ·exact absurd h he
     ·exact ⟨h, h1, h2⟩
    obtain ⟨rfl, rfl, rfl⟩ := h4
    have e44 : ((4 : Nat) : Int) = 4 := rfl
    rw [e44]
    clear e44
    go_wp2
    refine bodyPost_ret (v := .tuple #[.slice none 0 0, .int .i64 4]) (by simp [results, Tryz.results10, go_sem]) rfl ?_
    exact ⟨(HB2.out.trans (HB.out.mono hw2)).trans (HB9.out.mono (by omega)), .inl ⟨i, hlt, HS9.out, rfl⟩⟩
  ·have d1 : decide ((i : Int) < (r : Int)) = false := decide_eq_false (by omega)
   have d2 : decide (i < r) = false := decide_eq_false hlt
   go_wp2
   refine bodyPost_ret (v := .tuple #[.slice (some ⟨gz, 0, none⟩) r r, .int .i64 0]) (by simp [results, Tryz.results10, go_sem]) rfl ?_
   refine ⟨HB2.out.trans (HB.out.mono hw2), .inr ⟨_, _, z, rfl, ?_, fun t ht => hS.out t (by omega)⟩⟩
   exact HZ.out.zo (by omega) hw2
theorem qmv (w : World) (r c n k : Nat) (a : Option Addr) (F : Nat → Nat) (ha : Mt w a n k F) (R : Rt r c n) (hg : GenQ r c n) (C : Nat → Nat → Nat) (f ix G : Nat → Nat → Nat → Nat) (O : ∀ b, b < r → qc7 r b (C b) (f b) (ix b) (G b)) :
  Calls Tryz.prog 11 #[mv r c a n k] w fun e w' => SzA w w' e (m2 F r c) r C G := by
 have hr := R.r64
 have HGn : Hid (∀ w' : World, Calls Tryz.prog 42 #[mv r c a n k] w' fun e w'' => e = .returned (.bool true) ∧ Below w'.heap.size w' w'') := fun w' => qh2 w' r c n k a true (by simp [hg])
 obtain ⟨wb, HW⟩ : ∃ wb, Hid (wb = w.alloc (.cells #[.int .i64 (r : Int), .int .i64 (c : Int), .slice a n k] 24)) := ⟨_, rfl⟩
 have HVa : Hid (Vr wb w.heap.size (.int .i64 (r : Int)) (.int .i64 (c : Int)) (.slice a n k)) := by show Vr _ _ _ _ _; rw [HW.out]; exact Vr.new _ _ _ _
 have HB0 : Hid (Below w.heap.size w wb) := by rw [HW.out]; exact qa1 _ _
 have HO := qa3 O
 obtain ⟨M, HM⟩ : ∃ M, Hid (m2 F r c = M) := ⟨_, rfl⟩
 have HLe : Hid (∀ (w' : World) (b : Nat), Below w.heap.size w w' → b < r → Calls Tryz.prog 8 #[mv r c a n k, .int .i64 (b : Int)] w' fun e w'' => LeaP w' w'' e M r b (C b) (G b)) := fun w' b h hb => by rw [← HM.out]; exact qf0 w' r c n k b a F (ha.later h) R hg hb (C b) (f b) (ix b) (G b) (O b hb)
 rw [HM.out]
 obtain ⟨i0, hi0, hz0, hz1, hz2⟩ := info_parts ji64
 have hnv : (!true) = false := rfl
 clear ha R O hg HM
 go_enter Tryz.func11, Tryz.ntmps11
 go_wp2_with (go_at_call 42; rw [← HW.out]; refine (HGn.out _).mono ?_; rintro e w1 ⟨rfl, hb1⟩; have HV1 : Hid (Vr w1 w.heap.size (.int .i64 (r : Int)) (.int .i64 (c : Int)) (.slice a n k)) := HVa.out.later hb1; have HB1 : Hid (Below w.heap.size w w1) := qa0 HB0.out hb1; clear hb1)
 have hw1 := HB1.out.size
 go_loopw [4, 5] (fun v4 v5 wi => ∃ (i d : Nat) (sl : Option Addr) (z : Nat → Int), i ≤ r ∧ v4 = .slice sl i d ∧ v5 = .int .i64 (i : Int) ∧ Hid (Zo wi w1.heap.size (.slice sl i d) i z) ∧ Hid (∀ t, t < i → SzP M r t (C t) (G t) (z t)) ∧ Below w1.heap.size w1 wi) (fun _ v5 _ => r - (intOf v5).toNat)
 case atStart => exact ⟨0, 0, none, fun _ => 0, Nat.zero_le _, rfl, rfl, Zo.nil _ _ _, fun t h => by omega, Below.refl _ _⟩
 case round =>
  obtain ⟨i, d, sl, z, hi, rfl, rfl, hZ, hS, hB⟩ := hrel
  have HB := qa3 hB
  have HVr : Hid (Vr wr w.heap.size (.int .i64 (r : Int)) (.int .i64 (c : Int)) (.slice a n k)) := HV1.out.later hB
  have b0 := HVr.out.c0
  have b1 := HVr.out.c1
  have b2 := HVr.out.c2
  have hgr := hB.size
  clear hB
  by_cases hlt : i < r
  ·have d1 : decide ((i : Int) < (r : Int)) = true := decide_eq_true (by omega)
   have d2 : decide (i < r) = true := decide_eq_true hlt
   have hml : i + 1 ≤ maxLen := by unfold maxLen; omega
   go_wp2_with (go_at_call 8; refine (HLe.out _ i (qa0 HB1.out HB.out) hlt).mono ?_)
   rintro e w9 (⟨er, rfl, hs, hb9⟩ | ⟨x, g9, Q, rfl, hs, _, _, _, hb9⟩)
   ·have HS9 := qa3 hs
    have HB9 := qa3 hb9
    have HZ9 : Hid (Zo w9 w1.heap.size (.slice sl i d) i z) := hZ.out.later hb9
    have hw9 := hb9.size
    clear hb9 hs b0 b1 b2
    have he : er = 0 ∨ er = 4 := by
     rcases HS9.out with ⟨_, _, h, _⟩ | ⟨h, _⟩ | ⟨_, _, h, _⟩
     ·exact .inl h
     ·exact absurd h (by decide)
     ·exact .inr h
    rcases he with rfl | rfl
    ·have e00 : ((0 : Nat) : Int) = 0 := rfl
     rw [e00]
     clear e00
     have hF : Hid (SzP M r i (C i) (G i) (-1)) := ⟨0, false, HS9.out, rfl⟩
     go_wp2_with (at_builtin; refine wpList_append_own _ rfl _ _ 34 rfl w1.heap.size 3 i0 (.int .i64 0) 1 8 Tryz.underlying34 hi0 hz0 hz1 hz2 rfl (by decide) _ i _ rfl (World.ownsRow.alloc HZ9.out _) ⟨w9.heap.size, 0, none⟩ 1 1 [.int .i64 (-1)] rfl rfl (qjf _ _ _) (qjg _) hml (by omega) (by simp; omega) ?_; intro v' w8 hown' hgrow' _; have hO8 := HZ9.out.push (by omega) hown' hgrow'; have HO8 : Hid (Zo w8 w1.heap.size v' (i + 1) (fun t => if t = i then (-1) else z t)) := hO8.1; have HB8 : Hid (Below w1.heap.size w1 w8) := (qa0 HB.out HB9.out).trans hO8.2; clear hown' hgrow' hO8)
     obtain ⟨qs, qd, rfl, _⟩ := HO8.out.form
     refine ⟨⟨i + 1, qd, qs, _, by omega, rfl, by go_num, HO8.out, fun t ht => ?_, HB8.out⟩, by simp [intOf]; omega⟩
     by_cases e : t = i
     ·subst e; simp only [if_true]; exact hF.out
     ·simp only [if_neg e]; exact hS.out t (by omega)
    ·have e44 : ((4 : Nat) : Int) = 4 := rfl
     rw [e44]
     clear e44
     go_wp2
     refine bodyPost_ret (v := .tuple #[.slice none 0 0, .int .i64 4]) (by simp [results, Tryz.results11, go_sem]) rfl ?_
     exact ⟨qa0 (qa0 HB1.out HB.out) HB9.out, .inl ⟨i, hlt, HS9.out, rfl⟩⟩
   ·have HS9 := qa3 hs
    have HB9 := qa3 hb9
    have HZ9 : Hid (Zo w9 w1.heap.size (.slice sl i d) i z) := hZ.out.later hb9
    have hw9 := hb9.size
    clear hb9 hs b0 b1 b2
    have hl : LstS M r i x := by
     rcases HS9.out.lst (HO.out i hlt) hlt with ⟨_, h1, _⟩ | ⟨_, _, hl⟩ | ⟨_, h1, _⟩
     ·exact absurd h1 (by decide)
     ·exact hl
     ·exact absurd h1 (by decide)
    obtain ⟨kx, HKx⟩ : ∃ k, Hid (cn x r = k) := ⟨_, rfl⟩
    have HLi := qa3 (qja hr hl.lt)
    rw [HKx.out] at HLi
    have hF : Hid (SzP M r i (C i) (G i) (kx : Int)) := ⟨x, true, HS9.out, by rw [HKx.out]; rfl⟩
    clear hl
    go_wp2_with (first
     | (go_at_call 21; refine (HLi.out _).mono ?_; rintro e w10 ⟨y3, z3, rfl, hb3⟩; have HB10 : Hid (Below w1.heap.size w1 w10) := qa0 (qa0 HB.out HB9.out) hb3; have HZ10 : Hid (Zo w10 w1.heap.size (.slice sl i d) i z) := HZ9.out.later hb3; have hw10 := HB10.out.size; clear hb3)
     | (at_builtin; refine wpList_append_own _ rfl _ _ 34 rfl w1.heap.size 3 i0 (.int .i64 0) 1 8 Tryz.underlying34 hi0 hz0 hz1 hz2 rfl (by decide) _ i _ rfl (World.ownsRow.alloc HZ10.out _) ⟨w10.heap.size, 0, none⟩ 1 1 [.int .i64 (kx : Int)] rfl rfl (qjf _ _ _) (qjg _) hml (by omega) (by simp; omega) ?_; intro v' w8 hown' hgrow' _; have hO8 := HZ10.out.push (by omega) hown' hgrow'; have HO8 : Hid (Zo w8 w1.heap.size v' (i + 1) (fun t => if t = i then (kx : Int) else z t)) := hO8.1; have HB8 : Hid (Below w1.heap.size w1 w8) := HB10.out.trans hO8.2; clear hown' hgrow' hO8))
    obtain ⟨qs, qd, rfl, _⟩ := HO8.out.form
    refine ⟨⟨i + 1, qd, qs, _, by omega, rfl, by go_num, HO8.out, fun t ht => ?_, HB8.out⟩, by simp [intOf]; omega⟩
    by_cases e : t = i
    ·subst e; simp only [if_true]; exact hF.out
    ·simp only [if_neg e]; exact hS.out t (by omega)
  ·have d1 : decide ((i : Int) < (r : Int)) = false := decide_eq_false (by omega)
   have d2 : decide (i < r) = false := decide_eq_false hlt
   have hE : i = r := by omega
   have HFi : Hid (SzA w wr (.returned (.tuple #[.slice sl i d, .int .i64 0])) M r C G) := by
    subst hE
    refine ⟨qa0 HB1.out HB.out, .inr ⟨sl, d, z, rfl, ?_, fun t ht => hS.out t ht⟩⟩
    refine ⟨hZ.out.1, ?_⟩
    rcases hZ.out.2 with h' | ⟨g, cap, cur, e, hb, rr⟩
    ·exact .inl h'
    ·exact .inr ⟨g, cap, cur, e, by omega, rr⟩
   clear hE
   go_wp2
   refine bodyPost_ret (v := .tuple #[.slice sl i d, .int .i64 0]) (by simp [results, Tryz.results11, go_sem]) rfl ?_
   exact HFi.out
/-- Two lists of sets that read the same are the same to the law. -/
theorem qke (m c1 c2 : Nat) (a b : Option Addr) (q : Nat → Int) (w : World) (hm : m ≤ 9223372036854775807) (ha : Jl w a .u64 m q) (hb : Jl w b .u64 m q) :
  Calls Tryz.prog 15 #[.slice a m c1, .slice b m c2] w fun e w' => e = .returned (.bool true) ∧ Below w.heap.size w w' := by
 have HA : Hid (Jl w a .u64 m q) := ha
 have HB : Hid (Jl w b .u64 m q) := hb
 clear ha hb
 go_enter Tryz.func15, Tryz.ntmps15
 go_wp2
 go_loopw [5] (fun vi wr => ∃ j : Nat, j ≤ m ∧ vi = .int .i64 (j : Int) ∧ Below w.heap.size w wr) (fun vi _ => m - (intOf vi).toNat)
 case atStart => exact ⟨0, by omega, rfl, Below.refl _ _⟩
 case round =>
  obtain ⟨j, hj, rfl, hb⟩ := hrel
  have HW : Hid (Below w.heap.size w wr) := hb
  clear hb
  by_cases hlt : j < m
  ·obtain ⟨x, o, ea, hc⟩ := (HA.out.later HW.out) j hlt
   obtain ⟨x', o', eb, hc'⟩ := (HB.out.later HW.out) j hlt
   subst ea
   subst eb
   obtain ⟨y, HY⟩ : ∃ y, Hid (q j = y) := ⟨_, rfl⟩
   rw [HY.out] at hc hc'
   have p0 : (0 : Int) ≤ (j : Int) := by omega
   have p1 : (j : Int) < (m : Int) := by omega
   have d1 : decide (j < m) = true := decide_eq_true hlt
   clear HA HB HY
   go_wp2
   go_quiet (fail)
   go_wp2
   exact ⟨⟨j + 1, by omega, by go_num, below_drewN HW.out _⟩, by simp [intOf]; omega⟩
  ·obtain rfl : j = m := by omega
   have d1 : decide (j < j) = false := decide_eq_false (by omega)
   go_wp2
   go_ret
   exact ⟨rfl, HW.out⟩
theorem rints19 (m c1 c2 : Nat) (a b : Option Addr) (q : Nat → Int) (w : World) (hm : m ≤ 9223372036854775807) (ha : Jl w a .i64 m q) (hb : Jl w b .i64 m q) :
  Calls Tryz.prog 14 #[.slice a m c1, .slice b m c2] w fun e w' => e = .returned (.bool true) ∧ Below w.heap.size w w' := by
 have HA : Hid (Jl w a .i64 m q) := ha
 have HB : Hid (Jl w b .i64 m q) := hb
 clear ha hb
 go_enter Tryz.func14, Tryz.ntmps14
 go_wp2
 go_loopw [5] (fun vi wr => ∃ j : Nat, j ≤ m ∧ vi = .int .i64 (j : Int) ∧ Below w.heap.size w wr) (fun vi _ => m - (intOf vi).toNat)
 case atStart => exact ⟨0, by omega, rfl, Below.refl _ _⟩
 case round =>
  obtain ⟨j, hj, rfl, hb⟩ := hrel
  have HW : Hid (Below w.heap.size w wr) := hb
  clear hb
  by_cases hlt : j < m
  ·obtain ⟨x, o, ea, hc⟩ := (HA.out.later HW.out) j hlt
   obtain ⟨x', o', eb, hc'⟩ := (HB.out.later HW.out) j hlt
   subst ea
   subst eb
   obtain ⟨y, HY⟩ : ∃ y, Hid (q j = y) := ⟨_, rfl⟩
   rw [HY.out] at hc hc'
   have p0 : (0 : Int) ≤ (j : Int) := by omega
   have p1 : (j : Int) < (m : Int) := by omega
   have d1 : decide (j < m) = true := decide_eq_true hlt
   clear HA HB HY
   go_wp2
   go_quiet (fail)
   go_wp2
   exact ⟨⟨j + 1, by omega, by go_num, below_drewN HW.out _⟩, by simp [intOf]; omega⟩
  ·obtain rfl : j = m := by omega
   have d1 : decide (j < j) = false := decide_eq_false (by omega)
   go_wp2
   go_ret
   exact ⟨rfl, HW.out⟩
open Go.RowKit Go.Shelf
/-- A property of a list and an error that only one list and one error have. -/
def Det (N : Nat → Int → (Nat → Int) → Prop) : Prop := ∀ L E q L' E' q', N L E q → N L' E' q' → L = L' ∧ E = E' ∧ ∀ n, n < L → q n = q' n
/-- A list and an error are answered. -/
def AnsN (K : IntKind) (N : Nat → Int → (Nat → Int) → Prop) (w w' : World) (e : Ending) : Prop := ∃ (s : Option Addr) (L d : Nat) (E : Int) (q : Nat → Int), e = .returned (.tuple #[.slice s L d, .int .i64 E]) ∧ L ≤ 9223372036854775807 ∧ Jl w' s K L q ∧ N L E q ∧ Below w.heap.size w w'
theorem Jo.max {w : World} {B n : Nat} {T : TypeId} {K : IntKind} {v : Value} {f : Nat → Nat} (h : Jo w B T K v n f) : n ≤ 9223372036854775807 := by
 rcases h.2 with ⟨_, h0⟩ | ⟨g, cap, cur, _, _, _, h1, h2, _⟩
 ·omega
 ·unfold maxLen at h2; omega
def SzN (M : Nat → Nat → Nat) (r : Nat) (C : Nat → Nat → Nat) (G : Nat → Nat → Nat → Nat) (L : Nat) (E : Int) (q : Nat → Int) : Prop :=
 (L = 0 ∧ E = 4 ∧ ∃ b, b < r ∧ SrP M r b (C b) (G b) 0 false 4) ∨ (L = r ∧ E = 0 ∧ ∀ i, i < r → SzP M r i (C i) (G i) (q i))
theorem szn_det {M : Nat → Nat → Nat} {r : Nat} {C : Nat → Nat → Nat} {f ix G : Nat → Nat → Nat → Nat} (O : ∀ b, b < r → qc7 r b (C b) (f b) (ix b) (G b)) : Det (SzN M r C G) := by
 rintro L E q L' E' q' (⟨rfl, rfl, b, hb, h1⟩ | ⟨rfl, rfl, h1⟩) (⟨rfl, rfl, b', hb', h2⟩ | ⟨rfl, rfl, h2⟩)
 ·exact ⟨rfl, rfl, fun n h => by omega⟩
 ·obtain ⟨x, v, h3, _⟩ := h2 b hb
  exact absurd (SrP.one (O b hb) hb h1 h3).2.2 (by decide)
 ·obtain ⟨x, v, h3, _⟩ := h1 b' hb'
  exact absurd (SrP.one (O b' hb') hb' h2 h3).2.2 (by decide)
 ·exact ⟨rfl, rfl, fun n hn => szp_one (O n hn) hn (h1 n hn) (h2 n hn)⟩
theorem SzA.ans {w w' : World} {e : Ending} {M : Nat → Nat → Nat} {r : Nat} {C : Nat → Nat → Nat} {G : Nat → Nat → Nat → Nat} (hr : r ≤ 64) (h : SzA w w' e M r C G) : AnsN .i64 (SzN M r C G) w w' e := by
 obtain ⟨hb, ⟨b, h1, h2, he⟩ | ⟨s, d, z, he, hz, hs⟩⟩ := h
 ·exact ⟨none, 0, 0, 4, fun _ => 0, he, by omega, fun i hi => by omega, .inl ⟨rfl, rfl, b, h1, h2⟩, hb⟩
 ·exact ⟨s, r, d, 0, z, he, by omega, hz.jl, .inr ⟨rfl, rfl, hs⟩, hb⟩
def ChN (M : Nat → Nat → Nat) (r b : Nat) (C : Nat → Nat) (G : Nat → Nat → Nat) (most : Int) (L : Nat) (E : Int) (q : Nat → Int) : Prop :=
  ∃ (x : Nat) (v : Bool) (er : Nat), SrP M r b C G x v er ∧
  ((er ≠ 0 ∧ L = 0 ∧ E = (er : Int)) ∨ (er = 0 ∧ most < 0 ∧ L = 0 ∧ E = 2) ∨ (er = 0 ∧ 0 ≤ most ∧ v = false ∧ L = 0 ∧ E = 0) ∨
   (er = 0 ∧ 0 ≤ most ∧ v = true ∧ 16384 < upv (r - 1) (cn x r : Int) ∧ L = 0 ∧ E = 4) ∨
   (er = 0 ∧ 0 ≤ most ∧ v = true ∧ ¬ 16384 < upv (r - 1) (cn x r : Int) ∧ E = 0 ∧ ∃ u : Nat → Nat, (∀ n, n < L → q n = (G (cn x r) (u n) : Int)) ∧ Enm (fun i => SS M r (G (cn x r) i) (M b)) most.toNat (C (cn x r)) L u))
theorem chn_det {M : Nat → Nat → Nat} {r b : Nat} {C : Nat → Nat} {f ix G : Nat → Nat → Nat} {most : Int} (O : qc7 r b C f ix G) (hb : b < r) : Det (ChN M r b C G most) := by
 rintro L E q L' E' q' ⟨x, v, er, hs, h⟩ ⟨x', v', er', hs', h'⟩
 obtain ⟨rfl, rfl, rfl⟩ := SrP.one O hb hs hs'
 rcases h with ⟨a1, a2, a3⟩ | ⟨a1, a2, a3, a4⟩ | ⟨a1, a2, a3, a4, a5⟩ | ⟨a1, a2, a3, a4, a5, a6⟩ | ⟨a1, a2, a3, a4, a5, u, a6, a7⟩ <;>
 rcases h' with ⟨b1, b2, b3⟩ | ⟨b1, b2, b3, b4⟩ | ⟨b1, b2, b3, b4, b5⟩ | ⟨b1, b2, b3, b4, b5, b6⟩ | ⟨b1, b2, b3, b4, b5, u', b6, b7⟩
 all_goals first
  | (exact absurd b1 a1)
  | (exact absurd a1 b1)
  | (exact absurd b4 a4)
  | (exact absurd a4 b4)
  | (exfalso; omega)
  | (refine ⟨by omega, by omega, fun n hn => by omega⟩)
  | (rw [a3] at b3; cases b3)
  | skip
 obtain ⟨e1, e2⟩ := a7.one b7
 refine ⟨e1, by omega, fun n hn => ?_⟩
 rw [a6 n hn, b6 n (by omega), e2 n hn]
theorem ChP.ans {w w' : World} {e : Ending} {M : Nat → Nat → Nat} {r b : Nat} {C : Nat → Nat} {G : Nat → Nat → Nat} {most : Int} (h : ChP w w' e M r b C G most) : AnsN .u64 (ChN M r b C G most) w w' e := by
 obtain ⟨x, v, er, hs, hb, h⟩ := h
 rcases h with ⟨a1, he⟩ | ⟨a1, a2, he⟩ | ⟨a1, a2, a3, he⟩ | ⟨a1, a2, a3, a4, he⟩ | ⟨a1, a2, a3, a4, s, L, d, u, he, hj, hn⟩
 ·exact ⟨none, 0, 0, _, fun _ => 0, he, by omega, fun i hi => by omega, ⟨x, v, er, hs, .inl ⟨a1, rfl, rfl⟩⟩, hb⟩
 ·exact ⟨none, 0, 0, _, fun _ => 0, he, by omega, fun i hi => by omega, ⟨x, v, er, hs, .inr (.inl ⟨a1, a2, rfl, rfl⟩)⟩, hb⟩
 ·exact ⟨none, 0, 0, _, fun _ => 0, he, by omega, fun i hi => by omega, ⟨x, v, er, hs, .inr (.inr (.inl ⟨a1, a2, a3, rfl, rfl⟩))⟩, hb⟩
 ·exact ⟨none, 0, 0, _, fun _ => 0, he, by omega, fun i hi => by omega, ⟨x, v, er, hs, .inr (.inr (.inr (.inl ⟨a1, a2, a3, a4, rfl, rfl⟩)))⟩, hb⟩
 ·exact ⟨s, L, d, 0, _, he, hj.max, hj.jl, ⟨x, v, er, hs, .inr (.inr (.inr (.inr ⟨a1, a2, a3, a4, rfl, u, fun n _ => rfl, hn⟩)))⟩, hb⟩
theorem qmw (E0 : Int) : Det (fun L E _ => L = 0 ∧ E = E0) := by
 rintro L E q L' E' q' ⟨rfl, rfl⟩ ⟨rfl, rfl⟩
 exact ⟨rfl, rfl, fun n h => by omega⟩
theorem qgg {K : IntKind} {E0 : Int} {w w' : World} {e : Ending} (h : e = .returned (.tuple #[.slice none 0 0, .int .i64 E0]) ∧ Below w.heap.size w w') : AnsN K (fun L E _ => L = 0 ∧ E = E0) w w' e :=
 ⟨none, 0, 0, E0, fun _ => 0, h.1, by omega, fun i hi => by omega, ⟨rfl, rfl⟩, h.2⟩
/-- Both sides' Sizes answer one thing. -/
theorem qmx (w : World) (r c : Int) (n k : Nat) (a : Option Addr) (F : Nat → Nat) (ha : Mt w a n k F) : ∃ N, Det N ∧ (∀ w', Below w.heap.size w w' → Calls Tryz.prog 10 #[mv r c a n k] w' fun e w'' => AnsN .i64 N w' w'' e) ∧ (∀ w', Below w.heap.size w w' → Calls Tryz.prog 11 #[mv r c a n k] w' fun e w'' => AnsN .i64 N w' w'' e) := by
 by_cases h : GenQ r c n
 ·have hq := h
  obtain ⟨r, c, rfl, rfl, R, _, _⟩ := h.nat
  have hr := R.r64
  obtain ⟨C, f, ix, G, O⟩ : ∃ (C : Nat → Nat → Nat) (f ix G : Nat → Nat → Nat → Nat), ∀ b, b < r → qc7 r b (C b) (f b) (ix b) (G b) := by
   have h : ∀ b, ∃ x : (Nat → Nat) × (Nat → Nat → Nat) × (Nat → Nat → Nat) × (Nat → Nat → Nat), b < r → qc7 r b x.1 x.2.1 x.2.2.1 x.2.2.2 := fun b => by
    by_cases hb : b < r
    ·obtain ⟨C, f, ix, G, h⟩ := qjd r b hr hb
     exact ⟨(C, f, ix, G), fun _ => h⟩
    ·exact ⟨(id, fun _ => id, fun _ => id, fun _ => id), fun h => absurd h hb⟩
   obtain ⟨x, hx⟩ := Classical.skolem.mp h
   exact ⟨fun b => (x b).1, fun b => (x b).2.1, fun b => (x b).2.2.1, fun b => (x b).2.2.2, hx⟩
  exact ⟨_, szn_det (M := m2 F r c) O, fun w' hb => (qmu w' r c n k a F (ha.later hb) R hq C f ix G O).mono (fun e w'' h => h.ans hr), fun w' hb => (qmv w' r c n k a F (ha.later hb) R hq C f ix G O).mono (fun e w'' h => h.ans hr)⟩
 ·exact ⟨_, qmw 3, fun w' _ => (qkc w' r c n k a h).mono (fun e w'' h => qgg h), fun w' _ => (qkd w' r c n k a h).mono (fun e w'' h => qgg h)⟩
/-- Both sides' Choices answer one thing. -/
theorem qhz (w : World) (r c b most : Int) (n k : Nat) (a : Option Addr) (F : Nat → Nat) (ha : Mt w a n k F) : ∃ N, Det N ∧ (∀ w', Below w.heap.size w w' → Calls Tryz.prog 12 #[mv r c a n k, .int .i64 b, .int .i64 most] w' fun e w'' => AnsN .u64 N w' w'' e) ∧ (∀ w', Below w.heap.size w w' → Calls Tryz.prog 13 #[mv r c a n k, .int .i64 b, .int .i64 most] w' fun e w'' => AnsN .u64 N w' w'' e) := by
 obtain ⟨E, hE⟩ := wrg_ex r c b n
 by_cases h0 : E = 0
 ·subst h0
  rcases hE with ⟨_, h⟩ | ⟨_, _, h⟩ | ⟨hq, hb, _⟩
  ·exact absurd h (by decide)
  ·exact absurd h (by decide)
  ·obtain ⟨r, c, rfl, rfl, R, _, _⟩ := hq.nat
   obtain ⟨b, rfl⟩ := Int.eq_ofNat_of_zero_le hb.1
   have hbr : b < r := by omega
   obtain ⟨C, f, ix, G, O⟩ := qjd r b R.r64 hbr
   exact ⟨_, chn_det (M := m2 F r c) (most := most) O hbr, fun w' hb => (qhx w' r c n k b most a F (ha.later hb) R hq hbr C f ix G O).mono (fun e w'' h => h.ans), fun w' hb => (qhy w' r c n k b most a F (ha.later hb) R hq hbr C f ix G O).mono (fun e w'' h => h.ans)⟩
 ·exact ⟨_, qmw E, fun w' _ => (qh6 w' r c b E most n k a hE h0).mono (fun e w'' h => qgg h), fun w' _ => (qh8 w' r c b E most n k a hE h0).mono (fun e w'' h => qgg h)⟩
end Go.Proofs.YtblagbghpfopcaaGreat
