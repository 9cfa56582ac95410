/-
  Stage 19: local.Choices.
-/
import Derived.Test.YtblagbghpfopcaaGreatQwwin00
import Derived.Test.YtblagbghpfopcaaGreatQwwin48
import Derived.Test.YtblagbghpfopcaaGreatQwwin47
import Derived.OwnWalkIn
set_option maxRecDepth 100000
set_option maxHeartbeats 16000000
namespace Go.Proofs.YtblagbghpfopcaaGreat
open Go.RowKit Go.Shelf
attribute [local go_sem] Oper.semAt_some
/-- What Choices answers of a generator. -/
def ChP (w w' : World) (e : Ending) (M : Nat → Nat → Nat) (r b : Nat) (C : Nat → Nat) (G : Nat → Nat → Nat) (most : Int) : Prop :=
  ∃ (x : Nat) (v : Bool) (er : Nat), SrP M r b C G x v er ∧ Below w.heap.size w w' ∧
  ((er ≠ 0 ∧ e = .returned (.tuple #[.slice none 0 0, .int .i64 (er : Int)])) ∨
   (er = 0 ∧ most < 0 ∧ e = .returned (.tuple #[.slice none 0 0, .int .i64 2])) ∨
   (er = 0 ∧ 0 ≤ most ∧ v = false ∧ e = .returned (.tuple #[.slice none 0 0, .int .i64 0])) ∨
   (er = 0 ∧ 0 ≤ most ∧ v = true ∧ 16384 < upv (r - 1) (cn x r : Int) ∧ e = .returned (.tuple #[.slice none 0 0, .int .i64 4])) ∨
   (er = 0 ∧ 0 ≤ most ∧ v = true ∧ ¬ 16384 < upv (r - 1) (cn x r : Int) ∧ ∃ (s : Option Addr) (L d : Nat) (u : Nat → Nat), e = .returned (.tuple #[.slice s L d, .int .i64 0]) ∧ Jo w' w.heap.size 26 .u64 (.slice s L d) L (fun n => G (cn x r) (u n)) ∧ Enm (fun i => SS M r (G (cn x r) i) (M b)) most.toNat (C (cn x r)) L u))
theorem qn1 (U : Nat) : ∃ uv ue : Nat, upa U = #[.int .i64 (uv : Int), .int .i64 (ue : Int)] ∧ ((ue = 0 ∧ uv = U ∧ U ≤ 4611686018427387904) ∨ (ue = 4 ∧ 4611686018427387904 < U)) := by
 unfold upa
 by_cases h : U ≤ 4611686018427387904
 ·exact ⟨U, 0, by rw [if_pos h]; rfl, .inl ⟨rfl, rfl, h⟩⟩
 ·exact ⟨0, 4, by rw [if_neg h]; rfl, .inr ⟨rfl, by omega⟩⟩
theorem bin_upv {m k : Nat} (hk : k ≤ m) : bin m k ≤ upv m (k : Int) := by
 unfold upv
 have e : (min (k : Int) (m : Int) + 1).toNat = k + 1 := by omega
 rw [e]
 show bin m k ≤ upt6 m k + bin m k
 omega
/-- The list that is gathered lies in no variable's block. -/
theorem Jo.off {W : World} {B L d b : Nat} {T : TypeId} {s : Option Addr} {f : Nat → Nat} {y : Value} (h : Jo W B T .u64 (.slice s L d) L f) (hL : L = 0 → s = none ∧ d = 0) (hc : W.cell? ⟨b, 0, none⟩ = some y) (hy : ∀ x : Int, y ≠ .int .u64 x) : (Value.slice s L d).ownBlock ≠ some b := fun e => by
 by_cases h0 : L = 0
 ·obtain ⟨rfl, rfl⟩ := hL h0
  cases e
 ·obtain ⟨g, rfl, _, _⟩ := h.addr (by omega)
  have hcell := h.cell 0 (by omega)
  have e2 : g = b := Option.some.inj e
  subst e2
  exact hy _ (Option.some.inj (hc.symm.trans hcell))
/-- What holds while Choices goes over the sets. -/
structure Ck19 (w W : World) (ml r c n k0 b : Nat) (a : Option Addr) (most : Int) (Rw Fd top N g : Nat) (G : Nat → Nat) (P : Nat → Prop) (j : Nat) : Prop where
 below : Below w.heap.size w W
 vm : Vr W w.heap.size (.int .i64 (r : Int)) (.int .i64 (c : Int)) (.slice a n k0)
 vb : Cl W (w.heap.size + 1) (.int .i64 (b : Int)) 3
 vt : Cl W (w.heap.size + 1 + 1) (.int .i64 most) 3
 vr : Vr W Rw (.int .i64 (r : Int)) (.int .i64 (top : Int)) (.slice (some ⟨g, 0, none⟩) N N)
 sz : ml ≤ W.heap.size
 fd : ∃ (L d : Nat) (s : Option Addr) (u : Nat → Nat), Cl W Fd (.slice s L d) 39 ∧ (L = 0 → s = none ∧ d = 0) ∧ Jo W w.heap.size 26 .u64 (.slice s L d) L (fun n => G (u n)) ∧ Enm P most.toNat j L u ∧ L ≤ j
theorem Ck19.ch {w W W' : World} {m ml r c n k0 b : Nat} {a : Option Addr} {most : Int} {Rw Fd top N g : Nat} {G : Nat → Nat} {P : Nat → Prop} {j : Nat} (h : Ck19 w W ml r c n k0 b a most Rw Fd top N g G P j) (hc : Ch m W W') (h3 : w.heap.size + 2 < m) (hR : Rw < m) (hF : Fd < m) : Ck19 w W' ml r c n k0 b a most Rw Fd top N g G P j := by
 obtain ⟨L, d, s, u, f1, f2, f3, f4, f5⟩ := h.fd
 have kv : ∀ i, i < m → i < W.heap.size → W'.heap[i]? = W.heap[i]? := fun i hi hs => hc.keep i hs (.inl hi)
 refine ⟨?_, ?_, ?_, ?_, ?_, Nat.le_trans h.sz hc.size, L, d, s, u, ?_, f2, f3.ch f2 hc, f4, f5⟩
 ·exact h.below.trans ⟨hc.os, hc.tape, hc.output, hc.size, fun i hi => kv i (by omega) (by have := h.below.size; omega)⟩
 ·unfold Vr; rw [kv _ (by omega) h.vm.lt]; exact h.vm
 ·unfold Cl; rw [kv _ (by omega) h.vb.lt]; exact h.vb
 ·unfold Cl; rw [kv _ (by omega) h.vt.lt]; exact h.vt
 ·unfold Vr; rw [kv _ hR h.vr.lt]; exact h.vr
 ·unfold Cl; rw [kv _ hF f1.lt]; exact f1
theorem Cl.ch {W W' : World} {b m : Nat} {v : Value} {T : TypeId} (h : Cl W b v T) (hb : b < m) (hc : Ch m W W') : Cl W' b v T := by unfold Cl; rw [hc.keep b h.lt (.inl hb)]; exact h
theorem mt_ch {W W' : World} {g m N : Nat} {H : Nat → Nat} (h : Mt W (some ⟨g, 0, none⟩) N N H) (hg : g < m ∨ N = 0) (hc : Ch m W W') : Mt W' (some ⟨g, 0, none⟩) N N H := by
 refine ⟨⟨h.sl.1, fun i hi => ?_⟩, h.room, h.nil⟩
 obtain ⟨b, o, e, hcell⟩ := h.sl.2 i hi
 cases e
 have hg2 : g < m := hg.elim id (fun e => by omega)
 exact ⟨_, _, rfl, by rw [World.cell?_of_block (a := ⟨g, 0 + i, none⟩) (hc.keep g (qas hcell) (.inl hg2))]; exact hcell⟩
/-- A set more is gathered. -/
theorem Ck19.yes {w W w6 : World} {ml r c n k0 b : Nat} {a : Option Addr} {most : Int} {Rw Fd top N g : Nat} {G : Nat → Nat} {P : Nat → Prop} {j L d x : Nat} {s : Option Addr} {u : Nat → Nat} {o : Obj} {v' : Value} (h : Ck19 w W ml r c n k0 b a most Rw Fd top N g G P j)
  (h1 : w.heap.size + 2 < Rw) (h2 : Rw < Fd) (h3 : Fd < ml)
  (f1 : Cl W Fd (.slice s L d) 39) (f2 : L = 0 → s = none ∧ d = 0) (f3 : Jo W w.heap.size 26 .u64 (.slice s L d) L (fun n => G (u n))) (f4 : Enm P most.toNat j L u) (f5 : L ≤ j) (hP : P j) (hlt : L < most.toNat) (hx : G j = x)
  (hown : w6.ownsRow w.heap.size 26 1 v' (L + 1) ((jrow .u64 L (fun n => G (u n))).toList ++ [.int .u64 (x : Int)])) (hg : (W.alloc o).grownBy w6 (Value.slice s L d).ownBlock) :
  ∃ (s' : Option Addr) (d' : Nat), v' = .slice s' (L + 1) d' ∧ Cl w6 Fd (.slice s L d) 39 ∧ Ck19 w (w6.setCell ⟨Fd, 0, none⟩ v') ml r c n k0 b a most Rw Fd top N g G P (j + 1) ∧ W.heap.size ≤ (w6.setCell ⟨Fd, 0, none⟩ v').heap.size ∧ ∀ i, i < W.heap.size → i ≠ Fd → ¬ IsS W i → (w6.setCell ⟨Fd, 0, none⟩ v').heap[i]? = W.heap[i]? := by
 obtain ⟨hJ6, hB6⟩ := f3.push h.below.size hown hg
 obtain ⟨s', d', rfl, hn'⟩ := hJ6.form
 have hs1 : (W.alloc o).heap.size = W.heap.size + 1 := by simp
 have hsg := hg.size
 have hoff : ∀ i, i < W.heap.size → ¬ IsS W i → (Value.slice s L d).ownBlock ≠ some i := fun i hi hn e => by
  by_cases h0 : L = 0
  ·obtain ⟨rfl, rfl⟩ := f2 h0
   cases e
  ·obtain ⟨q, rfl, _, _⟩ := f3.addr (by omega)
   have e2 : q = i := Option.some.inj e
   subst e2
   exact hn ⟨_, f3.cell 0 (by omega)⟩
 have hk6 : ∀ i, i < W.heap.size → ¬ IsS W i → w6.heap[i]? = W.heap[i]? := fun i hi hn => by
  rw [hg.block i (by omega) (fun e => hoff i hi hn e.symm)]
  exact (qa1 W o).block i hi
 have gs := qap w6 Fd 0 (.slice s' (L + 1) d')
 have hk7 : ∀ i, i < W.heap.size → i ≠ Fd → ¬ IsS W i → (w6.setCell ⟨Fd, 0, none⟩ (.slice s' (L + 1) d')).heap[i]? = W.heap[i]? := fun i hi hne hn => by
  rw [gs.block i (by omega) (fun e => hne (Option.some.inj e))]
  exact hk6 i hi hn
 have nF : ¬ IsS W Fd := IsS.none_of f1.cell (fun x e => by cases e)
 have F6 : Cl w6 Fd (.slice s L d) 39 := by unfold Cl; rw [hk6 Fd f1.lt nF]; exact f1
 have lm := h.vm.lt
 have lb := h.vb.lt
 have lt := h.vt.lt
 have lr := h.vr.lt
 refine ⟨s', d', rfl, F6, ⟨?_, ?_, ?_, ?_, ?_, ?_, L + 1, d', s', (fun n => if n = L then j else u n), F6.set _, fun e => by omega, ?_, f4.yes hP hlt, by omega⟩, by have := gs.size; omega, hk7⟩
 ·exact (h.below.trans hB6).trans (jbelow gs (by have := h.below.size; omega) (fun q e => by have := Option.some.inj e; omega))
 ·unfold Vr; rw [hk7 _ lm (by omega) (IsS.none_of h.vm.c0 (fun x e => by cases e))]; exact h.vm
 ·unfold Cl; rw [hk7 _ lb (by omega) (IsS.none_of h.vb.cell (fun x e => by cases e))]; exact h.vb
 ·unfold Cl; rw [hk7 _ lt (by omega) (IsS.none_of h.vt.cell (fun x e => by cases e))]; exact h.vt
 ·unfold Vr; rw [hk7 _ lr (by omega) (IsS.none_of h.vr.c0 (fun x e => by cases e))]; exact h.vr
 ·have := gs.size; have := h.sz; omega
 ·have hne : (Value.slice s' (L + 1) d').ownBlock ≠ some Fd := fun e => by
   obtain ⟨q, rfl, _, _⟩ := hJ6.addr (by omega)
   have e2 : q = Fd := Option.some.inj e
   subst e2
   have hc1 := hJ6.cell 0 (by omega)
   have hc2 := F6.cell
   rw [hc1] at hc2
   cases Option.some.inj hc2
  refine (hJ6.kept gs (.inr hne)).congr (fun i _ => ?_)
  show (if i = L then x else G (u i)) = G (if i = L then j else u i)
  by_cases e : i = L
  ·rw [if_pos e, if_pos e, hx]
  ·rw [if_neg e, if_neg e]
theorem lchoices_bad (w : World) (r c b E most : Int) (n k : Nat) (a : Option Addr) (h : WrgE r c b n E) (hE : E ≠ 0) :
  Calls Tryz.prog 12 #[mv r c a n k, .int .i64 b, .int .i64 most] w fun e w' => e = .returned (.tuple #[.slice none 0 0, .int .i64 E]) ∧ Below w.heap.size w w' := by
 have HP : Hid (∀ w' : World, Calls Tryz.prog 25 #[mv r c a n k, .int .i64 b] w' fun e w'' => e = .returned (.int .i64 E) ∧ Below w'.heap.size w' w'') := fun w' => lwrong w' r c b E n k a h
 have g1 : (E != 0) = true := by simpa using hE
 have g2 : (E == 0) = false := by simpa using hE
 clear h hE
 go_enter Tryz.func12, Tryz.ntmps12
 go_wp2_with (go_at_call 25; refine (HP.out _).mono ?_; rintro e w1 ⟨rfl, hb⟩; have HB1 : Hid (Below w.heap.size w w1) := qa0 (qa0 (qa0 (qa1 _ _) (qa1 _ _)) (qa1 _ _)) hb; clear hb)
 refine bodyPost_ret (v := .tuple #[.slice none 0 0, .int .i64 E]) (by simp [results, Tryz.results12, go_sem]) rfl ?_
 exact ⟨rfl, HB1.out⟩
theorem qhp (w : World) (r c n k0 b : Nat) (most : Int) (a : Option Addr) (F : Nat → Nat) (ha : Mt w a n k0 F) (R : Rt r c n) (hg : GenQ r c n) (hb : b < r) (C : Nat → Nat) (f ix G : Nat → Nat → Nat) (O : qex r b C f ix G) :
  Calls Tryz.prog 12 #[mv r c a n k0, .int .i64 (b : Int), .int .i64 most] w fun e w' => ChP w w' e (m2 F r c) r b C G most := by
 have hr := R.r64
 have HWr : Hid (∀ w' : World, Calls Tryz.prog 25 #[mv r c a n k0, .int .i64 (b : Int)] w' fun e w'' => e = .returned (.int .i64 0) ∧ Below w'.heap.size w' w'') := fun w' => lwrong w' r c b 0 n k0 a (.inr (.inr ⟨hg, ⟨by omega, by omega⟩, rfl⟩))
 obtain ⟨wb, HW, HVm, HVb, HVt, HB0, hsb⟩ : ∃ wb, Hid (wb = ((w.alloc (.cells #[.int .i64 (r : Int), .int .i64 (c : Int), .slice a n k0] 24)).alloc (.cells #[.int .i64 (b : Int)] 3)).alloc (.cells #[.int .i64 most] 3)) ∧ Hid (Vr wb w.heap.size (.int .i64 (r : Int)) (.int .i64 (c : Int)) (.slice a n k0)) ∧ Hid (Cl wb (w.heap.size + 1) (.int .i64 (b : Int)) 3) ∧ Hid (Cl wb (w.heap.size + 1 + 1) (.int .i64 most) 3) ∧ Hid (Below w.heap.size w wb) ∧ wb.heap.size = w.heap.size + 3 := by
  refine ⟨_, rfl, ?_, ?_, ?_, ?_, by simp⟩
  ·exact ((Vr.new w _ _ _).later (qa1 _ _)).later (qa1 _ _)
  ·have h := Cl.new (w.alloc (.cells #[.int .i64 (r : Int), .int .i64 (c : Int), .slice a n k0] 24)) (.int .i64 (b : Int)) 3
   rw [World.size_alloc] at h
   exact h.later (qa1 _ _)
  ·have h := Cl.new ((w.alloc (.cells #[.int .i64 (r : Int), .int .i64 (c : Int), .slice a n k0] 24)).alloc (.cells #[.int .i64 (b : Int)] 3)) (.int .i64 most) 3
   rw [World.size_alloc, World.size_alloc] at h
   exact h
  ·exact qa0 (qa0 (qa1 _ _) (qa1 _ _)) (qa1 _ _)
 have HA := qa2 ha
 have HR := qa2 R
 have HO := qa2 O
 obtain ⟨M, HM⟩ : ∃ M, Hid (m2 F r c = M) := ⟨_, rfl⟩
 have HMe : Hid (El2 M) := by rw [← HM.out]; exact qax ha.sl.1 R
 rw [HM.out]
 clear ha R O hg
 have v0 := HVm.out.c0
 have v1 := HVm.out.c1
 have v2 := HVm.out.c2
 have vb0 := HVb.out.cell
 have vt0 := HVt.out.cell
 refine (callsIn_wide (n := 6)).1 (callsIn_of_wp_marks Tryz.func12 rfl trivial ?_ rfl)
 simp only [Tryz.ntmps12, List.size_toArray, List.length_cons, List.length_nil, Nat.reduceAdd, Nat.reduceSub, Array.replicate_succ, Array.replicate_zero, List.push_toArray, List.append_toArray, List.nil_append, List.cons_append]
 refine wpIn_wide.2 ?_
 go_wp2_with (first
  | (go_at_call 25; rw [← HW.out]; refine (HWr.out _).mono ?_; rintro e w1 ⟨rfl, hb1⟩; have HB1 : Hid (Below wb.heap.size wb w1) := hb1; have u0 := (HVm.out.later hb1).c0; have u1 := (HVm.out.later hb1).c1; have u2 := (HVm.out.later hb1).c2; clear hb1)
  | (go_at_call 26; refine (qmv _ r c n k0 a F (HA.out.later (qa0 HB0.out HB1.out)) HR.out).mono ?_; rintro e w2 ⟨g, top, N, H, rfl, hrow, hH, RN, hK, hb2⟩; have HH : Hid (∀ q, q < N → H q < 256) := hH; have HRN : Hid (Rt r top N) := RN; have HK : Hid (KerEq M (m2 H r top) r) := (by rw [HM.out] at hK; exact hK); have HM2 : Hid (Mt (w2.alloc (.cells #[.int .i64 (r : Int), .int .i64 (top : Int), .slice (some ⟨g, 0, none⟩) N N] 24)) (some ⟨g, 0, none⟩) N N H) := (hrow.mt hH).later (qa1 _ _); have HVr : Hid (Vr (w2.alloc (.cells #[.int .i64 (r : Int), .int .i64 (top : Int), .slice (some ⟨g, 0, none⟩) N N] 24)) w2.heap.size (.int .i64 (r : Int)) (.int .i64 (top : Int)) (.slice (some ⟨g, 0, none⟩) N N)) := Vr.new _ _ _ _; have HB2 : Hid (Below wb.heap.size wb (w2.alloc (.cells #[.int .i64 (r : Int), .int .i64 (top : Int), .slice (some ⟨g, 0, none⟩) N N] 24))) := qa0 (qa0 HB1.out hb2) (qa1 _ _); have hs2 := hb2.size; have x1 := (HVb.out.later HB2.out).cell; clear hrow hH RN hK hb2)
  | (go_at_call 27; refine (lsearch _ r top N N b (some ⟨g, 0, none⟩) H HM2.out HRN.out hb C f ix G HO.out).mono ?_))
 rintro e w3 ⟨x, v, er, rfl, hs3, hb3⟩
 have HHe := qa2 (qax HH.out HRN.out)
 have HS3 : Hid (SrP M r b C G x v er) := hs3.ker HHe.out HMe.out HK.out.symm hb
 have HB3 : Hid (Below wb.heap.size wb w3) := qa0 HB2.out hb3
 have HBw : Hid (Below w.heap.size w w3) := qa0 HB0.out HB3.out
 have HM3 : Hid (Mt w3 (some ⟨g, 0, none⟩) N N H) := HM2.out.later hb3
 have HVr3 : Hid (Vr w3 w2.heap.size (.int .i64 (r : Int)) (.int .i64 (top : Int)) (.slice (some ⟨g, 0, none⟩) N N)) := HVr.out.later hb3
 obtain ⟨Rw, HRw⟩ : ∃ R, Hid (w2.heap.size = R) := ⟨_, rfl⟩
 have hRw3 : Rw < w3.heap.size := by have := HVr3.out.lt; rw [← HRw.out]; exact this
 have hRw2 : wb.heap.size ≤ Rw := by rw [← HRw.out]; exact Nat.le_trans HB1.out.size hs2
 rw [HRw.out] at HVr3 ⊢
 have HVm3 : Hid (Vr w3 w.heap.size (.int .i64 (r : Int)) (.int .i64 (c : Int)) (.slice a n k0)) := HVm.out.later HB3.out
 have HVb3 : Hid (Cl w3 (w.heap.size + 1) (.int .i64 (b : Int)) 3) := HVb.out.later HB3.out
 have HVt3 : Hid (Cl w3 (w.heap.size + 1 + 1) (.int .i64 most) 3) := HVt.out.later HB3.out
 have y0 := HVt3.out.cell
 clear hs3 hb3 HVr HM2 HB1 HB2 HWr HW u0 u1 u2 x1 v0 v1 v2 vb0 vt0 HRw hs2
 by_cases he0 : er = 0
 ·subst he0
  have e00 : ((0 : Nat) : Int) = 0 := rfl
  rw [e00]
  by_cases hm0 : most < 0
  ·have d1 : decide (most < 0) = true := decide_eq_true hm0
   go_wp2
   refine ⟨.tuple #[.slice none 0 0, .int .i64 2], by simp [results, Tryz.results12, go_sem], ?_⟩
   exact ⟨x, v, 0, HS3.out, HBw.out, .inr (.inl ⟨rfl, hm0, rfl⟩)⟩
  ·have d1 : decide (most < 0) = false := decide_eq_false hm0
   cases v
   ·have hnv : (!false) = true := rfl
    go_wp2
    refine ⟨.tuple #[.slice none 0 0, .int .i64 0], by simp [results, Tryz.results12, go_sem], ?_⟩
    exact ⟨x, false, 0, HS3.out, HBw.out, .inr (.inr (.inl ⟨rfl, by omega, rfl, rfl⟩))⟩
   ·have hnv : (!true) = false := rfl
    have hl : LstS M r b x := by
     rcases HS3.out.lst HO.out hb with ⟨_, h1, _⟩ | ⟨_, _, hl⟩ | ⟨_, h1, _⟩
     ·exact absurd h1 (by decide)
     ·exact hl
     ·exact absurd h1 (by decide)
    obtain ⟨k, HKk⟩ : ∃ k, Hid (cn x r = k) := ⟨_, rfl⟩
    have hkr : k < r := by rw [← HKk.out]; exact qdd hb hl.none
    have HCt : Hid (∀ w' : World, Calls Tryz.prog 41 #[.int .u64 (x : Int)] w' fun e w'' => e = .returned (.int .i64 (k : Int)) ∧ w' = w'') := fun w' => by
     have h := qek x w' (qc7 hr hl.lt)
     rw [qfe hr hl.lt, HKk.out] at h
     exact h
    obtain ⟨r1, hr1⟩ : ∃ r1, r - 1 = r1 := ⟨_, rfl⟩
    have er1 : (r : Int) - 1 = (r1 : Int) := by omega
    have HUp : Hid (∀ w' : World, Calls Tryz.prog 43 #[.int .i64 (r1 : Int), .int .i64 (k : Int)] w' fun e w'' => e = .returned (.tuple (upa (upv r1 (k : Int)))) ∧ Below w'.heap.size w' w'') := fun w' => jupto_ok r1 (k : Int) w' (by omega)
    have HCk : Hid (C k ≤ upv r1 (k : Int)) := by
     have h1 := (HO.out k hkr).cnt
     have h2 := bin_upv (m := r1) (k := k) (by omega)
     rw [hr1] at h1
     show _ ≤ _
     omega
    obtain ⟨U, HU⟩ : ∃ U, Hid (upv r1 (k : Int) = U) := ⟨_, rfl⟩
    rw [HU.out] at HUp HCk
    obtain ⟨uv, ue, hua, huc⟩ := qn1 U
    rw [hua] at HUp
    have m0 := HVm3.out.c0
    have HUx : Hid (upv (r - 1) (cn x r : Int) = U) := by rw [HKk.out, hr1]; exact HU.out
    clear hl hua
    by_cases hbad : 16384 < U
    ·have HX : Hid (16384 < upv (r - 1) (cn x r : Int)) := by rw [HUx.out]; exact hbad
     rcases huc with ⟨rfl, rfl, _⟩ | ⟨rfl, _⟩
     ·have d3 : decide ((16384 : Int) < (uv : Int)) = true := decide_eq_true (by omega)
      have d4 : decide (16384 < uv) = true := decide_eq_true hbad
      rw [e00] at HUp
      clear e00
      go_wp2_with (first
       | (go_at_call 41; refine (HCt.out _).mono ?_; rintro e w' ⟨rfl, rfl⟩)
       | (go_at_call 43; refine (HUp.out _).mono ?_; rintro e w4 ⟨rfl, hb4⟩; have HB4 : Hid (Below w.heap.size w w4) := qa0 HBw.out hb4; clear hb4))
      refine ⟨.tuple #[.slice none 0 0, .int .i64 4], by simp [results, Tryz.results12, go_sem], ?_⟩
      exact ⟨x, true, 0, HS3.out, HB4.out, .inr (.inr (.inr (.inl ⟨rfl, by omega, rfl, HX.out, rfl⟩)))⟩
     ·have e44 : ((4 : Nat) : Int) = 4 := rfl
      rw [e44] at HUp
      clear e00 e44
      go_wp2_with (first
       | (go_at_call 41; refine (HCt.out _).mono ?_; rintro e w' ⟨rfl, rfl⟩)
       | (go_at_call 43; refine (HUp.out _).mono ?_; rintro e w4 ⟨rfl, hb4⟩; have HB4 : Hid (Below w.heap.size w w4) := qa0 HBw.out hb4; clear hb4))
      refine ⟨.tuple #[.slice none 0 0, .int .i64 4], by simp [results, Tryz.results12, go_sem], ?_⟩
      exact ⟨x, true, 0, HS3.out, HB4.out, .inr (.inr (.inr (.inl ⟨rfl, by omega, rfl, HX.out, rfl⟩)))⟩
    ·have HX : Hid (¬ 16384 < upv (r - 1) (cn x r : Int)) := by rw [HUx.out]; exact hbad
     rcases huc with ⟨rfl, rfl, _⟩ | ⟨_, h⟩
     ·have d3 : decide ((16384 : Int) < (uv : Int)) = false := decide_eq_false (by omega)
      have d4 : decide (16384 < uv) = false := decide_eq_false hbad
      rw [e00] at HUp
      have hC16 : C k ≤ 16384 := by have := HCk.out; omega
      clear e00 HU HUx HCk
      go_wp2_with (first
       | (go_at_call 41; refine (HCt.out _).mono ?_; rintro e w' ⟨rfl, rfl⟩)
       | (go_at_call 43; refine (HUp.out _).mono ?_; rintro e w4 ⟨rfl, hb4⟩; have HB4 : Hid (Below w3.heap.size w3 (w4.alloc (.cells #[.slice none 0 0] 39))) := qa0 hb4 (qa1 _ _); have HF4 : Hid (Cl (w4.alloc (.cells #[.slice none 0 0] 39)) w4.heap.size (.slice none 0 0) 39) := Cl.new _ _ _; have hs4 := hb4.size; have n0 := (HVm3.out.later HB4.out).c0; have n1 := (HVb3.out.later HB4.out).cell; clear hb4)
       | (go_at_call 44; refine (lothers _ _ _ _).mono ?_; rintro e w5 ⟨bn, bk, bb, rfl, hn1, hn2, hn3, hg1, hg2, hg3, hb5⟩; have HC1 := qa2 hn1; have HC2 := qa2 hn2; have HC3 := qa2 hn3; have HB5 : Hid (Below w3.heap.size w3 w5) := qa0 HB4.out hb5; have HF5 : Hid (Cl w5 w4.heap.size (.slice none 0 0) 39) := HF4.out.later hb5; clear hn1 hn2 hn3 hb5))
      obtain ⟨Fd, HFd⟩ : ∃ R, Hid (w4.heap.size = R) := ⟨_, rfl⟩
      rw [HFd.out] at HF5 ⊢
      have hFd3 : w3.heap.size ≤ Fd := by rw [← HFd.out]; exact hs4
      obtain ⟨m, HMm⟩ : ∃ m, Hid (w5.heap.size = m) := ⟨_, rfl⟩
      have hm5 : w5.heap.size = m := HMm.out
      have hsz5 := HB5.out.size
      have hFdm : Fd < m := by rw [← hm5]; exact HF5.out.lt
      have l1 := HC1.out.lt
      have l2 := HC2.out.lt
      have l3 := HC3.out.lt
      rw [hm5] at l1 l2 l3
      obtain ⟨Pk, HPk⟩ : ∃ P : Nat → Prop, Hid ((fun i => SS M r (G k i) (M b)) = P) := ⟨_, rfl⟩
      have HI0 : Hid (Ck19 w w5 m r c n k0 b a most Rw Fd top N g (G k) Pk 0) := ⟨qa0 HBw.out HB5.out, HVm3.out.later HB5.out, HVb3.out.later HB5.out, HVt3.out.later HB5.out, HVr3.out.later HB5.out, by omega, 0, 0, none, id, HF5.out, fun _ => ⟨rfl, rfl⟩, Jo.nil _ _ _ _ _, Enm.zero _ _ _, Nat.le_refl _⟩
      have HM5 : Hid (Mt w5 (some ⟨g, 0, none⟩) N N H) := HM3.out.later HB5.out
      have hmw : w.heap.size + 2 < m := by have := HB3.out.size; omega
      have hRm : Rw < m := by omega
      have hglt : g < m ∨ N = 0 := by
       by_cases hN : N = 0
       ·exact .inr hN
       ·obtain ⟨g2, o2, e2, hc2⟩ := HM5.out.sl.2 0 (by omega)
        cases e2
        exact .inl (by rw [← hm5]; exact qas hc2)
      clear HVm3 HVb3 HVt3 HVr3 HF4 HF5 HB4 HB3 y0 m0 n0 n1 HUp HCt HM3 hs4 HFd hsz5
      refine (wpIn_wide (n := 4)).1 ?_
      refine qge (nn := 4) (C := C k) (bn := bn) (bk := bk) (bb := bb) (n := r) (b := b) (k : Int) (f k) (ix k) (G k)
       (fun j W' => Ck19 w W' m r c n k0 b a most Rw Fd top N g (G k) Pk j ∧ Cl W' bn (.int .i64 (r : Int)) 3 ∧ Cl W' bk (.int .i64 (k : Int)) 3 ∧ Cl W' bb (.int .i64 (b : Int)) 3 ∧ Mt W' (some ⟨g, 0, none⟩) N N H)
       (fun cc W' => cc = .exit 1 ∧ Ck19 w W' m r c n k0 b a most Rw Fd top N g (G k) Pk (C k))
       (by omega) hr hb (HO.out k hkr).all (HO.out k hkr).is rfl ?hKp ?hKx ?hKc ?h0
       (fun s => { tmps := #[mv r c a n k0, Value.int IntKind.i64 (b : Int), Value.int IntKind.i64 most, Value.pointer (some { block := w.heap.size, off := 0 }), Value.pointer (some { block := w.heap.size + 1, off := 0 }), Value.pointer (some { block := w.heap.size + 1 + 1, off := 0 }), Value.slice none 0 0, Value.int IntKind.i64 0, Value.int IntKind.i64 0, Value.pointer (some { block := Rw, off := 0 }), Value.int IntKind.u64 (x : Int), Value.bool true, Value.int IntKind.i64 0, Value.int IntKind.i64 (k : Int), Value.int IntKind.i64 (uv : Int), Value.int IntKind.i64 0, Value.pointer (some { block := Fd, off := 0 }), Value.int IntKind.u64 (s : Int), Value.agg #[Value.int IntKind.i64 (r : Int), Value.int IntKind.i64 (c : Int), Value.slice a n k0], Value.int IntKind.i64 (b : Int), Value.int IntKind.i64 0, Value.int IntKind.i64 0, Value.bool false, undef, Value.agg #[Value.int IntKind.i64 (r : Int), Value.int IntKind.i64 (c : Int), Value.slice a n k0], mv r top (some { block := g, off := 0 }) N N, Value.tuple #[Value.int IntKind.u64 (x : Int), Value.bool true, Value.int IntKind.i64 0], Value.agg #[Value.int IntKind.i64 (r : Int), Value.int IntKind.i64 (top : Int), Value.slice (some { block := g, off := 0 }) N N], Value.int IntKind.i64 (b : Int), Value.tuple #[Value.int IntKind.u64 (x : Int), Value.bool true, Value.int IntKind.i64 0], Value.int IntKind.u64 (x : Int), Value.bool true, Value.int IntKind.i64 0, Value.bool false, Value.int IntKind.i64 0, Value.bool false, undef, Value.bool false, Value.int IntKind.i64 most, Value.bool false, Value.bool false, Value.bool true, Value.bool false, Value.int IntKind.u64 (x : Int), Value.int IntKind.i64 (k : Int), Value.tuple #[Value.int IntKind.i64 (uv : Int), Value.int IntKind.i64 0], Value.pointer (some { block := w.heap.size, off := 0 }), Value.int IntKind.i64 (r : Int), Value.int IntKind.i64 (r1 : Int), Value.int IntKind.i64 (k : Int), Value.tuple #[Value.int IntKind.i64 (uv : Int), Value.int IntKind.i64 0], Value.int IntKind.i64 (uv : Int), Value.int IntKind.i64 0, Value.int IntKind.i64 0, Value.bool false, Value.bool false, Value.int IntKind.i64 (uv : Int), Value.bool false, Value.bool false, Value.pointer (some { block := w.heap.size, off := 0 }), Value.int IntKind.i64 (r : Int), Value.int IntKind.i64 (b : Int), Value.int IntKind.i64 (k : Int), Value.func (Fn.func 76) #[] #[Value.pointer (some { block := bn, off := 0 }), Value.pointer (some { block := bk, off := 0 }), Value.pointer (some { block := bb, off := 0 })], Value.int IntKind.u64 (s : Int), undef, undef, undef, undef, undef, undef, undef, undef, undef, undef, undef, undef, undef], defers := [] }) ?hassign ?hbody ?hdone ?hstop
      case hassign =>
       intro q l s W1 K hK
       gi_wp2
       exact hK
      case hKp =>
       rintro j W1 W2 ⟨h1, h2, h3, h4, h5⟩ hc
       rw [hm5] at hc
       exact ⟨h1.ch hc hmw hRm hFdm, h2.ch l1 hc, h3.ch l2 hc, h4.ch l3 hc, mt_ch h5 hglt hc⟩
      case hKx =>
       rintro cc W1 W2 ⟨h1, h2⟩ hc
       rw [hm5] at hc
       exact ⟨h1, h2.ch hc hmw hRm hFdm⟩
      case hKc => exact fun j W1 h => ⟨h.2.1.cell, h.2.2.1.cell, h.2.2.2.1.cell⟩
      case h0 => exact ⟨HI0.out, HC1.out, HC2.out, HC3.out, HM5.out⟩
      case hbody =>
       rintro q l j W1 hj ⟨h1, h2, h3, h4, h5⟩
       rw [hm5]
       obtain ⟨L, d, s, u, f1, f2, f3, f4, f5⟩ := h1.fd
       have H1 := qa2 h1
       have H2 := qa2 h2
       have H3 := qa2 h3
       have H4 := qa2 h4
       have H5 := qa2 h5
       have HF1 := qa2 f1
       have HF2 := qa2 f2
       have HF3 := qa2 f3
       have HF4 := qa2 f4
       have fc := f1.cell
       have t0 := h1.vt.cell
       have hsz1 := h1.sz
       clear h1 h2 h3 h4 h5 f1 f2 f3 f4
       by_cases hL : (L : Int) = most
       ·have k1 : ((L : Int) == most) = true := by simp [hL]
        have HX9 : Hid (Ck19 w W1 m r c n k0 b a most Rw Fd top N g (G k) Pk (C k)) := ⟨H1.out.below, H1.out.vm, H1.out.vb, H1.out.vt, H1.out.vr, H1.out.sz, L, d, s, u, HF1.out, HF2.out, HF3.out, HF4.out.far (by omega) (by omega), by omega⟩
        clear hL
        gi_wp2
        exact ⟨⟨rfl, HX9.out⟩, Nat.le_refl _, fun _ _ _ _ => rfl⟩
       ·have k1 : ((L : Int) == most) = false := by simpa using hL
        have hLm : L < most.toNat := by have := HF4.out.le; omega
        obtain ⟨sj, HSj⟩ : ∃ s, Hid (G k j = s) := ⟨_, rfl⟩
        have hsl : sj < 2 ^ r := by rw [← HSj.out]; exact (HO.out k hkr).lt j hj
        obtain ⟨v, hv⟩ : ∃ v : Bool, v = true ↔ SS M r sj (M b) := by
         by_cases h : SS M r sj (M b)
         ·exact ⟨true, fun _ => h, fun _ => rfl⟩
         ·exact ⟨false, fun e => absurd e (by decide), fun e => absurd e h⟩
        have HRp : Hid (Calls Tryz.prog 45 #[mv r top (some ⟨g, 0, none⟩) N N, .int .i64 (b : Int), .int .u64 (sj : Int)] W1 fun e w'' => e = .returned (.bool v) ∧ Below W1.heap.size W1 w'') := qhm W1 r top N N b sj (some ⟨g, 0, none⟩) H v H5.out HRN.out hb hsl (hv.trans (qev HMe.out HHe.out HK.out hb))
        have r_0 := H1.out.vr.c0
        have r_1 := H1.out.vr.c1
        have r_2 := H1.out.vr.c2
        have b_0 := H1.out.vb.cell
        have HV := qa2 hv
        clear hv hsl hL
        rw [HSj.out]
        cases v
        ·have HNo : Hid (Pk j → L = most.toNat) := fun h => absurd (HV.out.2 (by rw [← HPk.out] at h; rw [← HSj.out]; exact h)) (by decide)
         gi_wp2
         refine ⟨trivial, fun h => (by cases h), ?_⟩
         gi_at_call 45
         refine (CallsIn.inRound l (callsIn_wide.2 HRp.out)).mono ?_
         rintro e W2 ⟨rfl, hb2⟩
         have HB2 := qa2 hb2
         clear hb2
         gi_wp2
         refine ⟨⟨⟨H1.out.below.trans (HB2.out.mono H1.out.below.size), H1.out.vm.later HB2.out, H1.out.vb.later HB2.out, H1.out.vt.later HB2.out, H1.out.vr.later HB2.out, Nat.le_trans hsz1 HB2.out.size, L, d, s, u, HF1.out.later HB2.out, HF2.out, HF3.out.later HB2.out, HF4.out.no HNo.out, by omega⟩, H2.out.later HB2.out, H3.out.later HB2.out, H4.out.later HB2.out, H5.out.later HB2.out⟩, HB2.out.size, fun i h1 h2 _ => HB2.out.block i h2⟩
        ·have HPj : Hid (Pk j) := by rw [← HPk.out]; show SS M r (G k j) (M b); rw [HSj.out]; exact HV.out.1 rfl
         gi_wp2
         refine ⟨trivial, fun h => (by cases h), ?_⟩
         gi_at_call 45
         refine (CallsIn.inRound l (callsIn_wide.2 HRp.out)).mono ?_
         rintro e W2 ⟨rfl, hb2⟩
         have HB2 := qa2 hb2
         have HCk2 : Hid (Ck19 w W2 m r c n k0 b a most Rw Fd top N g (G k) Pk j) := H1.out.ch (Ch.of_below hb2) hmw hRm hFdm
         have HG1 : Hid (Cl W2 Fd (.slice s L d) 39) := HF1.out.later hb2
         have HG3 : Hid (Jo W2 w.heap.size 26 .u64 (.slice s L d) L (fun n => G k (u n))) := HF3.out.later hb2
         have H22 := qa2 (H2.out.later hb2)
         have H32 := qa2 (H3.out.later hb2)
         have H42 := qa2 (H4.out.later hb2)
         have H52 := qa2 (H5.out.later hb2)
         have fc2 := HG1.out.cell
         have hw2 := HCk2.out.below.size
         obtain ⟨i0, hi0, hz0, hz1, hz2⟩ := info_parts ju64
         clear hb2 r_0 r_1 r_2 b_0 fc t0 H1 H2 H3 H4 H5 HF1 HF3 HRp
         gi_wp2_with (gi_at_builtin; refine wpListIn_append_own _ rfl _ _ 39 rfl w.heap.size 26 i0 (.int .u64 0) 1 8 Tryz.underlying39 hi0 hz0 hz1 hz2 rfl (by decide) _ L _ rfl (World.ownsRow.alloc HG3.out _) ⟨W2.heap.size, 0, none⟩ 1 1 [.int .u64 (sj : Int)] rfl rfl (qdv _ _ _ _) (qdw _ _) (by unfold maxLen; omega) (by omega) (by simp; omega) ?_; intro v' w6 hown' hgrow' _; obtain ⟨s', d', rfl, hF6, hCk, hsz7, hk7⟩ := HCk2.out.yes (by omega) (by omega) hFdm HG1.out HF2.out HG3.out HF4.out f5 HPj.out hLm HSj.out hown' hgrow'; have HCk7 := qa2 hCk; have HK7 := qa2 hk7; have c7 := hF6.cell; have ff7 := hF6.free; clear hown' hgrow' hCk hk7)
         have nF : ∀ i, i < m → i ≠ Fd ∨ True := fun _ _ => .inr trivial
         have kb : ∀ i v, i ≠ Fd → Cl W2 i v 3 → (∀ x : Int, v ≠ .int .u64 x) → Cl (w6.setCell ⟨Fd, 0, none⟩ (.slice s' (L + 1) d')) i v 3 := fun i v hne hc hv => by
          unfold Cl
          rw [HK7.out i hc.lt hne (IsS.none_of hc.cell hv)]
          exact hc
         have hne : ∀ i v, Cl W2 i v 3 → i ≠ Fd := fun i v hc e => by
          subst e
          have h1 := HG1.out
          unfold Cl at h1 hc
          rw [hc] at h1
          simp at h1
         refine ⟨⟨HCk7.out, kb _ _ (hne _ _ H22.out) H22.out (fun x e => by cases e), kb _ _ (hne _ _ H32.out) H32.out (fun x e => by cases e), kb _ _ (hne _ _ H42.out) H42.out (fun x e => by cases e), ?_⟩, by have := HB2.out.size; omega, fun i h1 h2 h3 => ?_⟩
         ·refine ⟨⟨H52.out.sl.1, fun i hi => ?_⟩, H52.out.room, H52.out.nil⟩
          obtain ⟨g', o', e', hcell⟩ := H52.out.sl.2 i hi
          cases e'
          obtain ⟨g2, o2, e2, hcell0⟩ := H52.out.sl.2 0 (by omega)
          cases e2
          rw [Nat.zero_add] at hcell0
          have hgF : g ≠ Fd := fun e => by
           rw [e] at hcell0
           rw [HG1.out.cell] at hcell0
           cases Option.some.inj hcell0
          exact ⟨_, _, rfl, by rw [World.cell?_of_block (a := ⟨g, 0 + i, none⟩) (HK7.out g (qas hcell) hgF (IsS.none_of hcell0 (fun x e => by cases e)))]; exact hcell⟩
         ·have hb2i : W2.heap[i]? = W1.heap[i]? := HB2.out.block i h2
          rw [HK7.out i (by have := HB2.out.size; omega) (by omega) (fun ⟨x, e⟩ => h3 ⟨x, by rw [← World.cell?_of_block (a := ⟨i, 0, none⟩) hb2i]; exact e⟩), hb2i]
      case hdone =>
       rintro D W1 hD ⟨h1, _, _, _, _⟩ hdf
       rw [hm5] at hD
       obtain ⟨L, d, s, u, f1, f2, f3, f4, f5⟩ := h1.fd
       have fc := f1.cell
       have HFi : Hid (ChP w (W1.putObj D (.deferred none)) (.returned (.tuple #[.slice s L d, .int .i64 0])) M r b C G most) := by
        have hch := Ch.put W1 D (.deferred none) hD (IsS.none_def hdf)
        have hbl : Below w.heap.size w (W1.putObj D (.deferred none)) := h1.below.trans ((hch.below h1.sz).mono (by omega))
        refine ⟨x, true, 0, HS3.out, hbl, .inr (.inr (.inr (.inr ⟨rfl, by omega, rfl, HX.out, s, L, d, u, rfl, ?_, ?_⟩)))⟩
        ·rw [HKk.out]; exact f3.ch f2 hch
        ·rw [HKk.out]
         have h9 := f4
         rw [← HPk.out] at h9
         exact h9
       have HDf := qa2 hdf
       clear f1 f2 f3 f4 h1 hdf
       go_wp2
       refine ⟨by simp, .inl ⟨_, _, rfl, run_takeDeferred HDf.out, ?_⟩⟩
       refine ⟨.tuple #[.slice s L d, .int .i64 0], by simp [results, Tryz.results12, go_sem], ?_⟩
       exact HFi.out
      case hstop =>
       rintro D cc W1 hD ⟨rfl, h1⟩ hdf
       refine wpIn_wide.2 ?_
       rw [hm5] at hD
       obtain ⟨L, d, s, u, f1, f2, f3, f4, f5⟩ := h1.fd
       have fc := f1.cell
       have HFi : Hid (ChP w (W1.putObj D (.deferred none)) (.returned (.tuple #[.slice s L d, .int .i64 0])) M r b C G most) := by
        have hch := Ch.put W1 D (.deferred none) hD (IsS.none_def hdf)
        have hbl : Below w.heap.size w (W1.putObj D (.deferred none)) := h1.below.trans ((hch.below h1.sz).mono (by omega))
        refine ⟨x, true, 0, HS3.out, hbl, .inr (.inr (.inr (.inr ⟨rfl, by omega, rfl, HX.out, s, L, d, u, rfl, ?_, ?_⟩)))⟩
        ·rw [HKk.out]; exact f3.ch f2 hch
        ·rw [HKk.out]
         have h9 := f4
         rw [← HPk.out] at h9
         exact h9
       have HDf := qa2 hdf
       clear f1 f2 f3 f4 h1 hdf
       go_wp2
       refine ⟨by simp, .inl ⟨_, _, rfl, run_takeDeferred HDf.out, ?_⟩⟩
       refine ⟨.tuple #[.slice s L d, .int .i64 0], by simp [results, Tryz.results12, go_sem], ?_⟩
       exact HFi.out
     ·exact absurd h (by omega)
 ·have h4 : er = 4 := by
   rcases HS3.out with ⟨_, _, h, _⟩ | ⟨_, h, _⟩ | ⟨_, _, h, _⟩
   ·exact absurd h he0
   ·exact absurd h he0
   ·exact h
  subst h4
  have e44 : ((4 : Nat) : Int) = 4 := rfl
  rw [e44]
  clear e44
  go_wp2
  refine ⟨.tuple #[.slice none 0 0, .int .i64 4], by simp [results, Tryz.results12, go_sem], ?_⟩
  exact ⟨x, v, 4, HS3.out, HBw.out, .inl ⟨by decide, rfl⟩⟩
end Go.Proofs.YtblagbghpfopcaaGreat
