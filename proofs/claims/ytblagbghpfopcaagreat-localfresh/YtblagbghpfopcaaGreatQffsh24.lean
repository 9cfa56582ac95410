/-
  Contracts of the reference: First.
  Contract of the reference: Kernel.
  Contract of the reference: Kernel.
  Words for the reference's wide: the elimination in place, of up to 65 columns.
-/
import Derived.Test.YtblagbghpfopcaaGreatQffsh00
import Derived.Test.YtblagbghpfopcaaGreatQffsh17
set_option maxRecDepth 100000
set_option maxHeartbeats 16000000
namespace Go.Proofs.YtblagbghpfopcaaGreat
open Go.RowKit
/-- The places below r of the rows that are no combinations of those above, rising. -/
structure FstL (M : Nat → Nat → Nat) (r t : Nat) (q : Nat → Nat) : Prop where
 up : ∀ i j, i < j → j < t → q i < q j
 lt : ∀ i, i < t → q i < r
 is : ∀ i, i < t → Fst M (q i)
 all : ∀ i, i < r → Fst M i → ∃ u, u < t ∧ q u = i
theorem FstL.same {M : Nat → Nat → Nat} {r t : Nat} {q : Nat → Nat} (h : FstL M r t q) (hs : Spn M r (M r)) : FstL M (r + 1) t q :=
 ⟨h.up, fun i hi => by have := h.lt i hi; omega, h.is, fun i hi hf => by
  by_cases e : i = r
  ·subst e; exact absurd hs hf
  ·exact h.all i (by omega) hf⟩
theorem FstL.more {M : Nat → Nat → Nat} {r t : Nat} {q : Nat → Nat} (h : FstL M r t q) (hs : ¬ Spn M r (M r)) : FstL M (r + 1) (t + 1) (fun i => if i = t then r else q i) := by
 refine ⟨fun i j hij hj => ?_, fun i hi => ?_, fun i hi => ?_, fun i hi hf => ?_⟩
 ·show (if i = t then r else q i) < (if j = t then r else q j)
  rw [if_neg (by omega)]
  split
  ·exact h.lt i (by omega)
  ·exact h.up i j hij (by omega)
 ·show (if i = t then r else q i) < r + 1
  split
  ·omega
  ·have := h.lt i (by omega); omega
 ·show Fst M (if i = t then r else q i)
  split
  ·exact hs
  ·exact h.is i (by omega)
 ·by_cases e : i = r
  ·exact ⟨t, by omega, by rw [if_pos rfl, e]⟩
  ·obtain ⟨u, hu, e2⟩ := h.all i (by omega) hf
   exact ⟨u, by omega, by rw [if_neg (by omega)]; exact e2⟩
theorem qln (M : Nat → Nat → Nat) (q : Nat → Nat) : FstL M 0 0 q := ⟨fun _ _ _ h => by omega, fun _ h => by omega, fun _ h => by omega, fun _ h => by omega⟩
theorem FstL.unique {M : Nat → Nat → Nat} {r t u : Nat} {p q : Nat → Nat} (h : FstL M r t p) (g : FstL M r u q) : t = u ∧ ∀ i, i < t → p i = q i :=
 qe1 h.up g.up (fun i hi => by obtain ⟨v, hv, e⟩ := g.all _ (h.lt i hi) (h.is i hi); exact ⟨v, hv, e.symm⟩) (fun i hi => by obtain ⟨v, hv, e⟩ := h.all _ (g.lt i hi) (g.is i hi); exact ⟨v, hv, e.symm⟩)
/-- What First's loop keeps. -/
structure FInv (w wr : World) (r c n k t i : Nat) (q : Nat → Nat) (a : Option Addr) (v : Value) (M : Nat → Nat → Nat) : Prop where
 va : Vr wr w.heap.size (.int .i64 (r : Int)) (.int .i64 (c : Int)) (.slice a n k)
 lst : Oi wr w.heap.size v t q
 fst : FstL M i t q
 rk : Rk M i t
 ti : t ≤ i
 below : Below w.heap.size w wr
theorem FInv.later {w wr w' : World} {r c n k t i : Nat} {q : Nat → Nat} {a : Option Addr} {v : Value} {M : Nat → Nat → Nat} (h : FInv w wr r c n k t i q a v M) (hb : Below wr.heap.size wr w') : FInv w w' r c n k t i q a v M :=
 ⟨h.va.later hb, h.lst.later hb, h.fst, h.rk, h.ti, qa1 h.below hb⟩
theorem FInv.more {w wr w3 : World} {r c n k t i : Nat} {q : Nat → Nat} {a : Option Addr} {v v' : Value} {M : Nat → Nat → Nat} (o : Obj) (I : FInv w wr r c n k t i q a v M) (hM : El2 M) (hs : ¬ Spn M i (M i))
  (hown : w3.ownsRow w.heap.size 3 1 v' (t + 1) ((irow t q).toList ++ [.int .i64 (i : Int)])) (hg : (wr.alloc o).grownBy w3 v.ownBlock) : FInv w w3 r c n k (t + 1) (i + 1) (fun u => if u = t then i else q u) a v' M := by
 have A := I.later (qa0 wr o)
 rw [qci] at hown
 refine ⟨A.va.grown hg (qbb A.lst A.va), hown, I.fst.more hs, I.rk.more hM hs, by have := I.ti; omega, ?_⟩
 cases hv : v.ownBlock with
 | none => rw [hv] at hg; exact qa1 A.below (qa4.mp hg)
 | some g => rw [hv] at hg; exact qa6 A.below hg (A.lst.base hv).1
theorem FInv.same {w wr : World} {r c n k t i : Nat} {q : Nat → Nat} {a : Option Addr} {v : Value} {M : Nat → Nat → Nat} (I : FInv w wr r c n k t i q a v M) (hM : El2 M) (hs : Spn M i (M i)) : FInv w wr r c n k t (i + 1) q a v M :=
 ⟨I.va, I.lst, I.fst.same hs, I.rk.same hM hs, by have := I.ti; omega, I.below⟩
theorem qlo {F : Nat → Nat} {r c i t : Nat} (hi : i ≤ r) (h : Rk (m2 F i c) i t) : Rk (m2 F r c) i t := h.at (fun u l hu => by
 by_cases hl : l < c
 ·rw [qan _ (by omega) hl, qan _ hu hl]
 ·rw [qad _ (by omega), qad _ (by omega)])
theorem qh1 (w : World) (r c n k : Nat) (a : Option Addr) (F : Nat → Nat) (ha : Mt w a n k F) (R : Rt r c n) :
  Calls Tryz.prog 70 #[mv r c a n k] w fun e w' => ∃ ps pd t q, e = .returned (.tuple #[.slice ps t pd, .int .i64 0]) ∧ Oi w' w.heap.size (.slice ps t pd) t q ∧ FstL (m2 F r c) r t q ∧ Rk (m2 F r c) r t ∧ t ≤ r ∧ Below w.heap.size w w' := by
 have HR : Hid (Rt r c n) := R
 have HSa : Hid (Mt w a n k F) := ha
 have hn := R.le
 have hr := R.r64
 have hc := R.c64
 have hnk := ha.room
 obtain ⟨M, HM⟩ : ∃ M, Hid (m2 F r c = M) := ⟨_, rfl⟩
 have HEl : Hid (El2 M) := by rw [← HM.out]; exact qax ha.sl.1 R
 obtain ⟨wb, HW⟩ : ∃ wb, Hid (wb = w.alloc (.cells #[.int .i64 (r : Int), .int .i64 (c : Int), .slice a n k] 24)) := ⟨_, rfl⟩
 have HVa : Hid (Vr wb w.heap.size (.int .i64 (r : Int)) (.int .i64 (c : Int)) (.slice a n k)) := by show Vr _ _ _ _ _; rw [HW.out]; exact Vr.new _ _ _ _
 have HB0 : Hid (Below w.heap.size w wb) := by rw [HW.out]; exact qa0 _ _
 have v0 := HVa.out.c0
 have v1 := HVa.out.c1
 have v2 := HVa.out.c2
 obtain ⟨i0, hi0, hz0, hz1, hz2⟩ := info_parts infoI
 rw [HM.out]
 clear ha R
 go_enter Tryz.func70, Tryz.ntmps70
 go_wp2_with (go_at_call 68; rw [← HW.out]; refine (qas _ _ _ _ _ _ HR.out.p).mono ?_; rintro e w1 ⟨rfl, hb1⟩; have HI0 : Hid (FInv w w1 r c n k 0 0 (fun _ => 0) a (.slice none 0 0) M) := ⟨HVa.out.later hb1, Oi.nil _ _ _, qln _ _, Rk.zero _, Nat.le_refl _, qa1 HB0.out hb1⟩; clear hb1)
 clear HW HVa HB0 v0 v1 v2
 go_loopw [4, 5, 6] (fun sv st si wr => ∃ (t i : Nat) (q : Nat → Nat), i ≤ r ∧ st = .int .i64 (t : Int) ∧ si = .int .i64 (i : Int) ∧ FInv w wr r c n k t i q a sv M) (fun _ _ si _ => r - (intOf si).toNat)
 case atStart => exact ⟨0, 0, fun _ => 0, by omega, rfl, rfl, HI0.out⟩
 case round =>
  clear HI0
  obtain ⟨t, i, q, hir, rfl, rfl, I⟩ := hrel
  obtain ⟨ps, pd, rfl, _⟩ := I.lst.form
  have HI : Hid (FInv w wr r c n k t i q a (.slice ps t pd) M) := I
  have c0 := I.va.c0
  have c1 := I.va.c1
  have c2 := I.va.c2
  have hti := I.ti
  clear I
  by_cases hlt : i < r
  ·obtain ⟨N, HN⟩ : ∃ x, Hid ((i + 1) * c = x) := ⟨_, rfl⟩
   have hNn : N ≤ n := by rw [← HN.out, ← HR.out.len]; exact Nat.mul_le_mul_right c hlt
   have hNk : N ≤ k := by omega
   have e1 : ((i : Int) + 1) * (c : Int) = (N : Int) := by rw [← HN.out]; simp
   have wN : IntKind.i64.wrap (((i : Int) + 1) * (c : Int)) = (N : Int) := by rw [e1, IntKind.wrap_i64]; omega
   have wi : IntKind.i64.wrap ((i : Int) + 1) = (i : Int) + 1 := by rw [IntKind.wrap_i64]; omega
   have hN0 : (0 : Int) ≤ (N : Int) := by omega
   have hN1 : (N : Int) ≤ (k : Int) := by omega
   have HRk : Hid (∀ w', Below w.heap.size w w' → Calls Tryz.prog 84 #[.agg #[.int .i64 ((i : Int) + 1), .int .i64 (c : Int), .slice a N k]] w' fun e w'' => ∃ t : Nat, e = .returned (.tuple #[.int .i64 (t : Int), .int .i64 0]) ∧ Rk M (i + 1) t ∧ Below w'.heap.size w' w'') := fun w' h' => by
    have h1 := HSa.out.later h'
    have hb := qe7 w' (i + 1) c N k a F ⟨fun u hu => h1.sl.1 u (by omega), fun u hu => h1.sl.2 u (by omega)⟩ (fun e => ⟨by have := (h1.nil e).1; omega, (h1.nil e).2⟩) ⟨by omega, hc, HN.out⟩
    refine hb.mono fun e w'' ⟨t, he, hk, hb⟩ => ⟨t, he, ?_, hb⟩
    rw [← HM.out]
    exact qlo (by omega) hk
   have HD : Hid (wr.drew.cell? ⟨w.heap.size, 0, none⟩ = some (.int .i64 (r : Int)) ∧ wr.drew.cell? ⟨w.heap.size, 1, none⟩ = some (.int .i64 (c : Int)) ∧ wr.drew.cell? ⟨w.heap.size, 2, none⟩ = some (.slice a n k)) := ⟨c0, c1, c2⟩
   clear e1
   go_wp2
   refine wp_region_held (S := fun w' => w'.cell? ⟨w.heap.size, 0, none⟩ = some (.int .i64 (r : Int)) ∧ w'.cell? ⟨w.heap.size, 1, none⟩ = some (.int .i64 (c : Int)) ∧ w'.cell? ⟨w.heap.size, 2, none⟩ = some (.slice a n k)) (by kernel_rfl) ?_
   refine wtkq 0 ?v0 rfl (by kernel_rfl) (fun _ _ _ h => h) (by rfl) ?y0 HD.out ?z0
   case y0 => (intro w hSw; (try dsimp only at hSw); go_simp; try with_reducible rfl)
   try simp only [mz1, mz3, Act.put, mz4, mz5, mz6]
   refine wtkq 1 ?v1 rfl (by kernel_rfl) (fun _ _ _ h => h) (by rfl) ?y1 HD.out ?z1
   case y1 => (intro w hSw; (try dsimp only at hSw); go_simp; try with_reducible rfl)
   try simp only [mz1, mz2, mz3, Act.put, mz4, mz5, mz6]
   refine wtkq 2 ?v2 rfl (by kernel_rfl) (fun _ _ _ h => h) (by rfl) ?y2 HD.out ?z2
   case y2 => (intro w hSw; (try dsimp only at hSw); go_simp; try with_reducible rfl)
   try simp only [mz1, mz2, mz3, Act.put, mz4, mz5, mz6]
   refine wtkq 3 ?v3 rfl (by kernel_rfl) (fun _ _ _ h => h) (by rfl) ?y3 HD.out ?z3
   case y3 => (intro w hSw; (try dsimp only at hSw); go_simp; try with_reducible rfl)
   try simp only [mz1, mz2, mz3, Act.put, mz4, mz5, mz6]
   refine wtkq 4 ?v4 rfl (by kernel_rfl) (fun _ _ _ h => h) (by rfl) ?y4 HD.out ?z4
   case y4 => (intro w hSw; (try dsimp only at hSw); go_simp; try with_reducible rfl)
   try simp only [mz1, mz2, mz3, Act.put, mz4, mz5, mz6]
   refine wtkq 5 ?v5 rfl (by kernel_rfl) (fun _ _ _ h => h) (by rfl) ?y5 HD.out ?z5
   case y5 => (intro w hSw; (try dsimp only at hSw); go_simp; try with_reducible rfl)
   try simp only [mz1, mz2, mz3, Act.put, mz4, mz5, mz6]
   refine wtkq 6 ?v6 rfl (by kernel_rfl) (fun _ _ _ h => h) (by rfl) ?y6 HD.out ?z6
   case y6 => (intro w hSw; (try dsimp only at hSw); go_simp; try with_reducible rfl)
   try simp only [mz1, mz2, mz3, Act.put, mz4, mz5, mz6]
   refine wtkq 7 ?v7 rfl (by kernel_rfl) (fun _ _ _ h => h) (by rfl) ?y7 HD.out ?z7
   case y7 => (intro w hSw; (try dsimp only at hSw); go_simp; try with_reducible rfl)
   try simp only [mz1, mz2, mz3, Act.put, mz4, mz5, mz6]
   refine wtkq 8 ?v8 rfl (by kernel_rfl) (fun _ _ _ h => h) (by rfl) ?y8 HD.out ?z8
   case y8 => (intro w hSw; (try dsimp only at hSw); go_simp; try with_reducible rfl)
   try simp only [mz1, mz2, mz3, Act.put, mz4, mz5, mz6]
   refine wtkq 9 ?v9 rfl (by kernel_rfl) (fun _ _ _ h => h) (by rfl) ?y9 HD.out ?z9
   case y9 => (intro w hSw; (try dsimp only at hSw); go_simp; try with_reducible rfl)
   try simp only [mz1, mz2, mz3, Act.put, mz4, mz5, mz6]
   refine wtkq 10 ?v10 rfl (by kernel_rfl) (fun _ _ _ h => h) (by rfl) ?y10 HD.out ?z10
   case y10 => (intro w hSw; (try dsimp only at hSw); go_simp; try with_reducible rfl)
   try simp only [mz1, mz2, mz3, Act.put, mz4, mz5, mz6]
   refine wtkq 11 ?v11 rfl (by kernel_rfl) (fun _ _ _ h => h) (by rfl) ?y11 HD.out ?z11
   case y11 => (intro w hSw; (try dsimp only at hSw); go_simp; try with_reducible rfl)
   try simp only [mz1, mz2, mz3, Act.put, mz4, mz5, mz6]
   refine wtkq 12 ?v12 rfl (by kernel_rfl) (fun _ _ _ h => h) (by rfl) ?y12 HD.out ?z12
   case y12 => (intro w hSw; (try dsimp only at hSw); go_simp; try with_reducible rfl)
   try simp only [mz1, mz2, mz3, Act.put, mz4, mz5, mz6]
   refine wpAnyH_ready (rs := [13]) (by kernel_rfl) (by simp) ?_
   refine AllReadyH.cons rfl (fun K hK => ?_) AllReadyH.nil
   go_simp
   refine (HRk.out wr.drew (qa1 HI.out.below (Below.refl _ _).drew)).mono ?_; rintro e w5 ⟨t', rfl, hk5, hb5⟩; have HD5 : Hid (w5.cell? ⟨w.heap.size, 0, none⟩ = some (.int .i64 (r : Int)) ∧ w5.cell? ⟨w.heap.size, 1, none⟩ = some (.int .i64 (c : Int)) ∧ w5.cell? ⟨w.heap.size, 2, none⟩ = some (.slice a n k)) := ⟨keepc hb5 HD.out.1, keepc hb5 HD.out.2.1, keepc hb5 HD.out.2.2⟩; have HI5 : Hid (FInv w w5 r c n k t i q a (.slice ps t pd) M) := HI.out.later (qa1 (Below.refl _ _).drew hb5); have HK5 : Hid (Rk M (i + 1) t') := hk5; clear hb5 hk5
   refine hK.out _ _ HD5.out (fun _ => ?_)
   clear hK K
   try simp only [mz1, mz2, mz3, Act.put, mz4, mz5, mz6]
   refine wtkq 14 ?v14 rfl (by kernel_rfl) (fun _ _ _ h => h) (by rfl) ?y14 HD5.out ?z14
   case y14 => (intro w hSw; (try dsimp only at hSw); go_simp; try with_reducible rfl)
   try simp only [mz1, mz2, mz3, Act.put, mz4, mz5, mz6]
   refine wtkq 15 ?v15 rfl (by kernel_rfl) (fun _ _ _ h => h) (by rfl) ?y15 HD5.out ?z15
   case y15 => (intro w hSw; (try dsimp only at hSw); go_simp; try with_reducible rfl)
   try simp only [mz1, mz2, mz3, Act.put, mz4, mz5, mz6]
   refine wtkq 16 ?v16 rfl (by kernel_rfl) (fun _ _ _ h => h) (by rfl) ?y16 HD5.out ?z16
   case y16 => (intro w hSw; (try dsimp only at hSw); go_simp; try with_reducible rfl)
   try simp only [mz1, mz2, mz3, Act.put, mz4, mz5, mz6]
   refine wtkq 17 ?v17 rfl (by kernel_rfl) (fun _ _ _ h => h) (by rfl) ?y17 HD5.out ?z17
   case y17 => (intro w hSw; (try dsimp only at hSw); go_simp; try with_reducible rfl)
   try simp only [mz1, mz2, mz3, Act.put, mz4, mz5, mz6]
   refine wtkq 18 ?v18 rfl (by kernel_rfl) (fun _ _ _ h => h) (by rfl) ?y18 HD5.out ?z18
   case y18 => (intro w hSw; (try dsimp only at hSw); go_simp; try with_reducible rfl)
   try simp only [mz1, mz2, mz3, Act.put, mz4, mz5, mz6]
   refine wpAnyH_done (by kernel_rfl) ?_ _
   by_cases hs : Spn M i (M i)
   ·have HT : Hid (t' = t) := HK5.out.unique (HI5.out.rk.same HEl.out hs) (SpEq.refl HEl.out _)
    have g1 : decide (t < t') = false := by rw [HT.out]; simp
    go_wp2
    exact ⟨⟨t, i + 1, q, by omega, rfl, by go_num, HI5.out.same HEl.out hs⟩, by simp [intOf]; omega⟩
   ·have HT : Hid (t' = t + 1) := HK5.out.unique (HI5.out.rk.more HEl.out hs) (SpEq.refl HEl.out _)
    have g1 : decide (t < t') = true := by rw [HT.out]; simp
    have hml2 : t + 1 ≤ maxLen := by unfold maxLen; omega
    have hsz : w.heap.size ≤ w5.heap.size := HI5.out.below.size
    go_wp2_with (at_builtin; refine wpList_append_own _ rfl _ _ 34 rfl w.heap.size 3 i0 (.int .i64 0) 1 8 Tryz.underlying34 hi0 hz0 hz1 hz2 rfl (by decide) _ t _ rfl (World.ownsRow.alloc HI5.out.lst _) ⟨w5.heap.size, 0, none⟩ 1 1 [.int .i64 (i : Int)] rfl rfl (qe5 _ _ _) (qe6 _) hml2 (by omega) (by simp; omega) ?_; intro v' w6 hown' hgrow' _; have HO6 : Hid (w6.ownsRow w.heap.size 3 1 v' (t + 1) ((irow t q).toList ++ [.int .i64 (i : Int)])) := hown'; have HG6 : Hid ((w5.alloc (.cells #[.int .i64 (i : Int)] 3)).grownBy w6 (Value.slice ps t pd).ownBlock) := hgrow'; clear hown' hgrow')
    exact ⟨⟨t + 1, i + 1, _, by omega, by rw [HT.out], by go_num, FInv.more _ HI5.out HEl.out hs HO6.out HG6.out⟩, by simp [intOf]; omega⟩
  ·have HRI : Hid (i = r) := Nat.le_antisymm hir (by omega)
   go_wp2
   go_ret2
   have J := HI.out
   rw [HRI.out] at J
   exact ⟨ps, pd, t, q, rfl, J.lst, J.fst, J.rk, J.ti, J.below⟩
open Go.RowKit
theorem qdd {w wr w' : World} {row row' : Option Nat} (h : w.grownBy wr row) (h2 : wr.grownBy w' row') (hb : ∀ b, row' = some b → row = some b ∨ w.heap.size ≤ b) : w.grownBy w' row :=
 ⟨h2.os.trans h.os, h2.tape.trans h.tape, h2.output.trans h.output, Nat.le_trans h.size h2.size, fun k hk hne => by
  rw [h2.block k (Nat.lt_of_lt_of_le hk h.size) (fun e => by
   rcases hb k e.symm with h' | h'
   ·exact hne h'.symm
   ·omega), h.block k hk hne]⟩
theorem qer {w wr w' : World} {row : Option Nat} (h : w.grownBy wr row) (hb : Below wr.heap.size wr w') : w.grownBy w' row := qdd h (qa4.mpr hb) (fun b e => by cases e)
/-- A matrix of up to 64 rows and 65 columns. -/
structure Wt (r c n : Nat) : Prop where
 r64 : r ≤ 64
 c65 : c ≤ 65
 len : r * c = n
theorem Wt.le {r c n : Nat} (h : Wt r c n) : n ≤ 4160 := by rw [← h.len]; exact Nat.mul_le_mul h.r64 h.c65
theorem Wt.at {r c n i j : Nat} (h : Wt r c n) (hi : i < r) (hj : j < c) : i * c + j < n := by
 rw [← h.len]
 have : (i + 1) * c ≤ r * c := Nat.mul_le_mul_right c hi
 rw [Nat.add_mul, Nat.one_mul] at this
 omega
theorem qlp {F : Nat → Nat} {r c n : Nat} (hF : ∀ p, p < n → F p < 256) (R : Wt r c n) : El2 (m2 F r c) := fun i j => by
 unfold m2
 split
 ·rename_i h; exact hF _ (R.at h.1 h.2)
 ·decide
theorem qcz (w : World) (r : Int) (c i j n k v : Nat) (a : Option Addr) (f : Nat → Nat) (h : Sl w a n f) (hi : i * c + j < n) (hn : n ≤ 4160) (HV : Hid (f (i * c + j) = v)) :
  Calls Tryz.prog 69 #[mv r c a n k, .int .i64 (i : Int), .int .i64 (j : Int)] w fun e w' => e = .returned (.int .u8 (v : Int)) ∧ Below w.heap.size w w' := by
 obtain ⟨b, o, ea, hcl⟩ := h.2 _ hi
 rw [HV.out] at hcl
 have hlt := qap hcl
 obtain ⟨p, HP⟩ : ∃ p, Hid (i * c + j = p) := ⟨_, rfl⟩
 rw [HP.out] at hcl hi
 have hb : i * c ≤ p := by rw [← HP.out]; omega
 have e1 : ((i : Int) * (c : Int)) = ((i * c : Nat) : Int) := by simp
 have w1 : IntKind.i64.wrap ((i : Int) * (c : Int)) = (i : Int) * (c : Int) := by rw [e1, IntKind.wrap_i64]; omega
 have w2 : IntKind.i64.wrap ((i : Int) * (c : Int) + (j : Int)) = (p : Int) := by rw [e1, IntKind.wrap_i64]; have := HP.out; omega
 have hcl2 : (w.alloc (.cells #[.int .i64 r, .int .i64 (c : Int), .slice (some ⟨b, o, none⟩) n k] 24)).cell? ⟨b, o + p, none⟩ = some (.int .u8 (v : Int)) := by rw [(qa0 w _).cell (p := ⟨b, o + p, none⟩) hlt]; exact hcl
 have hcl2 : (w.alloc (.cells #[.int .i64 r, .int .i64 (c : Int), .slice (some ⟨b, o, none⟩) n k] 24)).cell? ⟨b, o + p, none⟩ = some (.int .u8 (v : Int)) := by rw [(qa0 w _).cell (p := ⟨b, o + p, none⟩) hlt]; exact hcl
 clear h hcl e1
 subst ea
 go_enter Tryz.func69, Tryz.ntmps69
 go_wp2
 go_ret
 exact ⟨rfl, qa0 _ _⟩
/-- Rows top and i, as far as column L: exchanged, the one that comes up divided. -/
def swf (F : Nat → Nat) (d c top i L p : Nat) : Nat := if p / c = top ∧ p % c < L then fm d (F (i * c + p % c)) else if p / c = i ∧ p % c < L then F (top * c + p % c) else F p
theorem swf_zero (F : Nat → Nat) (d c top i p : Nat) : swf F d c top i 0 p = F p := by unfold swf; rw [if_neg (by omega), if_neg (by omega)]
theorem qlq (F : Nat → Nat) {d c top i L t : Nat} (hL : L < c) : swf F d c top i L (t * c + L) = F (t * c + L) := by
 unfold swf
 rw [dm2 hL, if_neg (by omega), if_neg (by omega)]
/-- One column more: first the row below, then the upper one. -/
theorem swf_step (F : Nat → Nat) {d c top i L : Nat} (hL : L < c) (p : Nat) : (if p = top * c + L then fm d (F (i * c + L)) else if p = i * c + L then F (top * c + L) else swf F d c top i L p) = swf F d c top i (L + 1) p := by
 have hc : 0 < c := by omega
 have key : ∀ t, p = t * c + L ↔ p / c = t ∧ p % c = L := fun t => by
  constructor
  ·rintro rfl; exact ⟨dm1 hL, dm2 hL⟩
  ·rintro ⟨rfl, rfl⟩
   have := Nat.div_add_mod p c
   rw [Nat.mul_comm] at this
   exact this.symm
 unfold swf
 by_cases h1 : p = top * c + L
 ·rw [if_pos h1]
  obtain ⟨e1, e2⟩ := (key top).1 h1
  rw [if_pos ⟨e1, by omega⟩, e2]
 ·rw [if_neg h1]
  by_cases h2 : p = i * c + L
  ·rw [if_pos h2]
   obtain ⟨e1, e2⟩ := (key i).1 h2
   rw [if_neg (fun h => h1 ((key top).2 ⟨h.1, e2⟩)), if_pos ⟨e1, by omega⟩, e2]
  ·rw [if_neg h2]
   have n1 : ¬ (p / c = top ∧ p % c = L) := fun h => h1 ((key top).2 h)
   have n2 : ¬ (p / c = i ∧ p % c = L) := fun h => h2 ((key i).2 h)
   have a1 : (p / c = top ∧ p % c < L) ↔ (p / c = top ∧ p % c < L + 1) := by omega
   have a2 : (p / c = i ∧ p % c < L) ↔ (p / c = i ∧ p % c < L + 1) := by omega
   simp only [a1, a2]
theorem m2_swf (F : Nat → Nat) {r c top i d : Nat} (ht : top < r) (hi : i < r) : ∀ t l, t < r → m2 (swf F d c top i c) r c t l = rw1 (swp (m2 F r c) top i) top (fun l => fm d (swp (m2 F r c) top i top l)) t l := by
 intro t l htr
 unfold rw1 swp
 by_cases hl : l < c
 ·rw [qan _ htr hl]
  unfold swf
  rw [dm1 hl, dm2 hl]
  by_cases e : t = top
  ·rw [if_pos ⟨e, hl⟩, if_pos e]
   show _ = fm d (if top = top then m2 F r c i l else _)
   rw [if_pos rfl, qan _ hi hl]
  ·rw [if_neg (fun h => e h.1), if_neg e, if_neg e]
   by_cases e2 : t = i
   ·rw [if_pos ⟨e2, hl⟩, if_pos e2, qan _ ht hl]
   ·rw [if_neg (fun h => e2 h.1), if_neg e2, qan _ htr hl]
 ·rw [qad _ (by omega)]
  by_cases e : t = top
  ·rw [if_pos e]
   show 0 = fm d (if top = top then m2 F r c i l else _)
   rw [if_pos rfl, qad _ (by omega), qa9]
  ·rw [if_neg e, if_neg e, qad _ (by omega), qad _ (by omega)]
   split <;> rfl
/-- A round of wide with a pivot in row i. -/
theorem wide_round {F h : Nat → Nat} {r c n top i j d : Nat} {p : Nat → Nat} {M : Nat → Nat → Nat} (hF : ∀ p, p < n → F p < 256) (R : Wt r c n) (E : Elm (m2 F r c) r top j p) (S : SpEq (m2 F r c) r M r) (hi : top ≤ i) (hir : i < r) (hj : j < c) (hne : F (i * c + j) ≠ 0)
  (hd : d = finv (F (i * c + j))) (hh : ∀ l, l < c → h l = swf F d c top i c (top * c + l)) :
  Elm (m2 (elf (swf F d c top i c) h c top j (r * c)) r c) r (top + 1) (j + 1) (fun t => if t = top then j else p t) ∧ SpEq (m2 (elf (swf F d c top i c) h c top j (r * c)) r c) r M r := by
 have htr : top < r := by omega
 have hd2 : d < 256 := by rw [hd]; exact qae _
 have hE0 := qlp hF R
 obtain ⟨N1, eN1⟩ : ∃ N, N = swp (m2 F r c) top i := ⟨_, rfl⟩
 have hN1 : El2 N1 := by rw [eN1]; exact qie hE0 _ _
 have E1 : Elm N1 r top j p := by rw [eN1]; exact E.swp (by omega) hi htr hir
 have S1 : SpEq N1 r M r := by rw [eN1]; exact (qfx hE0 htr hir).trans S
 have v1 : N1 top j = F (i * c + j) := by
  rw [eN1]; unfold swp; rw [if_pos rfl, qan _ hir hj]
 obtain ⟨N2, eN2⟩ : ∃ N, N = rw1 N1 top (fun l => fm d (N1 top l)) := ⟨_, rfl⟩
 have hN2 : El2 N2 := by rw [eN2]; exact qid hN1 (fun l => qaq _ _ hd2) _
 have hd0 : d ≠ 0 := fun e => by
  have := qar _ (hF _ (R.at hir hj)) hne
  rw [← hd, e, qa9] at this
  cases this
 have E2 : Elm N2 r top j p := by rw [eN2]; exact E1.scale (by omega) htr
 have S2 : SpEq N2 r M r := by rw [eN2]; exact (qcp hN1 htr hd2 hd0).trans S1
 have v2 : N2 top j = 1 := by
  rw [eN2, qff, v1, hd, qaf _ _ (qae _) (hF _ (R.at hir hj)), qar _ (hF _ (R.at hir hj)) hne]
 have E3 := E2.step hN2 htr v2
 have S3 := (qif hN2 htr j).trans S2
 have key : ∀ t l, t < r → m2 (elf (swf F d c top i c) h c top j (r * c)) r c t l = clr N2 top j t l := by
  intro t l ht
  rw [m2_elf _ h hh htr hj t l ht]
  refine qh0 htr (fun t l ht => ?_) t l ht
  rw [m2_swf F htr hir t l ht, eN2, eN1]
 exact ⟨E3.rows key, S3.rows key⟩
theorem swf_lt {F : Nat → Nat} {d r c n top i L : Nat} (hF : ∀ t, t < n → F t < 256) (hd : d < 256) (R : Wt r c n) (ht : top < r) (hc : 0 < c) : ∀ t, t < n → swf F d c top i L t < 256 := by
 intro t htn
 unfold swf
 split
 ·exact qaq _ _ hd
 ·split
  ·exact hF _ (R.at ht (Nat.mod_lt t hc))
  ·exact hF t htn
theorem qhs {G h : Nat → Nat} {r c n top col : Nat} (hG : ∀ t, t < n → G t < 256) (R : Wt r c n) (hcol : col < c) (q : Nat) : ∀ t, t < n → elf G h c top col q t < 256 := by
 intro t ht
 unfold elf
 split
 ·have hl := R.len
  have : t / c < r := (Nat.div_lt_iff_lt_mul (by omega)).2 (by rw [hl]; exact ht)
  exact qbd _ _ (hG t ht) (qaq _ _ (hG _ (R.at this hcol)))
 ·exact hG t ht
/-- What wide's loops keep: the matrix's variable, the answer's, the pivots; of what was there before only the list itself has changed. -/
structure WInv (w wr : World) (B r c n top : Nat) (p : Nat → Nat) (s : Option Addr) (d : Nat) (v : Value) (G : Nat → Nat) : Prop where
 vm : Vr wr w.heap.size (.int .i64 (r : Int)) (.int .i64 (c : Int)) (.slice s n d)
 vo : Vr wr (w.heap.size + 1) (.int .i64 0) (.int .i64 0) (.slice none 0 0)
 data : Ob wr B (.slice s n d) n G
 piv : Oi wr w.heap.size v top p
 grown : w.grownBy wr (Value.slice s n d).ownBlock
theorem WInv.later {w wr w' : World} {B r c n top d : Nat} {p : Nat → Nat} {s : Option Addr} {v : Value} {G : Nat → Nat} (h : WInv w wr B r c n top p s d v G) (hb : Below wr.heap.size wr w') : WInv w w' B r c n top p s d v G :=
 ⟨h.vm.later hb, h.vo.later hb, h.data.later hb, h.piv.later hb, qer h.grown hb⟩
theorem WInv.congr {w wr : World} {B r c n top d : Nat} {p : Nat → Nat} {s : Option Addr} {v : Value} {G G' : Nat → Nat} (h : WInv w wr B r c n top p s d v G) (e : ∀ q, q < n → G q = G' q) : WInv w wr B r c n top p s d v G' :=
 ⟨h.vm, h.vo, h.data.congr e, h.piv, h.grown⟩
theorem WInv.set {w wr : World} {B r c n top d g q x : Nat} {p : Nat → Nat} {v : Value} {G : Nat → Nat} (I : WInv w wr B r c n top p (some ⟨g, 0, none⟩) d v G) : WInv w (wr.setCell ⟨g, q, none⟩ (.int .u8 (x : Int))) B r c n top p (some ⟨g, 0, none⟩) d v (fun i => if i = q then x else G i) := by
 have hg := qa2 wr g q (.int .u8 (x : Int))
 have hb : (Value.slice (some ⟨g, 0, none⟩) n d).ownBlock = some g := rfl
 exact ⟨I.vm.kept hg (fun e => qak I.data I.vm (by rw [hb, e])), I.vo.kept hg (fun e => qak I.data I.vo (by rw [hb, e])), I.data.set q x, I.piv.kept hg (.inr (qdc I.data I.piv hb)), qdd I.grown hg (fun b e => .inl (by rw [hb, e]))⟩
theorem WInv.more {w wr w3 : World} {B r c n top d j : Nat} {p : Nat → Nat} {s : Option Addr} {v v' : Value} {G : Nat → Nat} (o : Obj) (I : WInv w wr B r c n top p s d v G) (hown : w3.ownsRow w.heap.size 3 1 v' (top + 1) ((irow top p).toList ++ [.int .i64 (j : Int)])) (hg : (wr.alloc o).grownBy w3 v.ownBlock) :
  WInv w w3 B r c n (top + 1) (fun t => if t = top then j else p t) s d v' G := by
 have A := I.later (qa0 wr o)
 rw [qci] at hown
 refine ⟨A.vm.grown hg (qbb A.piv A.vm), A.vo.grown hg (qbb A.piv A.vo), A.data.kept hg ?_, hown, qdd A.grown hg (fun b e => .inr (A.piv.base e).1)⟩
 cases hs : (Value.slice s n d).ownBlock with
 | none => exact .inl rfl
 | some g => exact .inr (fun e => qdc A.data A.piv hs e.symm)
end Go.Proofs.YtblagbghpfopcaaGreat
