/-
  Contracts of the program's gauss: Reduce, Rank.
  Contracts of the program's gauss: Solve, Combine.
  Contracts of the program's gauss: Inverse.
  Contracts of the program's gauss: freeColumns.
  Contracts of the program's gauss: Kernel.
  Contracts of the program's matroid: rowsOf, ofNoughts.
-/
import Derived.Test.YtokdejhbjoglcaaQssys00
import Derived.Test.YtokdejhbjoglcaaQssys45
import Derived.Test.YtokdejhbjoglcaaQssys35
import Derived.Test.YtokdejhbjoglcaaQssys37
import Derived.Test.YtokdejhbjoglcaaQssys38
import Derived.Test.YtokdejhbjoglcaaQssys33
import Derived.Test.YtokdejhbjoglcaaQssys26
set_option maxRecDepth 100000
set_option maxHeartbeats 16000000
namespace Go.Proofs.Ytokdejhbjoglcaa
open Go.RowKit
theorem bes_none (w : World) (r c : Nat) (J : Nat → Nat → Nat) : Bes w w.heap.size 0 r c [] (fun _ => 0) (fun _ => 0) (fun _ => 0) (fun _ => 0) J :=
 ⟨Nat.le_refl _, by omega, fun t h => by omega, fun t h => by omega, fun t h => by omega, fun t h => by omega, fun _ _ t h => by omega⟩
/-- A reduction without lists beside it. -/
theorem qid (w : World) (r c n k : Nat) (a : Option Addr) (F : Nat → Nat) (ha : Mt w a n k F) (R : Rt r c n) :
  Calls Try.prog 70 #[mv r c a n k, .slice none 0 0] w fun e w' => ∃ C : Cfg, e = .returned (.pointer (some ⟨C.g, 0, none⟩)) ∧ C.Ok ∧ Rst w' C none 0 0 (fun _ => 0) (m2 F r c) ∧ C.B = w.heap.size ∧ C.n = r ∧ C.c = c ∧ C.m = 0 ∧ Below w.heap.size w w' :=
 (qic w r c n k w.heap.size 0 0 a none F [] _ _ _ _ (m2 F r c) ha R (bes_none w r c _) (World.ownsRow_nil _ _ _ _) (qbw ha.sl.1 R) (fun _ _ _ _ => rfl)).mono (fun _ _ ⟨C, h1, h2, h3, h4, h5, h6, h7, _, h9⟩ => ⟨C, h1, h2, h3, h4, h5, h6, h7, h9⟩)
theorem H_last {C : Cfg} (K : C.Ok) (J : Nat → Nat → Nat) : C.H J C.m = J := by
 funext i l
 show J i (C.o C.m + l) = _
 rw [K.lo, Nat.zero_add]
theorem Rst.rows {w : World} {C : Cfg} {ps : Option Addr} {pd top : Nat} {p : Nat → Nat} {J : Nat → Nat → Nat} (K : C.Ok) (h : Rst w C ps pd top p J) : Prt w (some ⟨C.gr C.m, 0, none⟩) C.n C.c J := by
 have := (h.gs C.m (Nat.le_refl _)).prt
 rwa [K.lk, H_last K J] at this
theorem ct_m2 (F : Nat → Nat) (r c i j : Nat) : ct (m2 F r c) c i j = m2 F r c i j := by
 by_cases hj : j < c
 ·rw [qgg _ i hj]
 ·rw [qho _ i (by omega), qai F (by omega)]
theorem Il.chg {w w' : World} {S : Nat → Prop} {b : Option Addr} {m : Nat} {q : Nat → Int} (h : Il w b m q) (hc : Chg w w' S) (hn : ∀ x, b = some x → ¬ S x.block) : Il w' b m q := fun i hi => by
 obtain ⟨x, o, e, hcl⟩ := h i hi
 refine ⟨x, o, e, ?_⟩
 rw [← hcl]
 exact World.cell?_of_block (hc.block x (qam hcl) (hn _ e))
theorem Mt.chg {w w' : World} {S : Nat → Prop} {a : Option Addr} {n k : Nat} {F : Nat → Nat} (h : Mt w a n k F) (hc : Chg w w' S) (hn : ∀ x, a = some x → ¬ S x.block) : Mt w' a n k F := ⟨h.sl.chg hc hn, h.room, h.nil⟩
theorem Oi.off {w : World} {B b n d : Nat} {s : Option Addr} {f : Nat → Nat} (h : Oi w B (.slice s n d) n f) (hb : b < B) : ∀ x, s = some x → x.block ≠ b := fun x hx e => by
 have := (h.base (g := x.block) (by rw [hx]; rfl)).1
 omega
theorem qie (w : World) (r c n k : Nat) (a : Option Addr) (F : Nat → Nat) (ha : Mt w a n k F) (R : Rt r c n) : Calls Try.prog 82 #[mv r c a n k] w fun e w' => FstP w w' e r c F := by
 have HA : Hid (Mt w a n k F) := ha
 have HR : Hid (Rt r c n) := R
 clear ha R
 go_enter Try.func82, Try.ntmps82
 go_wp2_with (first
  | (go_at_call 93; refine (qhn _ r c n k a F (HA.out.later (qa0 _ _)) HR.out).mono ?_; rintro e w1 ⟨gt, rfl, hr1, _, hb1⟩; have HB1 : Hid (Below w.heap.size w w1) := qa1 (qa0 _ _) hb1; have HM1 : Hid (Mt w1 (some ⟨gt, 0, none⟩) n n (trf F r c)) := hr1.mt (trf_lt HA.out.sl.1 HR.out); have va := Vr.new w1 (.int .i64 (c : Int)) (.int .i64 (r : Int)) (.slice (some ⟨gt, 0, none⟩) n n); have a0 := va.c0; have a1 := va.c1; have a2 := va.c2; clear hr1 hb1 va)
  | (go_at_call 70; refine (qid _ c r n n (some ⟨gt, 0, none⟩) (trf F r c) (HM1.out.later (qa0 _ _)) HR.out.turn).mono ?_; rintro e w2 ⟨C, rfl, hk2, hx2, e1, en, ec, hm0, hb2⟩; clear hm0; have HK : Hid C.Ok := hk2; have HX2 : Hid (Rst w2 C none 0 0 (fun _ => 0) (m2 (trf F r c) c r)) := hx2; have HB2 : Hid (Below w.heap.size w w2) := qa1 (qa1 HB1.out (qa0 _ _)) hb2; have HCB : Hid (w.heap.size ≤ C.B) := by { rw [e1]; exact (qa1 HB1.out (qa0 w1 _)).size }; have HEN : Hid (C.n = c ∧ C.c = r) := ⟨en, ec⟩; clear hk2 hx2 hb2 e1 en ec)
  | (go_at_call 71; refine (qex _ C _ HK.out HX2.out).mono ?_; rintro e w3 ⟨rfl, ps, pd, top, p, J, hx3, he3, hs3, hb3⟩; have HX3 : Hid (Rst w3 C ps pd top p J) := hx3; have HE3 : Hid (Ech J c top r p) := by { have := he3; rw [HEN.out.1, HEN.out.2] at this; exact this }; have HS3 : Hid (SpEq J c (m2 (trf F r c) c r) c) := by { have := hs3; rw [HEN.out.1] at this; exact this }; have HB3 : Hid (Below w.heap.size w w3) := HB2.out.trans (hb3.mono HCB.out); have c2 := hx3.fix.c2; clear hx3 he3 hs3 hb3))
 go_ret2
 have hM := qbw HA.out.sl.1 HR.out
 have hT := qbw (trf_lt HA.out.sl.1 HR.out) HR.out.turn
 obtain ⟨N, hN, hA, hS⟩ := HE3.out.ex HX3.out.el
 have hS2 : SpEq (ct N r) c (m2 (trf F r c) c r) c := by
  have h1 := ((hS.trans HS3.out).ct r)
  rwa [show ct (m2 (trf F r c) c r) r = m2 (trf F r c) c r from funext fun i => funext fun j => ct_m2 (trf F r c) c r i j] at h1
 have hk : Rk (m2 F r c) r top := rk_trf HA.out.sl.1 HR.out ((hA.rdf.rk (ct_el hN r)).span hS2)
 exact ⟨ps, pd, top, p, rfl, HX3.out.fix.piv.il, fstl_of hM hT (ct_el hN r) (fun i j _ hj => qai F hj) (m2_trf F) hA.rdf hA.ech.lt hS2, hk, hk.rows hM, HB3.out⟩
open Go.RowKit
theorem RowAt.frs {w : World} {B g n : Nat} {f : Nat → Nat} (h : RowAt w g 5 n f) (hB : B ≤ g) (hn : n ≤ 4096) : Frs w B (some ⟨g, 0, none⟩) n n := ⟨Nat.le_refl _, by unfold maxLen; omega, (fun e => by cases e), fun x hx => by
 cases hx
 exact ⟨g, rfl, hB, fun i hi => ⟨⟨_, h.cell i hi⟩, h.free i⟩⟩⟩
open Go.RowKit
theorem rows_any (w : World) (r c r' c' E : Int) (n k s kq n' : Nat) (a : Option Addr) (q : Nat → Int) (Q : World → Option Addr → Nat → Prop)
  (HL : Hid (∀ w' : World, Calls Try.prog 33 #[.int .u64 (s : Int)] w' fun e w'' => ∃ x d, e = .returned (.slice x kq d) ∧ Il w'' x kq q ∧ Below w'.heap.size w' w''))
  (HP : Hid (∀ (w' : World) (x : Option Addr) (d : Nat), Below w.heap.size w w' → w.heap.size + 2 ≤ w'.heap.size → Il w' x kq q → Calls Try.prog 32 #[mv r c a n k, .slice x kq d] w' fun e w'' => ∃ a' k', e = .returned (.tuple #[mv r' c' a' n' k', .int .i64 E]) ∧ Q w'' a' k' ∧ Below w'.heap.size w' w''))
  (HQ : Hid (∀ (w1 w2 : World) (a' : Option Addr) (k' : Nat), Q w1 a' k' → w1.grownBy w2 (some (w.heap.size + 1)) → Q w2 a' k')) :
  Calls Try.prog 81 #[mv r c a n k, .int .u64 (s : Int)] w fun e w' => ∃ a' k', e = .returned (.tuple #[mv r' c' a' n' k', .int .i64 E]) ∧ Q w' a' k' ∧ Below w.heap.size w w' := by
 go_enter Try.func81, Try.ntmps81
 go_wp2
 refine wp_region_held (S := fun w' => w'.cell? ⟨w.heap.size, 0, none⟩ = some (.int .i64 r) ∧ w'.cell? ⟨w.heap.size, 1, none⟩ = some (.int .i64 c) ∧ w'.cell? ⟨w.heap.size, 2, none⟩ = some (.slice a n k)) (by kernel_rfl) ?_
 change wpAnyH _ _ _ _ _ _ _ _ (World.drew _)
 obtain ⟨W0, HW0⟩ : ∃ W0, Hid (((w.alloc (.cells #[.int .i64 r, .int .i64 c, .slice a n k] 24)).alloc (.cells #[.int .i64 0, .int .i64 0, .slice none 0 0] 24)).drew = W0) := ⟨_, rfl⟩
 rw [HW0.out]
 have HX0 : Hid (Vr W0 w.heap.size (.int .i64 r) (.int .i64 c) (.slice a n k)) := by rw [← HW0.out]; exact ((Vr.new w _ _ _).later (qa0 _ _)).later (Below.refl _ _).drew
 have HY0 : Hid (Vr W0 (w.heap.size + 1) (.int .i64 0) (.int .i64 0) (.slice none 0 0)) := by rw [← HW0.out]; show Vr _ _ _ _ _; have := (Vr.new (w.alloc (.cells #[.int .i64 r, .int .i64 c, .slice a n k] 24)) (.int .i64 0) (.int .i64 0) (.slice none 0 0)).later (Below.refl _ _).drew; simpa using this
 have HB0 : Hid (Below w.heap.size w W0) := by rw [← HW0.out]; exact qa1 (qa1 (qa0 _ _) (qa0 _ _)) (Below.refl _ _).drew
 have hz0 : w.heap.size + 2 ≤ W0.heap.size := HY0.out.lt
 refine wtkq 0 ?v0 rfl (by kernel_rfl) (fun _ _ _ h => h) (by rfl) ?y0 ⟨HX0.out.c0, HX0.out.c1, HX0.out.c2⟩ ?z0
 case y0 => (intro w hSw; (try dsimp only at hSw); go_simp; try with_reducible rfl)
 try simp only [mz1, mz3, Act.put, mz4, mz5, mz6]
 refine wtkq 1 ?v1 rfl (by kernel_rfl) (fun _ _ _ h => h) (by rfl) ?y1 ⟨HX0.out.c0, HX0.out.c1, HX0.out.c2⟩ ?z1
 case y1 => (intro w hSw; (try dsimp only at hSw); go_simp; try with_reducible rfl)
 try simp only [mz1, mz2, mz3, Act.put, mz4, mz5, mz6]
 refine wpAnyH_ready (rs := [2]) (by kernel_rfl) (by simp) ?_
 refine AllReadyH.cons rfl (fun K hK => ?_) AllReadyH.nil
 go_simp
 refine (HL.out _).mono ?_
 rintro e w1 ⟨x1, d1, rfl, hj1, hb1⟩
 have HI1 : Hid (Il w1 x1 kq q) := hj1
 have HB1 : Hid (Below w.heap.size w w1) := qa1 HB0.out hb1
 have HV1 : Hid (Vr w1 w.heap.size (.int .i64 r) (.int .i64 c) (.slice a n k)) := HX0.out.later hb1
 have HY1 : Hid (Vr w1 (w.heap.size + 1) (.int .i64 0) (.int .i64 0) (.slice none 0 0)) := HY0.out.later hb1
 have hz1 : w.heap.size + 2 ≤ w1.heap.size := Nat.le_trans hz0 hb1.size
 clear hj1 hb1
 refine hK.out _ _ ⟨HV1.out.c0, HV1.out.c1, HV1.out.c2⟩ (fun _ => ?_)
 clear hK K
 try simp only [mz1, mz2, mz3, Act.put, mz4, mz5, mz6]
 refine wpAnyH_ready (rs := [3]) (by kernel_rfl) (by simp) ?_
 refine AllReadyH.cons rfl (fun K hK => ?_) AllReadyH.nil
 go_simp
 refine (HP.out _ _ _ HB1.out hz1 HI1.out).mono ?_
 rintro e w2 ⟨a2, k2, rfl, hq2, hb2⟩
 have HQ2 : Hid (Q w2 a2 k2) := hq2
 have HB2 : Hid (Below w.heap.size w w2) := qa1 HB1.out hb2
 have HV2 : Hid (Vr w2 w.heap.size (.int .i64 r) (.int .i64 c) (.slice a n k)) := HV1.out.later hb2
 have HY2 : Hid (Vr w2 (w.heap.size + 1) (.int .i64 0) (.int .i64 0) (.slice none 0 0)) := HY1.out.later hb2
 clear hq2 hb2
 refine hK.out _ _ ⟨HV2.out.c0, HV2.out.c1, HV2.out.c2⟩ (fun _ => ?_)
 clear hK K
 try simp only [mz1, mz2, mz3, Act.put, mz4, mz5, mz6]
 refine wtkq 4 ?v4 rfl (by kernel_rfl) (fun _ _ _ h => h) (by rfl) ?y4 ⟨HV2.out.c0, HV2.out.c1, HV2.out.c2⟩ ?z4
 case y4 => (intro w hSw; (try dsimp only at hSw); go_simp; try with_reducible rfl)
 try simp only [mz1, mz2, mz3, Act.put, mz4, mz5, mz6]
 refine wtkq 5 ?v5 rfl (by kernel_rfl) (fun _ _ _ h => h) (by rfl) ?y5 ⟨HV2.out.c0, HV2.out.c1, HV2.out.c2⟩ ?z5
 case y5 => (intro w hSw; (try dsimp only at hSw); go_simp; try with_reducible rfl)
 try simp only [mz1, mz2, mz3, Act.put, mz4, mz5, mz6]
 refine wpAnyH_ready (rs := [6]) (by kernel_rfl) (by simp) ?_
 refine AllReadyH.cons rfl (fun K hK => ?_) AllReadyH.nil
 refine qaj rfl _ _ rfl (w.heap.size + 1) _ _ _ (.int .i64 r') (.int .i64 c') (.slice a2 n' k2) rfl rfl HY2.out rfl rfl rfl ?_
 intro w4 HV4 HG4
 have HQ4 : Hid (Q w4 a2 k2) := HQ.out _ _ _ _ HQ2.out HG4.out
 have HW4 : Hid (Vr w4 w.heap.size (.int .i64 r) (.int .i64 c) (.slice a n k)) := HV2.out.kept HG4.out (by omega)
 have HB4 : Hid (Below w.heap.size w w4) := HB2.out.trans (jbelow HG4.out HB2.out.size (fun g e => by cases e; omega))
 refine hK.out _ _ ⟨HW4.out.c0, HW4.out.c1, HW4.out.c2⟩ (fun _ => ?_)
 clear hK K
 try simp only [mz1, mz2, mz3, Act.put]
 refine wtkq 7 ?v7 rfl (by kernel_rfl) (fun _ _ _ h => h) (by rfl) ?y7 ⟨HW4.out.c0, HW4.out.c1, HW4.out.c2⟩ ?z7
 case y7 => (intro w hSw; (try dsimp only at hSw); go_simp; try with_reducible rfl)
 try simp only [mz1, mz2, mz3, Act.put, mz4, mz5, mz6]
 refine wpAnyH_done (by kernel_rfl) ?_ _
 have x0 := HV4.out.c0
 have x1 := HV4.out.c1
 have x2 := HV4.out.c2
 go_wp2
 refine bodyPost_ret (v := .tuple #[mv r' c' a2 n' k2, .int .i64 E]) (by simp [results, Try.results81, go_sem, x0, x1, x2, mv]) rfl ?_
 exact ⟨a2, k2, rfl, HQ4.out, HB4.out⟩
theorem qif {s K : Nat} {f : Nat → Nat} (hs : s < 18446744073709551616) (hK : cn s 64 = K) (hf : ∀ i, i < K → lf s 64 i = f i) : Hid (∀ w' : World, Calls Try.prog 33 #[.int .u64 (s : Int)] w' fun e w'' => ∃ x d, e = .returned (.slice x K d) ∧ Il w'' x K (fun i => (f i : Int)) ∧ Below w'.heap.size w' w'') :=
 fun w' => (jlist_ok s w' hs).mono (fun e w'' h => by
  obtain ⟨v, he, ho, hb⟩ := h
  rw [hK] at ho
  have ho2 := ho.congr hf
  obtain ⟨x, d, rfl, _⟩ := ho2.form
  exact ⟨x, d, he, qfu ho2.jl, hb⟩)
/-- The rows of a set. -/
theorem rows_ok (w : World) (r c n k s N : Nat) (a : Option Addr) (F : Nat → Nat) (ha : Mt w a n k F) (R : Rt r c n) (hs : s < 2 ^ r) (HN : Hid (cn s r * c = N)) :
  Calls Try.prog 81 #[mv r c a n k, .int .u64 (s : Int)] w fun e w' => ∃ g, e = .returned (.tuple #[mv (cn s r : Nat) c (some ⟨g, 0, none⟩) N N, .int .i64 0]) ∧ RowAt w' g 5 N (pkf F (lf s r) c) ∧ Below w.heap.size w w' := by
 have hr := R.r64
 have hs6 := qce hr hs
 have hcl := qav r s
 refine (rows_any w r c (cn s r : Nat) c 0 n k s (cn s r) N a (fun i => (lf s r i : Int)) (fun w' a' k' => k' = N ∧ ∃ g, a' = some ⟨g, 0, none⟩ ∧ RowAt w' g 5 N (pkf F (lf s r) c) ∧ w.heap.size + 2 ≤ g) (qif hs6 (qfp hr hs) (fun i _ => qi1 hr hs i)) (fun w' x d hb hz hi => ?_) (fun w1 w2 a' k' h hg => ?_)).mono (fun e w' h => ?_)
 ·refine (mpick_ok w' r c n k (cn s r) d N a x F (lf s r) (ha.later hb) R hi (fun i hi => (qan hi).1) (by omega) HN).mono (fun e w'' h => ?_)
  obtain ⟨g, he, hr, hg, hb2⟩ := h
  exact ⟨some ⟨g, 0, none⟩, N, he, ⟨rfl, g, rfl, hr, by omega⟩, hb2⟩
 ·obtain ⟨rfl, g, rfl, hr, hg2⟩ := h
  exact ⟨rfl, g, rfl, hr.kept hg (by omega), hg2⟩
 ·obtain ⟨a', k', rfl, ⟨rfl, g, rfl, hr, _⟩, hb⟩ := h
  exact ⟨g, rfl, hr, hb⟩
end Go.Proofs.Ytokdejhbjoglcaa
