/-
  Contracts of the program's gauss: Reduce, Rank.
  Contracts of the program's gauss: Solve, Combine.
  Contracts of the program's gauss: Inverse.
  Contracts of the program's gauss: freeColumns.
  Contracts of the program's gauss: Kernel.
-/
import Derived.Test.YtlmanliinncdiaaGreatQggps00
import Derived.Test.YtlmanliinncdiaaGreatQggps39
import Derived.Test.YtlmanliinncdiaaGreatQggps33
import Derived.Test.YtlmanliinncdiaaGreatQggps40
set_option maxRecDepth 100000
set_option maxHeartbeats 16000000
namespace Go.Proofs.YtlmanliinncdiaaGreat
open Go.RowKit
theorem bes_none (w : World) (r c : Nat) (J : Nat → Nat → Nat) : Bes w w.heap.size 0 r c [] (fun _ => 0) (fun _ => 0) (fun _ => 0) (fun _ => 0) J :=
 ⟨Nat.le_refl _, by omega, fun t h => by omega, fun t h => by omega, fun t h => by omega, fun t h => by omega, fun _ _ t h => by omega⟩
/-- A reduction without lists beside it. -/
theorem qil (w : World) (r c n k : Nat) (a : Option Addr) (F : Nat → Nat) (ha : Mt w a n k F) (R : Rt r c n) :
  Calls Tryz.prog 82 #[mv r c a n k, .slice none 0 0] w fun e w' => ∃ C : Cfg, e = .returned (.pointer (some ⟨C.g, 0, none⟩)) ∧ C.Ok ∧ Rst w' C none 0 0 (fun _ => 0) (m2 F r c) ∧ C.B = w.heap.size ∧ C.n = r ∧ C.c = c ∧ C.m = 0 ∧ Below w.heap.size w w' :=
 (qik w r c n k w.heap.size 0 0 a none F [] _ _ _ _ (m2 F r c) ha R (bes_none w r c _) (World.ownsRow_nil _ _ _ _) (qe5 ha.sl.1 R) (fun _ _ _ _ => rfl)).mono (fun _ _ ⟨C, h1, h2, h3, h4, h5, h6, h7, _, h9⟩ => ⟨C, h1, h2, h3, h4, h5, h6, h7, h9⟩)
theorem H_last {C : Cfg} (K : C.Ok) (J : Nat → Nat → Nat) : C.H J C.m = J := by
 funext i l
 show J i (C.o C.m + l) = _
 rw [K.lo, Nat.zero_add]
theorem Rst.rows {w : World} {C : Cfg} {ps : Option Addr} {pd top : Nat} {p : Nat → Nat} {J : Nat → Nat → Nat} (K : C.Ok) (h : Rst w C ps pd top p J) : Prt w (some ⟨C.gr C.m, 0, none⟩) C.n C.c J := by
 have := (h.gs C.m (Nat.le_refl _)).prt
 rwa [K.lk, H_last K J] at this
theorem ofr_n (w : World) (s : Option Addr) (n q k N : Nat) (F : Nat → Nat → Nat) (h : Prt w s n k F) (hq : n ≤ q) (hn : n ≤ 64) (hk : k ≤ 64) (hN : n * k = N) :
  Calls Tryz.prog 85 #[.slice s n q, .int .i64 (k : Int)] w fun e w' => ∃ t d G, e = .returned (mv n k t N d) ∧ Mt w' t N d G ∧ (∀ i l, i < n → l < k → G (i * k + l) = F i l) ∧ Frs w' w.heap.size t N d ∧ Below w.heap.size w w' := by
 rw [← hN]
 exact qij w s n q k F h hq hn hk
theorem m2_ct {G : Nat → Nat} {J : Nat → Nat → Nat} {r c : Nat} (hG : ∀ i l, i < r → l < c → G (i * c + l) = J i l) : ∀ i j, i < r → m2 G r c i j = ct J c i j := fun i j hi => by
 by_cases hj : j < c
 ·rw [qb6 G hi hj, qgr J i hj, hG i j hi hj]
 ·rw [qaj G (by omega), qfz J i (by omega)]
theorem ct_m2 (F : Nat → Nat) (r c i j : Nat) : ct (m2 F r c) c i j = m2 F r c i j := by
 by_cases hj : j < c
 ·rw [qgr _ i hj]
 ·rw [qfz _ i (by omega), qaj F (by omega)]
theorem red_fin {F G p : Nat → Nat} {J : Nat → Nat → Nat} {r c top : Nat} (hA : Asc J r top c p 0) (hS : SpEq J r (m2 F r c) r) (hG : ∀ i l, i < r → l < c → G (i * c + l) = J i l) : Rdf (m2 G r c) r top p ∧ SpEq (m2 G r c) r (m2 F r c) r := by
 refine ⟨hA.rdf.first hA.ech.lt (fun i j hi => ?_), ?_⟩
 ·rw [m2_ct hG i j hi]
  by_cases hj : j < c
  ·rw [if_pos hj]
  ·rw [if_neg hj, qfz J i (by omega)]
 ·have h1 := (hS.ct c).rows (fun i j hi => m2_ct hG i j hi)
  rwa [show ct (m2 F r c) c = m2 F r c from funext fun i => funext fun j => ct_m2 F r c i j] at h1
theorem Il.chg {w w' : World} {S : Nat → Prop} {b : Option Addr} {m : Nat} {q : Nat → Int} (h : Il w b m q) (hc : Chg w w' S) (hn : ∀ x, b = some x → ¬ S x.block) : Il w' b m q := fun i hi => by
 obtain ⟨x, o, e, hcl⟩ := h i hi
 refine ⟨x, o, e, ?_⟩
 rw [← hcl]
 exact World.cell?_of_block (hc.block x (qan hcl) (hn _ e))
theorem Mt.chg {w w' : World} {S : Nat → Prop} {a : Option Addr} {n k : Nat} {F : Nat → Nat} (h : Mt w a n k F) (hc : Chg w w' S) (hn : ∀ x, a = some x → ¬ S x.block) : Mt w' a n k F := ⟨h.sl.chg hc hn, h.room, h.nil⟩
theorem Oi.off {w : World} {B b n d : Nat} {s : Option Addr} {f : Nat → Nat} (h : Oi w B (.slice s n d) n f) (hb : b < B) : ∀ x, s = some x → x.block ≠ b := fun x hx e => by
 have := (h.base (g := x.block) (by rw [hx]; rfl)).1
 omega
theorem gred_x (w : World) (r c n k : Nat) (a : Option Addr) (F : Nat → Nat) (ha : Mt w a n k F) (R : Rt r c n) : Calls Tryz.prog 55 #[mv r c a n k] w fun e w' => RedP w w' e r c n F ∧ ∃ s d ps t pd, e = .returned (.tuple #[mv r c s n d, .slice ps t pd, .int .i64 0]) ∧ Frs w' w.heap.size s n d := by
 obtain ⟨wb, HW, HX⟩ : ∃ wb, Hid (wb = (w.alloc (.cells #[.int .i64 (r : Int), .int .i64 (c : Int), .slice a n k] 24)).alloc (.cells #[.int .i64 0, .int .i64 0, .slice none 0 0] 24)) ∧ Hid (Box2 w wb r c n k a) := ⟨_, rfl, box2 w r c n k a⟩
 have HA : Hid (Mt w a n k F) := ha
 have HR : Hid (Rt r c n) := R
 have hr := R.r64
 have hc := R.c64
 have v0 := HX.out.va.c0
 have v1 := HX.out.va.c1
 have v2 := HX.out.va.c2
 have hwb : w.heap.size + 1 < wb.heap.size := HX.out.vr.lt
 clear ha R
 go_enter Tryz.func55, Tryz.ntmps55
 go_wp2_with (first
  | (go_at_call 57; rw [← HW.out]; refine (qaq _ _ _ _ _ _ HR.out.p).mono ?_; rintro e w1 ⟨rfl, hb1⟩; have HB1 : Hid (Below wb.heap.size wb w1) := hb1; have a0 := (HX.out.va.later hb1).c0; have a1 := (HX.out.va.later hb1).c1; have a2 := (HX.out.va.later hb1).c2; clear hb1)
  | (go_at_call 82; refine (qil _ r c n k a F (HA.out.later (qa0 HX.out.below HB1.out)) HR.out).mono ?_; rintro e w2 ⟨C, rfl, hk2, hx2, e1, rfl, rfl, hm0, hb2⟩; clear hm0; have HK : Hid C.Ok := hk2; have HX2 : Hid (Rst w2 C none 0 0 (fun _ => 0) (m2 F C.n C.c)) := hx2; have HB2 : Hid (Below wb.heap.size wb w2) := qa0 HB1.out hb2; have HCB : Hid (wb.heap.size ≤ C.B) := by { rw [e1]; exact HB1.out.size }; clear hk2 hx2 hb2 e1)
  | (go_at_call 83; refine (qf6 _ C _ HK.out HX2.out).mono ?_; rintro e w3 ⟨rfl, ps, pd, top, p, J, hx3, he3, hs3, hb3⟩; have HX3 : Hid (Rst w3 C ps pd top p J) := hx3; have HE3 : Hid (Ech J C.n top C.c p) := he3; have HS3 : Hid (SpEq J C.n (m2 F C.n C.c) C.n) := hs3; have HB3 : Hid (Below wb.heap.size wb w3) := HB2.out.trans (hb3.mono HCB.out); clear hx3 he3 hs3 hb3)
  | (go_at_call 84; refine (qgt _ C ps pd top p J HK.out HX3.out HE3.out).mono ?_; rintro e w4 ⟨rfl, J4, hx4, ha4, hs4, hb4, hq4⟩; clear hq4; have HX4 : Hid (Rst w4 C ps pd top p J4) := hx4; have HA4 : Hid (Asc J4 C.n top C.c p 0) := ha4; have HS4 : Hid (SpEq J4 C.n (m2 F C.n C.c) C.n) := hs4.trans HS3.out; have HB4 : Hid (Below wb.heap.size wb w4) := HB3.out.trans (hb4.mono HCB.out); have c0 := hx4.fix.c0; have c2 := hx4.fix.c2; have b1 := (HX.out.va.later HB4.out).c1; clear hx4 ha4 hs4 hb4))
 have hcb := HCB.out
 have hgb : C.B ≤ C.g := HX4.out.fix.base
 have HD : Hid (w4.cell? ⟨C.g, 0, none⟩ = some (.slice (some ⟨C.gr C.m, 0, none⟩) C.n C.n) ∧ w4.cell? ⟨w.heap.size, 1, none⟩ = some (.int .i64 (C.c : Int)) ∧ w4.cell? ⟨C.g, 2, none⟩ = some (.slice ps top pd)) := ⟨c0, b1, c2⟩


 refine wp_region_held (S := fun w' => w'.cell? ⟨C.g, 0, none⟩ = some (.slice (some ⟨C.gr C.m, 0, none⟩) C.n C.n) ∧ w'.cell? ⟨w.heap.size, 1, none⟩ = some (.int .i64 (C.c : Int)) ∧ w'.cell? ⟨C.g, 2, none⟩ = some (.slice ps top pd)) (by kernel_rfl) ?_
 refine wtkq 0 ?vr0 rfl (by kernel_rfl) (fun _ _ _ h => h) (by rfl) ?yr0 HD.out ?zr0
 case yr0 => (intro w hSw; (try dsimp only at hSw); go_simp; try with_reducible rfl)
 try simp only [mz1, mz3, Act.put, mz4, mz5, mz6]
 refine wtkq 1 ?vr1 rfl (by kernel_rfl) (fun _ _ _ h => h) (by rfl) ?yr1 HD.out ?zr1
 case yr1 => (intro w hSw; (try dsimp only at hSw); go_simp; try with_reducible rfl)
 try simp only [mz1, mz2, mz3, Act.put, mz4, mz5, mz6]
 refine wtkq 2 ?vr2 rfl (by kernel_rfl) (fun _ _ _ h => h) (by rfl) ?yr2 HD.out ?zr2
 case yr2 => (intro w hSw; (try dsimp only at hSw); go_simp; try with_reducible rfl)
 try simp only [mz1, mz2, mz3, Act.put, mz4, mz5, mz6]
 refine wtkq 3 ?vr3 rfl (by kernel_rfl) (fun _ _ _ h => h) (by rfl) ?yr3 HD.out ?zr3
 case yr3 => (intro w hSw; (try dsimp only at hSw); go_simp; try with_reducible rfl)
 try simp only [mz1, mz2, mz3, Act.put, mz4, mz5, mz6]
 refine wtkq 4 ?vr4 rfl (by kernel_rfl) (fun _ _ _ h => h) (by rfl) ?yr4 HD.out ?zr4
 case yr4 => (intro w hSw; (try dsimp only at hSw); go_simp; try with_reducible rfl)
 try simp only [mz1, mz2, mz3, Act.put, mz4, mz5, mz6]
 refine wtkq 5 ?vr5 rfl (by kernel_rfl) (fun _ _ _ h => h) (by rfl) ?yr5 HD.out ?zr5
 case yr5 => (intro w hSw; (try dsimp only at hSw); go_simp; try with_reducible rfl)
 try simp only [mz1, mz2, mz3, Act.put, mz4, mz5, mz6]
 refine wtkq 7 ?vr7 rfl (by kernel_rfl) (fun _ _ _ h => h) (by rfl) ?yr7 HD.out ?zr7
 case yr7 => (intro w hSw; (try dsimp only at hSw); go_simp; try with_reducible rfl)
 try simp only [mz1, mz2, mz3, Act.put, mz4, mz5, mz6]
 refine wtkq 8 ?vr8 rfl (by kernel_rfl) (fun _ _ _ h => h) (by rfl) ?yr8 HD.out ?zr8
 case yr8 => (intro w hSw; (try dsimp only at hSw); go_simp; try with_reducible rfl)
 try simp only [mz1, mz2, mz3, Act.put, mz4, mz5, mz6]
 refine wtkq 9 ?vr9 rfl (by kernel_rfl) (fun _ _ _ h => h) (by rfl) ?yr9 HD.out ?zr9
 case yr9 => (intro w hSw; (try dsimp only at hSw); go_simp; try with_reducible rfl)
 try simp only [mz1, mz2, mz3, Act.put, mz4, mz5, mz6]
 refine wtkq 10 ?vr10 rfl (by kernel_rfl) (fun _ _ _ h => h) (by rfl) ?yr10 HD.out ?zr10
 case yr10 => (intro w hSw; (try dsimp only at hSw); go_simp; try with_reducible rfl)
 try simp only [mz1, mz2, mz3, Act.put, mz4, mz5, mz6]
 refine wpAnyH_ready (rs := [6]) (by kernel_rfl) (by simp) ?_
 refine AllReadyH.cons rfl (fun K hK => ?_) AllReadyH.nil
 go_simp
 refine (ofr_n _ _ C.n C.n C.c n J4 ((HX4.out.later (Below.refl _ _).drew).rows HK.out) (Nat.le_refl _) hr hc HR.out.len).mono ?_
 rintro e w5 ⟨s, d, G, rfl, hm5, hG5, hf5, hb0⟩
 have hb5 := undrew hb0
 have HB5 : Hid (Below wb.heap.size wb w5) := qa0 HB4.out hb5
 have HX5 : Hid (Rst w5 C ps pd top p J4) := HX4.out.later hb5
 have HM5 : Hid (Mt w5 s n d G) := hm5
 have HG5 : Hid (∀ i l, i < C.n → l < C.c → G (i * C.c + l) = J4 i l) := hG5
 have HF5 : Hid (Frs w5 wb.heap.size s n d) := Frs.mono hf5 HB4.out.size
 have HV5 : Hid (Vr w5 (w.heap.size + 1) (.int .i64 0) (.int .i64 0) (.slice none 0 0)) := HX.out.vr.later HB5.out
 have HD1 : Hid (w5.cell? ⟨C.g, 0, none⟩ = some (.slice (some ⟨C.gr C.m, 0, none⟩) C.n C.n) ∧ w5.cell? ⟨w.heap.size, 1, none⟩ = some (.int .i64 (C.c : Int)) ∧ w5.cell? ⟨C.g, 2, none⟩ = some (.slice ps top pd)) := ⟨qah hb5 c0, qah hb5 b1, qah hb5 c2⟩
 clear hm5 hG5 hf5 hb0 hb5
 refine hK.out _ _ HD1.out (fun _ => ?_)
 clear hK K
 try simp only [mz1, mz2, mz3, Act.put, mz4, mz5, mz6]
 refine wpAnyH_ready (rs := [11]) (by kernel_rfl) (by simp) ?_
 refine AllReadyH.cons rfl (fun K hK => ?_) AllReadyH.nil
 refine qal rfl _ _ rfl (w.heap.size + 1) _ _ _ (.int .i64 (C.n : Int)) (.int .i64 (C.c : Int)) (.slice s n d) rfl rfl HV5.out rfl rfl rfl ?_
 intro w6 HV6 HG6
 have HD2 : Hid (w6.cell? ⟨C.g, 0, none⟩ = some (.slice (some ⟨C.gr C.m, 0, none⟩) C.n C.n) ∧ w6.cell? ⟨w.heap.size, 1, none⟩ = some (.int .i64 (C.c : Int)) ∧ w6.cell? ⟨C.g, 2, none⟩ = some (.slice ps top pd)) := ⟨qdo HG6.out HD1.out.1 (by omega), qdo HG6.out HD1.out.2.1 (by omega), qdo HG6.out HD1.out.2.2 (by omega)⟩
 refine hK.out _ _ HD2.out (fun _ => ?_)
 clear hK K
 try simp only [mz1, mz2, mz3, Act.put]
 refine wtkq 12 ?vr12 rfl (by kernel_rfl) (fun _ _ _ h => h) (by rfl) ?yr12 HD2.out ?zr12
 case yr12 => (intro w hSw; (try dsimp only at hSw); go_simp; try with_reducible rfl)
 try simp only [mz1, mz2, mz3, Act.put, mz4, mz5, mz6]
 refine wtkq 13 ?vr13 rfl (by kernel_rfl) (fun _ _ _ h => h) (by rfl) ?yr13 HD2.out ?zr13
 case yr13 => (intro w hSw; (try dsimp only at hSw); go_simp; try with_reducible rfl)
 try simp only [mz1, mz2, mz3, Act.put, mz4, mz5, mz6]
 refine wpAnyH_done (by kernel_rfl) ?_ _
 go_wp2
 have d0 := HV6.out.c0
 have d1 := HV6.out.c1
 have d2 := HV6.out.c2
 refine bodyPost_ret (v := .tuple #[mv C.n C.c s n d, .slice ps top pd, .int .i64 0]) (by simp [results, Tryz.results55, go_sem, d0, d1, d2, mv]) rfl ?_
 have hch : Chg w5 w6 (fun b => b = w.heap.size + 1) := Chg.of_grown HG6.out rfl
 obtain ⟨h1, h2⟩ := red_fin HA4.out HS4.out HG5.out
 have hf := (HF5.out.kept HG6.out (by omega)).mono (B' := w.heap.size) (by omega)
 exact ⟨⟨s, d, ps, pd, top, p, G, rfl, HM5.out.kept HG6.out (fun _ => HF5.out.off (by omega)), HX5.out.fix.piv.il.chg hch (HX5.out.fix.piv.off (by omega)), h1, h2, HA4.out.ech.lt, qa8 (qa0 HX.out.below HB5.out) HG6.out (by omega)⟩, s, d, ps, top, pd, rfl, hf⟩
theorem gred_ok (w : World) (r c n k : Nat) (a : Option Addr) (F : Nat → Nat) (ha : Mt w a n k F) (R : Rt r c n) : Calls Tryz.prog 55 #[mv r c a n k] w fun e w' => RedP w w' e r c n F := (gred_x w r c n k a F ha R).mono fun _ _ h => h.1
open Go.RowKit
theorem RowAt.frs {w : World} {B g n : Nat} {f : Nat → Nat} (h : RowAt w g 5 n f) (hB : B ≤ g) (hn : n ≤ 4096) : Frs w B (some ⟨g, 0, none⟩) n n := ⟨Nat.le_refl _, by unfold maxLen; omega, (fun e => by cases e), fun x hx => by
 cases hx
 exact ⟨g, rfl, hB, fun i hi => ⟨⟨_, h.cell i hi⟩, h.free i⟩⟩⟩
open Go.RowKit
theorem free_any (w : World) (ps : Option Addr) (top pd c : Nat) (p : Nat → Nat) (h : Il w ps top (fun i => (p i : Int))) (ht : top ≤ 64) (hc : c ≤ 64) :
  Calls Tryz.prog 132 #[.int .i64 (c : Int), .slice ps top pd] w fun e w' => ∃ fs fd, e = .returned (.slice fs (cnt (fre p top) c) fd) ∧ Oi w' w.heap.size (.slice fs (cnt (fre p top) c) fd) (cnt (fre p top) c) (nth (fre p top) c) ∧ Below w.heap.size w w' := by
 have HI : Hid (Il w ps top (fun i => (p i : Int))) := h
 clear h
 go_enter Tryz.func132, Tryz.ntmps132
 go_wp2
 go_loopw [5, 8] (fun sv sj wr => ∃ j : Nat, sj = .int .i64 (j : Int) ∧ j ≤ c ∧ Hid (Oi wr w.heap.size sv (cnt (fre p top) j) (nth (fre p top) c)) ∧ Hid (Below w.heap.size w wr)) (fun _ sj _ => c - (intOf sj).toNat)
 case atStart => exact ⟨0, rfl, by omega, Oi.nil _ _ _, Below.refl _ _⟩
 case round =>
  obtain ⟨j, rfl, hjc, HO, HB⟩ := hrel
  obtain ⟨fs, fd, rfl, _⟩ := HO.out.form
  have hcnt := cnt_mono (fre p top) hjc
  have hc2 := qe0 (fre p top) c
  by_cases hlt : j < c
  ·cases hpv : pvt p top j with
   | true =>
    have HPV : Hid (pvt p top j = true) := hpv
    have HF : Hid (fre p top j = false) := by unfold fre; rw [hpv]; rfl
    clear hpv
    go_wp2_with (go_at_call 152; refine (qdb _ ps top pd j p (HI.out.later HB.out) ht).mono ?_; rintro e w' ⟨rfl, rfl⟩; rw [HPV.out])
    exact ⟨⟨j + 1, by go_num, by omega, by rw [qfh HF.out]; exact HO.out, HB.out⟩, by simp [intOf]; omega⟩
   | false =>
    have HPV : Hid (pvt p top j = false) := hpv
    have HF : Hid (fre p top j = true) := by unfold fre; rw [hpv]; rfl
    obtain ⟨i0, hi0, hz0, hz1, hz2⟩ := info_parts infoI
    obtain ⟨q, HQ⟩ : ∃ q, Hid (cnt (fre p top) j = q) := ⟨_, rfl⟩
    rw [HQ.out] at hcnt HO ⊢
    have hml2 : q + 1 ≤ maxLen := by unfold maxLen; omega
    have hsz : w.heap.size ≤ wr.heap.size := HB.out.size
    clear hpv
    go_wp2_with (first
     | (go_at_call 152; refine (qdb _ ps top pd j p (HI.out.later HB.out) ht).mono ?_; rintro e w' ⟨rfl, rfl⟩; rw [HPV.out])
     | (at_builtin; refine wpList_append_own _ rfl _ _ 34 rfl w.heap.size 3 i0 (.int .i64 0) 1 8 Tryz.underlying34 hi0 hz0 hz1 hz2 rfl (by decide) _ q _ rfl (World.ownsRow.alloc HO.out _) ⟨wr.heap.size, 0, none⟩ 1 1 [.int .i64 (j : Int)] rfl rfl (qe7 _ _ _) (qe8 _) hml2 (by omega) (by simp; omega) ?_; intro v3 w3 hown3 hgrow3 _; have HO3 : Hid (w3.ownsRow w.heap.size 3 1 v3 (q + 1) ((irow q (nth (fre p top) c)).toList ++ [.int .i64 (j : Int)])) := hown3; have HG3 : Hid ((wr.alloc (.cells #[.int .i64 (j : Int)] 3)).grownBy w3 (Value.slice fs q fd).ownBlock) := hgrow3; clear hown3 hgrow3))
    refine ⟨⟨j + 1, by go_num, by omega, ?_, ?_⟩, by simp [intOf]; omega⟩
    ·rw [qd2 HF.out, HQ.out]
     have h3 := HO3.out
     rw [qca] at h3
     exact Oi.congr (f := fun i => if i = q then j else nth (fre p top) c i) h3 (fun u _ => by
      by_cases e : u = q
      ·rw [if_pos e, e, ← HQ.out, qf0 hlt HF.out]
      ·rw [if_neg e])
    ·have h3 := HG3.out
     have hal := qa0 HB.out (qa1 wr (.cells #[.int .i64 (j : Int)] 3))
     cases hv : (Value.slice fs q fd).ownBlock with
     | none => rw [hv] at h3; exact qa0 hal (qa9.mp h3)
     | some g => rw [hv] at h3; exact qa8 hal h3 (HO.out.base hv).1
  ·obtain rfl : j = c := by omega
   go_wp2
   go_ret
   exact ⟨fs, fd, rfl, HO.out, HB.out⟩
open Go.RowKit
theorem vone_new (w : World) (t : TypeId) (v : Value) : ∀ j u, [v][j]? = some u → (w.alloc (.cells #[v] t)).cell? ((⟨w.heap.size, 0, none⟩ : Addr).add j) = some u := by
 intro j u hj
 match j, hj with
 | 0, hj => simp at hj; subst hj; rw [add_plain]; exact (V1.new w v t).cell
theorem qim (n : Nat) (V : Nat → Value) (v : Value) : (vrow n V).toList ++ [v] = (vrow (n + 1) (fun i => if i = n then v else V i)).toList := by
 unfold vrow
 simp only [Array.toList_map, Array.toList_range]
 rw [List.range_succ, List.map_append]
 congr 1
 ·apply List.map_congr_left
  intro i hi
  have : i < n := by simpa using hi
  rw [if_neg (by omega)]
 ·simp
/-- What Kernel's loop keeps: so many rows, each a list of its own. -/
structure KnI (w3 wr : World) (c u : Nat) (v : Value) (gx : Nat → Nat) (f : Nat → Nat → Nat) : Prop where
 own : wr.ownsRow w3.heap.size 22 1 v u (vrow u (fun t => .slice (some ⟨gx t, 0, none⟩) c c)).toList
 rows : ∀ t, t < u → w3.heap.size ≤ gx t ∧ RowAt wr (gx t) 5 c (f t)
 low : Below w3.heap.size w3 wr
theorem knI_zero (w : World) (c : Nat) (gx : Nat → Nat) (f : Nat → Nat → Nat) : KnI w w c 0 (.slice none 0 0) gx f := ⟨by
 have e : (vrow 0 (fun t => Value.slice (some ⟨gx t, 0, none⟩) c c)).toList = [] := by simp [vrow]
 rw [e]
 exact World.ownsRow_nil _ _ _ _, fun t ht => by omega, Below.refl _ _⟩
theorem KnI.form {w3 wr : World} {c u : Nat} {v : Value} {gx : Nat → Nat} {f : Nat → Nat → Nat} (h : KnI w3 wr c u v gx f) : ∃ so dd, v = .slice so u dd ∧ (0 < u → ∃ g, so = some ⟨g, 0, none⟩) := by
 rcases h.own.2 with ⟨e, h0⟩ | ⟨g, cap, cur, e, _⟩
 ·exact ⟨none, 0, by rw [e, h0], fun h => by omega⟩
 ·exact ⟨_, _, e, fun _ => ⟨g, rfl⟩⟩
theorem KnI.more {w3 wr wi w9 : World} {c u : Nat} {v v9 : Value} {gx : Nat → Nat} {f : Nat → Nat → Nat} {h : Nat → Nat} (ob : Obj) (I : KnI w3 wr c u v gx f) (hr : RowAt wi wr.heap.size 5 c h) (hb : Below wr.heap.size wr wi) (hf : ∀ l, l < c → h l = f u l)
  (hown : w9.ownsRow w3.heap.size 22 1 v9 (u + 1) ((vrow u (fun t => .slice (some ⟨gx t, 0, none⟩) c c)).toList ++ [.slice (some ⟨wr.heap.size, 0, none⟩) c c])) (hg : (wi.alloc ob).grownBy w9 v.ownBlock) : KnI w3 w9 c (u + 1) v9 (fun t => if t = u then wr.heap.size else gx t) f := by
 have ha := qa1 wi ob
 have hsz : w3.heap.size ≤ wr.heap.size := I.low.size
 have keep : ∀ {g : Nat} {y : Nat → Nat}, RowAt wi g 5 c y → RowAt w9 g 5 c y := fun {g y} hy => by
  have h1 := hy.later ha
  unfold RowAt
  rw [hg.block g h1.lt (fun e => by
   obtain ⟨cs, hcs⟩ := ownb I.own e.symm
   have h2 : (wi.alloc ob).heap[g]? = some (.cells cs 22 (0, 0)) := by rw [ha.block g hy.lt, hb.block g (lt_of_block hcs)]; exact hcs
   exact qck h1 h2 (by decide) rfl)]
  exact h1
 refine ⟨?_, fun t ht => ?_, ?_⟩
 ·rw [qim] at hown
  have e : (vrow (u + 1) (fun i => if i = u then Value.slice (some ⟨wr.heap.size, 0, none⟩) c c else Value.slice (some ⟨gx i, 0, none⟩) c c)) = vrow (u + 1) (fun t => .slice (some ⟨(if t = u then wr.heap.size else gx t), 0, none⟩) c c) := by
   congr 1
   funext i
   by_cases h : i = u
   ·rw [if_pos h, if_pos h]
   ·rw [if_neg h, if_neg h]
  rw [e] at hown
  exact hown
 ·show w3.heap.size ≤ (if t = u then wr.heap.size else gx t) ∧ RowAt w9 (if t = u then wr.heap.size else gx t) 5 c (f t)
  by_cases h : t = u
  ·rw [if_pos h, h]
   exact ⟨hsz, keep (hr.congr hf)⟩
  ·rw [if_neg h]
   obtain ⟨h1, h2⟩ := I.rows t (by omega)
   exact ⟨h1, keep (h2.later hb)⟩
 ·refine ⟨?_, ?_, ?_, ?_, fun k hk => ?_⟩
  ·rw [hg.os, ha.os, hb.os, I.low.os]
  ·rw [hg.tape, ha.tape, hb.tape, I.low.tape]
  ·rw [hg.output, ha.output, hb.output, I.low.output]
  ·have h1 := hg.size
   have h2 := ha.size
   have h3 := hb.size
   omega
  ·have h2 := ha.size
   have h3 := hb.size
   rw [hg.block k (by omega) (fun e => by have := qaa I.own k e.symm; omega), ha.block k (by omega), hb.block k (by omega), I.low.block k hk]
theorem KnI.prt {w3 wr : World} {c u dd : Nat} {so : Option Addr} {gx : Nat → Nat} {f : Nat → Nat → Nat} (h : KnI w3 wr c u (.slice so u dd) gx f) (hf : ∀ t l, t < u → l < c → f t l < 256) : Prt wr so u c f := fun t ht => by
 rcases h.own.2 with ⟨_, h0⟩ | ⟨g, cap, cur, e, _, hg, hc, _, hs, htk⟩
 ·omega
 ·cases e
  have e1 : (cur.toList.take (u * 1))[t]? = some (.slice (some ⟨gx t, 0, none⟩) c c) := by rw [htk, Array.getElem?_toList, qfy _ _ _ ht]
  rw [List.getElem?_take, if_pos (by omega), Array.getElem?_toList] at e1
  refine ⟨g, 0, some ⟨gx t, 0, none⟩, c, rfl, ?_, (h.rows t ht).2.sl (fun l hl => hf t l ht hl), fun e => by cases e⟩
  rw [Nat.zero_add, cell_of_row wr g t _ _ _ hg]
  exact e1
theorem KnI.room {w3 wr : World} {c u dd : Nat} {so : Option Addr} {gx : Nat → Nat} {f : Nat → Nat → Nat} (h : KnI w3 wr c u (.slice so u dd) gx f) : u ≤ dd := by
 rcases h.own.2 with ⟨e, h0⟩ | ⟨g, cap, cur, e, _, _, hc, _⟩
 ·cases e; omega
 ·cases e; omega
theorem gker_x (w : World) (r c n k : Nat) (a : Option Addr) (F : Nat → Nat) (ha : Mt w a n k F) (R : Rt r c n) : Calls Tryz.prog 118 #[mv r c a n k] w fun e w' => KerP w w' e r c F ∧ ∃ s N d kr, e = .returned (.tuple #[mv (kr : Nat) c s N d, .int .i64 0]) ∧ Frs w' w.heap.size s N d := by
 obtain ⟨wb, HW, HX⟩ : ∃ wb, Hid (wb = (w.alloc (.cells #[.int .i64 (r : Int), .int .i64 (c : Int), .slice a n k] 24)).alloc (.cells #[.int .i64 0, .int .i64 0, .slice none 0 0] 24)) ∧ Hid (Box2 w wb r c n k a) := ⟨_, rfl, box2 w r c n k a⟩
 have HA : Hid (Mt w a n k F) := ha
 have HR : Hid (Rt r c n) := R
 have hr := R.r64
 have hc := R.c64
 have v0 := HX.out.va.c0
 have v1 := HX.out.va.c1
 have v2 := HX.out.va.c2
 have hwb : w.heap.size + 1 < wb.heap.size := HX.out.vr.lt
 clear ha R
 go_enter Tryz.func118, Tryz.ntmps118
 go_wp2_with (first
  | (go_at_call 55; rw [← HW.out]; refine (gred_ok _ r c n k a F (HA.out.later HX.out.below) HR.out).mono ?_; rintro e w1 ⟨s1, d1, ps, pd, top, p, G, rfl, hm1, hi1, hr1, hs1, hp1, hb1⟩; have HM1 : Hid (Mt w1 s1 n d1 G) := hm1; have HI1 : Hid (Il w1 ps top (fun i => (p i : Int))) := hi1; have HRD : Hid (Rdf (m2 G r c) r top p ∧ SpEq (m2 G r c) r (m2 F r c) r ∧ ∀ i, i < top → p i < c) := ⟨hr1, hs1, hp1⟩; have HB1 : Hid (Below wb.heap.size wb w1) := hb1; have va := Vr.new w1 (.int .i64 (r : Int)) (.int .i64 (c : Int)) (.slice s1 n d1); have b0 := va.c0; have b1 := va.c1; have b2 := va.c2; have htr : top ≤ r := hr1.kr; clear hm1 hi1 hr1 hs1 hp1 hb1 va)
  | (go_at_call 88; refine (qeq _ r c n d1 s1 G (HM1.out.sl.later (qa1 _ _)) HR.out).mono ?_; rintro e w2 ⟨gs, gd, rfl, hg2, hl2, hu2, hb2⟩; have HG2 : Hid (Grid w2 (w1.heap.size + 1) gs gd r c (m2 G r c)) := by { show Grid _ _ _ _ _ _ _; have := hg2; simpa using this }; have HB2 : Hid (Below wb.heap.size wb w2) := qa0 (qa0 HB1.out (qa1 w1 _)) hb2; have HI2 : Hid (Il w2 ps top (fun i => (p i : Int))) := (HI1.out.later (qa1 _ _)).later hb2; have f1 := (HX.out.va.later HB2.out).c1; clear hg2 hb2 hl2 hu2)
  | (go_at_call 132; refine (free_any _ ps top pd c p HI2.out (by omega) hc).mono ?_; rintro e w3 ⟨fs, fd, rfl, ho3, hb3⟩; have HO3 : Hid (Oi w3 w2.heap.size (.slice fs (cnt (fre p top) c) fd) (cnt (fre p top) c) (nth (fre p top) c)) := ho3; have HB3 : Hid (Below wb.heap.size wb w3) := qa0 HB2.out hb3; have HG3 : Hid (Grid w3 (w1.heap.size + 1) gs gd r c (m2 G r c)) := HG2.out.later hb3; have HI3 : Hid (Il w3 ps top (fun i => (p i : Int))) := HI2.out.later hb3; clear ho3 hb3))
 obtain ⟨kr, HKR⟩ : ∃ kr, Hid (cnt (fre p top) c = kr) := ⟨_, rfl⟩
 obtain ⟨q, HQ⟩ : ∃ q, Hid (nth (fre p top) c = q) := ⟨_, rfl⟩
 rw [HKR.out, HQ.out] at HO3
 rw [HKR.out]
 have hkr : kr ≤ 64 := by have := qe0 (fre p top) c; rw [← HKR.out]; omega
 have HQS : Hid (∀ u, u < kr → q u < c ∧ pvt p top (q u) = false) := fun u hu => by
  obtain ⟨h1, h2, _⟩ := qb4 (fre p top) c u (by rw [HKR.out]; exact hu)
  rw [HQ.out] at h1 h2
  exact ⟨h1, by unfold fre at h2; simpa using h2⟩
 obtain ⟨M, HM⟩ : ∃ M, Hid (m2 G r c = M) := ⟨_, rfl⟩
 rw [HM.out] at HG3
 have HEM : Hid (El2 M) := by rw [← HM.out]; exact qe5 HM1.out.sl.1 HR.out
 have HF1 : Hid (Vr w3 w.heap.size (.int .i64 (r : Int)) (.int .i64 (c : Int)) (.slice a n k)) := HX.out.va.later HB3.out
 clear b0 b1 b2 f1 v0 v1 v2
 go_loopw [8, 31] (fun sv su wr => ∃ (u : Nat) (gx : Nat → Nat), su = .int .i64 (u : Int) ∧ u ≤ kr ∧ Hid (KnI w3 wr c u sv gx (fun t => kv M p top (q t)))) (fun _ su _ => kr - (intOf su).toNat)
 case atStart => exact ⟨0, fun _ => 0, rfl, by omega, knI_zero _ _ _ _⟩
 case round =>
  obtain ⟨u, gx, rfl, huk, HI⟩ := hrel
  obtain ⟨so, dd, rfl, _⟩ := HI.out.form
  have g1 := (HF1.out.later HI.out.low).c1
  by_cases hlt : u < kr
  ·obtain ⟨bf, of, efs, cf⟩ := HO3.out.il u hlt
   dsimp only at cf
   obtain ⟨hqc, hpv⟩ := HQS.out u hlt
   obtain ⟨j, HJ⟩ : ∃ j, Hid (q u = j) := ⟨_, rfl⟩
   rw [HJ.out] at cf hqc hpv
   have HPV : Hid (pvt p top j = false) := hpv
   have HFS : Hid (fs = some ⟨bf, of, none⟩) := efs
   have cf1 := qah HI.out.low cf
   obtain ⟨i0, hi8, hz0, hz1, hz2⟩ := info_parts qem
   have hml : c ≤ maxLen := by unfold maxLen; omega
   have hjc : (j : Int) < (c : Int) := by omega
   have hsz : w3.heap.size ≤ wr.heap.size := HI.out.low.size
   clear cf hpv
   subst efs
   go_wp2_with (at_make; refine wpList_make_full _ rfl _ _ 22 rfl wr.heap.size 5 i0 (.int .u8 0) 1 Tryz.underlying22 hi8 hz0 hz1 .i64 .i64 _ _ c rfl rfl rfl rfl (by rw [hz2]; omega) hml (Nat.le_refl _) ?_; intro w5 hown hgrow; have HR5 : Hid (RowAt w5 wr.heap.size 5 c (fun _ => 0)) := qe2 hown; have HB5 : Hid (Below wr.heap.size wr w5) := qa9.mp hgrow; have m1 := HR5.out.cell j hqc; have m2' := HR5.out.free j; clear hown hgrow)
   have HR6 : Hid (RowAt (w5.setCell ⟨wr.heap.size, j, none⟩ (.int .u8 1)) wr.heap.size 5 c (kvp M p j 0)) := (HR5.out.set j 1).congr (fun t _ => (kvp_zero M p j t).symm)
   have HB6 : Hid (Below wr.heap.size wr (w5.setCell ⟨wr.heap.size, j, none⟩ (.int .u8 1))) := HB5.out.setCell (Nat.le_refl _) _
   go_loopw [43] (fun si wi => ∃ i : Nat, si = .int .i64 (i : Int) ∧ i ≤ top ∧ Hid (RowAt wi wr.heap.size 5 c (kvp M p j i)) ∧ Hid (Below wr.heap.size wr wi)) (fun si _ => top - (intOf si).toNat)
   case atStart => exact ⟨0, rfl, by omega, HR6.out, HB6.out⟩
   case round =>
    clear HR6 HB6 HR5 HB5 m1 m2'
    obtain ⟨i, rfl, hit, HRi, HBi⟩ := hrel
    by_cases hit2 : i < top
    ·obtain ⟨x8, hcl, hs8, _⟩ := HG3.out.row (i := i) (by omega)
     obtain ⟨b8, o8, rfl, hc8⟩ := hs8.2 j hqc
     have hy := hs8.1 j hqc
     obtain ⟨y, HY⟩ : ∃ y, Hid (M i j = y) := ⟨_, rfl⟩
     rw [HY.out] at hc8 hy
     obtain ⟨bp, op, eps, hcp⟩ := HI3.out i hit2
     dsimp only at hcp
     obtain ⟨pi, HPI⟩ : ∃ pi, Hid (p i = pi) := ⟨_, rfl⟩
     rw [HPI.out] at hcp
     have hpc : pi < c := by rw [← HPI.out]; exact HRD.out.2.2 i hit2
     have HEP : Hid (ps = some ⟨bp, op, none⟩) := eps
     have d1 := qah HBi.out (qah HI.out.low hcl)
     have d2 := qah HBi.out (qah HI.out.low hc8)
     have d3 := qah HBi.out (qah HI.out.low hcp)
     have d4 := HRi.out.cell pi hpc
     have d5 := HRi.out.free pi
     have hpi : (pi : Int) < (c : Int) := by omega
     have hii : (i : Int) < (r : Int) := by omega
     clear hcl hc8 hcp hs8
     subst eps
     go_wp2
     refine ⟨⟨i + 1, by go_num, by omega, (HRi.out.set pi y).congr (fun t _ => ?_), HBi.out.setCell (Nat.le_refl _) _⟩, by simp [intOf]; omega⟩
     rw [← HPI.out, ← HY.out]
     exact kvp_step HRD.out.1.up hit2 (pvt_no HPV.out hit2) t
    ·obtain rfl : i = top := by omega
     obtain ⟨i1, hi1, hz3, hz4, hz5⟩ := info_parts info22
     have hml2 : u + 1 ≤ maxLen := by unfold maxLen; omega
     have HOW : Hid (wr.ownsRow w3.heap.size 22 1 (.slice so u dd) u (vrow u (fun t => .slice (some ⟨gx t, 0, none⟩) c c)).toList) := World.ownsRow.kept HI.out.own (qa9.mpr HBi.out) (by cases hv : (Value.slice so u dd).ownBlock <;> simp)
     have hsz2 : w3.heap.size ≤ wr.heap.size := by have := HBi.out.size; omega
     go_wp2_with (at_builtin; refine wpList_append_own _ rfl _ _ 120 rfl w3.heap.size 22 i1 (.slice none 0 0) 1 24 Tryz.underlying120 hi1 hz3 hz4 hz5 rfl (by decide) _ u _ rfl (World.ownsRow.alloc HOW.out _) ⟨wr.heap.size, 0, none⟩ 1 1 [_] rfl rfl (vone_new _ _ _) (by intro y hy; simp at hy; subst hy; rfl) hml2 (by omega) (by simp; omega) ?_; intro v9 w9 hown9 hgrow9 _; have HN9 := KnI.more (h := kvp M p j i) (f := fun t => kv M p i (q t)) _ HI.out HRi.out HBi.out (fun l _ => by rw [HJ.out]; rfl) hown9 hgrow9; have HN : Hid (KnI w3 w9 c (u + 1) v9 _ (fun t => kv M p i (q t))) := HN9; clear hown9 hgrow9 HN9)
     exact ⟨⟨u + 1, _, by go_num, by omega, HN.out⟩, by simp [intOf]; omega⟩
  ·obtain rfl : u = kr := by omega
   have hdd := HI.out.room
   have HPR : Hid (Prt wr so u c (fun t => kv M p top (q t))) := HI.out.prt (fun t l _ _ => qhe HEM.out p top (q t) l)
   have hsz : wb.heap.size ≤ w3.heap.size := HB3.out.size
   go_wp2_with (first
    | (go_at_call 85; refine (qij _ so u dd c _ HPR.out hdd hkr hc).mono ?_; rintro e w7 ⟨s, d, H, rfl, hm7, hO7, hf7, hb7⟩; have HM7 : Hid (Mt w7 s (u * c) d H) := hm7; have HO7 : Hid (∀ i l, i < u → l < c → H (i * c + l) = kv M p top (q i) l) := hO7; have HB7 : Hid (Below wb.heap.size wb w7) := qa0 (HB3.out.trans (HI.out.low.mono hsz)) hb7; have HF7 : Hid (Frs w7 wb.heap.size s (u * c) d) := Frs.mono hf7 (Nat.le_trans hsz HI.out.low.size); have HV7 : Hid (Vr w7 (w.heap.size + 1) (.int .i64 0) (.int .i64 0) (.slice none 0 0)) := HX.out.vr.later HB7.out; clear hm7 hO7 hf7 hb7)
    | (refine qa4 rfl _ _ rfl (w.heap.size + 1) _ _ _ (.int .i64 (u : Int)) (.int .i64 (c : Int)) (.slice s (u * c) d) rfl rfl HV7.out rfl rfl rfl ?_; intro w8 HV8 HG8))
   have d0 := HV8.out.c0
   have d1 := HV8.out.c1
   have d2 := HV8.out.c2
   refine bodyPost_ret (v := .tuple #[mv u c s (u * c) d, .int .i64 0]) (by simp [results, Tryz.results118, go_sem, d0, d1, d2, mv]) rfl ?_
   refine ⟨⟨s, d, u, top, p, G, H, rfl, HM7.out.kept HG8.out (fun _ => HF7.out.off (by omega)), HRD.out.1, HRD.out.2.1, HRD.out.2.2, HKR.out.symm, fun i l hi hl => ?_, qa8 (qa0 HX.out.below HB7.out) HG8.out (by omega)⟩, s, u * c, d, u, rfl, (HF7.out.kept HG8.out (by omega)).mono (by omega)⟩
   rw [HO7.out i l hi hl, HM.out, HQ.out]
theorem gker_ok (w : World) (r c n k : Nat) (a : Option Addr) (F : Nat → Nat) (ha : Mt w a n k F) (R : Rt r c n) : Calls Tryz.prog 118 #[mv r c a n k] w fun e w' => KerP w w' e r c F := (gker_x w r c n k a F ha R).mono fun _ _ h => h.1
end Go.Proofs.YtlmanliinncdiaaGreat
