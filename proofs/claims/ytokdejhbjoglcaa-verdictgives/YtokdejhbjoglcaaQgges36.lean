/-
  Contracts of the program's gauss: Reduce, Rank.
  Contracts of the program's gauss: Solve, Combine.
  Contracts of the program's gauss: Inverse.
-/
import Derived.Test.YtokdejhbjoglcaaQgges00
import Derived.Test.YtokdejhbjoglcaaQgges35
import Derived.Test.YtokdejhbjoglcaaQgges27
import Derived.Test.YtokdejhbjoglcaaQgges29
set_option maxRecDepth 100000
set_option maxHeartbeats 16000000
namespace Go.Proofs.Ytokdejhbjoglcaa
open Go.RowKit
theorem bes_none (w : World) (r c : Nat) (J : Nat → Nat → Nat) : Bes w w.heap.size 0 r c [] (fun _ => 0) (fun _ => 0) (fun _ => 0) (fun _ => 0) J :=
 ⟨Nat.le_refl _, by omega, fun t h => by omega, fun t h => by omega, fun t h => by omega, fun t h => by omega, fun _ _ t h => by omega⟩
/-- A reduction without lists beside it. -/
theorem qjm (w : World) (r c n k : Nat) (a : Option Addr) (F : Nat → Nat) (ha : Mt w a n k F) (R : Rt r c n) :
  Calls Try.prog 70 #[mv r c a n k, .slice none 0 0] w fun e w' => ∃ C : Cfg, e = .returned (.pointer (some ⟨C.g, 0, none⟩)) ∧ C.Ok ∧ Rst w' C none 0 0 (fun _ => 0) (m2 F r c) ∧ C.B = w.heap.size ∧ C.n = r ∧ C.c = c ∧ C.m = 0 ∧ Below w.heap.size w w' :=
 (qfl w r c n k w.heap.size 0 0 a none F [] _ _ _ _ (m2 F r c) ha R (bes_none w r c _) (World.ownsRow_nil _ _ _ _) (qap ha.sl.1 R) (fun _ _ _ _ => rfl)).mono (fun _ _ ⟨C, h1, h2, h3, h4, h5, h6, h7, _, h9⟩ => ⟨C, h1, h2, h3, h4, h5, h6, h7, h9⟩)
theorem H_last {C : Cfg} (K : C.Ok) (J : Nat → Nat → Nat) : C.H J C.m = J := by
 funext i l
 show J i (C.o C.m + l) = _
 rw [K.lo, Nat.zero_add]
theorem Rst.rows {w : World} {C : Cfg} {ps : Option Addr} {pd top : Nat} {p : Nat → Nat} {J : Nat → Nat → Nat} (K : C.Ok) (h : Rst w C ps pd top p J) : Prt w (some ⟨C.gr C.m, 0, none⟩) C.n C.c J := by
 have := (h.gs C.m (Nat.le_refl _)).prt
 rwa [K.lk, H_last K J] at this
theorem ofr_n (w : World) (s : Option Addr) (n q k N : Nat) (F : Nat → Nat → Nat) (h : Prt w s n k F) (hq : n ≤ q) (hn : n ≤ 64) (hk : k ≤ 64) (hN : n * k = N) :
  Calls Try.prog 73 #[.slice s n q, .int .i64 (k : Int)] w fun e w' => ∃ t d G, e = .returned (mv n k t N d) ∧ Mt w' t N d G ∧ (∀ i l, i < n → l < k → G (i * k + l) = F i l) ∧ Frs w' w.heap.size t N d ∧ Below w.heap.size w w' := by
 rw [← hN]
 exact ofr_any w s n q k F h hq hn hk
theorem ct_m2 (F : Nat → Nat) (r c i j : Nat) : ct (m2 F r c) c i j = m2 F r c i j := by
 by_cases hj : j < c
 ·rw [qfc _ i hj]
 ·rw [qgp _ i (by omega), qal F (by omega)]
theorem Il.chg {w w' : World} {S : Nat → Prop} {b : Option Addr} {m : Nat} {q : Nat → Int} (h : Il w b m q) (hc : Chg w w' S) (hn : ∀ x, b = some x → ¬ S x.block) : Il w' b m q := fun i hi => by
 obtain ⟨x, o, e, hcl⟩ := h i hi
 refine ⟨x, o, e, ?_⟩
 rw [← hcl]
 exact World.cell?_of_block (hc.block x (qar hcl) (hn _ e))
theorem Mt.chg {w w' : World} {S : Nat → Prop} {a : Option Addr} {n k : Nat} {F : Nat → Nat} (h : Mt w a n k F) (hc : Chg w w' S) (hn : ∀ x, a = some x → ¬ S x.block) : Mt w' a n k F := ⟨h.sl.chg hc hn, h.room, h.nil⟩
theorem Oi.off {w : World} {B b n d : Nat} {s : Option Addr} {f : Nat → Nat} (h : Oi w B (.slice s n d) n f) (hb : b < B) : ∀ x, s = some x → x.block ≠ b := fun x hx e => by
 have := (h.base (g := x.block) (by rw [hx]; rfl)).1
 omega
theorem qjn (w : World) (r c n k : Nat) (a : Option Addr) (F : Nat → Nat) (ha : Mt w a n k F) (R : Rt r c n) : Calls Try.prog 82 #[mv r c a n k] w fun e w' => FstP w w' e r c F := by
 have HA : Hid (Mt w a n k F) := ha
 have HR : Hid (Rt r c n) := R
 clear ha R
 go_enter Try.func82, Try.ntmps82
 go_wp2_with (first
  | (go_at_call 93; refine (qj0 _ r c n k a F (HA.out.later (qa1 _ _)) HR.out).mono ?_; rintro e w1 ⟨gt, rfl, hr1, _, hb1⟩; have HB1 : Hid (Below w.heap.size w w1) := qa0 (qa1 _ _) hb1; have HM1 : Hid (Mt w1 (some ⟨gt, 0, none⟩) n n (trf F r c)) := hr1.mt (trf_lt HA.out.sl.1 HR.out); have va := Vr.new w1 (.int .i64 (c : Int)) (.int .i64 (r : Int)) (.slice (some ⟨gt, 0, none⟩) n n); have a0 := va.c0; have a1 := va.c1; have a2 := va.c2; clear hr1 hb1 va)
  | (go_at_call 70; refine (qjm _ c r n n (some ⟨gt, 0, none⟩) (trf F r c) (HM1.out.later (qa1 _ _)) HR.out.turn).mono ?_; rintro e w2 ⟨C, rfl, hk2, hx2, e1, en, ec, hm0, hb2⟩; clear hm0; have HK : Hid C.Ok := hk2; have HX2 : Hid (Rst w2 C none 0 0 (fun _ => 0) (m2 (trf F r c) c r)) := hx2; have HB2 : Hid (Below w.heap.size w w2) := qa0 (qa0 HB1.out (qa1 _ _)) hb2; have HCB : Hid (w.heap.size ≤ C.B) := by { rw [e1]; exact (qa0 HB1.out (qa1 w1 _)).size }; have HEN : Hid (C.n = c ∧ C.c = r) := ⟨en, ec⟩; clear hk2 hx2 hb2 e1 en ec)
  | (go_at_call 71; refine (qdy _ C _ HK.out HX2.out).mono ?_; rintro e w3 ⟨rfl, ps, pd, top, p, J, hx3, he3, hs3, hb3⟩; have HX3 : Hid (Rst w3 C ps pd top p J) := hx3; have HE3 : Hid (Ech J c top r p) := by { have := he3; rw [HEN.out.1, HEN.out.2] at this; exact this }; have HS3 : Hid (SpEq J c (m2 (trf F r c) c r) c) := by { have := hs3; rw [HEN.out.1] at this; exact this }; have HB3 : Hid (Below w.heap.size w w3) := HB2.out.trans (hb3.mono HCB.out); have c2 := hx3.fix.c2; clear hx3 he3 hs3 hb3))
 go_ret2
 have hM := qap HA.out.sl.1 HR.out
 have hT := qap (trf_lt HA.out.sl.1 HR.out) HR.out.turn
 obtain ⟨N, hN, hA, hS⟩ := HE3.out.ex HX3.out.el
 have hS2 : SpEq (ct N r) c (m2 (trf F r c) c r) c := by
  have h1 := ((hS.trans HS3.out).ct r)
  rwa [show ct (m2 (trf F r c) c r) r = m2 (trf F r c) c r from funext fun i => funext fun j => ct_m2 (trf F r c) c r i j] at h1
 have hk : Rk (m2 F r c) r top := rk_trf HA.out.sl.1 HR.out ((hA.rdf.rk (ct_el hN r)).span hS2)
 exact ⟨ps, pd, top, p, rfl, HX3.out.fix.piv.il, fstl_of hM hT (ct_el hN r) (fun i j _ hj => qal F hj) (m2_trf F) hA.rdf hA.ech.lt hS2, hk, hk.rows hM, HB3.out⟩
open Go.RowKit
theorem RowAt.frs {w : World} {B g n : Nat} {f : Nat → Nat} (h : RowAt w g 5 n f) (hB : B ≤ g) (hn : n ≤ 4096) : Frs w B (some ⟨g, 0, none⟩) n n := ⟨Nat.le_refl _, by unfold maxLen; omega, (fun e => by cases e), fun x hx => by
 cases hx
 exact ⟨g, rfl, hB, fun i hi => ⟨⟨_, h.cell i hi⟩, h.free i⟩⟩⟩
/-- What stands beside in Solve and Inverse. -/
theorem bes_one {w : World} {B gs gd r c kb : Nat} {M N : Nat → Nat → Nat} (G : Grid w B gs gd r kb N) (hgd : gd < w.heap.size) (hB : B ≤ w.heap.size) (hk : kb ≤ 64) (hp : 0 < c → 0 < r → 0 < kb) : Bes w B 1 r c [.slice (some ⟨gs, 0, none⟩) r r] (fun _ => gs) (fun _ => gd) (fun _ => kb) (fun _ => c) (wd M c N) :=
 ⟨hB, Nat.le_refl _, fun t ht => by rw [show t = 0 by omega]; rfl, fun _ _ => G.congr (fun i l _ _ => (wd_r M N c i l).symm), fun _ _ => hgd, fun _ _ => hk, fun h1 h2 _ _ => hp h1 h2⟩
theorem lit_own (w : World) (B : Nat) (v : Value) (hB : B ≤ w.heap.size) : (w.alloc (.cells #[v] 98)).ownsRow B 98 1 (.slice (some ⟨w.heap.size, 0, none⟩) 1 1) 1 [v] :=
 ⟨rfl, .inr ⟨w.heap.size, 1, #[v], rfl, hB, qbk w _, Nat.le_refl _, by unfold maxLen; omega, rfl, rfl⟩⟩
open Go.RowKit
theorem ginv_x (w : World) (r n k : Nat) (a : Option Addr) (F : Nat → Nat) (ha : Mt w a n k F) (R : Rt r r n) : Calls Try.prog 50 #[mv r r a n k] w fun e w' => (InvP w w' e r n F ∧ Rk (m2 F r r) r r ∧ ∃ s d, e = .returned (.tuple #[mv r r s n d, .int .i64 0]) ∧ Frs w' w.heap.size s n d) ∨ (e = .returned (.tuple #[mv 0 0 none 0 0, .int .i64 6]) ∧ Below w.heap.size w w' ∧ ∃ t, t < r ∧ Rk (m2 F r r) r t) := by
 obtain ⟨wb, HW, HX⟩ : ∃ wb, Hid (wb = (w.alloc (.cells #[.int .i64 (r : Int), .int .i64 (r : Int), .slice a n k] 24)).alloc (.cells #[.int .i64 0, .int .i64 0, .slice none 0 0] 24)) ∧ Hid (Box2 w wb r r n k a) := ⟨_, rfl, box2 w r r n k a⟩
 have HA : Hid (Mt w a n k F) := ha
 have HR : Hid (Rt r r n) := R
 have hr := R.r64
 have v0 := HX.out.va.c0
 have v1 := HX.out.va.c1
 have v2 := HX.out.va.c2
 have hwb : w.heap.size + 1 < wb.heap.size := HX.out.vr.lt
 have HLN : Hid (r * r = n) := R.len
 have HIE : Hid (∀ i, i < n → idf r i < 256) := fun i _ => by unfold idf; split <;> decide
 clear ha R
 go_enter Try.func50, Try.ntmps50
 go_wp2_with (first
  | (go_at_call 52; rw [← HW.out]; refine (qas _ _ _ _ _ _ HR.out.p).mono ?_; rintro e w1 ⟨rfl, hb1⟩; have HB1 : Hid (Below wb.heap.size wb w1) := hb1; have a0 := (HX.out.va.later hb1).c0; have a1 := (HX.out.va.later hb1).c1; clear hb1)
  | (go_at_call 51; refine (qfb _ r n hr HLN).mono ?_; rintro e w2 ⟨gi, rfl, hr2, _, hb2⟩; have HB2 : Hid (Below wb.heap.size wb w2) := qa0 HB1.out hb2; have HI2 : Hid (Sl w2 (some ⟨gi, 0, none⟩) n (idf r)) := (hr2.mt HIE.out).sl; have va := Vr.new w2 (.int .i64 (r : Int)) (.int .i64 (r : Int)) (.slice (some ⟨gi, 0, none⟩) n n); have b0 := va.c0; have b1 := va.c1; have b2 := va.c2; clear hr2 hb2 va)
  | (go_at_call 69; refine (qfk _ r r n n (some ⟨gi, 0, none⟩) (idf r) (HI2.out.later (qa1 _ _)) HR.out).mono ?_; rintro e w3 ⟨gs, gd, rfl, hg3, hl3, hu3, hb3⟩; have HG3 : Hid (Grid w3 (w2.heap.size + 1) gs gd r r (m2 (idf r) r r)) := by { show Grid _ _ _ _ _ _ _; have := hg3; simpa using this }; have HB3 : Hid (Below wb.heap.size wb w3) := qa0 (qa0 HB2.out (qa1 w2 _)) hb3; have HS3 : Hid (w2.heap.size + 1 ≤ w3.heap.size) := by { show _ ≤ _; have := hb3.size; simpa using this }; have HL3 : Hid (gd < w3.heap.size) := hu3; have HV3 : Hid (Vr w3 w.heap.size (.int .i64 (r : Int)) (.int .i64 (r : Int)) (.slice a n k)) := HX.out.va.later HB3.out; have HVL : Hid (Vr (w3.alloc (.cells #[.slice (some ⟨gs, 0, none⟩) r r] 98)) w.heap.size (.int .i64 (r : Int)) (.int .i64 (r : Int)) (.slice a n k)) := HV3.out.later (qa1 _ _); have d0 := HV3.out.c0; have d1 := HV3.out.c1; have d2 := HV3.out.c2; have l0 := HVL.out.c0; have l1 := HVL.out.c1; have l2 := HVL.out.c2; clear hg3 hb3 hl3 hu3 b0 b1 b2)
  | (go_at_call 70; refine (qfl _ r r n k (w2.heap.size + 1) 1 1 a (some ⟨w3.heap.size, 0, none⟩) F [.slice (some ⟨gs, 0, none⟩) r r] (fun _ => gs) (fun _ => gd) (fun _ => r) (fun _ => r) (wd (m2 F r r) r (m2 (idf r) r r)) (HA.out.later (qa0 HX.out.below (qa0 HB3.out (qa1 _ _)))) HR.out (bes_one (HG3.out.later (qa1 _ _)) (by have := HL3.out; simp; omega) (by have := HS3.out; simp; omega) hr (fun _ h => h)) (lit_own _ _ _ HS3.out) (wd_el (qap HA.out.sl.1 HR.out) (qap HIE.out HR.out) r) (fun i l _ hl => wd_l _ _ i hl)).mono ?_; rintro e w4 ⟨C, rfl, hk4, hx4, e1, en, ec, em, hq4, hb4⟩; have HK : Hid C.Ok := hk4; have HX4 : Hid (Rst w4 C none 0 0 (fun _ => 0) (wd (m2 F r r) r (m2 (idf r) r r))) := hx4; have HEQ : Hid (C.n = r ∧ C.c = r ∧ C.m = 1 ∧ C.B = w2.heap.size + 1 ∧ C.gr 0 = gs ∧ C.kk 0 = r ∧ C.o 0 = r) := ⟨en, ec, em, e1, (hq4 0 (by omega)).1, (hq4 0 (by omega)).2.2.1, (hq4 0 (by omega)).2.2.2⟩; have HB4 : Hid (Below wb.heap.size wb w4) := (qa0 HB3.out (qa1 w3 _)).trans (hb4.mono (by have := HB2.out.size; omega)); clear hk4 hx4 e1 en ec em hq4 hb4)
  | (go_at_call 71; refine (qdy _ C _ HK.out HX4.out).mono ?_; rintro e w5 ⟨rfl, ps, pd, top, p, J, hx5, he5, hs5, hb5⟩; have HX5 : Hid (Rst w5 C ps pd top p J) := hx5; have HE5 : Hid (Ech J r top r p) := by { have := he5; rw [HEQ.out.1, HEQ.out.2.1] at this; exact this }; have HS5 : Hid (SpEq J r (wd (m2 F r r) r (m2 (idf r) r r)) r) := by { have := hs5; rw [HEQ.out.1] at this; exact this }; have HB5 : Hid (Below wb.heap.size wb w5) := HB4.out.trans (hb5.mono (by have := HB2.out.size; have := HEQ.out.2.2.2.1; omega)); have c2 := hx5.fix.c2; have htr : top ≤ r := HE5.out.tr; have HV5 : Hid (Vr w5 w.heap.size (.int .i64 (r : Int)) (.int .i64 (r : Int)) (.slice a n k)) := HX.out.va.later HB5.out; have e0 := HV5.out.c0; have HVR : Hid (Vr w5 (w.heap.size + 1) (.int .i64 0) (.int .i64 0) (.slice none 0 0)) := HX.out.vr.later HB5.out; clear hx5 he5 hs5 hb5 d0 d1 d2 l0 l1 l2))
 have HRK : Hid (Rk (m2 F r r) r top) := by
  have h1 := (HE5.out.rk HX5.out.el).span (HS5.out.ct r)
  exact h1.at (fun i j hi => by
   by_cases hj : j < r
   ·rw [qfc _ i hj, wd_l _ _ i hj]
   ·rw [qgp _ i (by omega), qal F (by omega)])
 by_cases ht : top < r
 ·have htd : decide (top < r) = true := by simpa using ht
  go_region
  go_wp2_with (refine qa2 rfl _ _ rfl (w.heap.size + 1) _ _ _ (.int .i64 0) (.int .i64 0) (.slice none 0 0) rfl rfl HVR.out rfl rfl rfl ?_; intro w6 HV6 HG6)
  have d0 := HV6.out.c0
  have d1 := HV6.out.c1
  have d2 := HV6.out.c2
  refine bodyPost_ret (v := .tuple #[mv 0 0 none 0 0, .int .i64 6]) (by simp [results, Try.results50, go_sem, d0, d1, d2, mv]) rfl ?_
  exact .inr ⟨rfl, qa4 (qa0 HX.out.below HB5.out.drew) HG6.out (by omega), top, ht, HRK.out⟩
 ·obtain rfl : r = top := by omega
  go_region
  go_wp2_with (first
   | (go_at_call 72; refine (qhx _ C ps pd r p J HK.out (HX5.out.later (Below.refl _ _).drew) (by rw [HEQ.out.1, HEQ.out.2.1]; exact HE5.out)).mono ?_; rintro e w6 ⟨rfl, J6, hx6, ha6, hs6, hb6, hq6⟩; have HX6 : Hid (Rst w6 C ps pd r p J6) := hx6; have HA6 : Hid (Asc J6 r r r p 0) := by { have := ha6; rw [HEQ.out.1, HEQ.out.2.1] at this; exact this }; have HS6 : Hid (SpEq J6 r (wd (m2 F r r) r (m2 (idf r) r r)) r) := by { have := hs6; rw [HEQ.out.1] at this; exact this.trans HS5.out }; have HB6 : Hid (Below wb.heap.size wb w6) := HB5.out.drew.trans (hb6.mono (by have := HB2.out.size; have := HEQ.out.2.2.2.1; omega)); have f1 := (HX.out.va.later HB6.out).c1; have HP6 : Hid (Prt w6 (some ⟨gs, 0, none⟩) r r (fun i l => J6 i (r + l))) := by { have h9 := (hx6.gs 0 (by omega)).prt; rw [HEQ.out.2.2.2.2.1, HEQ.out.2.2.2.2.2.1, HEQ.out.1] at h9; have e9 : C.H J6 0 = fun i l => J6 i (r + l) := by { funext i l; show J6 i (C.o 0 + l) = _; rw [HEQ.out.2.2.2.2.2.2] }; rw [e9] at h9; exact h9 }; clear hx6 ha6 hs6 hb6 hq6)
   | (go_at_call 73; refine (ofr_n _ _ r r r n (fun i l => J6 i (r + l)) HP6.out (Nat.le_refl _) hr hr HLN.out).mono ?_; rintro e w7 ⟨s, d, O, rfl, hm7, hO7, hf7, hb7⟩; have HM7 : Hid (Mt w7 s n d O) := hm7; have HO7 : Hid (∀ i l, i < r → l < r → O (i * r + l) = J6 i (r + l)) := hO7; have HB7 : Hid (Below wb.heap.size wb w7) := qa0 HB6.out hb7; have HF7 : Hid (Frs w7 wb.heap.size s n d) := Frs.mono hf7 HB6.out.size; have HV7 : Hid (Vr w7 (w.heap.size + 1) (.int .i64 0) (.int .i64 0) (.slice none 0 0)) := HX.out.vr.later HB7.out; clear hm7 hO7 hf7 hb7)
   | (refine qa2 rfl _ _ rfl (w.heap.size + 1) _ _ _ (.int .i64 (r : Int)) (.int .i64 (r : Int)) (.slice s n d) rfl rfl HV7.out rfl rfl rfl ?_; intro w8 HV8 HG8))
  have d0 := HV8.out.c0
  have d1 := HV8.out.c1
  have d2 := HV8.out.c2
  refine bodyPost_ret (v := .tuple #[mv r r s n d, .int .i64 0]) (by simp [results, Try.results50, go_sem, d0, d1, d2, mv]) rfl ?_
  have hinv := qhs (N := m2 (idf r) r r) HX6.out.el (qap HA.out.sl.1 HR.out) (fun i j hi hj => by
   rw [qam _ hi hj, idf_at r i j hi hj]
   unfold dl
   by_cases e : i = j
   ·rw [if_pos e, if_pos e.symm]
   ·rw [if_neg e, if_neg (fun h => e h.symm)]) HS6.out HA6.out
  refine .inl ⟨⟨s, d, O, rfl, HM7.out.kept HG8.out (fun _ => HF7.out.off (by omega)), fun i j hi hj => ?_, qa4 (qa0 HX.out.below HB7.out) HG8.out (by omega)⟩, HRK.out, s, d, rfl, (HF7.out.kept HG8.out (by omega)).mono (by omega)⟩
  rw [← hinv i j hi hj]
  exact qao (fun _ _ => rfl) (fun t ht => by rw [qam O ht hj, HO7.out t j ht hj])
theorem ginv_ok (w : World) (r n k : Nat) (a : Option Addr) (F : Nat → Nat) (ha : Mt w a n k F) (R : Rt r r n) (hk : Rk (m2 F r r) r r) : Calls Try.prog 50 #[mv r r a n k] w fun e w' => InvP w w' e r n F :=
 (ginv_x w r n k a F ha R).mono fun _ _ h => by
  rcases h with ⟨h1, _⟩ | ⟨_, _, t, ht, hr⟩
  ·exact h1
  ·have := hk.unique hr (SpEq.refl (qap ha.sl.1 R) r)
   omega
end Go.Proofs.Ytokdejhbjoglcaa
