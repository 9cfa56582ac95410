/-
  Contracts of the program's gauss: Reduce, Rank.
-/
import Derived.Test.YtblagbghpfopcaaQffst00
import Derived.Test.YtblagbghpfopcaaQffst37
import Derived.Test.YtblagbghpfopcaaQffst25
import Derived.Test.YtblagbghpfopcaaQffst27
set_option maxRecDepth 100000
set_option maxHeartbeats 16000000
namespace Go.Proofs.Ytblagbghpfopcaa
open Go.RowKit
theorem bes_none (w : World) (r c : Nat) (J : Nat → Nat → Nat) : Bes w w.heap.size 0 r c [] (fun _ => 0) (fun _ => 0) (fun _ => 0) (fun _ => 0) J :=
 ⟨Nat.le_refl _, by omega, fun t h => by omega, fun t h => by omega, fun t h => by omega, fun t h => by omega, fun _ _ t h => by omega⟩
/-- A reduction without lists beside it. -/
theorem qfz (w : World) (r c n k : Nat) (a : Option Addr) (F : Nat → Nat) (ha : Mt w a n k F) (R : Rt r c n) :
  Calls Try.prog 51 #[mv r c a n k, .slice none 0 0] w fun e w' => ∃ C : Cfg, e = .returned (.pointer (some ⟨C.g, 0, none⟩)) ∧ C.Ok ∧ Rst w' C none 0 0 (fun _ => 0) (m2 F r c) ∧ C.B = w.heap.size ∧ C.n = r ∧ C.c = c ∧ C.m = 0 ∧ Below w.heap.size w w' :=
 (qfy w r c n k w.heap.size 0 0 a none F [] _ _ _ _ (m2 F r c) ha R (bes_none w r c _) (World.ownsRow_nil _ _ _ _) (qb3 ha.sl.1 R) (fun _ _ _ _ => rfl)).mono (fun _ _ ⟨C, h1, h2, h3, h4, h5, h6, h7, _, h9⟩ => ⟨C, h1, h2, h3, h4, h5, h6, h7, h9⟩)
theorem H_last {C : Cfg} (K : C.Ok) (J : Nat → Nat → Nat) : C.H J C.m = J := by
 funext i l
 show J i (C.o C.m + l) = _
 rw [K.lo, Nat.zero_add]
theorem Rst.rows {w : World} {C : Cfg} {ps : Option Addr} {pd top : Nat} {p : Nat → Nat} {J : Nat → Nat → Nat} (K : C.Ok) (h : Rst w C ps pd top p J) : Prt w (some ⟨C.gr C.m, 0, none⟩) C.n C.c J := by
 have := (h.gs C.m (Nat.le_refl _)).prt
 rwa [K.lk, H_last K J] at this
theorem ofr_n (w : World) (s : Option Addr) (n q k N : Nat) (F : Nat → Nat → Nat) (h : Prt w s n k F) (hq : n ≤ q) (hn : n ≤ 64) (hk : k ≤ 64) (hN : n * k = N) :
  Calls Try.prog 54 #[.slice s n q, .int .i64 (k : Int)] w fun e w' => ∃ t d G, e = .returned (mv n k t N d) ∧ Mt w' t N d G ∧ (∀ i l, i < n → l < k → G (i * k + l) = F i l) ∧ Frs w' w.heap.size t N d ∧ Below w.heap.size w w' := by
 rw [← hN]
 exact ofr_any w s n q k F h hq hn hk
theorem m2_ct {G : Nat → Nat} {J : Nat → Nat → Nat} {r c : Nat} (hG : ∀ i l, i < r → l < c → G (i * c + l) = J i l) : ∀ i j, i < r → m2 G r c i j = ct J c i j := fun i j hi => by
 by_cases hj : j < c
 ·rw [qax G hi hj, qed J i hj, hG i j hi hj]
 ·rw [qaf G (by omega), qdy J i (by omega)]
theorem ct_m2 (F : Nat → Nat) (r c i j : Nat) : ct (m2 F r c) c i j = m2 F r c i j := by
 by_cases hj : j < c
 ·rw [qed _ i hj]
 ·rw [qdy _ i (by omega), qaf F (by omega)]
theorem red_fin {F G p : Nat → Nat} {J : Nat → Nat → Nat} {r c top : Nat} (hA : Asc J r top c p 0) (hS : SpEq J r (m2 F r c) r) (hG : ∀ i l, i < r → l < c → G (i * c + l) = J i l) : Rdf (m2 G r c) r top p ∧ SpEq (m2 G r c) r (m2 F r c) r := by
 refine ⟨hA.rdf.first hA.ech.lt (fun i j hi => ?_), ?_⟩
 ·rw [m2_ct hG i j hi]
  by_cases hj : j < c
  ·rw [if_pos hj]
  ·rw [if_neg hj, qdy J i (by omega)]
 ·have h1 := (hS.ct c).rows (fun i j hi => m2_ct hG i j hi)
  rwa [show ct (m2 F r c) c = m2 F r c from funext fun i => funext fun j => ct_m2 F r c i j] at h1
theorem Il.chg {w w' : World} {S : Nat → Prop} {b : Option Addr} {m : Nat} {q : Nat → Int} (h : Il w b m q) (hc : Chg w w' S) (hn : ∀ x, b = some x → ¬ S x.block) : Il w' b m q := fun i hi => by
 obtain ⟨x, o, e, hcl⟩ := h i hi
 refine ⟨x, o, e, ?_⟩
 rw [← hcl]
 exact World.cell?_of_block (hc.block x (qaw hcl) (hn _ e))
theorem Mt.chg {w w' : World} {S : Nat → Prop} {a : Option Addr} {n k : Nat} {F : Nat → Nat} (h : Mt w a n k F) (hc : Chg w w' S) (hn : ∀ x, a = some x → ¬ S x.block) : Mt w' a n k F := ⟨h.sl.chg hc hn, h.room, h.nil⟩
theorem Oi.off {w : World} {B b n d : Nat} {s : Option Addr} {f : Nat → Nat} (h : Oi w B (.slice s n d) n f) (hb : b < B) : ∀ x, s = some x → x.block ≠ b := fun x hx e => by
 have := (h.base (g := x.block) (by rw [hx]; rfl)).1
 omega
theorem grank_x (w : World) (r c n k : Nat) (a : Option Addr) (F : Nat → Nat) (ha : Mt w a n k F) (R : Rt r c n) : Calls Try.prog 72 #[mv r c a n k] w fun e w' => ∃ t : Nat, e = .returned (.tuple #[.int .i64 (t : Int), .int .i64 0]) ∧ Rk (m2 F r c) r t ∧ (∃ R p, El2 R ∧ Rdf R r t p ∧ SpEq R r (m2 F r c) r ∧ ∀ i, i < t → p i < c) ∧ Below w.heap.size w w' := by
 have HA : Hid (Mt w a n k F) := ha
 have HR : Hid (Rt r c n) := R
 clear ha R
 go_enter Try.func72, Try.ntmps72
 go_wp2_with (first
  | (go_at_call 39; refine (qao _ _ _ _ _ _ HR.out.p).mono ?_; rintro e w1 ⟨rfl, hb1⟩; have HB1 : Hid (Below w.heap.size w w1) := qa1 (qa0 _ _) hb1; have va := (Vr.new w (.int .i64 (r : Int)) (.int .i64 (c : Int)) (.slice a n k)).later hb1; have a0 := va.c0; have a1 := va.c1; have a2 := va.c2; clear hb1 va)
  | (go_at_call 51; refine (qfz _ r c n k a F (HA.out.later HB1.out) HR.out).mono ?_; rintro e w2 ⟨C, rfl, hk2, hx2, e1, rfl, rfl, hm0, hb2⟩; clear hm0; have HK : Hid C.Ok := hk2; have HX2 : Hid (Rst w2 C none 0 0 (fun _ => 0) (m2 F C.n C.c)) := hx2; have HB2 : Hid (Below w.heap.size w w2) := qa1 HB1.out hb2; have HCB : Hid (w.heap.size ≤ C.B) := by { rw [e1]; exact HB1.out.size }; clear hk2 hx2 hb2 e1)
  | (go_at_call 52; refine (qcj _ C _ HK.out HX2.out).mono ?_; rintro e w3 ⟨rfl, ps, pd, top, p, J, hx3, he3, hs3, hb3⟩; have HX3 : Hid (Rst w3 C ps pd top p J) := hx3; have HE3 : Hid (Ech J C.n top C.c p) := he3; have HS3 : Hid (SpEq J C.n (m2 F C.n C.c) C.n) := hs3; have HB3 : Hid (Below w.heap.size w w3) := HB2.out.trans (hb3.mono HCB.out); have c2 := hx3.fix.c2; clear hx3 he3 hs3 hb3))
 go_ret2
 have ecm : ct (m2 F C.n C.c) C.c = m2 F C.n C.c := funext fun i => funext fun j => ct_m2 F C.n C.c i j
 refine ⟨top, rfl, ?_, ?_, HB3.out⟩
 rotate_left
 ·obtain ⟨N, hN, hA, hS⟩ := HE3.out.ex HX3.out.el
  have h1 := (hS.trans HS3.out).ct C.c
  rw [ecm] at h1
  exact ⟨ct N C.c, p, qjw hN C.c, hA.rdf, h1, hA.ech.lt⟩
 have h1 := (HE3.out.rk HX3.out.el).span (HS3.out.ct C.c)
 exact h1.at (fun i j hi => by
  by_cases hj : j < C.c
  ·rw [qed _ i hj]
  ·rw [qdy _ i (by omega), qaf F (by omega)])
theorem grank_ok (w : World) (r c n k : Nat) (a : Option Addr) (F : Nat → Nat) (ha : Mt w a n k F) (R : Rt r c n) : Calls Try.prog 72 #[mv r c a n k] w fun e w' => ∃ t : Nat, e = .returned (.tuple #[.int .i64 (t : Int), .int .i64 0]) ∧ Rk (m2 F r c) r t ∧ Below w.heap.size w w' := (grank_x w r c n k a F ha R).mono fun _ _ ⟨t, h1, h2, _, h4⟩ => ⟨t, h1, h2, h4⟩
theorem gred_x (w : World) (r c n k : Nat) (a : Option Addr) (F : Nat → Nat) (ha : Mt w a n k F) (R : Rt r c n) : Calls Try.prog 34 #[mv r c a n k] w fun e w' => RedP w w' e r c n F ∧ ∃ s d ps t pd, e = .returned (.tuple #[mv r c s n d, .slice ps t pd, .int .i64 0]) ∧ Frs w' w.heap.size s n d := by
 obtain ⟨wb, HW, HX⟩ : ∃ wb, Hid (wb = (w.alloc (.cells #[.int .i64 (r : Int), .int .i64 (c : Int), .slice a n k] 24)).alloc (.cells #[.int .i64 0, .int .i64 0, .slice none 0 0] 24)) ∧ Hid (Box2 w wb r c n k a) := ⟨_, rfl, box2 w r c n k a⟩
 have HA : Hid (Mt w a n k F) := ha
 have HR : Hid (Rt r c n) := R
 have hr := R.r64
 have hc := R.c64
 have v0 := HX.out.va.c0
 have v1 := HX.out.va.c1
 have v2 := HX.out.va.c2
 have hwb : w.heap.size + 1 < wb.heap.size := HX.out.vr.lt
 clear ha R
 go_enter Try.func34, Try.ntmps34
 go_wp2_with (first
  | (go_at_call 39; rw [← HW.out]; refine (qao _ _ _ _ _ _ HR.out.p).mono ?_; rintro e w1 ⟨rfl, hb1⟩; have HB1 : Hid (Below wb.heap.size wb w1) := hb1; have a0 := (HX.out.va.later hb1).c0; have a1 := (HX.out.va.later hb1).c1; have a2 := (HX.out.va.later hb1).c2; clear hb1)
  | (go_at_call 51; refine (qfz _ r c n k a F (HA.out.later (qa1 HX.out.below HB1.out)) HR.out).mono ?_; rintro e w2 ⟨C, rfl, hk2, hx2, e1, rfl, rfl, hm0, hb2⟩; clear hm0; have HK : Hid C.Ok := hk2; have HX2 : Hid (Rst w2 C none 0 0 (fun _ => 0) (m2 F C.n C.c)) := hx2; have HB2 : Hid (Below wb.heap.size wb w2) := qa1 HB1.out hb2; have HCB : Hid (wb.heap.size ≤ C.B) := by { rw [e1]; exact HB1.out.size }; clear hk2 hx2 hb2 e1)
  | (go_at_call 52; refine (qcj _ C _ HK.out HX2.out).mono ?_; rintro e w3 ⟨rfl, ps, pd, top, p, J, hx3, he3, hs3, hb3⟩; have HX3 : Hid (Rst w3 C ps pd top p J) := hx3; have HE3 : Hid (Ech J C.n top C.c p) := he3; have HS3 : Hid (SpEq J C.n (m2 F C.n C.c) C.n) := hs3; have HB3 : Hid (Below wb.heap.size wb w3) := HB2.out.trans (hb3.mono HCB.out); clear hx3 he3 hs3 hb3)
  | (go_at_call 53; refine (qd2 _ C ps pd top p J HK.out HX3.out HE3.out).mono ?_; rintro e w4 ⟨rfl, J4, hx4, ha4, hs4, hb4, hq4⟩; clear hq4; have HX4 : Hid (Rst w4 C ps pd top p J4) := hx4; have HA4 : Hid (Asc J4 C.n top C.c p 0) := ha4; have HS4 : Hid (SpEq J4 C.n (m2 F C.n C.c) C.n) := hs4.trans HS3.out; have HB4 : Hid (Below wb.heap.size wb w4) := HB3.out.trans (hb4.mono HCB.out); have c0 := hx4.fix.c0; have c2 := hx4.fix.c2; have b1 := (HX.out.va.later HB4.out).c1; clear hx4 ha4 hs4 hb4))
 have hcb := HCB.out
 have hgb : C.B ≤ C.g := HX4.out.fix.base
 have HD : Hid (w4.cell? ⟨C.g, 0, none⟩ = some (.slice (some ⟨C.gr C.m, 0, none⟩) C.n C.n) ∧ w4.cell? ⟨w.heap.size, 1, none⟩ = some (.int .i64 (C.c : Int)) ∧ w4.cell? ⟨C.g, 2, none⟩ = some (.slice ps top pd)) := ⟨c0, b1, c2⟩


 refine wp_region_held (S := fun w' => w'.cell? ⟨C.g, 0, none⟩ = some (.slice (some ⟨C.gr C.m, 0, none⟩) C.n C.n) ∧ w'.cell? ⟨w.heap.size, 1, none⟩ = some (.int .i64 (C.c : Int)) ∧ w'.cell? ⟨C.g, 2, none⟩ = some (.slice ps top pd)) (by kernel_rfl) ?_
 refine wtkq 0 ?vr0 rfl (by kernel_rfl) (fun _ _ _ h => h) (by rfl) ?yr0 HD.out ?zr0
 case yr0 => (intro w hSw; (try dsimp only at hSw); go_simp; try with_reducible rfl)
 try simp only [mz1, mz3, Act.put, mz4, mz5, mz6]
 refine wtkq 1 ?vr1 rfl (by kernel_rfl) (fun _ _ _ h => h) (by rfl) ?yr1 HD.out ?zr1
 case yr1 => (intro w hSw; (try dsimp only at hSw); go_simp; try with_reducible rfl)
 try simp only [mz1, mz2, mz3, Act.put, mz4, mz5, mz6]
 refine wtkq 2 ?vr2 rfl (by kernel_rfl) (fun _ _ _ h => h) (by rfl) ?yr2 HD.out ?zr2
 case yr2 => (intro w hSw; (try dsimp only at hSw); go_simp; try with_reducible rfl)
 try simp only [mz1, mz2, mz3, Act.put, mz4, mz5, mz6]
 refine wtkq 3 ?vr3 rfl (by kernel_rfl) (fun _ _ _ h => h) (by rfl) ?yr3 HD.out ?zr3
 case yr3 => (intro w hSw; (try dsimp only at hSw); go_simp; try with_reducible rfl)
 try simp only [mz1, mz2, mz3, Act.put, mz4, mz5, mz6]
 refine wtkq 4 ?vr4 rfl (by kernel_rfl) (fun _ _ _ h => h) (by rfl) ?yr4 HD.out ?zr4
 case yr4 => (intro w hSw; (try dsimp only at hSw); go_simp; try with_reducible rfl)
 try simp only [mz1, mz2, mz3, Act.put, mz4, mz5, mz6]
 refine wtkq 5 ?vr5 rfl (by kernel_rfl) (fun _ _ _ h => h) (by rfl) ?yr5 HD.out ?zr5
 case yr5 => (intro w hSw; (try dsimp only at hSw); go_simp; try with_reducible rfl)
 try simp only [mz1, mz2, mz3, Act.put, mz4, mz5, mz6]
 refine wtkq 7 ?vr7 rfl (by kernel_rfl) (fun _ _ _ h => h) (by rfl) ?yr7 HD.out ?zr7
 case yr7 => (intro w hSw; (try dsimp only at hSw); go_simp; try with_reducible rfl)
 try simp only [mz1, mz2, mz3, Act.put, mz4, mz5, mz6]
 refine wtkq 8 ?vr8 rfl (by kernel_rfl) (fun _ _ _ h => h) (by rfl) ?yr8 HD.out ?zr8
 case yr8 => (intro w hSw; (try dsimp only at hSw); go_simp; try with_reducible rfl)
 try simp only [mz1, mz2, mz3, Act.put, mz4, mz5, mz6]
 refine wtkq 9 ?vr9 rfl (by kernel_rfl) (fun _ _ _ h => h) (by rfl) ?yr9 HD.out ?zr9
 case yr9 => (intro w hSw; (try dsimp only at hSw); go_simp; try with_reducible rfl)
 try simp only [mz1, mz2, mz3, Act.put, mz4, mz5, mz6]
 refine wtkq 10 ?vr10 rfl (by kernel_rfl) (fun _ _ _ h => h) (by rfl) ?yr10 HD.out ?zr10
 case yr10 => (intro w hSw; (try dsimp only at hSw); go_simp; try with_reducible rfl)
 try simp only [mz1, mz2, mz3, Act.put, mz4, mz5, mz6]
 refine wpAnyH_ready (rs := [6]) (by kernel_rfl) (by simp) ?_
 refine AllReadyH.cons rfl (fun K hK => ?_) AllReadyH.nil
 go_simp
 refine (ofr_n _ _ C.n C.n C.c n J4 ((HX4.out.later (Below.refl _ _).drew).rows HK.out) (Nat.le_refl _) hr hc HR.out.len).mono ?_
 rintro e w5 ⟨s, d, G, rfl, hm5, hG5, hf5, hb0⟩
 have hb5 := undrew hb0
 have HB5 : Hid (Below wb.heap.size wb w5) := qa1 HB4.out hb5
 have HX5 : Hid (Rst w5 C ps pd top p J4) := HX4.out.later hb5
 have HM5 : Hid (Mt w5 s n d G) := hm5
 have HG5 : Hid (∀ i l, i < C.n → l < C.c → G (i * C.c + l) = J4 i l) := hG5
 have HF5 : Hid (Frs w5 wb.heap.size s n d) := Frs.mono hf5 HB4.out.size
 have HV5 : Hid (Vr w5 (w.heap.size + 1) (.int .i64 0) (.int .i64 0) (.slice none 0 0)) := HX.out.vr.later HB5.out
 have HD1 : Hid (w5.cell? ⟨C.g, 0, none⟩ = some (.slice (some ⟨C.gr C.m, 0, none⟩) C.n C.n) ∧ w5.cell? ⟨w.heap.size, 1, none⟩ = some (.int .i64 (C.c : Int)) ∧ w5.cell? ⟨C.g, 2, none⟩ = some (.slice ps top pd)) := ⟨qaj hb5 c0, qaj hb5 b1, qaj hb5 c2⟩
 clear hm5 hG5 hf5 hb0 hb5
 refine hK.out _ _ HD1.out (fun _ => ?_)
 clear hK K
 try simp only [mz1, mz2, mz3, Act.put, mz4, mz5, mz6]
 refine wpAnyH_ready (rs := [11]) (by kernel_rfl) (by simp) ?_
 refine AllReadyH.cons rfl (fun K hK => ?_) AllReadyH.nil
 refine qal rfl _ _ rfl (w.heap.size + 1) _ _ _ (.int .i64 (C.n : Int)) (.int .i64 (C.c : Int)) (.slice s n d) rfl rfl HV5.out rfl rfl rfl ?_
 intro w6 HV6 HG6
 have HD2 : Hid (w6.cell? ⟨C.g, 0, none⟩ = some (.slice (some ⟨C.gr C.m, 0, none⟩) C.n C.n) ∧ w6.cell? ⟨w.heap.size, 1, none⟩ = some (.int .i64 (C.c : Int)) ∧ w6.cell? ⟨C.g, 2, none⟩ = some (.slice ps top pd)) := ⟨qem HG6.out HD1.out.1 (by omega), qem HG6.out HD1.out.2.1 (by omega), qem HG6.out HD1.out.2.2 (by omega)⟩
 refine hK.out _ _ HD2.out (fun _ => ?_)
 clear hK K
 try simp only [mz1, mz2, mz3, Act.put]
 refine wtkq 12 ?vr12 rfl (by kernel_rfl) (fun _ _ _ h => h) (by rfl) ?yr12 HD2.out ?zr12
 case yr12 => (intro w hSw; (try dsimp only at hSw); go_simp; try with_reducible rfl)
 try simp only [mz1, mz2, mz3, Act.put, mz4, mz5, mz6]
 refine wtkq 13 ?vr13 rfl (by kernel_rfl) (fun _ _ _ h => h) (by rfl) ?yr13 HD2.out ?zr13
 case yr13 => (intro w hSw; (try dsimp only at hSw); go_simp; try with_reducible rfl)
 try simp only [mz1, mz2, mz3, Act.put, mz4, mz5, mz6]
 refine wpAnyH_done (by kernel_rfl) ?_ _
 go_wp2
 have d0 := HV6.out.c0
 have d1 := HV6.out.c1
 have d2 := HV6.out.c2
 refine bodyPost_ret (v := .tuple #[mv C.n C.c s n d, .slice ps top pd, .int .i64 0]) (by simp [results, Try.results34, go_sem, d0, d1, d2, mv]) rfl ?_
 have hch : Chg w5 w6 (fun b => b = w.heap.size + 1) := Chg.of_grown HG6.out rfl
 obtain ⟨h1, h2⟩ := red_fin HA4.out HS4.out HG5.out
 have hf := (HF5.out.kept HG6.out (by omega)).mono (B' := w.heap.size) (by omega)
 exact ⟨⟨s, d, ps, pd, top, p, G, rfl, HM5.out.kept HG6.out (fun _ => HF5.out.off (by omega)), HX5.out.fix.piv.il.chg hch (HX5.out.fix.piv.off (by omega)), h1, h2, HA4.out.ech.lt, qaa (qa1 HX.out.below HB5.out) HG6.out (by omega)⟩, s, d, ps, top, pd, rfl, hf⟩
theorem gred_ok (w : World) (r c n k : Nat) (a : Option Addr) (F : Nat → Nat) (ha : Mt w a n k F) (R : Rt r c n) : Calls Try.prog 34 #[mv r c a n k] w fun e w' => RedP w w' e r c n F := (gred_x w r c n k a F ha R).mono fun _ _ h => h.1
end Go.Proofs.Ytblagbghpfopcaa
