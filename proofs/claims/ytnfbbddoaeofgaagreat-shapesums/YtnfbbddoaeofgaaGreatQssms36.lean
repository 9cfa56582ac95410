/-
  Contracts of the program's gauss: Reduce, Rank.
  Contracts of the program's gauss: Solve, Combine.
  Contracts of the program's gauss: Inverse.
  Contracts of the program's gauss: freeColumns.
-/
import Derived.Test.YtnfbbddoaeofgaaGreatQssms00
import Derived.Test.YtnfbbddoaeofgaaGreatQssms34
import Derived.Test.YtnfbbddoaeofgaaGreatQssms28
import Derived.Test.YtnfbbddoaeofgaaGreatQssms35
set_option maxRecDepth 100000
set_option maxHeartbeats 16000000
namespace Go.Proofs.YtnfbbddoaeofgaaGreat
open Go.RowKit
theorem bes_none (w : World) (r c : Nat) (J : Nat → Nat → Nat) : Bes w w.heap.size 0 r c [] (fun _ => 0) (fun _ => 0) (fun _ => 0) (fun _ => 0) J :=
 ⟨Nat.le_refl _, by omega, fun t h => by omega, fun t h => by omega, fun t h => by omega, fun t h => by omega, fun _ _ t h => by omega⟩
/-- A reduction without lists beside it. -/
theorem qj9 (w : World) (r c n k : Nat) (a : Option Addr) (F : Nat → Nat) (ha : Mt w a n k F) (R : Rt r c n) :
  Calls Tryz.prog 144 #[mv r c a n k, .slice none 0 0] w fun e w' => ∃ C : Cfg, e = .returned (.pointer (some ⟨C.g, 0, none⟩)) ∧ C.Ok ∧ Rst w' C none 0 0 (fun _ => 0) (m2 F r c) ∧ C.B = w.heap.size ∧ C.n = r ∧ C.c = c ∧ C.m = 0 ∧ Below w.heap.size w w' :=
 (qf3 w r c n k w.heap.size 0 0 a none F [] _ _ _ _ (m2 F r c) ha R (bes_none w r c _) (World.ownsRow_nil _ _ _ _) (qci ha.sl.1 R) (fun _ _ _ _ => rfl)).mono (fun _ _ ⟨C, h1, h2, h3, h4, h5, h6, h7, _, h9⟩ => ⟨C, h1, h2, h3, h4, h5, h6, h7, h9⟩)
theorem H_last {C : Cfg} (K : C.Ok) (J : Nat → Nat → Nat) : C.H J C.m = J := by
 funext i l
 show J i (C.o C.m + l) = _
 rw [K.lo, Nat.zero_add]
theorem Rst.rows {w : World} {C : Cfg} {ps : Option Addr} {pd top : Nat} {p : Nat → Nat} {J : Nat → Nat → Nat} (K : C.Ok) (h : Rst w C ps pd top p J) : Prt w (some ⟨C.gr C.m, 0, none⟩) C.n C.c J := by
 have := (h.gs C.m (Nat.le_refl _)).prt
 rwa [K.lk, H_last K J] at this
theorem ofr_n (w : World) (s : Option Addr) (n q k N : Nat) (F : Nat → Nat → Nat) (h : Prt w s n k F) (hq : n ≤ q) (hn : n ≤ 64) (hk : k ≤ 64) (hN : n * k = N) :
  Calls Tryz.prog 147 #[.slice s n q, .int .i64 (k : Int)] w fun e w' => ∃ t d G, e = .returned (mv n k t N d) ∧ Mt w' t N d G ∧ (∀ i l, i < n → l < k → G (i * k + l) = F i l) ∧ Frs w' w.heap.size t N d ∧ Below w.heap.size w w' := by
 rw [← hN]
 exact qj8 w s n q k F h hq hn hk
theorem m2_ct {G : Nat → Nat} {J : Nat → Nat → Nat} {r c : Nat} (hG : ∀ i l, i < r → l < c → G (i * c + l) = J i l) : ∀ i j, i < r → m2 G r c i j = ct J c i j := fun i j hi => by
 by_cases hj : j < c
 ·rw [qdk G hi hj, qf0 J i hj, hG i j hi hj]
 ·rw [qc9 G (by omega), qf1 J i (by omega)]
theorem ct_m2 (F : Nat → Nat) (r c i j : Nat) : ct (m2 F r c) c i j = m2 F r c i j := by
 by_cases hj : j < c
 ·rw [qf0 _ i hj]
 ·rw [qf1 _ i (by omega), qc9 F (by omega)]
theorem red_fin {F G p : Nat → Nat} {J : Nat → Nat → Nat} {r c top : Nat} (hA : Asc J r top c p 0) (hS : SpEq J r (m2 F r c) r) (hG : ∀ i l, i < r → l < c → G (i * c + l) = J i l) : Rdf (m2 G r c) r top p ∧ SpEq (m2 G r c) r (m2 F r c) r := by
 refine ⟨hA.rdf.first hA.ech.lt (fun i j hi => ?_), ?_⟩
 ·rw [m2_ct hG i j hi]
  by_cases hj : j < c
  ·rw [if_pos hj]
  ·rw [if_neg hj, qf1 J i (by omega)]
 ·have h1 := (hS.ct c).rows (fun i j hi => m2_ct hG i j hi)
  rwa [show ct (m2 F r c) c = m2 F r c from funext fun i => funext fun j => ct_m2 F r c i j] at h1
theorem Il.chg {w w' : World} {S : Nat → Prop} {b : Option Addr} {m : Nat} {q : Nat → Int} (h : Il w b m q) (hc : Chg w w' S) (hn : ∀ x, b = some x → ¬ S x.block) : Il w' b m q := fun i hi => by
 obtain ⟨x, o, e, hcl⟩ := h i hi
 refine ⟨x, o, e, ?_⟩
 rw [← hcl]
 exact World.cell?_of_block (hc.block x (qap hcl) (hn _ e))
theorem Mt.chg {w w' : World} {S : Nat → Prop} {a : Option Addr} {n k : Nat} {F : Nat → Nat} (h : Mt w a n k F) (hc : Chg w w' S) (hn : ∀ x, a = some x → ¬ S x.block) : Mt w' a n k F := ⟨h.sl.chg hc hn, h.room, h.nil⟩
theorem Oi.off {w : World} {B b n d : Nat} {s : Option Addr} {f : Nat → Nat} (h : Oi w B (.slice s n d) n f) (hb : b < B) : ∀ x, s = some x → x.block ≠ b := fun x hx e => by
 have := (h.base (g := x.block) (by rw [hx]; rfl)).1
 omega
theorem gred_x (w : World) (r c n k : Nat) (a : Option Addr) (F : Nat → Nat) (ha : Mt w a n k F) (R : Rt r c n) : Calls Tryz.prog 157 #[mv r c a n k] w fun e w' => RedP w w' e r c n F ∧ ∃ s d ps t pd, e = .returned (.tuple #[mv r c s n d, .slice ps t pd, .int .i64 0]) ∧ Frs w' w.heap.size s n d := by
 obtain ⟨wb, HW, HX⟩ : ∃ wb, Hid (wb = (w.alloc (.cells #[.int .i64 (r : Int), .int .i64 (c : Int), .slice a n k] 24)).alloc (.cells #[.int .i64 0, .int .i64 0, .slice none 0 0] 24)) ∧ Hid (Box2 w wb r c n k a) := ⟨_, rfl, box2 w r c n k a⟩
 have HA : Hid (Mt w a n k F) := ha
 have HR : Hid (Rt r c n) := R
 have hr := R.r64
 have hc := R.c64
 have v0 := HX.out.va.c0
 have v1 := HX.out.va.c1
 have v2 := HX.out.va.c2
 have hwb : w.heap.size + 1 < wb.heap.size := HX.out.vr.lt
 clear ha R
 go_enter Tryz.func157, Tryz.ntmps157
 go_wp2_with (first
  | (go_at_call 90; rw [← HW.out]; refine (qah _ _ _ _ _ _ HR.out.p).mono ?_; rintro e w1 ⟨rfl, hb1⟩; have HB1 : Hid (Below wb.heap.size wb w1) := hb1; have a0 := (HX.out.va.later hb1).c0; have a1 := (HX.out.va.later hb1).c1; have a2 := (HX.out.va.later hb1).c2; clear hb1)
  | (go_at_call 144; refine (qj9 _ r c n k a F (HA.out.later (qa2 HX.out.below HB1.out)) HR.out).mono ?_; rintro e w2 ⟨C, rfl, hk2, hx2, e1, rfl, rfl, hm0, hb2⟩; clear hm0; have HK : Hid C.Ok := hk2; have HX2 : Hid (Rst w2 C none 0 0 (fun _ => 0) (m2 F C.n C.c)) := hx2; have HB2 : Hid (Below wb.heap.size wb w2) := qa2 HB1.out hb2; have HCB : Hid (wb.heap.size ≤ C.B) := by { rw [e1]; exact HB1.out.size }; clear hk2 hx2 hb2 e1)
  | (go_at_call 145; refine (qdf _ C _ HK.out HX2.out).mono ?_; rintro e w3 ⟨rfl, ps, pd, top, p, J, hx3, he3, hs3, hb3⟩; have HX3 : Hid (Rst w3 C ps pd top p J) := hx3; have HE3 : Hid (Ech J C.n top C.c p) := he3; have HS3 : Hid (SpEq J C.n (m2 F C.n C.c) C.n) := hs3; have HB3 : Hid (Below wb.heap.size wb w3) := HB2.out.trans (hb3.mono HCB.out); clear hx3 he3 hs3 hb3)
  | (go_at_call 146; refine (qdv _ C ps pd top p J HK.out HX3.out HE3.out).mono ?_; rintro e w4 ⟨rfl, J4, hx4, ha4, hs4, hb4, hq4⟩; clear hq4; have HX4 : Hid (Rst w4 C ps pd top p J4) := hx4; have HA4 : Hid (Asc J4 C.n top C.c p 0) := ha4; have HS4 : Hid (SpEq J4 C.n (m2 F C.n C.c) C.n) := hs4.trans HS3.out; have HB4 : Hid (Below wb.heap.size wb w4) := HB3.out.trans (hb4.mono HCB.out); have c0 := hx4.fix.c0; have c2 := hx4.fix.c2; have b1 := (HX.out.va.later HB4.out).c1; clear hx4 ha4 hs4 hb4))
 have hcb := HCB.out
 have hgb : C.B ≤ C.g := HX4.out.fix.base
 have HD : Hid (w4.cell? ⟨C.g, 0, none⟩ = some (.slice (some ⟨C.gr C.m, 0, none⟩) C.n C.n) ∧ w4.cell? ⟨w.heap.size, 1, none⟩ = some (.int .i64 (C.c : Int)) ∧ w4.cell? ⟨C.g, 2, none⟩ = some (.slice ps top pd)) := ⟨c0, b1, c2⟩


 refine wp_region_held (S := fun w' => w'.cell? ⟨C.g, 0, none⟩ = some (.slice (some ⟨C.gr C.m, 0, none⟩) C.n C.n) ∧ w'.cell? ⟨w.heap.size, 1, none⟩ = some (.int .i64 (C.c : Int)) ∧ w'.cell? ⟨C.g, 2, none⟩ = some (.slice ps top pd)) (by kernel_rfl) ?_
 refine wtkq 0 ?vr0 rfl (by kernel_rfl) (fun _ _ _ h => h) (by rfl) ?yr0 HD.out ?zr0
 case yr0 => (intro w hSw; (try dsimp only at hSw); go_simp; try with_reducible rfl)
 try simp only [mz1, mz3, Act.put, mz4, mz5, mz6]
 refine wtkq 1 ?vr1 rfl (by kernel_rfl) (fun _ _ _ h => h) (by rfl) ?yr1 HD.out ?zr1
 case yr1 => (intro w hSw; (try dsimp only at hSw); go_simp; try with_reducible rfl)
 try simp only [mz1, mz2, mz3, Act.put, mz4, mz5, mz6]
 refine wtkq 2 ?vr2 rfl (by kernel_rfl) (fun _ _ _ h => h) (by rfl) ?yr2 HD.out ?zr2
 case yr2 => (intro w hSw; (try dsimp only at hSw); go_simp; try with_reducible rfl)
 try simp only [mz1, mz2, mz3, Act.put, mz4, mz5, mz6]
 refine wtkq 3 ?vr3 rfl (by kernel_rfl) (fun _ _ _ h => h) (by rfl) ?yr3 HD.out ?zr3
 case yr3 => (intro w hSw; (try dsimp only at hSw); go_simp; try with_reducible rfl)
 try simp only [mz1, mz2, mz3, Act.put, mz4, mz5, mz6]
 refine wtkq 4 ?vr4 rfl (by kernel_rfl) (fun _ _ _ h => h) (by rfl) ?yr4 HD.out ?zr4
 case yr4 => (intro w hSw; (try dsimp only at hSw); go_simp; try with_reducible rfl)
 try simp only [mz1, mz2, mz3, Act.put, mz4, mz5, mz6]
 refine wtkq 5 ?vr5 rfl (by kernel_rfl) (fun _ _ _ h => h) (by rfl) ?yr5 HD.out ?zr5
 case yr5 => (intro w hSw; (try dsimp only at hSw); go_simp; try with_reducible rfl)
 try simp only [mz1, mz2, mz3, Act.put, mz4, mz5, mz6]
 refine wtkq 7 ?vr7 rfl (by kernel_rfl) (fun _ _ _ h => h) (by rfl) ?yr7 HD.out ?zr7
 case yr7 => (intro w hSw; (try dsimp only at hSw); go_simp; try with_reducible rfl)
 try simp only [mz1, mz2, mz3, Act.put, mz4, mz5, mz6]
 refine wtkq 8 ?vr8 rfl (by kernel_rfl) (fun _ _ _ h => h) (by rfl) ?yr8 HD.out ?zr8
 case yr8 => (intro w hSw; (try dsimp only at hSw); go_simp; try with_reducible rfl)
 try simp only [mz1, mz2, mz3, Act.put, mz4, mz5, mz6]
 refine wtkq 9 ?vr9 rfl (by kernel_rfl) (fun _ _ _ h => h) (by rfl) ?yr9 HD.out ?zr9
 case yr9 => (intro w hSw; (try dsimp only at hSw); go_simp; try with_reducible rfl)
 try simp only [mz1, mz2, mz3, Act.put, mz4, mz5, mz6]
 refine wtkq 10 ?vr10 rfl (by kernel_rfl) (fun _ _ _ h => h) (by rfl) ?yr10 HD.out ?zr10
 case yr10 => (intro w hSw; (try dsimp only at hSw); go_simp; try with_reducible rfl)
 try simp only [mz1, mz2, mz3, Act.put, mz4, mz5, mz6]
 refine wpAnyH_ready (rs := [6]) (by kernel_rfl) (by simp) ?_
 refine AllReadyH.cons rfl (fun K hK => ?_) AllReadyH.nil
 go_simp
 refine (ofr_n _ _ C.n C.n C.c n J4 ((HX4.out.later (Below.refl _ _).drew).rows HK.out) (Nat.le_refl _) hr hc HR.out.len).mono ?_
 rintro e w5 ⟨s, d, G, rfl, hm5, hG5, hf5, hb0⟩
 have hb5 := undrew hb0
 have HB5 : Hid (Below wb.heap.size wb w5) := qa2 HB4.out hb5
 have HX5 : Hid (Rst w5 C ps pd top p J4) := HX4.out.later hb5
 have HM5 : Hid (Mt w5 s n d G) := hm5
 have HG5 : Hid (∀ i l, i < C.n → l < C.c → G (i * C.c + l) = J4 i l) := hG5
 have HF5 : Hid (Frs w5 wb.heap.size s n d) := Frs.mono hf5 HB4.out.size
 have HV5 : Hid (Vr w5 (w.heap.size + 1) (.int .i64 0) (.int .i64 0) (.slice none 0 0)) := HX.out.vr.later HB5.out
 have HD1 : Hid (w5.cell? ⟨C.g, 0, none⟩ = some (.slice (some ⟨C.gr C.m, 0, none⟩) C.n C.n) ∧ w5.cell? ⟨w.heap.size, 1, none⟩ = some (.int .i64 (C.c : Int)) ∧ w5.cell? ⟨C.g, 2, none⟩ = some (.slice ps top pd)) := ⟨qaj hb5 c0, qaj hb5 b1, qaj hb5 c2⟩
 clear hm5 hG5 hf5 hb0 hb5
 refine hK.out _ _ HD1.out (fun _ => ?_)
 clear hK K
 try simp only [mz1, mz2, mz3, Act.put, mz4, mz5, mz6]
 refine wpAnyH_ready (rs := [11]) (by kernel_rfl) (by simp) ?_
 refine AllReadyH.cons rfl (fun K hK => ?_) AllReadyH.nil
 refine qam rfl _ _ rfl (w.heap.size + 1) _ _ _ (.int .i64 (C.n : Int)) (.int .i64 (C.c : Int)) (.slice s n d) rfl rfl HV5.out rfl rfl rfl ?_
 intro w6 HV6 HG6
 have HD2 : Hid (w6.cell? ⟨C.g, 0, none⟩ = some (.slice (some ⟨C.gr C.m, 0, none⟩) C.n C.n) ∧ w6.cell? ⟨w.heap.size, 1, none⟩ = some (.int .i64 (C.c : Int)) ∧ w6.cell? ⟨C.g, 2, none⟩ = some (.slice ps top pd)) := ⟨qdu HG6.out HD1.out.1 (by omega), qdu HG6.out HD1.out.2.1 (by omega), qdu HG6.out HD1.out.2.2 (by omega)⟩
 refine hK.out _ _ HD2.out (fun _ => ?_)
 clear hK K
 try simp only [mz1, mz2, mz3, Act.put]
 refine wtkq 12 ?vr12 rfl (by kernel_rfl) (fun _ _ _ h => h) (by rfl) ?yr12 HD2.out ?zr12
 case yr12 => (intro w hSw; (try dsimp only at hSw); go_simp; try with_reducible rfl)
 try simp only [mz1, mz2, mz3, Act.put, mz4, mz5, mz6]
 refine wtkq 13 ?vr13 rfl (by kernel_rfl) (fun _ _ _ h => h) (by rfl) ?yr13 HD2.out ?zr13
 case yr13 => (intro w hSw; (try dsimp only at hSw); go_simp; try with_reducible rfl)
 try simp only [mz1, mz2, mz3, Act.put, mz4, mz5, mz6]
 refine wpAnyH_done (by kernel_rfl) ?_ _
 go_wp2
 have d0 := HV6.out.c0
 have d1 := HV6.out.c1
 have d2 := HV6.out.c2
 refine bodyPost_ret (v := .tuple #[mv C.n C.c s n d, .slice ps top pd, .int .i64 0]) (by simp [results, Tryz.results157, go_sem, d0, d1, d2, mv]) rfl ?_
 have hch : Chg w5 w6 (fun b => b = w.heap.size + 1) := Chg.of_grown HG6.out rfl
 obtain ⟨h1, h2⟩ := red_fin HA4.out HS4.out HG5.out
 have hf := (HF5.out.kept HG6.out (by omega)).mono (B' := w.heap.size) (by omega)
 exact ⟨⟨s, d, ps, pd, top, p, G, rfl, HM5.out.kept HG6.out (fun _ => HF5.out.off (by omega)), HX5.out.fix.piv.il.chg hch (HX5.out.fix.piv.off (by omega)), h1, h2, HA4.out.ech.lt, qa4 (qa2 HX.out.below HB5.out) HG6.out (by omega)⟩, s, d, ps, top, pd, rfl, hf⟩
theorem gred_ok (w : World) (r c n k : Nat) (a : Option Addr) (F : Nat → Nat) (ha : Mt w a n k F) (R : Rt r c n) : Calls Tryz.prog 157 #[mv r c a n k] w fun e w' => RedP w w' e r c n F := (gred_x w r c n k a F ha R).mono fun _ _ h => h.1
open Go.RowKit
theorem RowAt.frs {w : World} {B g n : Nat} {f : Nat → Nat} (h : RowAt w g 5 n f) (hB : B ≤ g) (hn : n ≤ 4096) : Frs w B (some ⟨g, 0, none⟩) n n := ⟨Nat.le_refl _, by unfold maxLen; omega, (fun e => by cases e), fun x hx => by
 cases hx
 exact ⟨g, rfl, hB, fun i hi => ⟨⟨_, h.cell i hi⟩, h.free i⟩⟩⟩
/-- What stands beside in Solve and Inverse. -/
theorem bes_one {w : World} {B gs gd r c kb : Nat} {M N : Nat → Nat → Nat} (G : Grid w B gs gd r kb N) (hgd : gd < w.heap.size) (hB : B ≤ w.heap.size) (hk : kb ≤ 64) (hp : 0 < c → 0 < r → 0 < kb) : Bes w B 1 r c [.slice (some ⟨gs, 0, none⟩) r r] (fun _ => gs) (fun _ => gd) (fun _ => kb) (fun _ => c) (wd M c N) :=
 ⟨hB, Nat.le_refl _, fun t ht => by rw [show t = 0 by omega]; rfl, fun _ _ => G.congr (fun i l _ _ => (wd_r M N c i l).symm), fun _ _ => hgd, fun _ _ => hk, fun h1 h2 _ _ => hp h1 h2⟩
theorem lit_own (w : World) (B : Nat) (v : Value) (hB : B ≤ w.heap.size) : (w.alloc (.cells #[v] 137)).ownsRow B 137 1 (.slice (some ⟨w.heap.size, 0, none⟩) 1 1) 1 [v] :=
 ⟨rfl, .inr ⟨w.heap.size, 1, #[v], rfl, hB, qbi w _, Nat.le_refl _, by unfold maxLen; omega, rfl, rfl⟩⟩
open Go.RowKit
theorem ginv_x (w : World) (r n k : Nat) (a : Option Addr) (F : Nat → Nat) (ha : Mt w a n k F) (R : Rt r r n) : Calls Tryz.prog 113 #[mv r r a n k] w fun e w' => (InvP w w' e r n F ∧ Rk (m2 F r r) r r ∧ ∃ s d, e = .returned (.tuple #[mv r r s n d, .int .i64 0]) ∧ Frs w' w.heap.size s n d) ∨ (e = .returned (.tuple #[mv 0 0 none 0 0, .int .i64 6]) ∧ Below w.heap.size w w' ∧ ∃ t, t < r ∧ Rk (m2 F r r) r t) := by
 obtain ⟨wb, HW, HX⟩ : ∃ wb, Hid (wb = (w.alloc (.cells #[.int .i64 (r : Int), .int .i64 (r : Int), .slice a n k] 24)).alloc (.cells #[.int .i64 0, .int .i64 0, .slice none 0 0] 24)) ∧ Hid (Box2 w wb r r n k a) := ⟨_, rfl, box2 w r r n k a⟩
 have HA : Hid (Mt w a n k F) := ha
 have HR : Hid (Rt r r n) := R
 have hr := R.r64
 have v0 := HX.out.va.c0
 have v1 := HX.out.va.c1
 have v2 := HX.out.va.c2
 have hwb : w.heap.size + 1 < wb.heap.size := HX.out.vr.lt
 have HLN : Hid (r * r = n) := R.len
 have HIE : Hid (∀ i, i < n → idf r i < 256) := fun i _ => by unfold idf; split <;> decide
 clear ha R
 go_enter Tryz.func113, Tryz.ntmps113
 go_wp2_with (first
  | (go_at_call 90; rw [← HW.out]; refine (qah _ _ _ _ _ _ HR.out.p).mono ?_; rintro e w1 ⟨rfl, hb1⟩; have HB1 : Hid (Below wb.heap.size wb w1) := hb1; have a0 := (HX.out.va.later hb1).c0; have a1 := (HX.out.va.later hb1).c1; clear hb1)
  | (go_at_call 77; refine (qda _ r n hr HLN).mono ?_; rintro e w2 ⟨gi, rfl, hr2, _, hb2⟩; have HB2 : Hid (Below wb.heap.size wb w2) := qa2 HB1.out hb2; have HI2 : Hid (Sl w2 (some ⟨gi, 0, none⟩) n (idf r)) := (hr2.mt HIE.out).sl; have va := Vr.new w2 (.int .i64 (r : Int)) (.int .i64 (r : Int)) (.slice (some ⟨gi, 0, none⟩) n n); have b0 := va.c0; have b1 := va.c1; have b2 := va.c2; clear hr2 hb2 va)
  | (go_at_call 143; refine (qdg _ r r n n (some ⟨gi, 0, none⟩) (idf r) (HI2.out.later (qa1 _ _)) HR.out).mono ?_; rintro e w3 ⟨gs, gd, rfl, hg3, hl3, hu3, hb3⟩; have HG3 : Hid (Grid w3 (w2.heap.size + 1) gs gd r r (m2 (idf r) r r)) := by { show Grid _ _ _ _ _ _ _; have := hg3; simpa using this }; have HB3 : Hid (Below wb.heap.size wb w3) := qa2 (qa2 HB2.out (qa1 w2 _)) hb3; have HS3 : Hid (w2.heap.size + 1 ≤ w3.heap.size) := by { show _ ≤ _; have := hb3.size; simpa using this }; have HL3 : Hid (gd < w3.heap.size) := hu3; have HV3 : Hid (Vr w3 w.heap.size (.int .i64 (r : Int)) (.int .i64 (r : Int)) (.slice a n k)) := HX.out.va.later HB3.out; have HVL : Hid (Vr (w3.alloc (.cells #[.slice (some ⟨gs, 0, none⟩) r r] 137)) w.heap.size (.int .i64 (r : Int)) (.int .i64 (r : Int)) (.slice a n k)) := HV3.out.later (qa1 _ _); have d0 := HV3.out.c0; have d1 := HV3.out.c1; have d2 := HV3.out.c2; have l0 := HVL.out.c0; have l1 := HVL.out.c1; have l2 := HVL.out.c2; clear hg3 hb3 hl3 hu3 b0 b1 b2)
  | (go_at_call 144; refine (qf3 _ r r n k (w2.heap.size + 1) 1 1 a (some ⟨w3.heap.size, 0, none⟩) F [.slice (some ⟨gs, 0, none⟩) r r] (fun _ => gs) (fun _ => gd) (fun _ => r) (fun _ => r) (wd (m2 F r r) r (m2 (idf r) r r)) (HA.out.later (qa2 HX.out.below (qa2 HB3.out (qa1 _ _)))) HR.out (bes_one (HG3.out.later (qa1 _ _)) (by have := HL3.out; simp; omega) (by have := HS3.out; simp; omega) hr (fun _ h => h)) (lit_own _ _ _ HS3.out) (wd_el (qci HA.out.sl.1 HR.out) (qci HIE.out HR.out) r) (fun i l _ hl => wd_l _ _ i hl)).mono ?_; rintro e w4 ⟨C, rfl, hk4, hx4, e1, en, ec, em, hq4, hb4⟩; have HK : Hid C.Ok := hk4; have HX4 : Hid (Rst w4 C none 0 0 (fun _ => 0) (wd (m2 F r r) r (m2 (idf r) r r))) := hx4; have HEQ : Hid (C.n = r ∧ C.c = r ∧ C.m = 1 ∧ C.B = w2.heap.size + 1 ∧ C.gr 0 = gs ∧ C.kk 0 = r ∧ C.o 0 = r) := ⟨en, ec, em, e1, (hq4 0 (by omega)).1, (hq4 0 (by omega)).2.2.1, (hq4 0 (by omega)).2.2.2⟩; have HB4 : Hid (Below wb.heap.size wb w4) := (qa2 HB3.out (qa1 w3 _)).trans (hb4.mono (by have := HB2.out.size; omega)); clear hk4 hx4 e1 en ec em hq4 hb4)
  | (go_at_call 145; refine (qdf _ C _ HK.out HX4.out).mono ?_; rintro e w5 ⟨rfl, ps, pd, top, p, J, hx5, he5, hs5, hb5⟩; have HX5 : Hid (Rst w5 C ps pd top p J) := hx5; have HE5 : Hid (Ech J r top r p) := by { have := he5; rw [HEQ.out.1, HEQ.out.2.1] at this; exact this }; have HS5 : Hid (SpEq J r (wd (m2 F r r) r (m2 (idf r) r r)) r) := by { have := hs5; rw [HEQ.out.1] at this; exact this }; have HB5 : Hid (Below wb.heap.size wb w5) := HB4.out.trans (hb5.mono (by have := HB2.out.size; have := HEQ.out.2.2.2.1; omega)); have c2 := hx5.fix.c2; have htr : top ≤ r := HE5.out.tr; have HV5 : Hid (Vr w5 w.heap.size (.int .i64 (r : Int)) (.int .i64 (r : Int)) (.slice a n k)) := HX.out.va.later HB5.out; have e0 := HV5.out.c0; have HVR : Hid (Vr w5 (w.heap.size + 1) (.int .i64 0) (.int .i64 0) (.slice none 0 0)) := HX.out.vr.later HB5.out; clear hx5 he5 hs5 hb5 d0 d1 d2 l0 l1 l2))
 have HRK : Hid (Rk (m2 F r r) r top) := by
  have h1 := (HE5.out.rk HX5.out.el).span (HS5.out.ct r)
  exact h1.at (fun i j hi => by
   by_cases hj : j < r
   ·rw [qf0 _ i hj, wd_l _ _ i hj]
   ·rw [qf1 _ i (by omega), qc9 F (by omega)])
 by_cases ht : top < r
 ·have htd : decide (top < r) = true := by simpa using ht
  go_region
  go_wp2_with (refine qa5 rfl _ _ rfl (w.heap.size + 1) _ _ _ (.int .i64 0) (.int .i64 0) (.slice none 0 0) rfl rfl HVR.out rfl rfl rfl ?_; intro w6 HV6 HG6)
  have d0 := HV6.out.c0
  have d1 := HV6.out.c1
  have d2 := HV6.out.c2
  refine bodyPost_ret (v := .tuple #[mv 0 0 none 0 0, .int .i64 6]) (by simp [results, Tryz.results113, go_sem, d0, d1, d2, mv]) rfl ?_
  exact .inr ⟨rfl, qa4 (qa2 HX.out.below HB5.out.drew) HG6.out (by omega), top, ht, HRK.out⟩
 ·obtain rfl : r = top := by omega
  go_region
  go_wp2_with (first
   | (go_at_call 146; refine (qdv _ C ps pd r p J HK.out (HX5.out.later (Below.refl _ _).drew) (by rw [HEQ.out.1, HEQ.out.2.1]; exact HE5.out)).mono ?_; rintro e w6 ⟨rfl, J6, hx6, ha6, hs6, hb6, hq6⟩; have HX6 : Hid (Rst w6 C ps pd r p J6) := hx6; have HA6 : Hid (Asc J6 r r r p 0) := by { have := ha6; rw [HEQ.out.1, HEQ.out.2.1] at this; exact this }; have HS6 : Hid (SpEq J6 r (wd (m2 F r r) r (m2 (idf r) r r)) r) := by { have := hs6; rw [HEQ.out.1] at this; exact this.trans HS5.out }; have HB6 : Hid (Below wb.heap.size wb w6) := HB5.out.drew.trans (hb6.mono (by have := HB2.out.size; have := HEQ.out.2.2.2.1; omega)); have f1 := (HX.out.va.later HB6.out).c1; have HP6 : Hid (Prt w6 (some ⟨gs, 0, none⟩) r r (fun i l => J6 i (r + l))) := by { have h9 := (hx6.gs 0 (by omega)).prt; rw [HEQ.out.2.2.2.2.1, HEQ.out.2.2.2.2.2.1, HEQ.out.1] at h9; have e9 : C.H J6 0 = fun i l => J6 i (r + l) := by { funext i l; show J6 i (C.o 0 + l) = _; rw [HEQ.out.2.2.2.2.2.2] }; rw [e9] at h9; exact h9 }; clear hx6 ha6 hs6 hb6 hq6)
   | (go_at_call 147; refine (ofr_n _ _ r r r n (fun i l => J6 i (r + l)) HP6.out (Nat.le_refl _) hr hr HLN.out).mono ?_; rintro e w7 ⟨s, d, O, rfl, hm7, hO7, hf7, hb7⟩; have HM7 : Hid (Mt w7 s n d O) := hm7; have HO7 : Hid (∀ i l, i < r → l < r → O (i * r + l) = J6 i (r + l)) := hO7; have HB7 : Hid (Below wb.heap.size wb w7) := qa2 HB6.out hb7; have HF7 : Hid (Frs w7 wb.heap.size s n d) := Frs.mono hf7 HB6.out.size; have HV7 : Hid (Vr w7 (w.heap.size + 1) (.int .i64 0) (.int .i64 0) (.slice none 0 0)) := HX.out.vr.later HB7.out; clear hm7 hO7 hf7 hb7)
   | (refine qa5 rfl _ _ rfl (w.heap.size + 1) _ _ _ (.int .i64 (r : Int)) (.int .i64 (r : Int)) (.slice s n d) rfl rfl HV7.out rfl rfl rfl ?_; intro w8 HV8 HG8))
  have d0 := HV8.out.c0
  have d1 := HV8.out.c1
  have d2 := HV8.out.c2
  refine bodyPost_ret (v := .tuple #[mv r r s n d, .int .i64 0]) (by simp [results, Tryz.results113, go_sem, d0, d1, d2, mv]) rfl ?_
  have hinv := qha (N := m2 (idf r) r r) HX6.out.el (qci HA.out.sl.1 HR.out) (fun i j hi hj => by
   rw [qdk _ hi hj, qi1 r i j hi hj]
   unfold dl
   by_cases e : i = j
   ·rw [if_pos e, if_pos e.symm]
   ·rw [if_neg e, if_neg (fun h => e h.symm)]) HS6.out HA6.out
  refine .inl ⟨⟨s, d, O, rfl, HM7.out.kept HG8.out (fun _ => HF7.out.off (by omega)), fun i j hi hj => ?_, qa4 (qa2 HX.out.below HB7.out) HG8.out (by omega)⟩, HRK.out, s, d, rfl, (HF7.out.kept HG8.out (by omega)).mono (by omega)⟩
  rw [← hinv i j hi hj]
  exact qav (fun _ _ => rfl) (fun t ht => by rw [qdk O ht hj, HO7.out t j ht hj])
theorem ginv_ok (w : World) (r n k : Nat) (a : Option Addr) (F : Nat → Nat) (ha : Mt w a n k F) (R : Rt r r n) (hk : Rk (m2 F r r) r r) : Calls Tryz.prog 113 #[mv r r a n k] w fun e w' => InvP w w' e r n F :=
 (ginv_x w r n k a F ha R).mono fun _ _ h => by
  rcases h with ⟨h1, _⟩ | ⟨_, _, t, ht, hr⟩
  ·exact h1
  ·have := hk.unique hr (SpEq.refl (qci ha.sl.1 R) r)
   omega
theorem qja (w : World) (r n k t : Nat) (a : Option Addr) (F : Nat → Nat) (ha : Mt w a n k F) (R : Rt r r n) (hk : Rk (m2 F r r) r t) (ht : t < r) : Calls Tryz.prog 113 #[mv r r a n k] w fun e w' => e = .returned (.tuple #[mv 0 0 none 0 0, .int .i64 6]) ∧ Below w.heap.size w w' :=
 (ginv_x w r n k a F ha R).mono fun _ _ h => by
  rcases h with ⟨_, h2, _⟩ | ⟨h1, h2, _⟩
  ·have := hk.unique h2 (SpEq.refl (qci ha.sl.1 R) r)
   omega
  ·exact ⟨h1, h2⟩
open Go.RowKit
theorem free_any (w : World) (ps : Option Addr) (top pd c : Nat) (p : Nat → Nat) (h : Il w ps top (fun i => (p i : Int))) (ht : top ≤ 64) (hc : c ≤ 64) :
  Calls Tryz.prog 158 #[.int .i64 (c : Int), .slice ps top pd] w fun e w' => ∃ fs fd, e = .returned (.slice fs (cnt (fre p top) c) fd) ∧ Oi w' w.heap.size (.slice fs (cnt (fre p top) c) fd) (cnt (fre p top) c) (nth (fre p top) c) ∧ Below w.heap.size w w' := by
 have HI : Hid (Il w ps top (fun i => (p i : Int))) := h
 clear h
 go_enter Tryz.func158, Tryz.ntmps158
 go_wp2
 go_loopw [5, 8] (fun sv sj wr => ∃ j : Nat, sj = .int .i64 (j : Int) ∧ j ≤ c ∧ Hid (Oi wr w.heap.size sv (cnt (fre p top) j) (nth (fre p top) c)) ∧ Hid (Below w.heap.size w wr)) (fun _ sj _ => c - (intOf sj).toNat)
 case atStart => exact ⟨0, rfl, by omega, Oi.nil _ _ _, Below.refl _ _⟩
 case round =>
  obtain ⟨j, rfl, hjc, HO, HB⟩ := hrel
  obtain ⟨fs, fd, rfl, _⟩ := HO.out.form
  have hcnt := cnt_mono (fre p top) hjc
  have hc2 := qe4 (fre p top) c
  by_cases hlt : j < c
  ·cases hpv : pvt p top j with
   | true =>
    have HPV : Hid (pvt p top j = true) := hpv
    have HF : Hid (fre p top j = false) := by unfold fre; rw [hpv]; rfl
    clear hpv
    go_wp2_with (go_at_call 186; refine (qde _ ps top pd j p (HI.out.later HB.out) ht).mono ?_; rintro e w' ⟨rfl, rfl⟩; rw [HPV.out])
    exact ⟨⟨j + 1, by go_num, by omega, by rw [qfu HF.out]; exact HO.out, HB.out⟩, by simp [intOf]; omega⟩
   | false =>
    have HPV : Hid (pvt p top j = false) := hpv
    have HF : Hid (fre p top j = true) := by unfold fre; rw [hpv]; rfl
    obtain ⟨i0, hi0, hz0, hz1, hz2⟩ := info_parts infoI
    obtain ⟨q, HQ⟩ : ∃ q, Hid (cnt (fre p top) j = q) := ⟨_, rfl⟩
    rw [HQ.out] at hcnt HO ⊢
    have hml2 : q + 1 ≤ maxLen := by unfold maxLen; omega
    have hsz : w.heap.size ≤ wr.heap.size := HB.out.size
    clear hpv
    go_wp2_with (first
     | (go_at_call 186; refine (qde _ ps top pd j p (HI.out.later HB.out) ht).mono ?_; rintro e w' ⟨rfl, rfl⟩; rw [HPV.out])
     | (at_builtin; refine wpList_append_own _ rfl _ _ 51 rfl w.heap.size 3 i0 (.int .i64 0) 1 8 Tryz.underlying51 hi0 hz0 hz1 hz2 rfl (by decide) _ q _ rfl (World.ownsRow.alloc HO.out _) ⟨wr.heap.size, 0, none⟩ 1 1 [.int .i64 (j : Int)] rfl rfl (qe5 _ _ _) (qe6 _) hml2 (by omega) (by simp; omega) ?_; intro v3 w3 hown3 hgrow3 _; have HO3 : Hid (w3.ownsRow w.heap.size 3 1 v3 (q + 1) ((irow q (nth (fre p top) c)).toList ++ [.int .i64 (j : Int)])) := hown3; have HG3 : Hid ((wr.alloc (.cells #[.int .i64 (j : Int)] 3)).grownBy w3 (Value.slice fs q fd).ownBlock) := hgrow3; clear hown3 hgrow3))
    refine ⟨⟨j + 1, by go_num, by omega, ?_, ?_⟩, by simp [intOf]; omega⟩
    ·rw [qd3 HF.out, HQ.out]
     have h3 := HO3.out
     rw [qca] at h3
     exact Oi.congr (f := fun i => if i = q then j else nth (fre p top) c i) h3 (fun u _ => by
      by_cases e : u = q
      ·rw [if_pos e, e, ← HQ.out, qfa hlt HF.out]
      ·rw [if_neg e])
    ·have h3 := HG3.out
     have hal := qa2 HB.out (qa1 wr (.cells #[.int .i64 (j : Int)] 3))
     cases hv : (Value.slice fs q fd).ownBlock with
     | none => rw [hv] at h3; exact qa2 hal (qa7.mp h3)
     | some g => rw [hv] at h3; exact qa4 hal h3 (HO.out.base hv).1
  ·obtain rfl : j = c := by omega
   go_wp2
   go_ret
   exact ⟨fs, fd, rfl, HO.out, HB.out⟩
end Go.Proofs.YtnfbbddoaeofgaaGreat
