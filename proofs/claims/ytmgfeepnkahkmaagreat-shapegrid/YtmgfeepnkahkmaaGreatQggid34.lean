/-
  Rows laid into greater ones; the last rows of a matrix.
  Codes of portions, made.
-/
import Derived.Test.YtmgfeepnkahkmaaGreatQggid00
import Derived.Test.YtmgfeepnkahkmaaGreatQggid32
import Derived.Test.YtmgfeepnkahkmaaGreatQggid33
set_option maxRecDepth 100000
set_option maxHeartbeats 16000000
namespace Go.Proofs.YtmgfeepnkahkmaaGreat
open Go.RowKit
/-- The entries once r rows of c entries are laid from (top, left) on. -/
def lyf (f F : Nat → Nat) (C c top left r q : Nat) : Nat := if top ≤ q / C ∧ q / C < top + r ∧ left ≤ q % C ∧ q % C < left + c then F ((q / C - top) * c + (q % C - left)) else f q
theorem lyf_zero (f F : Nat → Nat) (C c top left q : Nat) : lyf f F C c top left 0 q = f q := if_neg (by omega)
theorem qkj {C q i : Nat} (hC : 0 < C) (h1 : i * C ≤ q) (h2 : q < i * C + C) : q / C = i ∧ q % C = q - i * C := by
 have e : q / C = i := by
  rw [Nat.div_eq_iff hC]
  omega
 have := Nat.div_add_mod q C
 rw [e, Nat.mul_comm] at this
 exact ⟨e, by omega⟩
theorem lyf_next (f F : Nat → Nat) {C c top left : Nat} (i : Nat) (hl : left + c ≤ C) (hc : 0 < c) (q : Nat) : cpf (lyf f F C c top left i) (fun j => F (i * c + j)) ((top + i) * C + left) c q = lyf f F C c top left (i + 1) q := by
 have hC : 0 < C := by omega
 have e := Nat.div_add_mod q C
 have hm := Nat.mod_lt q hC
 unfold cpf
 by_cases h : (top + i) * C + left ≤ q ∧ q < (top + i) * C + left + c
 ·rw [if_pos h]
  obtain ⟨e1, e2⟩ := qkj (q := q) (i := top + i) hC (by omega) (by omega)
  show F (i * c + (q - ((top + i) * C + left))) = _
  unfold lyf
  rw [e1, e2, if_pos ⟨by omega, by omega, by omega, by omega⟩]
  congr 1
  rw [show top + i - top = i by omega]
  omega
 ·rw [if_neg h]
  unfold lyf
  have h2 : ¬ (q / C = top + i ∧ left ≤ q % C ∧ q % C < left + c) := by
   rintro ⟨x1, x2, x3⟩
   rw [x1, Nat.mul_comm] at e
   omega
  by_cases h3 : top ≤ q / C ∧ q / C < top + i ∧ left ≤ q % C ∧ q % C < left + c
  ·rw [if_pos h3, if_pos ⟨h3.1, by omega, h3.2.2⟩]
  ·rw [if_neg h3, if_neg (fun x => h3 ⟨x.1, by
    have : ¬ q / C = top + i := fun y => h2 ⟨y, x.2.2⟩
    omega, x.2.2⟩)]
theorem qej {w w' : World} {g : Nat} (h : Below w.heap.size w w') : w.grownBy w' (some g) := by
 obtain ⟨x1, x2, x3, x4, x5⟩ := qa5.mpr h
 exact ⟨x1, x2, x3, x4, fun k hk _ => x5 k hk (by simp)⟩
theorem lay16 (w : World) (R C N r c n k top left gd : Nat) (a : Option Addr) (f F : Nat → Nat) (hd : RowAt w gd 5 N f) (ha : Mt w a n k F) (RD : Rt R C N) (RA : Rt r c n) (hof : 0 < n → Off gd a) (ht : top + r ≤ R) (hl : left + c ≤ C) (hc : 0 < c) :
  Calls Tryz.prog 38 #[mv R C (some ⟨gd, 0, none⟩) N N, mv r c a n k, .int .i64 (top : Int), .int .i64 (left : Int)] w fun e w' => e = .returned (.tuple #[]) ∧ RowAt w' gd 5 N (lyf f F C c top left r) ∧ w.grownBy w' (some gd) := by
 obtain ⟨wb, HW⟩ : ∃ wb, Hid ((w.alloc (.cells #[.int .i64 (R : Int), .int .i64 (C : Int), .slice (some ⟨gd, 0, none⟩) N N] 63)).alloc (.cells #[.int .i64 (r : Int), .int .i64 (c : Int), .slice a n k] 63) = wb) := ⟨_, rfl⟩
 have hlt0 : gd < w.heap.size := lt_of_block hd
 have HB0 : Hid (Below w.heap.size w wb) := by rw [← HW.out]; exact qa0 (qa1 _ _) (qa1 _ _)
 have hs0 : wb.heap.size = w.heap.size + 2 := by rw [← HW.out, qal, qal]
 have HR0 : Hid (Vq wb w.heap.size 63 #[.int .i64 (R : Int), .int .i64 (C : Int), .slice (some ⟨gd, 0, none⟩) N N]) := by rw [← HW.out]; exact (Vq.new w _ _).later (qa1 _ _)
 have HO0 : Hid (Vq wb (w.heap.size + 1) 63 #[.int .i64 (r : Int), .int .i64 (c : Int), .slice a n k]) := by rw [← HW.out]; exact Vq.new1 _ _ _ _
 have HD0 : Hid (RowAt wb gd 5 N f) := hd.later HB0.out
 have HA0 : Hid (Mt wb a n k F) := ha.later HB0.out
 have HOf : Hid (0 < n → Off gd a) := hof
 have HRD : Hid (Rt R C N) := RD
 have HRA : Hid (Rt r c n) := RA
 have hn : n ≤ 4096 := RA.le
 have hN : N ≤ 4096 := RD.le
 have hr64 := RA.r64
 have hR64 := RD.r64
 have hC64 := RD.c64
 have z0 := HO0.out.cell 0 _ rfl
 clear hd ha RD RA hof
 go_enter Tryz.func38, Tryz.ntmps38
 rw [← HW.out] at z0
 go_wp2
 go_loopw [8, 12] (fun _ j wr => ∃ i : Nat, i ≤ r ∧ j = .int .i64 (i : Int) ∧ RowAt wr gd 5 N (lyf f F C c top left i) ∧ wb.grownBy wr (some gd)) (fun _ j _ => r - (intOf j).toNat)
 case atStart => exact ⟨0, by omega, rfl, by rw [HW.out]; exact HD0.out.congr (fun q _ => (lyf_zero f F C c top left q).symm), by rw [HW.out]; exact qd5 _ _⟩
 case round =>
  clear z0
  obtain ⟨i, hi, rfl, hrow, hgr⟩ := hrel
  have HX : Hid (RowAt wr gd 5 N (lyf f F C c top left i)) := hrow
  have HG : Hid (wb.grownBy wr (some gd)) := hgr
  have HV : Hid (Vq wr w.heap.size 63 #[.int .i64 (R : Int), .int .i64 (C : Int), .slice (some ⟨gd, 0, none⟩) N N]) := HR0.out.kept hgr (by omega)
  have HO : Hid (Vq wr (w.heap.size + 1) 63 #[.int .i64 (r : Int), .int .i64 (c : Int), .slice a n k]) := HO0.out.kept hgr (by omega)
  have HA : Hid (Mt wr a n k F) := HA0.out.kept hgr HOf.out
  clear hrow hgr
  by_cases hlt : i < r
  ·obtain ⟨t, HT⟩ : ∃ t, Hid (top + i = t) := ⟨_, rfl⟩
   have htR : t < R := by have := HT.out; omega
   obtain ⟨p, HP⟩ : ∃ p, Hid (t * C = p) := ⟨_, rfl⟩
   obtain ⟨pa, HPa⟩ : ∃ p, Hid (i * c = p) := ⟨_, rfl⟩
   obtain ⟨sa, HSa⟩ : ∃ s, Hid (pc a pa c = s) := ⟨_, rfl⟩
   have HFi : Hid (p + C ≤ N) := by have := HRD.out.fit htR; rw [HP.out] at this; exact this
   have HFa : Hid (pa + c ≤ n) := by have := HRA.out.fit hlt; rw [HPa.out] at this; exact this
   have HSp : Hid (pc (some ⟨gd, 0, none⟩) p C = some ⟨gd, p, none⟩) := qcg gd p C (by omega)
   obtain ⟨hh, HHh⟩ : ∃ hh : Nat → Nat, Hid ((fun j => F (pa + j)) = hh) := ⟨_, rfl⟩
   have HSl : Hid (Sl wr sa c hh) := by have := HA.out.piece HFa.out; rw [HSa.out, HHh.out] at this; exact this
   have HNext : Hid (∀ q, cpf (lyf f F C c top left i) hh (p + left) c q = lyf f F C c top left (i + 1) q) := fun q => by rw [← HHh.out, ← HPa.out, ← HP.out, ← HT.out]; exact lyf_next f F i hl hc q
   have w1 : IntKind.i64.wrap ((top : Int) + (i : Int)) = (t : Int) := by rw [IntKind.wrap_i64]; have := HT.out; omega
   have HD : Hid (wr.drew.cell? ⟨w.heap.size, 0, none⟩ = some (.int .i64 (R : Int)) ∧ wr.drew.cell? ⟨w.heap.size, 1, none⟩ = some (.int .i64 (C : Int)) ∧ wr.drew.cell? ⟨w.heap.size, 2, none⟩ = some (.slice (some ⟨gd, 0, none⟩) N N) ∧ wr.drew.cell? ⟨w.heap.size + 1, 0, none⟩ = some (.int .i64 (r : Int)) ∧ wr.drew.cell? ⟨w.heap.size + 1, 1, none⟩ = some (.int .i64 (c : Int)) ∧ wr.drew.cell? ⟨w.heap.size + 1, 2, none⟩ = some (.slice a n k)) := ⟨HV.out.cell 0 _ rfl, HV.out.cell 1 _ rfl, HV.out.cell 2 _ rfl, HO.out.cell 0 _ rfl, HO.out.cell 1 _ rfl, HO.out.cell 2 _ rfl⟩
   have HBd : Hid (Below wr.heap.size wr wr.drew) := ⟨rfl, rfl, rfl, Nat.le_refl _, fun _ _ => rfl⟩
   have i0 : (0 : Int) ≤ (i : Int) := Int.natCast_nonneg _
   have i1 : (i : Int) < (r : Int) := by omega
   have hlC : left < C := by omega
   have j0 : (0 : Int) ≤ (left : Int) := Int.natCast_nonneg _
   have j1 : (left : Int) ≤ (C : Int) := by omega
   have hneC : ¬ C = left := by omega
   go_wp2
   go_region_held3 (fun w' => w'.cell? ⟨w.heap.size, 0, none⟩ = some (.int .i64 (R : Int)) ∧ w'.cell? ⟨w.heap.size, 1, none⟩ = some (.int .i64 (C : Int)) ∧ w'.cell? ⟨w.heap.size, 2, none⟩ = some (.slice (some ⟨gd, 0, none⟩) N N) ∧ w'.cell? ⟨w.heap.size + 1, 0, none⟩ = some (.int .i64 (r : Int)) ∧ w'.cell? ⟨w.heap.size + 1, 1, none⟩ = some (.int .i64 (c : Int)) ∧ w'.cell? ⟨w.heap.size + 1, 2, none⟩ = some (.slice a n k))
    (first
     | exact HK4.out
     | exact HK2.out
     | exact HK1.out
     | exact HD.out)
    (first
     | (go_at_call 68; have _x := HK1; refine (qgj _ _ c n k i pa a sa HA.out.nil HA.out.room HFa.out hn (by omega) HPa HSa).mono ?_; rintro e w5 ⟨rfl, hb5⟩; have HB5 : Hid (Below wr.heap.size wr w5) := qa0 HB4.out hb5; have HK2 : Hid (w5.cell? ⟨w.heap.size, 0, none⟩ = some (.int .i64 (R : Int)) ∧ w5.cell? ⟨w.heap.size, 1, none⟩ = some (.int .i64 (C : Int)) ∧ w5.cell? ⟨w.heap.size, 2, none⟩ = some (.slice (some ⟨gd, 0, none⟩) N N) ∧ w5.cell? ⟨w.heap.size + 1, 0, none⟩ = some (.int .i64 (r : Int)) ∧ w5.cell? ⟨w.heap.size + 1, 1, none⟩ = some (.int .i64 (c : Int)) ∧ w5.cell? ⟨w.heap.size + 1, 2, none⟩ = some (.slice a n k)) := ⟨(HV.out.later HB5.out).cell 0 _ rfl, (HV.out.later HB5.out).cell 1 _ rfl, (HV.out.later HB5.out).cell 2 _ rfl, (HO.out.later HB5.out).cell 0 _ rfl, (HO.out.later HB5.out).cell 1 _ rfl, (HO.out.later HB5.out).cell 2 _ rfl⟩; clear hb5)
     | (go_at_call 68; refine (qgj _ _ C N N t p (some ⟨gd, 0, none⟩) (some ⟨gd, p, none⟩) (fun e => by cases e) (Nat.le_refl _) HFi.out hN (by omega) HP HSp).mono ?_; rintro e w4 ⟨rfl, hb4⟩; have HB4 : Hid (Below wr.heap.size wr w4) := qa0 HBd.out hb4; have HK1 : Hid (w4.cell? ⟨w.heap.size, 0, none⟩ = some (.int .i64 (R : Int)) ∧ w4.cell? ⟨w.heap.size, 1, none⟩ = some (.int .i64 (C : Int)) ∧ w4.cell? ⟨w.heap.size, 2, none⟩ = some (.slice (some ⟨gd, 0, none⟩) N N) ∧ w4.cell? ⟨w.heap.size + 1, 0, none⟩ = some (.int .i64 (r : Int)) ∧ w4.cell? ⟨w.heap.size + 1, 1, none⟩ = some (.int .i64 (c : Int)) ∧ w4.cell? ⟨w.heap.size + 1, 2, none⟩ = some (.slice a n k)) := ⟨(HV.out.later HB4.out).cell 0 _ rfl, (HV.out.later HB4.out).cell 1 _ rfl, (HV.out.later HB4.out).cell 2 _ rfl, (HO.out.later HB4.out).cell 0 _ rfl, (HO.out.later HB4.out).cell 1 _ rfl, (HO.out.later HB4.out).cell 2 _ rfl⟩; clear hb4)
     | (refine qd9 rfl _ _ rfl gd (p + left) N c (C - left) (C - left) c sa (lyf f F C c top left i) hh hc (by omega) rfl rfl (HX.out.later HB5.out) (HSl.out.later HB5.out) (by have := HFi.out; omega) ?_; intro w7 HR7 HG7; have HR8 : Hid (RowAt w7 gd 5 N (lyf f F C c top left (i + 1))) := HR7.out.congr (fun q _ => HNext.out q); have HG8 : Hid (wb.grownBy w7 (some gd)) := qaa HG.out (qaa (qej HB5.out) HG7.out); have HV7 := HR0.out.kept HG8.out (by omega); have HO7 := HO0.out.kept HG8.out (by omega); have HK4 : Hid (w7.cell? ⟨w.heap.size, 0, none⟩ = some (.int .i64 (R : Int)) ∧ w7.cell? ⟨w.heap.size, 1, none⟩ = some (.int .i64 (C : Int)) ∧ w7.cell? ⟨w.heap.size, 2, none⟩ = some (.slice (some ⟨gd, 0, none⟩) N N) ∧ w7.cell? ⟨w.heap.size + 1, 0, none⟩ = some (.int .i64 (r : Int)) ∧ w7.cell? ⟨w.heap.size + 1, 1, none⟩ = some (.int .i64 (c : Int)) ∧ w7.cell? ⟨w.heap.size + 1, 2, none⟩ = some (.slice a n k)) := ⟨HV7.cell 0 _ rfl, HV7.cell 1 _ rfl, HV7.cell 2 _ rfl, HO7.cell 0 _ rfl, HO7.cell 1 _ rfl, HO7.cell 2 _ rfl⟩; clear HR7 HG7 HV7 HO7))
   go_wp2
   exact ⟨⟨i + 1, by omega, by go_num, HR8.out, HG8.out⟩, by simp [intOf]; omega⟩
  ·obtain rfl : i = r := by omega
   go_wp2
   go_end0
   exact ⟨rfl, HX.out, qaa (qej HB0.out) HG.out⟩
structure LaI (w wr : World) (gd bm R c cnt n k N : Nat) (a : Option Addr) (f : Nat → Nat) : Prop where
 va : Vq wr w.heap.size 24 #[.int .i64 (R : Int), .int .i64 (c : Int), .slice a n k]
 vr : Vq wr (w.heap.size + 1) 63 #[.int .i64 0, .int .i64 0, .slice none 0 0]
 vm : Vq wr bm 63 #[.int .i64 (cnt : Int), .int .i64 (c : Int), .slice (some ⟨gd, 0, none⟩) N N]
 data : RowAt wr gd 5 N f
 below : Below w.heap.size w wr
 dlow : w.heap.size + 1 < gd
 mlow : gd < bm
theorem LaI.later {w wr w' : World} {gd bm R c cnt n k N : Nat} {a : Option Addr} {f : Nat → Nat} (h : LaI w wr gd bm R c cnt n k N a f) (hb : Below wr.heap.size wr w') : LaI w w' gd bm R c cnt n k N a f := ⟨h.va.later hb, h.vr.later hb, h.vm.later hb, h.data.later hb, qa0 h.below hb, h.dlow, h.mlow⟩
theorem LaI.copy {w wr w' : World} {gd bm R c cnt n k N : Nat} {a : Option Addr} {f f' : Nat → Nat} (h : LaI w wr gd bm R c cnt n k N a f) (hr : RowAt w' gd 5 N f') (hg : wr.grownBy w' (some gd)) : LaI w w' gd bm R c cnt n k N a f' := ⟨h.va.kept hg (by have := h.dlow; omega), h.vr.kept hg (by have := h.dlow; omega), h.vm.kept hg (by have := h.mlow; omega), hr, qa3 h.below hg (by have := h.dlow; omega), h.dlow, h.mlow⟩
theorem LaI.congr {w wr : World} {gd bm R c cnt n k N : Nat} {a : Option Addr} {f f' : Nat → Nat} (h : LaI w wr gd bm R c cnt n k N a f) (e : ∀ q, q < N → f q = f' q) : LaI w wr gd bm R c cnt n k N a f' := ⟨h.va, h.vr, h.vm, h.data.congr e, h.below, h.dlow, h.mlow⟩
theorem last16 (w : World) (R c n k cnt top N : Nat) (a : Option Addr) (F : Nat → Nat) (ha : Mt w a n k F) (RA : Rt R c n) (ht : top + cnt = R) (HN : Hid (cnt * c = N)) :
  Calls Tryz.prog 56 #[mv R c a n k, .int .i64 (cnt : Int)] w fun e w' => ∃ g, e = .returned (mv cnt c (some ⟨g, 0, none⟩) N N) ∧ RowAt w' g 5 N (fun q => F (top * c + q)) ∧ w.heap.size ≤ g ∧ Below w.heap.size w w' := by
 have hR64 := RA.r64
 have hc64 := RA.c64
 have hn : n ≤ 4096 := RA.le
 have HRA : Hid (Rt R c n) := RA
 have HRu : Hid (Rt cnt c N) := ⟨by omega, hc64, HN.out⟩
 have hN : N ≤ 4096 := HRu.out.le
 have HA : Hid (Mt w a n k F) := ha
 have w1 : IntKind.i64.wrap ((R : Int) - (cnt : Int)) = (top : Int) := by rw [IntKind.wrap_i64]; omega
 obtain ⟨fn, HFn⟩ : ∃ fn : Nat → Nat, Hid ((fun q => F (top * c + q)) = fn) := ⟨_, rfl⟩
 rw [HFn.out]
 obtain ⟨wb, HW⟩ : ∃ wb, Hid ((w.alloc (.cells #[.int .i64 (R : Int), .int .i64 (c : Int), .slice a n k] 24)).alloc (.cells #[.int .i64 0, .int .i64 0, .slice none 0 0] 63) = wb) := ⟨_, rfl⟩
 have HB0 : Hid (Below w.heap.size w wb) := by rw [← HW.out]; exact qa0 (qa1 _ _) (qa1 _ _)
 have hs0 : w.heap.size + 1 < wb.heap.size := by rw [← HW.out, qal, qal]; omega
 have HV0 : Hid (Vq wb w.heap.size 24 #[.int .i64 (R : Int), .int .i64 (c : Int), .slice a n k]) := by rw [← HW.out]; exact (Vq.new w _ _).later (qa1 _ _)
 have HZ0 : Hid (Vq wb (w.heap.size + 1) 63 #[.int .i64 0, .int .i64 0, .slice none 0 0]) := by rw [← HW.out]; exact Vq.new1 _ _ _ _
 clear ha RA
 go_enter Tryz.func56, Tryz.ntmps56
 go_wp2_with (first
  | (go_at_call 37; rw [HW.out]; refine (qhh _ cnt c N (by omega) hc64 HN).mono ?_; rintro e w2 ⟨gd, rfl, hr2, hg2, hb2⟩; have HI0 : Hid (LaI w (w2.alloc (.cells #[.int .i64 (cnt : Int), .int .i64 (c : Int), .slice (some ⟨gd, 0, none⟩) N N] 63)) gd w2.heap.size R c cnt n k N a (fun _ => 0)) := ⟨(HV0.out.later hb2).later (qa1 _ _), (HZ0.out.later hb2).later (qa1 _ _), Vq.new w2 _ _, hr2.later (qa1 _ _), qa0 (qa0 HB0.out hb2) (qa1 _ _), by omega, lt_of_block hr2⟩; clear hr2 hg2 hb2))
 go_loopw [7, 17] (fun _ j wr => ∃ i : Nat, i ≤ cnt ∧ j = .int .i64 (i : Int) ∧ LaI w wr gd w2.heap.size R c cnt n k N a (upf fn (i * c))) (fun _ j _ => cnt - (intOf j).toNat)
 case atStart => exact ⟨0, by omega, rfl, HI0.out.congr (fun p _ => by rw [Nat.zero_mul, qcy])⟩
 case round =>
  clear HI0
  obtain ⟨i, hi, rfl, I⟩ := hrel
  have HI : Hid (LaI w wr gd w2.heap.size R c cnt n k N a (upf fn (i * c))) := I
  clear I
  by_cases hlt : i < cnt
  ·obtain ⟨t, HT⟩ : ∃ t, Hid (top + i = t) := ⟨_, rfl⟩
   have htR : t < R := by have := HT.out; omega
   obtain ⟨p, HP⟩ : ∃ p, Hid (i * c = p) := ⟨_, rfl⟩
   obtain ⟨pa, HPa⟩ : ∃ p, Hid (t * c = p) := ⟨_, rfl⟩
   obtain ⟨sp, HSp⟩ : ∃ s, Hid (pc (some ⟨gd, 0, none⟩) p c = s) := ⟨_, rfl⟩
   obtain ⟨sa, HSa⟩ : ∃ s, Hid (pc a pa c = s) := ⟨_, rfl⟩
   rw [HP.out] at HI
   have HFi : Hid (p + c ≤ N) := by have := HRu.out.fit hlt; rw [HP.out] at this; exact this
   have HFa : Hid (pa + c ≤ n) := by have := HRA.out.fit htR; rw [HPa.out] at this; exact this
   obtain ⟨hh, HHh⟩ : ∃ hh : Nat → Nat, Hid ((fun j => F (pa + j)) = hh) := ⟨_, rfl⟩
   have HSl : Hid (Sl w sa c hh) := by have := HA.out.piece HFa.out; rw [HSa.out, HHh.out] at this; exact this
   have HNext : Hid (∀ q, cpf (upf fn p) hh p c q = upf fn ((i + 1) * c) q) := fun q => by
    rw [qdm fn _ p c (fun j hj => by rw [← HFn.out, ← HHh.out, ← HPa.out, ← HP.out, ← HT.out]; dsimp only; congr 1; rw [Nat.add_mul]; omega) q, ← HP.out, Nat.add_mul, Nat.one_mul]
   have w5 : IntKind.i64.wrap ((top : Int) + (i : Int)) = (t : Int) := by rw [IntKind.wrap_i64]; have := HT.out; omega
   have HD : Hid (wr.drew.cell? ⟨w2.heap.size, 0, none⟩ = some (.int .i64 (cnt : Int)) ∧ wr.drew.cell? ⟨w2.heap.size, 1, none⟩ = some (.int .i64 (c : Int)) ∧ wr.drew.cell? ⟨w2.heap.size, 2, none⟩ = some (.slice (some ⟨gd, 0, none⟩) N N) ∧ wr.drew.cell? ⟨w.heap.size, 0, none⟩ = some (.int .i64 (R : Int)) ∧ wr.drew.cell? ⟨w.heap.size, 1, none⟩ = some (.int .i64 (c : Int)) ∧ wr.drew.cell? ⟨w.heap.size, 2, none⟩ = some (.slice a n k)) := ⟨HI.out.vm.cell 0 _ rfl, HI.out.vm.cell 1 _ rfl, HI.out.vm.cell 2 _ rfl, HI.out.va.cell 0 _ rfl, HI.out.va.cell 1 _ rfl, HI.out.va.cell 2 _ rfl⟩
   have HId : Hid (LaI w wr.drew gd w2.heap.size R c cnt n k N a (upf fn p)) := HI.out.later ⟨rfl, rfl, rfl, Nat.le_refl _, fun _ _ => rfl⟩
   have i0 : (0 : Int) ≤ (i : Int) := Int.natCast_nonneg _
   have i1 : (i : Int) < (cnt : Int) := by omega
   go_wp2
   go_region_held3 (fun w' => w'.cell? ⟨w2.heap.size, 0, none⟩ = some (.int .i64 (cnt : Int)) ∧ w'.cell? ⟨w2.heap.size, 1, none⟩ = some (.int .i64 (c : Int)) ∧ w'.cell? ⟨w2.heap.size, 2, none⟩ = some (.slice (some ⟨gd, 0, none⟩) N N) ∧ w'.cell? ⟨w.heap.size, 0, none⟩ = some (.int .i64 (R : Int)) ∧ w'.cell? ⟨w.heap.size, 1, none⟩ = some (.int .i64 (c : Int)) ∧ w'.cell? ⟨w.heap.size, 2, none⟩ = some (.slice a n k))
    (first
     | exact HK4.out
     | exact HK2.out
     | exact HK1.out
     | exact HD.out)
    (first
     | (go_at_call 68; have _x := HK1; refine (qgj _ _ c n k t pa a sa HA.out.nil HA.out.room HFa.out hn (by omega) HPa HSa).mono ?_; rintro e w5 ⟨rfl, hb5⟩; have HI5 : Hid (LaI w w5 gd w2.heap.size R c cnt n k N a (upf fn p)) := HI4.out.later hb5; have HK2 : Hid (w5.cell? ⟨w2.heap.size, 0, none⟩ = some (.int .i64 (cnt : Int)) ∧ w5.cell? ⟨w2.heap.size, 1, none⟩ = some (.int .i64 (c : Int)) ∧ w5.cell? ⟨w2.heap.size, 2, none⟩ = some (.slice (some ⟨gd, 0, none⟩) N N) ∧ w5.cell? ⟨w.heap.size, 0, none⟩ = some (.int .i64 (R : Int)) ∧ w5.cell? ⟨w.heap.size, 1, none⟩ = some (.int .i64 (c : Int)) ∧ w5.cell? ⟨w.heap.size, 2, none⟩ = some (.slice a n k)) := ⟨HI5.out.vm.cell 0 _ rfl, HI5.out.vm.cell 1 _ rfl, HI5.out.vm.cell 2 _ rfl, HI5.out.va.cell 0 _ rfl, HI5.out.va.cell 1 _ rfl, HI5.out.va.cell 2 _ rfl⟩; clear hb5)
     | (go_at_call 68; refine (qgj _ _ c N N i p (some ⟨gd, 0, none⟩) sp (fun e => by cases e) (Nat.le_refl _) HFi.out hN (by omega) HP HSp).mono ?_; rintro e w4 ⟨rfl, hb4⟩; have HI4 : Hid (LaI w w4 gd w2.heap.size R c cnt n k N a (upf fn p)) := HId.out.later hb4; have HK1 : Hid (w4.cell? ⟨w2.heap.size, 0, none⟩ = some (.int .i64 (cnt : Int)) ∧ w4.cell? ⟨w2.heap.size, 1, none⟩ = some (.int .i64 (c : Int)) ∧ w4.cell? ⟨w2.heap.size, 2, none⟩ = some (.slice (some ⟨gd, 0, none⟩) N N) ∧ w4.cell? ⟨w.heap.size, 0, none⟩ = some (.int .i64 (R : Int)) ∧ w4.cell? ⟨w.heap.size, 1, none⟩ = some (.int .i64 (c : Int)) ∧ w4.cell? ⟨w.heap.size, 2, none⟩ = some (.slice a n k)) := ⟨HI4.out.vm.cell 0 _ rfl, HI4.out.vm.cell 1 _ rfl, HI4.out.vm.cell 2 _ rfl, HI4.out.va.cell 0 _ rfl, HI4.out.va.cell 1 _ rfl, HI4.out.va.cell 2 _ rfl⟩; clear hb4)
     | (refine qb6 rfl _ _ rfl gd p N c c c sp sa (upf fn p) hh rfl rfl HI5.out.data (fun h => by rw [← HSp.out]; exact qcg gd p c h) (HSl.out.later HI5.out.below) HFi.out ?_; intro w7 HR7 HG7; have HI7 : Hid (LaI w w7 gd w2.heap.size R c cnt n k N a (upf fn ((i + 1) * c))) := (HI5.out.copy HR7.out HG7.out).congr (fun q _ => HNext.out q); have HK4 : Hid (w7.cell? ⟨w2.heap.size, 0, none⟩ = some (.int .i64 (cnt : Int)) ∧ w7.cell? ⟨w2.heap.size, 1, none⟩ = some (.int .i64 (c : Int)) ∧ w7.cell? ⟨w2.heap.size, 2, none⟩ = some (.slice (some ⟨gd, 0, none⟩) N N) ∧ w7.cell? ⟨w.heap.size, 0, none⟩ = some (.int .i64 (R : Int)) ∧ w7.cell? ⟨w.heap.size, 1, none⟩ = some (.int .i64 (c : Int)) ∧ w7.cell? ⟨w.heap.size, 2, none⟩ = some (.slice a n k)) := ⟨HI7.out.vm.cell 0 _ rfl, HI7.out.vm.cell 1 _ rfl, HI7.out.vm.cell 2 _ rfl, HI7.out.va.cell 0 _ rfl, HI7.out.va.cell 1 _ rfl, HI7.out.va.cell 2 _ rfl⟩; clear HR7 HG7))
   go_wp2
   exact ⟨⟨i + 1, by omega, by go_num, HI7.out⟩, by simp [intOf]; omega⟩
  ·obtain rfl : i = cnt := by omega
   have HR : Hid (RowAt wr gd 5 N (upf fn (i * c))) := HI.out.data
   have c0 := HI.out.vm.cell 0 _ rfl
   have c1 := HI.out.vm.cell 1 _ rfl
   have c2 := HI.out.vm.cell 2 _ rfl
   have hlow := HI.out.dlow
   go_wp2_with (refine qb4 rfl 63 _ _ rfl (w.heap.size + 1) _ #[.int .i64 (i : Int), .int .i64 (c : Int), .slice (some ⟨gd, 0, none⟩) N N] rfl rfl HI.out.vr sizeRw rfl (ocm _ _ _ _ _) ?_; intro w8 HV8 HG8)
   have d0 := HV8.out.cell 0 _ rfl
   have d1 := HV8.out.cell 1 _ rfl
   have d2 := HV8.out.cell 2 _ rfl
   refine bodyPost_ret (v := mv i c (some ⟨gd, 0, none⟩) N N) (by simp [results, Tryz.results56, go_sem, d0, d1, d2, mv]) rfl ?_
   refine ⟨gd, rfl, (HR.out.kept HG8.out (by omega)).congr (fun q hq => ?_), by omega, qa3 HI.out.below HG8.out (by omega)⟩
   unfold upf
   rw [HN.out, if_pos hq]
open Go.RowKit
/-- The entries once i portions have their rows. -/
def pti (k l s : Nat) (W X : Nat → Nat) (i q : Nat) : Nat :=
 if q < k * k then idf k q else if q < (k + l) * k then (if q < (k + i) * k then (if q % k / s = q / k - k then W (q % k) else 0) else 0) else X (q - (k + l) * k)
theorem pti_all (k l s : Nat) (W X : Nat → Nat) (q : Nat) : pti k l s W X l q = ptf k l s W X q := by
 unfold pti ptf
 by_cases h : q < (k + l) * k
 ·simp only [h, if_true]
 ·simp only [h, if_false]
theorem lay_pti (k l s m : Nat) (W X : Nat → Nat) (q : Nat) (hk : 0 < k) (hq : q < (k + l + m) * k) : lyf (lyf (fun _ => 0) (idf k) k k 0 0 k) X k k (k + l) 0 m q = pti k l s W X 0 q := by
 have e := Nat.div_add_mod q k
 have hm := Nat.mod_lt q hk
 have h1 : q < k * k ↔ q / k < k := (Nat.div_lt_iff_lt_mul hk).symm
 have h2 : q < (k + l) * k ↔ q / k < k + l := (Nat.div_lt_iff_lt_mul hk).symm
 have h3 : q / k < k + l + m := (Nat.div_lt_iff_lt_mul hk).2 hq
 unfold lyf pti
 generalize q / k = x at *
 generalize q % k = y at *
 by_cases a1 : x < k
 ·rw [if_neg (by omega), if_pos ⟨by omega, by omega, by omega, by omega⟩, if_pos (h1.2 a1)]
  congr 1
  rw [Nat.sub_zero, Nat.sub_zero, Nat.mul_comm]; exact e
 ·by_cases a2 : x < k + l
  ·rw [if_neg (by omega), if_neg (by omega), if_neg (fun x => a1 (h1.1 x)), if_pos (h2.2 a2), if_neg (fun x => a1 (h1.1 (by simpa using x)))]
  ·rw [if_pos ⟨by omega, by omega, by omega, by omega⟩, if_neg (fun x => a1 (h1.1 x)), if_neg (fun x => a2 (h2.1 x))]
   congr 1
   rw [Nat.sub_mul, Nat.sub_zero]
   have : (k + l) * k ≤ x * k := Nat.mul_le_mul_right k (by omega)
   rw [Nat.mul_comm k x] at e
   omega
theorem pti_next {k l s : Nat} (W X : Nat → Nat) (i q : Nat) (hs : 0 < s) (hK : l * s = k) (hi : i < l) : cpf (pti k l s W X i) (fun j => W (i * s + j)) ((k + i) * k + i * s) s q = pti k l s W X (i + 1) q := by
 have hfit := qf6 hK hi
 have hk : 0 < k := by omega
 have e := Nat.div_add_mod q k
 have hm := Nat.mod_lt q hk
 have hkk : k * k ≤ (k + i) * k := Nat.mul_le_mul_right k (by omega)
 have hkl : (k + i + 1) * k ≤ (k + l) * k := Nat.mul_le_mul_right k (by omega)
 have hsp : (k + i + 1) * k = (k + i) * k + k := by rw [Nat.add_mul (k + i) 1 k, Nat.one_mul]
 unfold cpf
 by_cases h : (k + i) * k + i * s ≤ q ∧ q < (k + i) * k + i * s + s
 ·rw [if_pos h]
  obtain ⟨e1, e2⟩ := qkj (q := q) (i := k + i) hk (by omega) (by omega)
  show W (i * s + (q - ((k + i) * k + i * s))) = _
  unfold pti
  rw [if_neg (by omega), if_pos (by omega), show k + (i + 1) = k + i + 1 by omega, if_pos (by omega), e1, e2, show k + i - k = i by omega]
  obtain ⟨y, hy⟩ : ∃ y, q = (k + i) * k + i * s + y := ⟨q - ((k + i) * k + i * s), by omega⟩
  have hd : (q - (k + i) * k) / s = i := by
   rw [hy, show (k + i) * k + i * s + y - (k + i) * k = s * i + y by rw [Nat.mul_comm s i]; omega, Nat.mul_add_div hs, Nat.div_eq_of_lt (by omega)]; rfl
  rw [if_pos hd]
  congr 1
  omega
 ·rw [if_neg h]
  unfold pti
  by_cases a1 : q < k * k
  ·rw [if_pos a1, if_pos a1]
  ·rw [if_neg a1, if_neg a1]
   by_cases a2 : q < (k + l) * k
   ·rw [if_pos a2, if_pos a2, show k + (i + 1) = k + i + 1 by omega]
    by_cases a3 : q < (k + i) * k
    ·rw [if_pos a3, if_pos (show q < (k + i + 1) * k by omega)]
    ·rw [if_neg a3]
     by_cases a4 : q < (k + i + 1) * k
     ·rw [if_pos a4]
      obtain ⟨e1, e2⟩ := qkj (q := q) (i := k + i) hk (by omega) (by omega)
      rw [if_neg]
      rw [e1, e2, show k + i - k = i by omega]
      intro x
      apply h
      have b1 := Nat.div_add_mod (q - (k + i) * k) s
      have b2 := Nat.mod_lt (q - (k + i) * k) hs
      rw [x, Nat.mul_comm s i] at b1
      omega
     ·rw [if_neg a4]
   ·rw [if_neg a2, if_neg a2]
theorem JAt.kept {w w' : World} {b g n : Nat} {T : TypeId} {K : IntKind} {f : Nat → Nat} (h : JAt w b T K n f) (hg : w.grownBy w' (some g)) (hne : b ≠ g) : JAt w' b T K n f := by unfold JAt; rw [hg.block b h.lt (by simpa using hne)]; exact h
structure PoI (w wr : World) (bg gd gg k l s R N : Nat) (f q : Nat → Nat) : Prop where
 vr : Vq wr (w.heap.size + 1) 27 #[.int .i64 0, .int .i64 0, .slice none 0 0, .slice none 0 0]
 vk : Vq wr (w.heap.size + 1 + 1) 3 #[.int .i64 (k : Int)]
 vs : Vq wr (w.heap.size + 1 + 1 + 1) 3 #[.int .i64 (s : Int)]
 vg : Vq wr bg 63 #[.int .i64 (R : Int), .int .i64 (k : Int), .slice (some ⟨gd, 0, none⟩) N N]
 data : RowAt wr gd 5 N f
 grp : JAt wr gg 52 .u64 l q
 below : Below w.heap.size w wr
 l1 : w.heap.size + 1 + 1 + 1 < gd
 l2 : gd < bg
 l3 : bg < gg
theorem put_next {k s i G : Nat} (h : gpf k s i = G) (p : Nat) : (if p = i then G else if p < i then gpf k s p else 0) = if p < i + 1 then gpf k s p else 0 := by
 by_cases e1 : p = i
 ·subst e1; rw [if_pos rfl, if_pos (by omega), h]
 ·rw [if_neg e1]
  by_cases e2 : p < i
  ·rw [if_pos e2, if_pos (by omega)]
  ·rw [if_neg e2, if_neg (by omega)]
theorem qkk {w : World} {a : Option Addr} {n : Nat} {f : Nat → Nat} (h : Sl w a n f) (hn : 0 < n) {g : Nat} (hg : w.heap.size ≤ g) : Off g a := fun x hx => by
 obtain ⟨b, o, e, hc⟩ := h.2 0 hn
 rw [e] at hx
 cases hx
 have := qar hc
 show b ≠ g
 omega
theorem PoI.later {w wr w' : World} {bg gd gg k l s R N : Nat} {f q : Nat → Nat} (h : PoI w wr bg gd gg k l s R N f q) (hb : Below wr.heap.size wr w') : PoI w w' bg gd gg k l s R N f q := ⟨h.vr.later hb, h.vk.later hb, h.vs.later hb, h.vg.later hb, h.data.later hb, h.grp.later hb, qa0 h.below hb, h.l1, h.l2, h.l3⟩
theorem PoI.copy {w wr w' : World} {bg gd gg k l s R N : Nat} {f f' q : Nat → Nat} (h : PoI w wr bg gd gg k l s R N f q) (hr : RowAt w' gd 5 N f') (hg : wr.grownBy w' (some gd)) : PoI w w' bg gd gg k l s R N f' q := by
 have l1 := h.l1
 have l2 := h.l2
 have l3 := h.l3
 exact ⟨h.vr.kept hg (by omega), h.vk.kept hg (by omega), h.vs.kept hg (by omega), h.vg.kept hg (by omega), hr, h.grp.kept hg (by omega), qa3 h.below hg (by omega), l1, l2, l3⟩
theorem PoI.put {w wr : World} {bg gd gg k l s R N : Nat} {f q : Nat → Nat} (h : PoI w wr bg gd gg k l s R N f q) (i v : Nat) : PoI w (wr.setCell ⟨gg, i, none⟩ (.int .u64 (v : Int))) bg gd gg k l s R N f (fun j => if j = i then v else q j) := by
 have l1 := h.l1
 have l2 := h.l2
 have l3 := h.l3
 have hg := qa2 wr gg i (.int .u64 (v : Int))
 exact ⟨h.vr.kept hg (by omega), h.vk.kept hg (by omega), h.vs.kept hg (by omega), h.vg.kept hg (by omega), h.data.kept hg (by omega), h.grp.set i v, qa3 h.below hg (by omega), l1, l2, l3⟩
theorem PoI.congr {w wr : World} {bg gd gg k l s R N : Nat} {f f' q q' : Nat → Nat} (h : PoI w wr bg gd gg k l s R N f q) (e : ∀ x, x < N → f x = f' x) (e2 : ∀ x, x < l → q x = q' x) : PoI w wr bg gd gg k l s R N f' q' := ⟨h.vr, h.vk, h.vs, h.vg, h.data.congr e, h.grp.congr e2, h.below, h.l1, h.l2, h.l3⟩
theorem portd (w : World) (l k s m R N M kw dM : Nat) (sw sf : Option Addr) (W X : Nat → Nat) (hW : Mt w sw k kw W) (hX : Mt w sf M dM X) (hl : 1 ≤ l) (hs : 1 ≤ s) (HK : Hid (l * s = k)) (HR : Hid (k + l + m = R)) (hR : R ≤ 64) (HN : Hid (R * k = N)) (HM : Hid (m * k = M)) :
  Calls Tryz.prog 54 #[.int .i64 (l : Int), .slice sw k kw, mv m k sf M dM] w fun e w' => ∃ gd gg, e = .returned (cv R k (some ⟨gd, 0, none⟩) N N (some ⟨gg, 0, none⟩) l l) ∧ RowAt w' gd 5 N (ptf k l s W X) ∧ JAt w' gg 52 .u64 l (gpf k s) ∧ Below w.heap.size w w' := by
 obtain ⟨i0, hi0, hz0, hz1, hz2⟩ := info_parts ju64
 have hrr := HR.out
 have hk1 : 1 ≤ k := by rw [← HK.out]; exact Nat.mul_le_mul hl hs
 have hkl : k + l ≤ 64 := by omega
 have hkR : k ≤ R := by omega
 have hk64 : k ≤ 64 := by omega
 have HWm : Hid (Mt w sw k kw W) := hW
 have HXm : Hid (Mt w sf M dM X) := hX
 obtain ⟨A, HA⟩ : ∃ A, Hid (k * k = A) := ⟨_, rfl⟩
 have HRI : Hid (Rt k k A) := ⟨hk64, hk64, HA.out⟩
 have HRD : Hid (Rt R k N) := ⟨hR, hk64, HN.out⟩
 have HRF : Hid (Rt m k M) := ⟨by omega, hk64, HM.out⟩
 have hN : N ≤ 4096 := HRD.out.le
 have q1 : (k : Int) / (l : Int) = (s : Int) := by
  rw [← Int.natCast_ediv, ← HK.out, Nat.mul_div_cancel_left s (by omega)]
 have q2 : (k : Int).tdiv (l : Int) = (s : Int) := by
  rw [Int.tdiv_eq_ediv_of_nonneg (by omega)]; exact q1
 have w1' : IntKind.i64.wrap (s : Int) = (s : Int) := by rw [IntKind.wrap_i64]; have := Nat.le_mul_of_pos_left s (show 0 < l by omega); rw [HK.out] at this; omega
 obtain ⟨kl, HKL⟩ : ∃ kl, Hid (k + l = kl) := ⟨_, rfl⟩
 have hkl2 := HKL.out
 have w2' : IntKind.i64.wrap ((k : Int) + (l : Int)) = (kl : Int) := by rw [IntKind.wrap_i64]; omega
 have w3' : IntKind.i64.wrap ((kl : Int) + (m : Int)) = (R : Int) := by rw [IntKind.wrap_i64]; omega
 have gl : ((l : Int) == 0) = false := by simp; omega
 have hlz : ¬ (l : Int) = 0 := by omega
 have wlen : IntKind.i64.wrap (l : Int) = (l : Int) := by rw [IntKind.wrap_i64]; omega
 have hml : l ≤ maxLen := by unfold maxLen; omega
 obtain ⟨wA, HWA⟩ : ∃ wA, Hid (((((w.alloc (.cells #[.int .i64 (m : Int), .int .i64 (k : Int), .slice sf M dM] 63)).alloc (.cells #[.int .i64 0, .int .i64 0, .slice none 0 0, .slice none 0 0] 27)).alloc (.cells #[.int .i64 (k : Int)] 3)).alloc (.cells #[.int .i64 (s : Int)] 3)) = wA) := ⟨_, rfl⟩
 have HBA : Hid (Below w.heap.size w wA) := by rw [← HWA.out]; exact qa0 (qa0 (qa0 (qa1 _ _) (qa1 _ _)) (qa1 _ _)) (qa1 _ _)
 have hsA : w.heap.size + 1 + 1 + 1 < wA.heap.size := by rw [← HWA.out, qal, qal, qal, qal]; omega
 have HF0 : Hid (Vq wA w.heap.size 63 #[.int .i64 (m : Int), .int .i64 (k : Int), .slice sf M dM]) := by rw [← HWA.out]; exact (((Vq.new w _ _).later (qa1 _ _)).later (qa1 _ _)).later (qa1 _ _)
 have HC0 : Hid (Vq wA (w.heap.size + 1) 27 #[.int .i64 0, .int .i64 0, .slice none 0 0, .slice none 0 0]) := by rw [← HWA.out]; exact ((Vq.new1 _ _ _ _).later (qa1 _ _)).later (qa1 _ _)
 have HK0 : Hid (Vq wA (w.heap.size + 1 + 1) 3 #[.int .i64 (k : Int)]) := by rw [← HWA.out]; exact (Vq.new2 _ _ _ _ _).later (qa1 _ _)
 have HS0 : Hid (Vq wA (w.heap.size + 1 + 1 + 1) 3 #[.int .i64 (s : Int)]) := by rw [← HWA.out]; exact Vq.new3 _ _ _ _ _ _
 have ck0 := HK0.out.cell 0 _ rfl
 rw [← HWA.out] at ck0
 have M0 : Hid (w = w) := rfl
 clear hW hX hrr hkl2
 go_enter Tryz.func54, Tryz.ntmps54
 go_wp2_with (first
  | (go_at_call 80; rw [HWA.out]; refine (qfq _ k A hk64 HA).mono ?_; rintro e w1 ⟨g1, rfl, hr1, hg1, hb1⟩; have HB1 : Hid (Below wA.heap.size wA (w1.alloc (.cells #[.int .i64 (k : Int), .int .i64 (k : Int), .slice (some ⟨g1, 0, none⟩) A A] 24))) := qa0 hb1 (qa1 _ _); have HR1 : Hid (RowAt (w1.alloc (.cells #[.int .i64 (k : Int), .int .i64 (k : Int), .slice (some ⟨g1, 0, none⟩) A A] 24)) g1 5 A (idf k)) := hr1.later (qa1 _ _); have HI1 : Hid (Vq (w1.alloc (.cells #[.int .i64 (k : Int), .int .i64 (k : Int), .slice (some ⟨g1, 0, none⟩) A A] 24)) w1.heap.size 24 #[.int .i64 (k : Int), .int .i64 (k : Int), .slice (some ⟨g1, 0, none⟩) A A]) := Vq.new w1 _ _; have HG1 : Hid (wA.heap.size ≤ g1) := hg1; have ck1 := (HK0.out.later HB1.out).cell 0 _ rfl; have cf1 := (HF0.out.later HB1.out).cell 0 _ rfl; clear hr1 hg1 hb1 ck0)
  | (go_at_call 37; refine (qhh _ R k N hR hk64 HN).mono ?_; rintro e w2 ⟨gd, rfl, hr2, hg2, hb2⟩; have HB2 : Hid (Below wA.heap.size wA (w2.alloc (.cells #[.int .i64 (R : Int), .int .i64 (k : Int), .slice (some ⟨gd, 0, none⟩) N N] 63))) := qa0 (qa0 HB1.out hb2) (qa1 _ _); have HR2 : Hid (RowAt (w2.alloc (.cells #[.int .i64 (R : Int), .int .i64 (k : Int), .slice (some ⟨gd, 0, none⟩) N N] 63)) gd 5 N (fun _ => 0)) := hr2.later (qa1 _ _); have HI2 : Hid (Vq (w2.alloc (.cells #[.int .i64 (R : Int), .int .i64 (k : Int), .slice (some ⟨gd, 0, none⟩) N N] 63)) w1.heap.size 24 #[.int .i64 (k : Int), .int .i64 (k : Int), .slice (some ⟨g1, 0, none⟩) A A]) := (HI1.out.later hb2).later (qa1 _ _); have HM2 : Hid (Mt (w2.alloc (.cells #[.int .i64 (R : Int), .int .i64 (k : Int), .slice (some ⟨gd, 0, none⟩) N N] 63)) (some ⟨g1, 0, none⟩) A A (idf k)) := (((HR1.out.later hb2).later (qa1 _ _))).mt (fun p _ => qfl k p); have HV2 : Hid (Vq (w2.alloc (.cells #[.int .i64 (R : Int), .int .i64 (k : Int), .slice (some ⟨gd, 0, none⟩) N N] 63)) w2.heap.size 63 #[.int .i64 (R : Int), .int .i64 (k : Int), .slice (some ⟨gd, 0, none⟩) N N]) := Vq.new w2 _ _; have HL2 : Hid ((w1.alloc (.cells #[.int .i64 (k : Int), .int .i64 (k : Int), .slice (some ⟨g1, 0, none⟩) A A] 24)).heap.size ≤ gd ∧ gd < w2.heap.size) := ⟨hg2, lt_of_block hr2⟩; have HO2 : Hid (Off gd (some (⟨g1, 0, none⟩ : Addr))) := (fun x hx => by cases hx; have := lt_of_block HR1.out; have := HL2.out.1; show g1 ≠ gd; omega); have ci0 := HI2.out.cell 0 _ rfl; have ci1 := HI2.out.cell 1 _ rfl; have ci2 := HI2.out.cell 2 _ rfl; have cg0 := HV2.out.cell 0 _ rfl; have cg1 := HV2.out.cell 1 _ rfl; have cg2 := HV2.out.cell 2 _ rfl; clear hr2 hg2 hb2 ck1 cf1)
  | (go_at_call 38; clear M0; go_loud (refine (lay16 _ R k N k k A A 0 0 gd (some ⟨g1, 0, none⟩) (fun _ => 0) (idf k) HR2.out HM2.out HRD.out HRI.out (fun _ => HO2.out) (by omega) (by omega) (by omega)).mono ?_; rintro e w3 ⟨rfl, hr3, hg3⟩; have HR3 : Hid (RowAt w3 gd 5 N (lyf (fun _ => 0) (idf k) k k 0 0 k)) := hr3; have HG3 : Hid ((w2.alloc (.cells #[.int .i64 (R : Int), .int .i64 (k : Int), .slice (some ⟨gd, 0, none⟩) N N] 63)).grownBy w3 (some gd)) := hg3; have HD3 : Hid (w.heap.size + 1 + 1 + 1 < gd) := (by show w.heap.size + 1 + 1 + 1 < gd; have := HL2.out.1; have := HB1.out.size; omega); have hd3 := HD3.out; have hd4 := HL2.out.2; have HV3 : Hid (Vq w3 w2.heap.size 63 #[.int .i64 (R : Int), .int .i64 (k : Int), .slice (some ⟨gd, 0, none⟩) N N]) := HV2.out.kept hg3 (by omega); have HF3 : Hid (Vq w3 w.heap.size 63 #[.int .i64 (m : Int), .int .i64 (k : Int), .slice sf M dM]) := (HF0.out.later HB2.out).kept hg3 (by omega); have HK3 : Hid (Vq w3 (w.heap.size + 1 + 1) 3 #[.int .i64 (k : Int)]) := (HK0.out.later HB2.out).kept hg3 (by omega); have HS3 : Hid (Vq w3 (w.heap.size + 1 + 1 + 1) 3 #[.int .i64 (s : Int)]) := (HS0.out.later HB2.out).kept hg3 (by omega); have HC3 : Hid (Vq w3 (w.heap.size + 1) 27 #[.int .i64 0, .int .i64 0, .slice none 0 0, .slice none 0 0]) := (HC0.out.later HB2.out).kept hg3 (by omega); have HB3 : Hid (Below w.heap.size w w3) := qa3 (qa0 HBA.out HB2.out) hg3 (by omega); have cg0 := HV3.out.cell 0 _ rfl; have cg1 := HV3.out.cell 1 _ rfl; have cg2 := HV3.out.cell 2 _ rfl; have cf0 := HF3.out.cell 0 _ rfl; have cf1 := HF3.out.cell 1 _ rfl; have cf2 := HF3.out.cell 2 _ rfl; have ck0 := HK3.out.cell 0 _ rfl; clear hr3 hg3 hd3))
  | (go_at_call 38; have _x := HB3; refine (lay16 _ R k N m k M dM kl 0 gd sf (lyf (fun _ => 0) (idf k) k k 0 0 k) X HR3.out (HXm.out.later HB3.out) HRD.out HRF.out (fun hp => qkk HXm.out.sl hp (by have := HD3.out; omega)) (by have := HR.out; have := HKL.out; omega) (by omega) (by omega)).mono ?_; rintro e w4 ⟨rfl, hr4, hg4⟩; have HR4 : Hid (RowAt w4 gd 5 N (lyf (lyf (fun _ => 0) (idf k) k k 0 0 k) X k k kl 0 m)) := hr4; have hd3 := HD3.out; have HV4 : Hid (Vq w4 w2.heap.size 63 #[.int .i64 (R : Int), .int .i64 (k : Int), .slice (some ⟨gd, 0, none⟩) N N]) := HV3.out.kept hg4 (by omega); have HK4 : Hid (Vq w4 (w.heap.size + 1 + 1) 3 #[.int .i64 (k : Int)]) := HK3.out.kept hg4 (by omega); have HS4 : Hid (Vq w4 (w.heap.size + 1 + 1 + 1) 3 #[.int .i64 (s : Int)]) := HS3.out.kept hg4 (by omega); have HC4 : Hid (Vq w4 (w.heap.size + 1) 27 #[.int .i64 0, .int .i64 0, .slice none 0 0, .slice none 0 0]) := HC3.out.kept hg4 (by omega); have HB4 : Hid (Below w.heap.size w w4) := qa3 HB3.out hg4 (by omega); clear hr4 hg4 hd3)
  | (at_make; refine wpList_make_full _ rfl _ _ 25 rfl w4.heap.size 52 i0 (.int .u64 0) 1 Tryz.underlying25 hi0 hz0 hz1 .i64 .i64 _ _ l rfl rfl rfl rfl (by rw [hz2]; omega) hml (by simp) ?_; intro w5 hown hgrow; have HI0 : Hid (PoI w w5 w2.heap.size gd w4.heap.size k l s R N (pti k l s W X 0) (fun _ => 0)) := ⟨HC4.out.later (qa5.mp hgrow), HK4.out.later (qa5.mp hgrow), HS4.out.later (qa5.mp hgrow), HV4.out.later (qa5.mp hgrow), (HR4.out.later (qa5.mp hgrow)).congr (fun q hq => by rw [← HKL.out]; exact lay_pti k l s m W X q (by omega) (by rw [HR.out, HN.out]; exact hq)), jmade_at hown, qa0 HB4.out (qa5.mp hgrow), HD3.out, hd4, HV4.out.lt⟩; clear hown hgrow))
 obtain ⟨bg, HBg⟩ : ∃ bg, Hid (w2.heap.size = bg) := ⟨_, rfl⟩
 obtain ⟨gg, HGg⟩ : ∃ gg, Hid (w4.heap.size = gg) := ⟨_, rfl⟩
 rw [HBg.out, HGg.out] at HI0
 rw [HBg.out, HGg.out]
 go_loopw [13, 14, 15, 16, 49] (fun _ _ _ _ j wr => ∃ i : Nat, i ≤ l ∧ j = .int .i64 (i : Int) ∧ PoI w wr bg gd gg k l s R N (pti k l s W X i) (fun p => if p < i then gpf k s p else 0)) (fun _ _ _ _ j _ => l - (intOf j).toNat)
 case atStart => exact ⟨0, by omega, rfl, HI0.out.congr (fun _ _ => rfl) (fun p _ => by rw [if_neg (by omega)])⟩
 case round =>
  clear HI0
  obtain ⟨i, hi, rfl, I⟩ := hrel
  have HI : Hid (PoI w wr bg gd gg k l s R N (pti k l s W X i) (fun p => if p < i then gpf k s p else 0)) := I
  clear I
  by_cases hlt : i < l
  ·obtain ⟨F, HF⟩ : ∃ F, Hid (i * s = F) := ⟨_, rfl⟩
   have hfit : F + s ≤ k := by have := qf6 HK.out hlt; rw [HF.out] at this; exact this
   obtain ⟨t, HT⟩ : ∃ t, Hid (k + i = t) := ⟨_, rfl⟩
   have htR : t < R := by have := HT.out; have := HR.out; omega
   obtain ⟨p, HP⟩ : ∃ p, Hid (t * k = p) := ⟨_, rfl⟩
   have HFi : Hid (p + k ≤ N) := by have := HRD.out.fit htR; rw [HP.out] at this; exact this
   have HSp : Hid (pc (some ⟨gd, 0, none⟩) p k = some ⟨gd, p, none⟩) := qcg gd p k (by omega)
   obtain ⟨bw, ow, esw, _⟩ := HWm.out.sl.2 0 (by omega)
   subst esw
   obtain ⟨hh, HHh⟩ : ∃ hh : Nat → Nat, Hid ((fun j => W (F + j)) = hh) := ⟨_, rfl⟩
   have HSl : Hid (Sl w (some ⟨bw, ow + F, none⟩) s hh) := by
    have := HWm.out.piece hfit
    rw [HHh.out] at this
    unfold pc at this
    rw [if_neg (by omega)] at this
    show Sl _ _ _ _
    simpa [add_plain] using this
   have HNext : Hid (∀ q, cpf (pti k l s W X i) hh (p + F) s q = pti k l s W X (i + 1) q) := fun q => by rw [← HHh.out, ← HP.out, ← HT.out, ← HF.out]; exact pti_next W X i q (by omega) HK.out hlt
   have m1 : (i : Int) * (s : Int) = (F : Int) := by rw [← HF.out]; simp
   have w4' : IntKind.i64.wrap (F : Int) = (F : Int) := by rw [IntKind.wrap_i64]; omega
   have w5' : IntKind.i64.wrap ((k : Int) + (i : Int)) = (t : Int) := by rw [IntKind.wrap_i64]; have := HT.out; omega
   obtain ⟨Fs, HFs⟩ : ∃ Fs, Hid (F + s = Fs) := ⟨_, rfl⟩
   have hFs := HFs.out
   have w6' : IntKind.i64.wrap ((F : Int) + (s : Int)) = (Fs : Int) := by rw [IntKind.wrap_i64]; omega
   have w7' : IntKind.i64.wrap ((s : Int) + 1) = ((s + 1 : Nat) : Int) := by rw [IntKind.wrap_i64]; omega
   have hkw := HWm.out.room
   have hFk : F < k := by omega
   have hFkw : F < kw := by omega
   have hFsk : Fs ≤ kw := by omega
   have hFF : F ≤ Fs := by omega
   have hsub : Fs - F = s := by omega
   have n1 : ¬ k = F := by omega
   have j0 : (0 : Int) ≤ (F : Int) := Int.natCast_nonneg _
   have j1 : (F : Int) ≤ (k : Int) := by omega
   have j2 : (F : Int) ≤ (Fs : Int) := by omega
   have j3 : (Fs : Int) ≤ (kw : Int) := by omega
   have n2 : ¬ kw = F := by omega
   have i1 : (i : Int) < (l : Int) := by omega
   have c0 := (HI.out.vs.later (qa1 wr (.cells #[.int .i64 (i : Int)] 3))).cell 0 _ rfl
   obtain ⟨wv, HWv⟩ : ∃ wv, Hid ((wr.alloc (.cells #[.int .i64 (i : Int)] 3)).alloc (.cells #[.int .i64 (F : Int)] 3) = wv) := ⟨_, rfl⟩
   have HBv : Hid (Below wr.heap.size wr wv) := by rw [← HWv.out]; exact qa0 (qa1 _ _) (qa1 _ _)
   have HI2 : Hid (PoI w wv bg gd gg k l s R N (pti k l s W X i) (fun p => if p < i then gpf k s p else 0)) := HI.out.later HBv.out
   have HPv : Hid (Vq wv wr.heap.size 3 #[.int .i64 (i : Int)]) := by rw [← HWv.out]; exact (Vq.new wr _ _).later (qa1 _ _)
   have HFv : Hid (Vq wv (wr.heap.size + 1) 3 #[.int .i64 (F : Int)]) := by rw [← HWv.out]; exact Vq.new1 _ _ _ _
   have hgdw : gd < wr.heap.size := lt_of_block HI.out.data
   have hggw : gg < wr.heap.size := HI.out.grp.lt
   have HBd : Hid (Below wv.heap.size wv wv.drew) := ⟨rfl, rfl, rfl, Nat.le_refl _, fun _ _ => rfl⟩
   have HD : Hid (wv.drew.cell? ⟨bg, 0, none⟩ = some (.int .i64 (R : Int)) ∧ wv.drew.cell? ⟨bg, 1, none⟩ = some (.int .i64 (k : Int)) ∧ wv.drew.cell? ⟨bg, 2, none⟩ = some (.slice (some ⟨gd, 0, none⟩) N N) ∧ wv.drew.cell? ⟨w.heap.size + 1 + 1, 0, none⟩ = some (.int .i64 (k : Int)) ∧ wv.drew.cell? ⟨w.heap.size + 1 + 1 + 1, 0, none⟩ = some (.int .i64 (s : Int)) ∧ wv.drew.cell? ⟨wr.heap.size, 0, none⟩ = some (.int .i64 (i : Int)) ∧ wv.drew.cell? ⟨wr.heap.size + 1, 0, none⟩ = some (.int .i64 (F : Int))) := ⟨HI2.out.vg.cell 0 _ rfl, HI2.out.vg.cell 1 _ rfl, HI2.out.vg.cell 2 _ rfl, HI2.out.vk.cell 0 _ rfl, HI2.out.vs.cell 0 _ rfl, HPv.out.cell 0 _ rfl, HFv.out.cell 0 _ rfl⟩
   go_wp2
   rw [HWv.out]
   go_region_held3 (fun w' => w'.cell? ⟨bg, 0, none⟩ = some (.int .i64 (R : Int)) ∧ w'.cell? ⟨bg, 1, none⟩ = some (.int .i64 (k : Int)) ∧ w'.cell? ⟨bg, 2, none⟩ = some (.slice (some ⟨gd, 0, none⟩) N N) ∧ w'.cell? ⟨w.heap.size + 1 + 1, 0, none⟩ = some (.int .i64 (k : Int)) ∧ w'.cell? ⟨w.heap.size + 1 + 1 + 1, 0, none⟩ = some (.int .i64 (s : Int)) ∧ w'.cell? ⟨wr.heap.size, 0, none⟩ = some (.int .i64 (i : Int)) ∧ w'.cell? ⟨wr.heap.size + 1, 0, none⟩ = some (.int .i64 (F : Int)))
    (first
     | exact HK4.out
     | exact HK1.out
     | exact HD.out)
    (first
     | (go_at_call 68; refine (qgj _ _ k N N t p (some ⟨gd, 0, none⟩) (some ⟨gd, p, none⟩) (fun e => by cases e) (Nat.le_refl _) HFi.out hN (by omega) HP HSp).mono ?_; rintro e w4 ⟨rfl, hb4⟩; have HB4 : Hid (Below wv.heap.size wv w4) := qa0 HBd.out hb4; have HI4 : Hid (PoI w w4 bg gd gg k l s R N (pti k l s W X i) (fun p => if p < i then gpf k s p else 0)) := HI2.out.later HB4.out; have HK1 : Hid (w4.cell? ⟨bg, 0, none⟩ = some (.int .i64 (R : Int)) ∧ w4.cell? ⟨bg, 1, none⟩ = some (.int .i64 (k : Int)) ∧ w4.cell? ⟨bg, 2, none⟩ = some (.slice (some ⟨gd, 0, none⟩) N N) ∧ w4.cell? ⟨w.heap.size + 1 + 1, 0, none⟩ = some (.int .i64 (k : Int)) ∧ w4.cell? ⟨w.heap.size + 1 + 1 + 1, 0, none⟩ = some (.int .i64 (s : Int)) ∧ w4.cell? ⟨wr.heap.size, 0, none⟩ = some (.int .i64 (i : Int)) ∧ w4.cell? ⟨wr.heap.size + 1, 0, none⟩ = some (.int .i64 (F : Int))) := ⟨HI4.out.vg.cell 0 _ rfl, HI4.out.vg.cell 1 _ rfl, HI4.out.vg.cell 2 _ rfl, HI4.out.vk.cell 0 _ rfl, HI4.out.vs.cell 0 _ rfl, (HPv.out.later HB4.out).cell 0 _ rfl, (HFv.out.later HB4.out).cell 0 _ rfl⟩; clear hb4)
     | (refine qd9 rfl _ _ rfl gd (p + F) N s (k - F) (k - F) (kw - F) (some ⟨bw, ow + F, none⟩) (pti k l s W X i) hh (by omega) (by omega) rfl rfl HI4.out.data (HSl.out.later HI4.out.below) (by have := HFi.out; omega) ?_; intro w7 HR7 HG7; have HI7 : Hid (PoI w w7 bg gd gg k l s R N (pti k l s W X (i + 1)) (fun p => if p < i then gpf k s p else 0)) := (HI4.out.copy HR7.out HG7.out).congr (fun q _ => HNext.out q) (fun _ _ => rfl); have HP7 : Hid (Vq w7 wr.heap.size 3 #[.int .i64 (i : Int)]) := (HPv.out.later HB4.out).kept HG7.out (by omega); have HF7 : Hid (Vq w7 (wr.heap.size + 1) 3 #[.int .i64 (F : Int)]) := (HFv.out.later HB4.out).kept HG7.out (by omega); have HK4 : Hid (w7.cell? ⟨bg, 0, none⟩ = some (.int .i64 (R : Int)) ∧ w7.cell? ⟨bg, 1, none⟩ = some (.int .i64 (k : Int)) ∧ w7.cell? ⟨bg, 2, none⟩ = some (.slice (some ⟨gd, 0, none⟩) N N) ∧ w7.cell? ⟨w.heap.size + 1 + 1, 0, none⟩ = some (.int .i64 (k : Int)) ∧ w7.cell? ⟨w.heap.size + 1 + 1 + 1, 0, none⟩ = some (.int .i64 (s : Int)) ∧ w7.cell? ⟨wr.heap.size, 0, none⟩ = some (.int .i64 (i : Int)) ∧ w7.cell? ⟨wr.heap.size + 1, 0, none⟩ = some (.int .i64 (F : Int))) := ⟨HI7.out.vg.cell 0 _ rfl, HI7.out.vg.cell 1 _ rfl, HI7.out.vg.cell 2 _ rfl, HI7.out.vk.cell 0 _ rfl, HI7.out.vs.cell 0 _ rfl, HP7.out.cell 0 _ rfl, HF7.out.cell 0 _ rfl⟩; clear HR7 HG7))
   have HCn : Hid (cn (2 ^ (s + 1) - 1) 64 = s + 1) := qis 64 (s + 1) (by omega)
   have HMv : Hid (∀ w', Below w7.heap.size w7 w' → Calls Tryz.prog 31 #[.int .u64 ((2 ^ (s + 1) - 1 : Nat) : Int), .func (.func 85) #[] #[.pointer (some ⟨w.heap.size + 1 + 1 + 1, 0, none⟩), .pointer (some ⟨w.heap.size + 1 + 1, 0, none⟩), .pointer (some ⟨wr.heap.size, 0, none⟩), .pointer (some ⟨wr.heap.size + 1, 0, none⟩)]] w' fun e w'' => e = .returned (.int .u64 ((gpf k s i : Nat) : Int)) ∧ Below w'.heap.size w' w'') := fun w' hb => mov_port (2 ^ (s + 1) - 1) w' (by have := Nat.pow_le_pow_right (n := 2) (by omega) (show s + 1 ≤ 64 by omega); omega) _ _ _ _ (s + 1) (gpq k s i) HCn (fun t ht => gpq_lt HK.out hlt hkl ht) (fun t ht w'' hb2 => by
    rw [lf_ones (by omega) ht]
    have hb3 := qa0 hb hb2
    exact port_at w'' k l s i F t _ _ _ _ hkl hlt (by omega) HF.out hfit ((HI7.out.vs.later hb3).cell 0 _ rfl) ((HI7.out.vk.later hb3).cell 0 _ rfl) ((HP7.out.later hb3).cell 0 _ rfl) ((HF7.out.later hb3).cell 0 _ rfl))
   obtain ⟨Z, HZ⟩ : ∃ Z, Hid (2 ^ (s + 1) - 1 = Z) := ⟨2 ^ (s + 1) - 1, qfr rfl⟩
   rw [HZ.out] at HMv
   have HFu : Hid (∀ w, Calls Tryz.prog 84 #[.int .i64 ((s + 1 : Nat) : Int)] w fun e w' => e = .returned (.tuple #[.int .u64 (Z : Int), .int .i64 0]) ∧ w = w') := fun w => by rw [← HZ.out]; exact jfull_ok (s + 1) w (by omega)
   obtain ⟨G, HG⟩ : ∃ G, Hid (gpf k s i = G) := ⟨_, rfl⟩
   rw [HG.out] at HMv
   have cs7 := HI7.out.vs.cell 0 _ rfl
   have HQ7 : Hid (w7.drew.cell? ⟨wr.heap.size, 0, none⟩ = some (.int .i64 (i : Int))) := HP7.out.cell 0 _ rfl
   have hbd7 : Below w7.heap.size w7 w7.drew := ⟨rfl, rfl, rfl, Nat.le_refl _, fun _ _ => rfl⟩
   have hmf : ∀ (fn : Fn) (first cap : Array Value) (w : World), (Instr.makeFunc fn first cap).run Tryz.prog w = .ok (.func fn first cap) w := fun _ _ _ _ => rfl
   clear HCn HZ HK4 HK1 HD HB4 HI4 HNext
   go_wp2_with (go_at_call 84; refine (HFu.out _).mono ?_; rintro e w' ⟨rfl, rfl⟩)
   go_region_held3 (fun w' => w'.cell? ⟨wr.heap.size, 0, none⟩ = some (.int .i64 (i : Int)))
    (first
     | exact HK8.out
     | exact HK6.out
     | exact HQ7.out)
    (first
     | (go_at_call 31; refine (HMv.out _ hbd7).mono ?_; rintro e w8 ⟨rfl, hb8⟩; have HB8 : Hid (Below w7.heap.size w7 w8) := qa0 hbd7 hb8; have HI8 : Hid (PoI w w8 bg gd gg k l s R N (pti k l s W X (i + 1)) (fun p => if p < i then gpf k s p else 0)) := HI7.out.later HB8.out; have HI9 : Hid (PoI w (w8.setCell ⟨gg, i, none⟩ (.int .u64 (G : Int))) bg gd gg k l s R N (pti k l s W X (i + 1)) (fun p => if p < i + 1 then gpf k s p else 0)) := (HI8.out.put i G).congr (fun _ _ => rfl) (fun p _ => put_next HG.out p); have cst := HI8.out.grp.cell i hlt; have fst := HI8.out.grp.free i; rw [if_neg (Nat.lt_irrefl i)] at cst; have HK6 : Hid (w8.cell? ⟨wr.heap.size, 0, none⟩ = some (.int .i64 (i : Int))) := (HP7.out.later HB8.out).cell 0 _ rfl; have HK8 : Hid ((w8.setCell ⟨gg, i, none⟩ (.int .u64 (G : Int))).cell? ⟨wr.heap.size, 0, none⟩ = some (.int .i64 (i : Int))) := ((HP7.out.later HB8.out).kept (qa2 _ _ _ _) (by omega)).cell 0 _ rfl; clear hb8))
   go_wp2
   exact ⟨⟨i + 1, by omega, by go_num, HI9.out⟩, by simp [intOf]; omega⟩
  ·obtain rfl : i = l := by omega
   have c0 := HI.out.vg.cell 0 _ rfl
   have c1 := HI.out.vg.cell 1 _ rfl
   have c2 := HI.out.vg.cell 2 _ rfl
   have l1 := HI.out.l1
   have l2 := HI.out.l2
   have l3 := HI.out.l3
   go_wp2_with (refine qb4 rfl 27 _ _ rfl (w.heap.size + 1) _ #[.int .i64 (R : Int), .int .i64 (k : Int), .slice (some ⟨gd, 0, none⟩) N N, .slice (some ⟨gg, 0, none⟩) i i] rfl rfl HI.out.vr sizeCo rfl (occ _ _ _ _ _ _ _ _) ?_; intro w8 HV8 HG8)
   have d0 := HV8.out.cell 0 _ rfl
   have d1 := HV8.out.cell 1 _ rfl
   have d2 := HV8.out.cell 2 _ rfl
   have d3 := HV8.out.cell 3 _ rfl
   refine bodyPost_ret (v := cv R k (some ⟨gd, 0, none⟩) N N (some ⟨gg, 0, none⟩) i i) (by simp [results, Tryz.results54, go_sem, d0, d1, d2, d3, cv]) rfl ?_
   exact ⟨gd, gg, rfl, (HI.out.data.kept HG8.out (by omega)).congr (fun q _ => pti_all k i s W X q), (HI.out.grp.kept HG8.out (by omega)).congr (fun p hp => if_pos hp), qa3 HI.out.below HG8.out (by omega)⟩
end Go.Proofs.YtmgfeepnkahkmaaGreat
