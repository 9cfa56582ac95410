/-
  Rows laid into greater ones; the last rows of a matrix.
-/
import Derived.Test.YtmgfeepnkahkmaaGreatQmmys00
import Derived.Test.YtmgfeepnkahkmaaGreatQmmys32
set_option maxRecDepth 100000
set_option maxHeartbeats 16000000
namespace Go.Proofs.YtmgfeepnkahkmaaGreat
open Go.RowKit
/-- The entries once r rows of c entries are laid from (top, left) on. -/
def lyf (f F : Nat → Nat) (C c top left r q : Nat) : Nat := if top ≤ q / C ∧ q / C < top + r ∧ left ≤ q % C ∧ q % C < left + c then F ((q / C - top) * c + (q % C - left)) else f q
theorem lyf_zero (f F : Nat → Nat) (C c top left q : Nat) : lyf f F C c top left 0 q = f q := if_neg (by omega)
theorem qk1 {C q i : Nat} (hC : 0 < C) (h1 : i * C ≤ q) (h2 : q < i * C + C) : q / C = i ∧ q % C = q - i * C := by
 have e : q / C = i := by
  rw [Nat.div_eq_iff hC]
  omega
 have := Nat.div_add_mod q C
 rw [e, Nat.mul_comm] at this
 exact ⟨e, by omega⟩
theorem lyf_next (f F : Nat → Nat) {C c top left : Nat} (i : Nat) (hl : left + c ≤ C) (hc : 0 < c) (q : Nat) : cpf (lyf f F C c top left i) (fun j => F (i * c + j)) ((top + i) * C + left) c q = lyf f F C c top left (i + 1) q := by
 have hC : 0 < C := by omega
 have e := Nat.div_add_mod q C
 have hm := Nat.mod_lt q hC
 unfold cpf
 by_cases h : (top + i) * C + left ≤ q ∧ q < (top + i) * C + left + c
 ·rw [if_pos h]
  obtain ⟨e1, e2⟩ := qk1 (q := q) (i := top + i) hC (by omega) (by omega)
  show F (i * c + (q - ((top + i) * C + left))) = _
  unfold lyf
  rw [e1, e2, if_pos ⟨by omega, by omega, by omega, by omega⟩]
  congr 1
  rw [show top + i - top = i by omega]
  omega
 ·rw [if_neg h]
  unfold lyf
  have h2 : ¬ (q / C = top + i ∧ left ≤ q % C ∧ q % C < left + c) := by
   rintro ⟨x1, x2, x3⟩
   rw [x1, Nat.mul_comm] at e
   omega
  by_cases h3 : top ≤ q / C ∧ q / C < top + i ∧ left ≤ q % C ∧ q % C < left + c
  ·rw [if_pos h3, if_pos ⟨h3.1, by omega, h3.2.2⟩]
  ·rw [if_neg h3, if_neg (fun x => h3 ⟨x.1, by
    have : ¬ q / C = top + i := fun y => h2 ⟨y, x.2.2⟩
    omega, x.2.2⟩)]
theorem qe4 {w w' : World} {g : Nat} (h : Below w.heap.size w w') : w.grownBy w' (some g) := by
 obtain ⟨x1, x2, x3, x4, x5⟩ := qa6.mpr h
 exact ⟨x1, x2, x3, x4, fun k hk _ => x5 k hk (by simp)⟩
theorem lay16 (w : World) (R C N r c n k top left gd : Nat) (a : Option Addr) (f F : Nat → Nat) (hd : RowAt w gd 5 N f) (ha : Mt w a n k F) (RD : Rt R C N) (RA : Rt r c n) (hof : 0 < n → Off gd a) (ht : top + r ≤ R) (hl : left + c ≤ C) (hc : 0 < c) :
  Calls Tryz.prog 38 #[mv R C (some ⟨gd, 0, none⟩) N N, mv r c a n k, .int .i64 (top : Int), .int .i64 (left : Int)] w fun e w' => e = .returned (.tuple #[]) ∧ RowAt w' gd 5 N (lyf f F C c top left r) ∧ w.grownBy w' (some gd) := by
 obtain ⟨wb, HW⟩ : ∃ wb, Hid ((w.alloc (.cells #[.int .i64 (R : Int), .int .i64 (C : Int), .slice (some ⟨gd, 0, none⟩) N N] 63)).alloc (.cells #[.int .i64 (r : Int), .int .i64 (c : Int), .slice a n k] 63) = wb) := ⟨_, rfl⟩
 have hlt0 : gd < w.heap.size := lt_of_block hd
 have HB0 : Hid (Below w.heap.size w wb) := by rw [← HW.out]; exact qa1 (qa0 _ _) (qa0 _ _)
 have hs0 : wb.heap.size = w.heap.size + 2 := by rw [← HW.out, qaj, qaj]
 have HR0 : Hid (Vq wb w.heap.size 63 #[.int .i64 (R : Int), .int .i64 (C : Int), .slice (some ⟨gd, 0, none⟩) N N]) := by rw [← HW.out]; exact (Vq.new w _ _).later (qa0 _ _)
 have HO0 : Hid (Vq wb (w.heap.size + 1) 63 #[.int .i64 (r : Int), .int .i64 (c : Int), .slice a n k]) := by rw [← HW.out]; exact Vq.new1 _ _ _ _
 have HD0 : Hid (RowAt wb gd 5 N f) := hd.later HB0.out
 have HA0 : Hid (Mt wb a n k F) := ha.later HB0.out
 have HOf : Hid (0 < n → Off gd a) := hof
 have HRD : Hid (Rt R C N) := RD
 have HRA : Hid (Rt r c n) := RA
 have hn : n ≤ 4096 := RA.le
 have hN : N ≤ 4096 := RD.le
 have hr64 := RA.r64
 have hR64 := RD.r64
 have hC64 := RD.c64
 have z0 := HO0.out.cell 0 _ rfl
 clear hd ha RD RA hof
 go_enter Tryz.func38, Tryz.ntmps38
 rw [← HW.out] at z0
 go_wp2
 go_loopw [8, 12] (fun _ j wr => ∃ i : Nat, i ≤ r ∧ j = .int .i64 (i : Int) ∧ RowAt wr gd 5 N (lyf f F C c top left i) ∧ wb.grownBy wr (some gd)) (fun _ j _ => r - (intOf j).toNat)
 case atStart => exact ⟨0, by omega, rfl, by rw [HW.out]; exact HD0.out.congr (fun q _ => (lyf_zero f F C c top left q).symm), by rw [HW.out]; exact qdy _ _⟩
 case round =>
  clear z0
  obtain ⟨i, hi, rfl, hrow, hgr⟩ := hrel
  have HX : Hid (RowAt wr gd 5 N (lyf f F C c top left i)) := hrow
  have HG : Hid (wb.grownBy wr (some gd)) := hgr
  have HV : Hid (Vq wr w.heap.size 63 #[.int .i64 (R : Int), .int .i64 (C : Int), .slice (some ⟨gd, 0, none⟩) N N]) := HR0.out.kept hgr (by omega)
  have HO : Hid (Vq wr (w.heap.size + 1) 63 #[.int .i64 (r : Int), .int .i64 (c : Int), .slice a n k]) := HO0.out.kept hgr (by omega)
  have HA : Hid (Mt wr a n k F) := HA0.out.kept hgr HOf.out
  clear hrow hgr
  by_cases hlt : i < r
  ·obtain ⟨t, HT⟩ : ∃ t, Hid (top + i = t) := ⟨_, rfl⟩
   have htR : t < R := by have := HT.out; omega
   obtain ⟨p, HP⟩ : ∃ p, Hid (t * C = p) := ⟨_, rfl⟩
   obtain ⟨pa, HPa⟩ : ∃ p, Hid (i * c = p) := ⟨_, rfl⟩
   obtain ⟨sa, HSa⟩ : ∃ s, Hid (pc a pa c = s) := ⟨_, rfl⟩
   have HFi : Hid (p + C ≤ N) := by have := HRD.out.fit htR; rw [HP.out] at this; exact this
   have HFa : Hid (pa + c ≤ n) := by have := HRA.out.fit hlt; rw [HPa.out] at this; exact this
   have HSp : Hid (pc (some ⟨gd, 0, none⟩) p C = some ⟨gd, p, none⟩) := qcj gd p C (by omega)
   obtain ⟨hh, HHh⟩ : ∃ hh : Nat → Nat, Hid ((fun j => F (pa + j)) = hh) := ⟨_, rfl⟩
   have HSl : Hid (Sl wr sa c hh) := by have := HA.out.piece HFa.out; rw [HSa.out, HHh.out] at this; exact this
   have HNext : Hid (∀ q, cpf (lyf f F C c top left i) hh (p + left) c q = lyf f F C c top left (i + 1) q) := fun q => by rw [← HHh.out, ← HPa.out, ← HP.out, ← HT.out]; exact lyf_next f F i hl hc q
   have w1 : IntKind.i64.wrap ((top : Int) + (i : Int)) = (t : Int) := by rw [IntKind.wrap_i64]; have := HT.out; omega
   have HD : Hid (wr.drew.cell? ⟨w.heap.size, 0, none⟩ = some (.int .i64 (R : Int)) ∧ wr.drew.cell? ⟨w.heap.size, 1, none⟩ = some (.int .i64 (C : Int)) ∧ wr.drew.cell? ⟨w.heap.size, 2, none⟩ = some (.slice (some ⟨gd, 0, none⟩) N N) ∧ wr.drew.cell? ⟨w.heap.size + 1, 0, none⟩ = some (.int .i64 (r : Int)) ∧ wr.drew.cell? ⟨w.heap.size + 1, 1, none⟩ = some (.int .i64 (c : Int)) ∧ wr.drew.cell? ⟨w.heap.size + 1, 2, none⟩ = some (.slice a n k)) := ⟨HV.out.cell 0 _ rfl, HV.out.cell 1 _ rfl, HV.out.cell 2 _ rfl, HO.out.cell 0 _ rfl, HO.out.cell 1 _ rfl, HO.out.cell 2 _ rfl⟩
   have HBd : Hid (Below wr.heap.size wr wr.drew) := ⟨rfl, rfl, rfl, Nat.le_refl _, fun _ _ => rfl⟩
   have i0 : (0 : Int) ≤ (i : Int) := Int.natCast_nonneg _
   have i1 : (i : Int) < (r : Int) := by omega
   have hlC : left < C := by omega
   have j0 : (0 : Int) ≤ (left : Int) := Int.natCast_nonneg _
   have j1 : (left : Int) ≤ (C : Int) := by omega
   have hneC : ¬ C = left := by omega
   go_wp2
   go_region_held3 (fun w' => w'.cell? ⟨w.heap.size, 0, none⟩ = some (.int .i64 (R : Int)) ∧ w'.cell? ⟨w.heap.size, 1, none⟩ = some (.int .i64 (C : Int)) ∧ w'.cell? ⟨w.heap.size, 2, none⟩ = some (.slice (some ⟨gd, 0, none⟩) N N) ∧ w'.cell? ⟨w.heap.size + 1, 0, none⟩ = some (.int .i64 (r : Int)) ∧ w'.cell? ⟨w.heap.size + 1, 1, none⟩ = some (.int .i64 (c : Int)) ∧ w'.cell? ⟨w.heap.size + 1, 2, none⟩ = some (.slice a n k))
    (first
     | exact HK4.out
     | exact HK2.out
     | exact HK1.out
     | exact HD.out)
    (first
     | (go_at_call 68; have _x := HK1; refine (qg4 _ _ c n k i pa a sa HA.out.nil HA.out.room HFa.out hn (by omega) HPa HSa).mono ?_; rintro e w5 ⟨rfl, hb5⟩; have HB5 : Hid (Below wr.heap.size wr w5) := qa1 HB4.out hb5; have HK2 : Hid (w5.cell? ⟨w.heap.size, 0, none⟩ = some (.int .i64 (R : Int)) ∧ w5.cell? ⟨w.heap.size, 1, none⟩ = some (.int .i64 (C : Int)) ∧ w5.cell? ⟨w.heap.size, 2, none⟩ = some (.slice (some ⟨gd, 0, none⟩) N N) ∧ w5.cell? ⟨w.heap.size + 1, 0, none⟩ = some (.int .i64 (r : Int)) ∧ w5.cell? ⟨w.heap.size + 1, 1, none⟩ = some (.int .i64 (c : Int)) ∧ w5.cell? ⟨w.heap.size + 1, 2, none⟩ = some (.slice a n k)) := ⟨(HV.out.later HB5.out).cell 0 _ rfl, (HV.out.later HB5.out).cell 1 _ rfl, (HV.out.later HB5.out).cell 2 _ rfl, (HO.out.later HB5.out).cell 0 _ rfl, (HO.out.later HB5.out).cell 1 _ rfl, (HO.out.later HB5.out).cell 2 _ rfl⟩; clear hb5)
     | (go_at_call 68; refine (qg4 _ _ C N N t p (some ⟨gd, 0, none⟩) (some ⟨gd, p, none⟩) (fun e => by cases e) (Nat.le_refl _) HFi.out hN (by omega) HP HSp).mono ?_; rintro e w4 ⟨rfl, hb4⟩; have HB4 : Hid (Below wr.heap.size wr w4) := qa1 HBd.out hb4; have HK1 : Hid (w4.cell? ⟨w.heap.size, 0, none⟩ = some (.int .i64 (R : Int)) ∧ w4.cell? ⟨w.heap.size, 1, none⟩ = some (.int .i64 (C : Int)) ∧ w4.cell? ⟨w.heap.size, 2, none⟩ = some (.slice (some ⟨gd, 0, none⟩) N N) ∧ w4.cell? ⟨w.heap.size + 1, 0, none⟩ = some (.int .i64 (r : Int)) ∧ w4.cell? ⟨w.heap.size + 1, 1, none⟩ = some (.int .i64 (c : Int)) ∧ w4.cell? ⟨w.heap.size + 1, 2, none⟩ = some (.slice a n k)) := ⟨(HV.out.later HB4.out).cell 0 _ rfl, (HV.out.later HB4.out).cell 1 _ rfl, (HV.out.later HB4.out).cell 2 _ rfl, (HO.out.later HB4.out).cell 0 _ rfl, (HO.out.later HB4.out).cell 1 _ rfl, (HO.out.later HB4.out).cell 2 _ rfl⟩; clear hb4)
     | (refine qcv rfl _ _ rfl gd (p + left) N c (C - left) (C - left) c sa (lyf f F C c top left i) hh hc (by omega) rfl rfl (HX.out.later HB5.out) (HSl.out.later HB5.out) (by have := HFi.out; omega) ?_; intro w7 HR7 HG7; have HR8 : Hid (RowAt w7 gd 5 N (lyf f F C c top left (i + 1))) := HR7.out.congr (fun q _ => HNext.out q); have HG8 : Hid (wb.grownBy w7 (some gd)) := qab HG.out (qab (qe4 HB5.out) HG7.out); have HV7 := HR0.out.kept HG8.out (by omega); have HO7 := HO0.out.kept HG8.out (by omega); have HK4 : Hid (w7.cell? ⟨w.heap.size, 0, none⟩ = some (.int .i64 (R : Int)) ∧ w7.cell? ⟨w.heap.size, 1, none⟩ = some (.int .i64 (C : Int)) ∧ w7.cell? ⟨w.heap.size, 2, none⟩ = some (.slice (some ⟨gd, 0, none⟩) N N) ∧ w7.cell? ⟨w.heap.size + 1, 0, none⟩ = some (.int .i64 (r : Int)) ∧ w7.cell? ⟨w.heap.size + 1, 1, none⟩ = some (.int .i64 (c : Int)) ∧ w7.cell? ⟨w.heap.size + 1, 2, none⟩ = some (.slice a n k)) := ⟨HV7.cell 0 _ rfl, HV7.cell 1 _ rfl, HV7.cell 2 _ rfl, HO7.cell 0 _ rfl, HO7.cell 1 _ rfl, HO7.cell 2 _ rfl⟩; clear HR7 HG7 HV7 HO7))
   go_wp2
   exact ⟨⟨i + 1, by omega, by go_num, HR8.out, HG8.out⟩, by simp [intOf]; omega⟩
  ·obtain rfl : i = r := by omega
   go_wp2
   go_end0
   exact ⟨rfl, HX.out, qab (qe4 HB0.out) HG.out⟩
structure LaI (w wr : World) (gd bm R c cnt n k N : Nat) (a : Option Addr) (f : Nat → Nat) : Prop where
 va : Vq wr w.heap.size 24 #[.int .i64 (R : Int), .int .i64 (c : Int), .slice a n k]
 vr : Vq wr (w.heap.size + 1) 63 #[.int .i64 0, .int .i64 0, .slice none 0 0]
 vm : Vq wr bm 63 #[.int .i64 (cnt : Int), .int .i64 (c : Int), .slice (some ⟨gd, 0, none⟩) N N]
 data : RowAt wr gd 5 N f
 below : Below w.heap.size w wr
 dlow : w.heap.size + 1 < gd
 mlow : gd < bm
theorem LaI.later {w wr w' : World} {gd bm R c cnt n k N : Nat} {a : Option Addr} {f : Nat → Nat} (h : LaI w wr gd bm R c cnt n k N a f) (hb : Below wr.heap.size wr w') : LaI w w' gd bm R c cnt n k N a f := ⟨h.va.later hb, h.vr.later hb, h.vm.later hb, h.data.later hb, qa1 h.below hb, h.dlow, h.mlow⟩
theorem LaI.copy {w wr w' : World} {gd bm R c cnt n k N : Nat} {a : Option Addr} {f f' : Nat → Nat} (h : LaI w wr gd bm R c cnt n k N a f) (hr : RowAt w' gd 5 N f') (hg : wr.grownBy w' (some gd)) : LaI w w' gd bm R c cnt n k N a f' := ⟨h.va.kept hg (by have := h.dlow; omega), h.vr.kept hg (by have := h.dlow; omega), h.vm.kept hg (by have := h.mlow; omega), hr, qa3 h.below hg (by have := h.dlow; omega), h.dlow, h.mlow⟩
theorem LaI.congr {w wr : World} {gd bm R c cnt n k N : Nat} {a : Option Addr} {f f' : Nat → Nat} (h : LaI w wr gd bm R c cnt n k N a f) (e : ∀ q, q < N → f q = f' q) : LaI w wr gd bm R c cnt n k N a f' := ⟨h.va, h.vr, h.vm, h.data.congr e, h.below, h.dlow, h.mlow⟩
theorem last16 (w : World) (R c n k cnt top N : Nat) (a : Option Addr) (F : Nat → Nat) (ha : Mt w a n k F) (RA : Rt R c n) (ht : top + cnt = R) (HN : Hid (cnt * c = N)) :
  Calls Tryz.prog 56 #[mv R c a n k, .int .i64 (cnt : Int)] w fun e w' => ∃ g, e = .returned (mv cnt c (some ⟨g, 0, none⟩) N N) ∧ RowAt w' g 5 N (fun q => F (top * c + q)) ∧ w.heap.size ≤ g ∧ Below w.heap.size w w' := by
 have hR64 := RA.r64
 have hc64 := RA.c64
 have hn : n ≤ 4096 := RA.le
 have HRA : Hid (Rt R c n) := RA
 have HRu : Hid (Rt cnt c N) := ⟨by omega, hc64, HN.out⟩
 have hN : N ≤ 4096 := HRu.out.le
 have HA : Hid (Mt w a n k F) := ha
 have w1 : IntKind.i64.wrap ((R : Int) - (cnt : Int)) = (top : Int) := by rw [IntKind.wrap_i64]; omega
 obtain ⟨fn, HFn⟩ : ∃ fn : Nat → Nat, Hid ((fun q => F (top * c + q)) = fn) := ⟨_, rfl⟩
 rw [HFn.out]
 obtain ⟨wb, HW⟩ : ∃ wb, Hid ((w.alloc (.cells #[.int .i64 (R : Int), .int .i64 (c : Int), .slice a n k] 24)).alloc (.cells #[.int .i64 0, .int .i64 0, .slice none 0 0] 63) = wb) := ⟨_, rfl⟩
 have HB0 : Hid (Below w.heap.size w wb) := by rw [← HW.out]; exact qa1 (qa0 _ _) (qa0 _ _)
 have hs0 : w.heap.size + 1 < wb.heap.size := by rw [← HW.out, qaj, qaj]; omega
 have HV0 : Hid (Vq wb w.heap.size 24 #[.int .i64 (R : Int), .int .i64 (c : Int), .slice a n k]) := by rw [← HW.out]; exact (Vq.new w _ _).later (qa0 _ _)
 have HZ0 : Hid (Vq wb (w.heap.size + 1) 63 #[.int .i64 0, .int .i64 0, .slice none 0 0]) := by rw [← HW.out]; exact Vq.new1 _ _ _ _
 clear ha RA
 go_enter Tryz.func56, Tryz.ntmps56
 go_wp2_with (first
  | (go_at_call 37; rw [HW.out]; refine (qh1 _ cnt c N (by omega) hc64 HN).mono ?_; rintro e w2 ⟨gd, rfl, hr2, hg2, hb2⟩; have HI0 : Hid (LaI w (w2.alloc (.cells #[.int .i64 (cnt : Int), .int .i64 (c : Int), .slice (some ⟨gd, 0, none⟩) N N] 63)) gd w2.heap.size R c cnt n k N a (fun _ => 0)) := ⟨(HV0.out.later hb2).later (qa0 _ _), (HZ0.out.later hb2).later (qa0 _ _), Vq.new w2 _ _, hr2.later (qa0 _ _), qa1 (qa1 HB0.out hb2) (qa0 _ _), by omega, lt_of_block hr2⟩; clear hr2 hg2 hb2))
 go_loopw [7, 17] (fun _ j wr => ∃ i : Nat, i ≤ cnt ∧ j = .int .i64 (i : Int) ∧ LaI w wr gd w2.heap.size R c cnt n k N a (upf fn (i * c))) (fun _ j _ => cnt - (intOf j).toNat)
 case atStart => exact ⟨0, by omega, rfl, HI0.out.congr (fun p _ => by rw [Nat.zero_mul, qd8])⟩
 case round =>
  clear HI0
  obtain ⟨i, hi, rfl, I⟩ := hrel
  have HI : Hid (LaI w wr gd w2.heap.size R c cnt n k N a (upf fn (i * c))) := I
  clear I
  by_cases hlt : i < cnt
  ·obtain ⟨t, HT⟩ : ∃ t, Hid (top + i = t) := ⟨_, rfl⟩
   have htR : t < R := by have := HT.out; omega
   obtain ⟨p, HP⟩ : ∃ p, Hid (i * c = p) := ⟨_, rfl⟩
   obtain ⟨pa, HPa⟩ : ∃ p, Hid (t * c = p) := ⟨_, rfl⟩
   obtain ⟨sp, HSp⟩ : ∃ s, Hid (pc (some ⟨gd, 0, none⟩) p c = s) := ⟨_, rfl⟩
   obtain ⟨sa, HSa⟩ : ∃ s, Hid (pc a pa c = s) := ⟨_, rfl⟩
   rw [HP.out] at HI
   have HFi : Hid (p + c ≤ N) := by have := HRu.out.fit hlt; rw [HP.out] at this; exact this
   have HFa : Hid (pa + c ≤ n) := by have := HRA.out.fit htR; rw [HPa.out] at this; exact this
   obtain ⟨hh, HHh⟩ : ∃ hh : Nat → Nat, Hid ((fun j => F (pa + j)) = hh) := ⟨_, rfl⟩
   have HSl : Hid (Sl w sa c hh) := by have := HA.out.piece HFa.out; rw [HSa.out, HHh.out] at this; exact this
   have HNext : Hid (∀ q, cpf (upf fn p) hh p c q = upf fn ((i + 1) * c) q) := fun q => by
    rw [qev fn _ p c (fun j hj => by rw [← HFn.out, ← HHh.out, ← HPa.out, ← HP.out, ← HT.out]; dsimp only; congr 1; rw [Nat.add_mul]; omega) q, ← HP.out, Nat.add_mul, Nat.one_mul]
   have w5 : IntKind.i64.wrap ((top : Int) + (i : Int)) = (t : Int) := by rw [IntKind.wrap_i64]; have := HT.out; omega
   have HD : Hid (wr.drew.cell? ⟨w2.heap.size, 0, none⟩ = some (.int .i64 (cnt : Int)) ∧ wr.drew.cell? ⟨w2.heap.size, 1, none⟩ = some (.int .i64 (c : Int)) ∧ wr.drew.cell? ⟨w2.heap.size, 2, none⟩ = some (.slice (some ⟨gd, 0, none⟩) N N) ∧ wr.drew.cell? ⟨w.heap.size, 0, none⟩ = some (.int .i64 (R : Int)) ∧ wr.drew.cell? ⟨w.heap.size, 1, none⟩ = some (.int .i64 (c : Int)) ∧ wr.drew.cell? ⟨w.heap.size, 2, none⟩ = some (.slice a n k)) := ⟨HI.out.vm.cell 0 _ rfl, HI.out.vm.cell 1 _ rfl, HI.out.vm.cell 2 _ rfl, HI.out.va.cell 0 _ rfl, HI.out.va.cell 1 _ rfl, HI.out.va.cell 2 _ rfl⟩
   have HId : Hid (LaI w wr.drew gd w2.heap.size R c cnt n k N a (upf fn p)) := HI.out.later ⟨rfl, rfl, rfl, Nat.le_refl _, fun _ _ => rfl⟩
   have i0 : (0 : Int) ≤ (i : Int) := Int.natCast_nonneg _
   have i1 : (i : Int) < (cnt : Int) := by omega
   go_wp2
   go_region_held3 (fun w' => w'.cell? ⟨w2.heap.size, 0, none⟩ = some (.int .i64 (cnt : Int)) ∧ w'.cell? ⟨w2.heap.size, 1, none⟩ = some (.int .i64 (c : Int)) ∧ w'.cell? ⟨w2.heap.size, 2, none⟩ = some (.slice (some ⟨gd, 0, none⟩) N N) ∧ w'.cell? ⟨w.heap.size, 0, none⟩ = some (.int .i64 (R : Int)) ∧ w'.cell? ⟨w.heap.size, 1, none⟩ = some (.int .i64 (c : Int)) ∧ w'.cell? ⟨w.heap.size, 2, none⟩ = some (.slice a n k))
    (first
     | exact HK4.out
     | exact HK2.out
     | exact HK1.out
     | exact HD.out)
    (first
     | (go_at_call 68; have _x := HK1; refine (qg4 _ _ c n k t pa a sa HA.out.nil HA.out.room HFa.out hn (by omega) HPa HSa).mono ?_; rintro e w5 ⟨rfl, hb5⟩; have HI5 : Hid (LaI w w5 gd w2.heap.size R c cnt n k N a (upf fn p)) := HI4.out.later hb5; have HK2 : Hid (w5.cell? ⟨w2.heap.size, 0, none⟩ = some (.int .i64 (cnt : Int)) ∧ w5.cell? ⟨w2.heap.size, 1, none⟩ = some (.int .i64 (c : Int)) ∧ w5.cell? ⟨w2.heap.size, 2, none⟩ = some (.slice (some ⟨gd, 0, none⟩) N N) ∧ w5.cell? ⟨w.heap.size, 0, none⟩ = some (.int .i64 (R : Int)) ∧ w5.cell? ⟨w.heap.size, 1, none⟩ = some (.int .i64 (c : Int)) ∧ w5.cell? ⟨w.heap.size, 2, none⟩ = some (.slice a n k)) := ⟨HI5.out.vm.cell 0 _ rfl, HI5.out.vm.cell 1 _ rfl, HI5.out.vm.cell 2 _ rfl, HI5.out.va.cell 0 _ rfl, HI5.out.va.cell 1 _ rfl, HI5.out.va.cell 2 _ rfl⟩; clear hb5)
     | (go_at_call 68; refine (qg4 _ _ c N N i p (some ⟨gd, 0, none⟩) sp (fun e => by cases e) (Nat.le_refl _) HFi.out hN (by omega) HP HSp).mono ?_; rintro e w4 ⟨rfl, hb4⟩; have HI4 : Hid (LaI w w4 gd w2.heap.size R c cnt n k N a (upf fn p)) := HId.out.later hb4; have HK1 : Hid (w4.cell? ⟨w2.heap.size, 0, none⟩ = some (.int .i64 (cnt : Int)) ∧ w4.cell? ⟨w2.heap.size, 1, none⟩ = some (.int .i64 (c : Int)) ∧ w4.cell? ⟨w2.heap.size, 2, none⟩ = some (.slice (some ⟨gd, 0, none⟩) N N) ∧ w4.cell? ⟨w.heap.size, 0, none⟩ = some (.int .i64 (R : Int)) ∧ w4.cell? ⟨w.heap.size, 1, none⟩ = some (.int .i64 (c : Int)) ∧ w4.cell? ⟨w.heap.size, 2, none⟩ = some (.slice a n k)) := ⟨HI4.out.vm.cell 0 _ rfl, HI4.out.vm.cell 1 _ rfl, HI4.out.vm.cell 2 _ rfl, HI4.out.va.cell 0 _ rfl, HI4.out.va.cell 1 _ rfl, HI4.out.va.cell 2 _ rfl⟩; clear hb4)
     | (refine qbr rfl _ _ rfl gd p N c c c sp sa (upf fn p) hh rfl rfl HI5.out.data (fun h => by rw [← HSp.out]; exact qcj gd p c h) (HSl.out.later HI5.out.below) HFi.out ?_; intro w7 HR7 HG7; have HI7 : Hid (LaI w w7 gd w2.heap.size R c cnt n k N a (upf fn ((i + 1) * c))) := (HI5.out.copy HR7.out HG7.out).congr (fun q _ => HNext.out q); have HK4 : Hid (w7.cell? ⟨w2.heap.size, 0, none⟩ = some (.int .i64 (cnt : Int)) ∧ w7.cell? ⟨w2.heap.size, 1, none⟩ = some (.int .i64 (c : Int)) ∧ w7.cell? ⟨w2.heap.size, 2, none⟩ = some (.slice (some ⟨gd, 0, none⟩) N N) ∧ w7.cell? ⟨w.heap.size, 0, none⟩ = some (.int .i64 (R : Int)) ∧ w7.cell? ⟨w.heap.size, 1, none⟩ = some (.int .i64 (c : Int)) ∧ w7.cell? ⟨w.heap.size, 2, none⟩ = some (.slice a n k)) := ⟨HI7.out.vm.cell 0 _ rfl, HI7.out.vm.cell 1 _ rfl, HI7.out.vm.cell 2 _ rfl, HI7.out.va.cell 0 _ rfl, HI7.out.va.cell 1 _ rfl, HI7.out.va.cell 2 _ rfl⟩; clear HR7 HG7))
   go_wp2
   exact ⟨⟨i + 1, by omega, by go_num, HI7.out⟩, by simp [intOf]; omega⟩
  ·obtain rfl : i = cnt := by omega
   have HR : Hid (RowAt wr gd 5 N (upf fn (i * c))) := HI.out.data
   have c0 := HI.out.vm.cell 0 _ rfl
   have c1 := HI.out.vm.cell 1 _ rfl
   have c2 := HI.out.vm.cell 2 _ rfl
   have hlow := HI.out.dlow
   go_wp2_with (refine qb1 rfl 63 _ _ rfl (w.heap.size + 1) _ #[.int .i64 (i : Int), .int .i64 (c : Int), .slice (some ⟨gd, 0, none⟩) N N] rfl rfl HI.out.vr sizeRw rfl (ocm _ _ _ _ _) ?_; intro w8 HV8 HG8)
   have d0 := HV8.out.cell 0 _ rfl
   have d1 := HV8.out.cell 1 _ rfl
   have d2 := HV8.out.cell 2 _ rfl
   refine bodyPost_ret (v := mv i c (some ⟨gd, 0, none⟩) N N) (by simp [results, Tryz.results56, go_sem, d0, d1, d2, mv]) rfl ?_
   refine ⟨gd, rfl, (HR.out.kept HG8.out (by omega)).congr (fun q hq => ?_), by omega, qa3 HI.out.below HG8.out (by omega)⟩
   unfold upf
   rw [HN.out, if_pos hq]
end Go.Proofs.YtmgfeepnkahkmaaGreat
