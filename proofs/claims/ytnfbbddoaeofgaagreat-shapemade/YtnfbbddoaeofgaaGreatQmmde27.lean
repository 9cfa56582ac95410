/-
  Contracts of the program's matrices: Mul's errors, Apply, Transpose.
  Contracts of the program's matrices: Transpose.
  Contracts of the program's matrices: Pick.
  Contracts of the program's matrices: ofRows, Of.
  Contracts of the program's matrices: Of.
  Contracts of the program's matrices: rowsOf.
-/
import Derived.Test.YtnfbbddoaeofgaaGreatQmmde00
import Derived.Test.YtnfbbddoaeofgaaGreatQmmde26
set_option maxRecDepth 100000
set_option maxHeartbeats 16000000
namespace Go.Proofs.YtnfbbddoaeofgaaGreat
open Go.RowKit
/-- What the loops of a call with one matrix and an answer keep. -/
structure NInv (w wr : World) (gd g6 r c R C n k N : Nat) (a : Option Addr) (fn : Nat → Nat) : Prop where
 va : Vr wr w.heap.size (.int .i64 (r : Int)) (.int .i64 (c : Int)) (.slice a n k)
 vr : Vr wr (w.heap.size + 1) (.int .i64 0) (.int .i64 0) (.slice none 0 0)
 vm : Vr wr g6 (.int .i64 (R : Int)) (.int .i64 (C : Int)) (.slice (some ⟨gd, 0, none⟩) N N)
 data : RowAt wr gd 5 N fn
 below : Below w.heap.size w wr
 d6 : gd ≠ g6
 dlow : w.heap.size + 1 < gd
theorem NInv.congr {w wr : World} {gd g6 r c R C n k N : Nat} {a : Option Addr} {fn fn' : Nat → Nat} (I : NInv w wr gd g6 r c R C n k N a fn) (e : ∀ p, p < N → fn p = fn' p) : NInv w wr gd g6 r c R C n k N a fn' := ⟨I.va, I.vr, I.vm, I.data.congr e, I.below, I.d6, I.dlow⟩
theorem NInv.later {w wr w' : World} {gd g6 r c R C n k N : Nat} {a : Option Addr} {fn : Nat → Nat} (I : NInv w wr gd g6 r c R C n k N a fn) (hb : Below wr.heap.size wr w') : NInv w w' gd g6 r c R C n k N a fn := ⟨I.va.later hb, I.vr.later hb, I.vm.later hb, I.data.later hb, qa1 I.below hb, I.d6, I.dlow⟩
theorem NInv.copy {w wr w' : World} {gd g6 r c R C n k N : Nat} {a : Option Addr} {fn fn' : Nat → Nat} (I : NInv w wr gd g6 r c R C n k N a fn) (hr : RowAt w' gd 5 N fn') (hg : wr.grownBy w' (some gd)) : NInv w w' gd g6 r c R C n k N a fn' :=
 have d := I.dlow
 ⟨I.va.kept hg (by omega), I.vr.kept hg (by omega), I.vm.kept hg (Ne.symm I.d6), hr, qa2 I.below hg (by omega), I.d6, I.dlow⟩
theorem NInv.drew {w wr : World} {gd g6 r c R C n k N : Nat} {a : Option Addr} {fn : Nat → Nat} (I : NInv w wr gd g6 r c R C n k N a fn) : NInv w wr.drew gd g6 r c R C n k N a fn := I.later (Below.refl _ _).drew
theorem upf_step (f : Nat → Nat) (q v : Nat) (hv : v = f q) (p : Nat) : (if p = q then v else upf f q p) = upf f (q + 1) p := by
 unfold upf
 by_cases h : p = q
 ·subst h; rw [if_pos rfl, if_pos (by omega), hv]
 ·rw [if_neg h]
  by_cases h2 : p < q
  ·rw [if_pos h2, if_pos (by omega)]
  ·rw [if_neg h2, if_neg (by omega)]
theorem NInv.set {w wr : World} {gd g6 r c R C n k N q v : Nat} {a : Option Addr} {f : Nat → Nat} (I : NInv w wr gd g6 r c R C n k N a (upf f q)) (hv : v = f q) : NInv w (wr.setCell ⟨gd, q, none⟩ (.int .u8 (v : Int))) gd g6 r c R C n k N a (upf f (q + 1)) :=
 I.copy ((I.data.set q v).congr (fun p _ => upf_step f q v hv p)) (qa3 _ _ _ _)
theorem Rt.turn {r c n : Nat} (h : Rt r c n) : Rt c r n := ⟨h.c64, h.r64, by rw [Nat.mul_comm]; exact h.len⟩
open Go.RowKit
theorem qfh (w : World) (r c n k m d N : Nat) (a b : Option Addr) (F z : Nat → Nat) (ha : Mt w a n k F) (R : Rt r c n) (hb : Il w b m (fun i => (z i : Int))) (hz : ∀ i, i < m → z i < r) (hm : m ≤ 64) (HN : Hid (m * c = N)) :
  Calls Tryz.prog 111 #[mv r c a n k, .slice b m d] w fun e w' => ∃ g, e = .returned (.tuple #[mv m c (some ⟨g, 0, none⟩) N N, .int .i64 0]) ∧ RowAt w' g 5 N (pkf F z c) ∧ w.heap.size ≤ g ∧ Below w.heap.size w w' := by
 have HRt : Hid (Rt r c n) := R
 have HRu : Hid (Rt m c N) := ⟨hm, R.c64, HN.out⟩
 have hn := R.le
 have hN := HRu.out.le
 have hr64 := R.r64
 have hc64 := R.c64
 have HA : Hid (Mt w a n k F) := ha
 have HIb : Hid (Il w b m (fun i => (z i : Int))) := hb
 have HZ : Hid (∀ i, i < m → z i < r) := hz
 obtain ⟨q, HQ⟩ : ∃ q : Nat → Int, Hid (∀ i, q i = (z i : Int)) := ⟨fun i => (z i : Int), fun _ => rfl⟩
 have HIn : Hid (∀ i, i < m → 0 ≤ q i ∧ q i < r) := fun i hi => by rw [HQ.out]; have := hz i hi; omega
 obtain ⟨fn, HFn⟩ : ∃ fn : Nat → Nat, Hid (pkf F z c = fn) := ⟨_, rfl⟩
 rw [HFn.out]
 obtain ⟨wb, HW, HX⟩ : ∃ wb, Hid (wb = (w.alloc (.cells #[.int .i64 (r : Int), .int .i64 (c : Int), .slice a n k] 24)).alloc (.cells #[.int .i64 0, .int .i64 0, .slice none 0 0] 24)) ∧ Hid (Box2 w wb r c n k a) := ⟨_, rfl, box2 w r c n k a⟩
 have hIq : Il w b m q := fun i hi => by obtain ⟨x, o, e, hc⟩ := hb i hi; exact ⟨x, o, e, by rw [HQ.out]; exact hc⟩
 clear HIb
 have HIb : Hid (Il w b m q) := hIq
 clear ha R hb hz hIq
 go_enter Tryz.func111, Tryz.ntmps111
 go_wp2_with (first
  | (go_at_call 90; rw [← HW.out]; refine (qb9 _ _ _ _ _ _ HRt.out.p).mono ?_; rintro e w2 ⟨rfl, hb2⟩; have HB2 : Hid (Below wb.heap.size wb w2) := hb2; clear hb2))
 go_loopw [7, 16] (fun _ j wr => ∃ t' : Nat, t' ≤ m ∧ j = .int .i64 (t' : Int) ∧ Below wb.heap.size wb wr) (fun _ j _ => m - (intOf j).toNat)
 case atStart => exact ⟨0, by omega, rfl, HB2.out⟩
 case round =>
  clear HB2
  obtain ⟨i, hi, rfl, hbr⟩ := hrel
  have HB2 : Hid (Below wb.heap.size wb wr) := hbr
  have a0 := (HX.out.va.later hbr).c0
  have a1 := (HX.out.va.later hbr).c1
  have a2 := (HX.out.va.later hbr).c2
  clear hbr
  by_cases hlt : i < m
  ·obtain ⟨x, o, eb, hci⟩ := HIb.out i (by omega)
   have hcw : wr.cell? ⟨x, o + i, none⟩ = some (.int .i64 (q i)) := keepc (qa1 HX.out.below HB2.out) hci
   obtain ⟨y, HY⟩ : ∃ y, Hid (q i = y) := ⟨_, rfl⟩
   rw [HY.out] at hcw
   have HH : Hid (0 ≤ y ∧ y < r) := by have := HIn.out i hlt; rw [HY.out] at this; exact this
   have i1 : (i : Int) < (m : Int) := by omega
   clear hci
   subst eb
   go_wp2_with (go_at_call 91; refine (qeu _ _ _ _ _ _ _ HH.out).mono ?_; rintro e w3 ⟨rfl, hb3⟩; have HB3 : Hid (Below wb.heap.size wb w3) := qa1 HB2.out hb3; clear hb3)
   exact ⟨⟨i + 1, by omega, by go_num, HB3.out⟩, by simp [intOf]; omega⟩
  ·obtain rfl : m = i := by omega
   go_wp2_with (first
    | (go_at_call 94; refine (qdj _ _ ⟨by omega, by omega⟩).mono ?_; rintro e w' ⟨rfl, rfl⟩)
    | (go_at_call 95; refine (qbo _ m c N hm hc64 HN).mono ?_; rintro e w3 ⟨gd, rfl, hr3, hg3, hb3⟩; have HR3 : Hid (RowAt w3 gd 5 N (fun _ => 0)) := hr3; have HB3 : Hid (Below wb.heap.size wb w3) := qa1 HB2.out hb3; have l2 := HB2.out.size; have hg4 : wr.heap.size ≤ gd := hg3; have m0' := (Vr.new w3 (.int .i64 (m : Int)) (.int .i64 (c : Int)) (.slice (some ⟨gd, 0, none⟩) N N)).c0; clear hr3 hb3 hg3))
   have HI0 : Hid (NInv w (w3.alloc (.cells #[.int .i64 (m : Int), .int .i64 (c : Int), .slice (some ⟨gd, 0, none⟩) N N] 24)) gd w3.heap.size r c m c n k N a (fun _ => 0)) := by
    have l0 := HX.out.vr.lt
    have l3 := HR3.out.lt
    exact ⟨(HX.out.va.later HB3.out).later (qa0 _ _), (HX.out.vr.later HB3.out).later (qa0 _ _), Vr.new w3 _ _ _, HR3.out.later (qa0 _ _), qa1 (qa1 HX.out.below HB3.out) (qa0 _ _), by omega, by omega⟩
   clear HW HX HB2 HR3 HB3 a0 a1 a2 m0' hlt hi
   go_loopw [9, 38] (fun _ j wr => ∃ i : Nat, i ≤ m ∧ j = .int .i64 (i : Int) ∧ NInv w wr gd w3.heap.size r c m c n k N a (upf fn (i * c))) (fun _ j _ => m - (intOf j).toNat)
   case atStart => exact ⟨0, by omega, rfl, HI0.out.congr (fun p _ => by rw [Nat.zero_mul, qdq])⟩
   case round =>
    clear HI0
    obtain ⟨i, hi, rfl, I⟩ := hrel
    have HI : Hid (NInv w wr gd w3.heap.size r c m c n k N a (upf fn (i * c))) := I
    clear I
    by_cases hlt : i < m
    ·obtain ⟨x, o, eb, hci⟩ := HIb.out i hlt
     rw [HQ.out] at hci
     obtain ⟨y, HY⟩ : ∃ y, Hid (z i = y) := ⟨_, rfl⟩
     rw [HY.out] at hci
     have hyr : y < r := by rw [← HY.out]; exact HZ.out i hlt
     obtain ⟨p, HP⟩ : ∃ p, Hid (i * c = p) := ⟨_, rfl⟩
     obtain ⟨pa, HPa⟩ : ∃ p, Hid (y * c = p) := ⟨_, rfl⟩
     obtain ⟨sp, HSp⟩ : ∃ s, Hid (pc (some ⟨gd, 0, none⟩) p c = s) := ⟨_, rfl⟩
     obtain ⟨sa, HSa⟩ : ∃ s, Hid (pc a pa c = s) := ⟨_, rfl⟩
     rw [HP.out] at HI
     have HFi : Hid (p + c ≤ N) := by have := HRu.out.fit hlt; rw [HP.out] at this; exact this
     have HFa : Hid (pa + c ≤ n) := by have := HRt.out.fit hyr; rw [HPa.out] at this; exact this
     obtain ⟨hh, HHh⟩ : ∃ hh : Nat → Nat, Hid ((fun j => F (pa + j)) = hh) := ⟨_, rfl⟩
     have HSl : Hid (Sl w sa c hh) := by have := HA.out.piece HFa.out; rw [HSa.out, HHh.out] at this; exact this
     have HNext : Hid (∀ q, cpf (upf fn p) hh p c q = upf fn ((i + 1) * c) q) := fun q => by
      rw [qdr fn _ p c (fun j hj => by rw [← HFn.out, ← HP.out, qhk F z c i j hj, HY.out, HPa.out, ← HHh.out]) q, ← HP.out, Nat.add_mul, Nat.one_mul]
     have HD : Hid (wr.drew.cell? ⟨w3.heap.size, 0, none⟩ = some (.int .i64 (m : Int)) ∧ wr.drew.cell? ⟨w3.heap.size, 1, none⟩ = some (.int .i64 (c : Int)) ∧ wr.drew.cell? ⟨w3.heap.size, 2, none⟩ = some (.slice (some ⟨gd, 0, none⟩) N N) ∧ wr.drew.cell? ⟨w.heap.size, 0, none⟩ = some (.int .i64 (r : Int)) ∧ wr.drew.cell? ⟨w.heap.size, 1, none⟩ = some (.int .i64 (c : Int)) ∧ wr.drew.cell? ⟨w.heap.size, 2, none⟩ = some (.slice a n k) ∧ wr.drew.cell? ⟨x, o + i, none⟩ = some (.int .i64 (y : Int))) := ⟨HI.out.vm.c0, HI.out.vm.c1, HI.out.vm.c2, HI.out.va.c0, HI.out.va.c1, HI.out.va.c2, keepc HI.out.drew.below hci⟩
     have i0 : (0 : Int) ≤ (i : Int) := Int.natCast_nonneg _
     have i1 : (i : Int) < (m : Int) := by omega
     subst eb
     go_wp2
     go_region_held3 (fun w' => w'.cell? ⟨w3.heap.size, 0, none⟩ = some (.int .i64 (m : Int)) ∧ w'.cell? ⟨w3.heap.size, 1, none⟩ = some (.int .i64 (c : Int)) ∧ w'.cell? ⟨w3.heap.size, 2, none⟩ = some (.slice (some ⟨gd, 0, none⟩) N N) ∧ w'.cell? ⟨w.heap.size, 0, none⟩ = some (.int .i64 (r : Int)) ∧ w'.cell? ⟨w.heap.size, 1, none⟩ = some (.int .i64 (c : Int)) ∧ w'.cell? ⟨w.heap.size, 2, none⟩ = some (.slice a n k) ∧ w'.cell? ⟨x, o + i, none⟩ = some (.int .i64 (y : Int)))
      (first
       | exact HK4.out
       | exact HK2.out
       | exact HK1.out
       | exact HD.out)
      (first
       | (go_at_call 92; have _x := HK1; refine (qaz _ _ c n k y pa a sa HA.out.nil HA.out.room HFa.out hn (by omega) HPa HSa).mono ?_; rintro e w5 ⟨rfl, hb5⟩; have HI5 : Hid (NInv w w5 gd w3.heap.size r c m c n k N a (upf fn p)) := HI4.out.later hb5; have HK2 : Hid (w5.cell? ⟨w3.heap.size, 0, none⟩ = some (.int .i64 (m : Int)) ∧ w5.cell? ⟨w3.heap.size, 1, none⟩ = some (.int .i64 (c : Int)) ∧ w5.cell? ⟨w3.heap.size, 2, none⟩ = some (.slice (some ⟨gd, 0, none⟩) N N) ∧ w5.cell? ⟨w.heap.size, 0, none⟩ = some (.int .i64 (r : Int)) ∧ w5.cell? ⟨w.heap.size, 1, none⟩ = some (.int .i64 (c : Int)) ∧ w5.cell? ⟨w.heap.size, 2, none⟩ = some (.slice a n k) ∧ w5.cell? ⟨x, o + i, none⟩ = some (.int .i64 (y : Int))) := ⟨HI5.out.vm.c0, HI5.out.vm.c1, HI5.out.vm.c2, HI5.out.va.c0, HI5.out.va.c1, HI5.out.va.c2, keepc HI5.out.below hci⟩; clear hb5)
       | (go_at_call 92; refine (qaz _ _ c N N i p (some ⟨gd, 0, none⟩) sp (fun e => by cases e) (Nat.le_refl _) HFi.out hN (by omega) HP HSp).mono ?_; rintro e w4 ⟨rfl, hb4⟩; have HI4 : Hid (NInv w w4 gd w3.heap.size r c m c n k N a (upf fn p)) := (HI.out.drew).later hb4; have HK1 : Hid (w4.cell? ⟨w3.heap.size, 0, none⟩ = some (.int .i64 (m : Int)) ∧ w4.cell? ⟨w3.heap.size, 1, none⟩ = some (.int .i64 (c : Int)) ∧ w4.cell? ⟨w3.heap.size, 2, none⟩ = some (.slice (some ⟨gd, 0, none⟩) N N) ∧ w4.cell? ⟨w.heap.size, 0, none⟩ = some (.int .i64 (r : Int)) ∧ w4.cell? ⟨w.heap.size, 1, none⟩ = some (.int .i64 (c : Int)) ∧ w4.cell? ⟨w.heap.size, 2, none⟩ = some (.slice a n k) ∧ w4.cell? ⟨x, o + i, none⟩ = some (.int .i64 (y : Int))) := ⟨HI4.out.vm.c0, HI4.out.vm.c1, HI4.out.vm.c2, HI4.out.va.c0, HI4.out.va.c1, HI4.out.va.c2, keepc HI4.out.below hci⟩; clear hb4)
       | (refine qbj rfl _ _ rfl gd p N c c c sp sa (upf fn p) hh rfl rfl HI5.out.data (fun h => by rw [← HSp.out]; exact qcx gd p c h) (HSl.out.later HI5.out.below) HFi.out ?_; intro w7 HR7 HG7; have HI7 : Hid (NInv w w7 gd w3.heap.size r c m c n k N a (upf fn ((i + 1) * c))) := (HI5.out.copy HR7.out HG7.out).congr (fun q _ => HNext.out q); have HK4 : Hid (w7.cell? ⟨w3.heap.size, 0, none⟩ = some (.int .i64 (m : Int)) ∧ w7.cell? ⟨w3.heap.size, 1, none⟩ = some (.int .i64 (c : Int)) ∧ w7.cell? ⟨w3.heap.size, 2, none⟩ = some (.slice (some ⟨gd, 0, none⟩) N N) ∧ w7.cell? ⟨w.heap.size, 0, none⟩ = some (.int .i64 (r : Int)) ∧ w7.cell? ⟨w.heap.size, 1, none⟩ = some (.int .i64 (c : Int)) ∧ w7.cell? ⟨w.heap.size, 2, none⟩ = some (.slice a n k) ∧ w7.cell? ⟨x, o + i, none⟩ = some (.int .i64 (y : Int))) := ⟨HI7.out.vm.c0, HI7.out.vm.c1, HI7.out.vm.c2, HI7.out.va.c0, HI7.out.va.c1, HI7.out.va.c2, keepc HI7.out.below hci⟩; clear HR7 HG7))
     go_wp2
     exact ⟨⟨i + 1, by omega, by go_num, HI7.out⟩, by simp [intOf]; omega⟩
    ·obtain rfl : i = m := by omega
     have HR : Hid (RowAt wr gd 5 N (upf fn (i * c))) := HI.out.data
     have c0 := HI.out.vm.c0
     have c1 := HI.out.vm.c1
     have c2 := HI.out.vm.c2
     have hlow := HI.out.dlow
     go_wp2_with (refine qa5 rfl _ _ rfl (w.heap.size + 1) _ _ _ (.int .i64 (i : Int)) (.int .i64 (c : Int)) (.slice (some ⟨gd, 0, none⟩) N N) rfl rfl HI.out.vr rfl rfl rfl ?_; intro w8 HV8 HG8)
     have d0 := HV8.out.c0
     have d1 := HV8.out.c1
     have d2 := HV8.out.c2
     refine bodyPost_ret (v := .tuple #[mv i c (some ⟨gd, 0, none⟩) N N, .int .i64 0]) (by simp [results, Tryz.results111, go_sem, d0, d1, d2, mv]) rfl ?_
     exact ⟨gd, rfl, (HR.out.kept HG8.out (by omega)).congr (qgn fn (by rw [HRu.out.len]; exact Nat.le_refl _)), by omega, qa2 HI.out.below HG8.out (by omega)⟩
open Go.RowKit
/-- What the loop of a matrix of rows keeps. -/
structure OfI (w wr : World) (gd g6 m c N : Nat) (fn : Nat → Nat) : Prop where
 vr : Vr wr w.heap.size (.int .i64 0) (.int .i64 0) (.slice none 0 0)
 vm : Vr wr g6 (.int .i64 (m : Int)) (.int .i64 (c : Int)) (.slice (some ⟨gd, 0, none⟩) N N)
 data : RowAt wr gd 5 N fn
 below : Below w.heap.size w wr
 d6 : gd ≠ g6
 dlow : w.heap.size < gd
theorem OfI.congr {w wr : World} {gd g6 m c N : Nat} {fn fn' : Nat → Nat} (I : OfI w wr gd g6 m c N fn) (e : ∀ p, p < N → fn p = fn' p) : OfI w wr gd g6 m c N fn' := ⟨I.vr, I.vm, I.data.congr e, I.below, I.d6, I.dlow⟩
theorem OfI.later {w wr w' : World} {gd g6 m c N : Nat} {fn : Nat → Nat} (I : OfI w wr gd g6 m c N fn) (hb : Below wr.heap.size wr w') : OfI w w' gd g6 m c N fn := ⟨I.vr.later hb, I.vm.later hb, I.data.later hb, qa1 I.below hb, I.d6, I.dlow⟩
theorem OfI.copy {w wr w' : World} {gd g6 m c N : Nat} {fn fn' : Nat → Nat} (I : OfI w wr gd g6 m c N fn) (hr : RowAt w' gd 5 N fn') (hg : wr.grownBy w' (some gd)) : OfI w w' gd g6 m c N fn' :=
 have d := I.dlow
 ⟨I.vr.kept hg (by omega), I.vm.kept hg (Ne.symm I.d6), hr, qa2 I.below hg (by omega), I.d6, I.dlow⟩
theorem OfI.drew {w wr : World} {gd g6 m c N : Nat} {fn : Nat → Nat} (I : OfI w wr gd g6 m c N fn) : OfI w wr.drew gd g6 m c N fn := I.later (Below.refl _ _).drew
theorem qj1 (w : World) (m c d N : Nat) (b : Option Addr) (A : Nat → Option Addr) (L C : Nat → Nat) (f : Nat → Nat → Nat) (hb : Rl w b m A L C f) (hL : ∀ i, i < m → L i = c) (hm : m ≤ 64) (hc : c ≤ 64) (HN : Hid (m * c = N)) :
  Calls Tryz.prog 122 #[.int .i64 (c : Int), .slice b m d] w fun e w' => ∃ g, e = .returned (mv m c (some ⟨g, 0, none⟩) N N) ∧ RowAt w' g 5 N (off f c) ∧ w.heap.size ≤ g ∧ Below w.heap.size w w' := by
 have HRu : Hid (Rt m c N) := ⟨hm, hc, HN.out⟩
 have hN := HRu.out.le
 have HRl : Hid (Rl w b m A L C f) := hb
 have HL : Hid (∀ i, i < m → L i = c) := hL
 obtain ⟨fn, HFn⟩ : ∃ fn : Nat → Nat, Hid (off f c = fn) := ⟨_, rfl⟩
 rw [HFn.out]
 have HVw : Hid (Vr (w.alloc (.cells #[.int .i64 0, .int .i64 0, .slice none 0 0] 24)) w.heap.size (.int .i64 0) (.int .i64 0) (.slice none 0 0)) := Vr.new w _ _ _
 clear hb hL
 go_enter Tryz.func122, Tryz.ntmps122
 go_wp2_with (first
  | (go_at_call 95; refine (qbo _ m c N hm hc HN).mono ?_; rintro e w3 ⟨gd, rfl, hr3, hg3, hb3⟩; have HR3 : Hid (RowAt w3 gd 5 N (fun _ => 0)) := hr3; have HB3 : Hid (Below w.heap.size w w3) := qa1 (qa0 _ _) hb3; have HV3 : Hid (Vr w3 w.heap.size (.int .i64 0) (.int .i64 0) (.slice none 0 0)) := HVw.out.later hb3; have hg4 : w.heap.size + 1 ≤ gd := by { have := hg3; simpa using this }; have m0' := (Vr.new w3 (.int .i64 (m : Int)) (.int .i64 (c : Int)) (.slice (some ⟨gd, 0, none⟩) N N)).c0; clear hr3 hb3 hg3))
 have HI0 : Hid (OfI w (w3.alloc (.cells #[.int .i64 (m : Int), .int .i64 (c : Int), .slice (some ⟨gd, 0, none⟩) N N] 24)) gd w3.heap.size m c N (fun _ => 0)) := by
  have l3 := HR3.out.lt
  exact ⟨HV3.out.later (qa0 _ _), Vr.new w3 _ _ _, HR3.out.later (qa0 _ _), qa1 HB3.out (qa0 _ _), by omega, by omega⟩
 clear HVw HR3 HB3 HV3 m0'
 go_loopw [6, 13] (fun _ j wr => ∃ i : Nat, i ≤ m ∧ j = .int .i64 (i : Int) ∧ OfI w wr gd w3.heap.size m c N (upf fn (i * c))) (fun _ j _ => m - (intOf j).toNat)
 case atStart => exact ⟨0, by omega, rfl, HI0.out.congr (fun p _ => by rw [Nat.zero_mul, qdq])⟩
 case round =>
  clear HI0
  obtain ⟨i, hi, rfl, I⟩ := hrel
  have HI : Hid (OfI w wr gd w3.heap.size m c N (upf fn (i * c))) := I
  clear I
  by_cases hlt : i < m
  ·obtain ⟨x, o, eb, hci⟩ := HRl.out.at' i hlt
   have hsl := HRl.out.sl i hlt
   rw [HL.out i hlt] at hci hsl
   obtain ⟨sa, HSa⟩ : ∃ s, Hid (A i = s) := ⟨_, rfl⟩
   obtain ⟨ca, HCa⟩ : ∃ s, Hid (C i = s) := ⟨_, rfl⟩
   obtain ⟨hh, HHh⟩ : ∃ s, Hid (f i = s) := ⟨_, rfl⟩
   rw [HSa.out, HCa.out] at hci
   rw [HSa.out, HHh.out] at hsl
   have HSl : Hid (Sl w sa c hh) := hsl
   obtain ⟨p, HP⟩ : ∃ p, Hid (i * c = p) := ⟨_, rfl⟩
   obtain ⟨sp, HSp⟩ : ∃ s, Hid (pc (some ⟨gd, 0, none⟩) p c = s) := ⟨_, rfl⟩
   rw [HP.out] at HI
   have HFi : Hid (p + c ≤ N) := by have := HRu.out.fit hlt; rw [HP.out] at this; exact this
   have HNext : Hid (∀ q, cpf (upf fn p) hh p c q = upf fn ((i + 1) * c) q) := fun q => by
    rw [qdr fn _ p c (fun j hj => by rw [← HFn.out, ← HP.out, off_at f c i j hj, HHh.out]) q, ← HP.out, Nat.add_mul, Nat.one_mul]
   have HD : Hid (wr.drew.cell? ⟨w3.heap.size, 0, none⟩ = some (.int .i64 (m : Int)) ∧ wr.drew.cell? ⟨w3.heap.size, 1, none⟩ = some (.int .i64 (c : Int)) ∧ wr.drew.cell? ⟨w3.heap.size, 2, none⟩ = some (.slice (some ⟨gd, 0, none⟩) N N) ∧ wr.drew.cell? ⟨x, o + i, none⟩ = some (.slice sa c ca)) := ⟨HI.out.drew.vm.c0, HI.out.drew.vm.c1, HI.out.drew.vm.c2, keepc HI.out.drew.below hci⟩
   have i0 : (0 : Int) ≤ (i : Int) := Int.natCast_nonneg _
   have i1 : (i : Int) < (m : Int) := by omega
   clear hsl
   subst eb
   go_wp2
   go_region_held3 (fun w' => w'.cell? ⟨w3.heap.size, 0, none⟩ = some (.int .i64 (m : Int)) ∧ w'.cell? ⟨w3.heap.size, 1, none⟩ = some (.int .i64 (c : Int)) ∧ w'.cell? ⟨w3.heap.size, 2, none⟩ = some (.slice (some ⟨gd, 0, none⟩) N N) ∧ w'.cell? ⟨x, o + i, none⟩ = some (.slice sa c ca))
    (first
     | exact HK4.out
     | exact HK1.out
     | exact HD.out)
    (first
     | (go_at_call 92; refine (qaz _ _ c N N i p (some ⟨gd, 0, none⟩) sp (fun e => by cases e) (Nat.le_refl _) HFi.out hN (by omega) HP HSp).mono ?_; rintro e w4 ⟨rfl, hb4⟩; have HI4 : Hid (OfI w w4 gd w3.heap.size m c N (upf fn p)) := (HI.out.drew).later hb4; have HK1 : Hid (w4.cell? ⟨w3.heap.size, 0, none⟩ = some (.int .i64 (m : Int)) ∧ w4.cell? ⟨w3.heap.size, 1, none⟩ = some (.int .i64 (c : Int)) ∧ w4.cell? ⟨w3.heap.size, 2, none⟩ = some (.slice (some ⟨gd, 0, none⟩) N N) ∧ w4.cell? ⟨x, o + i, none⟩ = some (.slice sa c ca)) := ⟨HI4.out.vm.c0, HI4.out.vm.c1, HI4.out.vm.c2, keepc HI4.out.below hci⟩; clear hb4)
     | (refine qbj rfl _ _ rfl gd p N c c ca sp sa (upf fn p) hh rfl rfl HI4.out.data (fun h => by rw [← HSp.out]; exact qcx gd p c h) (HSl.out.later HI4.out.below) HFi.out ?_; intro w7 HR7 HG7; have HI7 : Hid (OfI w w7 gd w3.heap.size m c N (upf fn ((i + 1) * c))) := (HI4.out.copy HR7.out HG7.out).congr (fun q _ => HNext.out q); have HK4 : Hid (w7.cell? ⟨w3.heap.size, 0, none⟩ = some (.int .i64 (m : Int)) ∧ w7.cell? ⟨w3.heap.size, 1, none⟩ = some (.int .i64 (c : Int)) ∧ w7.cell? ⟨w3.heap.size, 2, none⟩ = some (.slice (some ⟨gd, 0, none⟩) N N) ∧ w7.cell? ⟨x, o + i, none⟩ = some (.slice sa c ca)) := ⟨HI7.out.vm.c0, HI7.out.vm.c1, HI7.out.vm.c2, keepc HI7.out.below hci⟩; clear HR7 HG7))
   go_wp2
   exact ⟨⟨i + 1, by omega, by go_num, HI7.out⟩, by simp [intOf]; omega⟩
  ·obtain rfl : i = m := by omega
   have HR : Hid (RowAt wr gd 5 N (upf fn (i * c))) := HI.out.data
   have c0 := HI.out.vm.c0
   have c1 := HI.out.vm.c1
   have c2 := HI.out.vm.c2
   have hlow := HI.out.dlow
   go_wp2_with (refine qa5 rfl _ _ rfl w.heap.size _ _ _ (.int .i64 (i : Int)) (.int .i64 (c : Int)) (.slice (some ⟨gd, 0, none⟩) N N) rfl rfl HI.out.vr rfl rfl rfl ?_; intro w8 HV8 HG8)
   have d0 := HV8.out.c0
   have d1 := HV8.out.c1
   have d2 := HV8.out.c2
   refine bodyPost_ret (v := mv i c (some ⟨gd, 0, none⟩) N N) (by simp [results, Tryz.results122, go_sem, d0, d1, d2, mv]) rfl ?_
   exact ⟨gd, rfl, (HR.out.kept HG8.out (by omega)).congr (qgn fn (by rw [HRu.out.len]; exact Nat.le_refl _)), by omega, qa2 HI.out.below HG8.out (Nat.le_refl _)⟩
open Go.RowKit
/-- A row of values. -/
def vrow (n : Nat) (v : Nat → Value) : Array Value := (Array.range n).map v
theorem qb0 (n : Nat) (v : Nat → Value) : (vrow n v).size = n := by simp [vrow]
theorem qd4 (n : Nat) (v : Nat → Value) (i : Nat) (h : i < n) : (vrow n v)[i]? = some (v i) := by simp [vrow, h]
theorem vrow_set (n : Nat) (v : Nat → Value) (i : Nat) (x : Value) : (vrow n v).setIfInBounds i x = vrow n (fun j => if j = i then x else v j) := by
 apply Array.ext
 ·simp [vrow]
 ·intro j h1 h2
  by_cases e : i = j
  ·subst e; simp [vrow]
  ·rw [Array.getElem_setIfInBounds_ne (by simpa using h1) e]; simp [vrow, Ne.symm e]
/-- A row of lists. -/
def VAt (w : World) (g n : Nat) (v : Nat → Value) : Prop := w.heap[g]? = some (.cells (vrow n v) 22 (0, 0))
theorem VAt.lt {w : World} {g n : Nat} {v : Nat → Value} (h : VAt w g n v) : g < w.heap.size := lt_of_block h
theorem VAt.cell {w : World} {g n : Nat} {v : Nat → Value} (h : VAt w g n v) (i : Nat) (hi : i < n) : w.cell? ⟨g, i, none⟩ = some (v i) := by rw [cell_of_row w g i _ _ _ h, qd4 n v i hi]
theorem VAt.free {w : World} {g n : Nat} {v : Nat → Value} (h : VAt w g n v) (i : Nat) : w.frozen? ⟨g, i, none⟩ = false := by
 unfold VAt at h
 simp [World.frozen?, h]
theorem VAt.later {w w' : World} {g n : Nat} {v : Nat → Value} (h : VAt w g n v) (hb : Below w.heap.size w w') : VAt w' g n v := by unfold VAt; rw [hb.block g h.lt]; exact h
theorem VAt.congr {w : World} {g n : Nat} {v v' : Nat → Value} (h : VAt w g n v) (e : ∀ i, i < n → v i = v' i) : VAt w g n v' := by
 unfold VAt at *
 rw [h]
 congr 2
 apply Array.ext
 ·simp [vrow]
 ·intro i h1 h2
  simp [vrow]
  exact e i (by simpa [vrow] using h1)
theorem VAt.set {w : World} {g n : Nat} {v : Nat → Value} (h : VAt w g n v) (i : Nat) (x : Value) : VAt (w.setCell ⟨g, i, none⟩ x) g n (fun j => if j = i then x else v j) := by
 unfold VAt at *
 rw [setCell_eq_setRow w g i _ _ (0, 0) _ h, setRow_heap w g _ _ _ (0, 0) h, vrow_set]
theorem qhv {w1 : World} {base g n : Nat} (h : w1.ownsRow base 22 1 (.slice (some ⟨g, 0, none⟩) n n) n (madeCells (Value.slice none 0 0).cells (n * 1)).toList) : VAt w1 g n (fun _ => .slice none 0 0) := by
 rcases h.2 with ⟨h', _⟩ | ⟨g', cap', cur, h', _, hg, _, _, hs, htake⟩
 ·simp at h'
 ·simp only [Value.slice.injEq, Option.some.injEq, Addr.mk.injEq, and_true, true_and] at h'
  obtain ⟨rfl, rfl⟩ := h'
  unfold VAt
  rw [hg]
  congr 2
  apply Array.toList_inj.mp
  rw [List.take_of_length_le (by simp; omega)] at htake
  rw [htake, Nat.mul_one]
  show (madeCells #[Value.slice none 0 0] n).toList = _
  rw [toList_madeCells_one]
  apply List.ext_getElem
  ·simp [vrow]
  ·intro i h1 h2; simp [vrow]
theorem VAt.own {w : World} {g n B : Nat} {v : Nat → Value} (h : VAt w g n v) (hb : B ≤ g) (hn : n ≤ maxLen) : w.ownsRow B 22 1 (.slice (some ⟨g, 0, none⟩) n n) n (vrow n v).toList :=
 ⟨by simp [qb0], .inr ⟨g, n, vrow n v, rfl, hb, h, Nat.le_refl _, hn, by simp [qb0], List.take_of_length_le (by simp [qb0])⟩⟩
theorem ql2 : (Tryz.prog.info? 22).map (fun i => (i.zero, i.size, i.bytes)) = some (some (.slice none 0 0), 1, 24) := by kernel_rfl
/-- A matrix's rows, as lists: those before t. -/
def rvf (a : Option Addr) (c t i : Nat) : Value := if i < t then .slice (pc a (i * c) c) c c else .slice none 0 0
theorem rvf_zero (a : Option Addr) (c i : Nat) : rvf a c 0 i = .slice none 0 0 := by unfold rvf; rw [if_neg (by omega)]
theorem rvf_step (a : Option Addr) (c t i : Nat) : (if i = t then Value.slice (pc a (t * c) c) c c else rvf a c t i) = rvf a c (t + 1) i := by
 unfold rvf
 by_cases h : i = t
 ·subst h; rw [if_pos rfl, if_pos (by omega)]
 ·rw [if_neg h]
  by_cases h2 : i < t
  ·rw [if_pos h2, if_pos (by omega)]
  ·rw [if_neg h2, if_neg (by omega)]
theorem qey (w : World) (r c n k : Nat) (a : Option Addr) (F : Nat → Nat) (ha : Mt w a n k F) (R : Rt r c n) :
  Calls Tryz.prog 123 #[mv r c a n k] w fun e w' => ∃ g, e = .returned (.slice (some ⟨g, 0, none⟩) r r) ∧ VAt w' g r (rvf a c r) ∧ w.heap.size ≤ g ∧ Below w.heap.size w w' := by
 obtain ⟨i0, hi0, hz0, hz1, hz2⟩ := info_parts ql2
 have HRt : Hid (Rt r c n) := R
 have hn := R.le
 have hr64 := R.r64
 have hc64 := R.c64
 have HA : Hid (Mt w a n k F) := ha
 have hml : r ≤ maxLen := by unfold maxLen; omega
 have HV0 : Hid (Vr (w.alloc (.cells #[.int .i64 (r : Int), .int .i64 (c : Int), .slice a n k] 24)) w.heap.size (.int .i64 (r : Int)) (.int .i64 (c : Int)) (.slice a n k)) := Vr.new w _ _ _
 clear ha R
 go_enter Tryz.func123, Tryz.ntmps123
 go_wp2_with (first
  | (at_make; refine wpList_make_full _ rfl _ _ 137 rfl (w.heap.size + 1) 22 i0 (.slice none 0 0) 1 Tryz.underlying137 hi0 hz0 hz1 .i64 .i64 _ _ r rfl rfl rfl rfl (by rw [hz2]; omega) hml (by simp) ?_; intro w2 hown hgrow; have HR2 : Hid (VAt w2 (w.heap.size + 1) r (fun _ => .slice none 0 0)) := by { show VAt _ _ _ _; have := qhv hown; simpa using this }; have HB2 : Hid (Below w.heap.size w w2) := qa1 (qa0 _ _) (qa6.mp hgrow); have HV2 : Hid (Vr w2 w.heap.size (.int .i64 (r : Int)) (.int .i64 (c : Int)) (.slice a n k)) := HV0.out.later (qa6.mp hgrow); have d0 := HV2.out.c0; clear hown hgrow))
 clear d0 HV0
 go_loopw [4, 10] (fun _ i wr => ∃ t : Nat, t ≤ r ∧ i = .int .i64 (t : Int) ∧ VAt wr (w.heap.size + 1) r (rvf a c t) ∧ Vr wr w.heap.size (.int .i64 (r : Int)) (.int .i64 (c : Int)) (.slice a n k) ∧ Below w.heap.size w wr) (fun _ i _ => r - (intOf i).toNat)
 case atStart => exact ⟨0, by omega, rfl, HR2.out.congr (fun p _ => (rvf_zero a c p).symm), HV2.out, HB2.out⟩
 case round =>
  clear HR2 HV2 HB2
  obtain ⟨t, ht, rfl, hr, hv, hbr⟩ := hrel
  have HR : Hid (VAt wr (w.heap.size + 1) r (rvf a c t)) := hr
  have HV : Hid (Vr wr w.heap.size (.int .i64 (r : Int)) (.int .i64 (c : Int)) (.slice a n k)) := hv
  have HB : Hid (Below w.heap.size w wr) := hbr
  clear hr hv hbr
  by_cases hlt : t < r
  ·obtain ⟨p, HP⟩ : ∃ p, Hid (t * c = p) := ⟨_, rfl⟩
   obtain ⟨sa, HSa⟩ : ∃ s, Hid (pc a p c = s) := ⟨_, rfl⟩
   have HFi : Hid (p + c ≤ n) := by have := HRt.out.fit hlt; rw [HP.out] at this; exact this
   have HSt : Hid (∀ i, (if i = t then Value.slice sa c c else rvf a c t i) = rvf a c (t + 1) i) := fun i => by rw [← rvf_step, HP.out, HSa.out]
   have c0 := HV.out.c0
   have c1 := HV.out.c1
   have c2 := HV.out.c2
   have t1 : (t : Int) < (r : Int) := by omega
   go_wp2_with (first
    | (go_at_call 92; refine (qaz _ _ c n k t p a sa HA.out.nil HA.out.room HFi.out hn (by omega) HP HSa).mono ?_; rintro e w4 ⟨rfl, hb4⟩; have HB4 : Hid (Below wr.heap.size wr w4) := hb4; have hc := (HR.out.later HB4.out).cell t hlt; have hf := (HR.out.later HB4.out).free t; have RR : Hid (VAt (w4.setCell ⟨w.heap.size + 1, t, none⟩ (.slice sa c c)) (w.heap.size + 1) r (rvf a c (t + 1)) ∧ Vr (w4.setCell ⟨w.heap.size + 1, t, none⟩ (.slice sa c c)) w.heap.size (.int .i64 (r : Int)) (.int .i64 (c : Int)) (.slice a n k) ∧ Below w.heap.size w (w4.setCell ⟨w.heap.size + 1, t, none⟩ (.slice sa c c))) := ⟨((HR.out.later HB4.out).set t _).congr (fun j _ => HSt.out j), (HV.out.later HB4.out).kept (qa3 _ _ _ _) (by omega), (qa1 HB.out HB4.out).setCell (by show w.heap.size ≤ w.heap.size + 1; omega) _⟩; clear hb4))
   exact ⟨⟨t + 1, by omega, by go_num, RR.out.1, RR.out.2.1, RR.out.2.2⟩, by simp [intOf]; omega⟩
  ·obtain rfl : t = r := by omega
   go_wp2
   go_ret
   exact ⟨_, rfl, HR.out, by omega, HB.out⟩
end Go.Proofs.YtnfbbddoaeofgaaGreat
