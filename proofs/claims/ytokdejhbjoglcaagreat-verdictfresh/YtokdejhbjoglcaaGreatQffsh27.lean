/-
  Contracts of the program's matrices: Mul's errors, Apply, Transpose.
  Contracts of the program's matrices: Transpose.
  Contracts of the program's matrices: Pick.
-/
import Derived.Test.YtokdejhbjoglcaaGreatQffsh00
import Derived.Test.YtokdejhbjoglcaaGreatQffsh26
set_option maxRecDepth 100000
set_option maxHeartbeats 16000000
namespace Go.Proofs.YtokdejhbjoglcaaGreat
open Go.RowKit
/-- What the loops of a call with one matrix and an answer keep. -/
structure NInv (w wr : World) (gd g6 r c R C n k N : Nat) (a : Option Addr) (fn : Nat → Nat) : Prop where
 va : Vr wr w.heap.size (.int .i64 (r : Int)) (.int .i64 (c : Int)) (.slice a n k)
 vr : Vr wr (w.heap.size + 1) (.int .i64 0) (.int .i64 0) (.slice none 0 0)
 vm : Vr wr g6 (.int .i64 (R : Int)) (.int .i64 (C : Int)) (.slice (some ⟨gd, 0, none⟩) N N)
 data : RowAt wr gd 5 N fn
 below : Below w.heap.size w wr
 d6 : gd ≠ g6
 dlow : w.heap.size + 1 < gd
theorem NInv.congr {w wr : World} {gd g6 r c R C n k N : Nat} {a : Option Addr} {fn fn' : Nat → Nat} (I : NInv w wr gd g6 r c R C n k N a fn) (e : ∀ p, p < N → fn p = fn' p) : NInv w wr gd g6 r c R C n k N a fn' := ⟨I.va, I.vr, I.vm, I.data.congr e, I.below, I.d6, I.dlow⟩
theorem NInv.later {w wr w' : World} {gd g6 r c R C n k N : Nat} {a : Option Addr} {fn : Nat → Nat} (I : NInv w wr gd g6 r c R C n k N a fn) (hb : Below wr.heap.size wr w') : NInv w w' gd g6 r c R C n k N a fn := ⟨I.va.later hb, I.vr.later hb, I.vm.later hb, I.data.later hb, qa0 I.below hb, I.d6, I.dlow⟩
theorem NInv.copy {w wr w' : World} {gd g6 r c R C n k N : Nat} {a : Option Addr} {fn fn' : Nat → Nat} (I : NInv w wr gd g6 r c R C n k N a fn) (hr : RowAt w' gd 5 N fn') (hg : wr.grownBy w' (some gd)) : NInv w w' gd g6 r c R C n k N a fn' :=
 have d := I.dlow
 ⟨I.va.kept hg (by omega), I.vr.kept hg (by omega), I.vm.kept hg (Ne.symm I.d6), hr, qa4 I.below hg (by omega), I.d6, I.dlow⟩
theorem NInv.drew {w wr : World} {gd g6 r c R C n k N : Nat} {a : Option Addr} {fn : Nat → Nat} (I : NInv w wr gd g6 r c R C n k N a fn) : NInv w wr.drew gd g6 r c R C n k N a fn := I.later (Below.refl _ _).drew
theorem upf_step (f : Nat → Nat) (q v : Nat) (hv : v = f q) (p : Nat) : (if p = q then v else upf f q p) = upf f (q + 1) p := by
 unfold upf
 by_cases h : p = q
 ·subst h; rw [if_pos rfl, if_pos (by omega), hv]
 ·rw [if_neg h]
  by_cases h2 : p < q
  ·rw [if_pos h2, if_pos (by omega)]
  ·rw [if_neg h2, if_neg (by omega)]
theorem NInv.set {w wr : World} {gd g6 r c R C n k N q v : Nat} {a : Option Addr} {f : Nat → Nat} (I : NInv w wr gd g6 r c R C n k N a (upf f q)) (hv : v = f q) : NInv w (wr.setCell ⟨gd, q, none⟩ (.int .u8 (v : Int))) gd g6 r c R C n k N a (upf f (q + 1)) :=
 I.copy ((I.data.set q v).congr (fun p _ => upf_step f q v hv p)) (qa3 _ _ _ _)
theorem Rt.turn {r c n : Nat} (h : Rt r c n) : Rt c r n := ⟨h.c64, h.r64, by rw [Nat.mul_comm]; exact h.len⟩
theorem qkf (w : World) (r c n k : Nat) (a : Option Addr) (F : Nat → Nat) (ha : Mt w a n k F) (R : Rt r c n) :
  Calls Tryz.prog 95 #[mv r c a n k] w fun e w' => ∃ g, e = .returned (.tuple #[mv c r (some ⟨g, 0, none⟩) n n, .int .i64 0]) ∧ RowAt w' g 5 n (trf F r c) ∧ w.heap.size ≤ g ∧ Below w.heap.size w w' := by
 have HRt : Hid (Rt r c n) := R
 have HRu : Hid (Rt c r n) := R.turn
 have hn := R.le
 have hr64 := R.r64
 have hc64 := R.c64
 have HA : Hid (Mt w a n k F) := ha
 obtain ⟨fn, HFn⟩ : ∃ fn : Nat → Nat, Hid (trf F r c = fn) := ⟨_, rfl⟩
 rw [HFn.out]
 obtain ⟨wb, HW, HX⟩ : ∃ wb, Hid (wb = (w.alloc (.cells #[.int .i64 (r : Int), .int .i64 (c : Int), .slice a n k] 24)).alloc (.cells #[.int .i64 0, .int .i64 0, .slice none 0 0] 24)) ∧ Hid (Box2 w wb r c n k a) := ⟨_, rfl, box2 w r c n k a⟩
 clear ha R
 go_enter Tryz.func95, Tryz.ntmps95
 go_wp2_with (first
  | (go_at_call 45; rw [← HW.out]; refine (qay _ _ _ _ _ _ HRt.out.p).mono ?_; rintro e w2 ⟨rfl, hb2⟩; have HB2 : Hid (Below wb.heap.size wb w2) := hb2; have a0 := (HX.out.va.later hb2).c0; have a1 := (HX.out.va.later hb2).c1; clear hb2)
  | (go_at_call 48; refine (qce _ c r n hc64 hr64 HRu.out.len).mono ?_; rintro e w3 ⟨gd, rfl, hr3, hg3, hb3⟩; have HR3 : Hid (RowAt w3 gd 5 n (fun _ => 0)) := hr3; have HB3 : Hid (Below wb.heap.size wb w3) := qa0 HB2.out hb3; have l2 := HB2.out.size; have hg4 : w2.heap.size ≤ gd := hg3; have a1' := ((HX.out.va.later HB3.out).later (qa1 w3 (.cells #[.int .i64 (c : Int), .int .i64 (r : Int), .slice (some ⟨gd, 0, none⟩) n n] 24))).c1; clear hr3 hb3 hg3))
 have HI0 : Hid (NInv w (w3.alloc (.cells #[.int .i64 (c : Int), .int .i64 (r : Int), .slice (some ⟨gd, 0, none⟩) n n] 24)) gd w3.heap.size r c c r n k n a (fun _ => 0)) := by
  have l0 := HX.out.vr.lt
  have l3 := HR3.out.lt
  exact ⟨(HX.out.va.later HB3.out).later (qa1 _ _), (HX.out.vr.later HB3.out).later (qa1 _ _), Vr.new w3 _ _ _, HR3.out.later (qa1 _ _), qa0 (qa0 HX.out.below HB3.out) (qa1 _ _), by omega, by omega⟩
 clear HW HX HB2 HR3 HB3 a0 a1 a1'
 go_loopw [5, 6, 7, 19] (fun _ _ _ j wr => ∃ m : Nat, m ≤ c ∧ j = .int .i64 (m : Int) ∧ NInv w wr gd w3.heap.size r c c r n k n a (upf fn (m * r))) (fun _ _ _ j _ => c - (intOf j).toNat)
 case atStart => exact ⟨0, by omega, rfl, HI0.out.congr (fun p _ => by rw [Nat.zero_mul, qfa])⟩
 case round =>
  clear HI0
  obtain ⟨m, hm, rfl, I⟩ := hrel
  have HI : Hid (NInv w wr gd w3.heap.size r c c r n k n a (upf fn (m * r))) := I
  clear I
  by_cases hlt : m < c
  ·obtain ⟨p, HP⟩ : ∃ p, Hid (m * r = p) := ⟨_, rfl⟩
   obtain ⟨sp, HSp⟩ : ∃ s, Hid (pc (some ⟨gd, 0, none⟩) p r = s) := ⟨_, rfl⟩
   rw [HP.out] at HI
   have HFi : Hid (p + r ≤ n) := by have := HRu.out.fit hlt; rw [HP.out] at this; exact this
   have c0 := HI.out.vm.c0
   have c1 := HI.out.vm.c1
   have c2 := HI.out.vm.c2
   go_wp2_with (first
    | (go_at_call 49; refine (qaz _ _ r n n m p (some ⟨gd, 0, none⟩) sp (fun e => by cases e) (Nat.le_refl _) HFi.out hn (by omega) HP HSp).mono ?_; rintro e w4 ⟨rfl, hb4⟩; have HI4 : Hid (NInv w w4 gd w3.heap.size r c c r n k n a (upf fn p)) := HI.out.later hb4; have d0 := HI4.out.va.c0; clear hb4))
   clear c0 c1 c2 HI d0
   go_loopw [7, 27] (fun _ i wi => ∃ q : Nat, q ≤ r ∧ i = .int .i64 (q : Int) ∧ NInv w wi gd w3.heap.size r c c r n k n a (upf fn (p + q))) (fun _ i _ => r - (intOf i).toNat)
   case atStart => exact ⟨0, by omega, rfl, HI4.out⟩
   case round =>
    clear HI4
    obtain ⟨q, hq, rfl, I⟩ := hrel
    have HI : Hid (NInv w wr gd w3.heap.size r c c r n k n a (upf fn (p + q))) := I
    clear I
    by_cases hlq : q < r
    ·obtain ⟨pa, HPa⟩ : ∃ p, Hid (q * c = p) := ⟨_, rfl⟩
     have HFa : Hid (pa + c ≤ n) := by have := HRt.out.fit hlq; rw [HPa.out] at this; exact this
     have HSpv : Hid (pc (some ⟨gd, 0, none⟩) p r = some ⟨gd, p, none⟩) := qem gd p r (by omega)
     obtain rfl : some ⟨gd, p, none⟩ = sp := by rw [← HSp.out, HSpv.out]
     obtain ⟨ba, oa, ea, hca⟩ := HA.out.sl.2 (pa + m) (by have := HFa.out; omega)
     obtain ⟨x, HX⟩ : ∃ x, Hid (F (pa + m) = x) := ⟨_, rfl⟩
     rw [HX.out] at hca
     have HXf : Hid (x = fn (p + q)) := by show _ = _; rw [← HX.out, ← HFn.out, ← HP.out, qfx F r c q m hlq, HPa.out]
     have HSa : Hid (pc a pa c = some ⟨ba, oa + pa, none⟩) := by
      show pc _ _ _ = _
      rw [ea]
      unfold pc
      rw [if_neg (by omega)]
      show some (Addr.add _ _) = _
      rw [add_plain]
     have hfn : n ≤ 4096 := hn
     have hpq : p + q < n := by have := HFi.out; omega
     have c0 := HI.out.va.c0
     have c1 := HI.out.va.c1
     have c2 := HI.out.va.c2
     have m1 : (m : Int) < (c : Int) := by omega
     have q1 : (q : Int) < (r : Int) := by omega
     clear ea
     go_wp2_with (first
      | (go_at_call 49; refine (qaz _ _ c n k q pa a (some ⟨ba, oa + pa, none⟩) HA.out.nil HA.out.room HFa.out hn (by omega) HPa HSa).mono ?_; rintro e w5 ⟨rfl, hb5⟩; have HI5 : Hid (NInv w w5 gd w3.heap.size r c c r n k n a (upf fn (p + q))) := HI.out.later hb5; have hcx : w5.cell? ⟨ba, oa + pa + m, none⟩ = some (.int .u8 (x : Int)) := by { rw [Nat.add_assoc]; exact keepc HI5.out.below hca }; have hcc := HI5.out.data.cell (p + q) hpq; have hcf := HI5.out.data.free (p + q); have HI6 : Hid (NInv w (w5.setCell ⟨gd, p + q, none⟩ (.int .u8 (x : Int))) gd w3.heap.size r c c r n k n a (upf fn (p + q + 1))) := HI5.out.set HXf.out; clear hb5))
     exact ⟨⟨q + 1, by omega, by go_num, HI6.out⟩, by simp [intOf]; omega⟩
    ·obtain rfl : q = r := by omega
     go_wp2
     exact ⟨⟨m + 1, by omega, by go_num, HI.out.congr (fun z _ => by rw [← HP.out, Nat.add_mul, Nat.one_mul])⟩, by simp [intOf]; omega⟩
  ·obtain rfl : m = c := by omega
   have HR : Hid (RowAt wr gd 5 n (upf fn (m * r))) := HI.out.data
   have c0 := HI.out.vm.c0
   have c1 := HI.out.vm.c1
   have c2 := HI.out.vm.c2
   have hlow := HI.out.dlow
   go_wp2_with (refine qa2 rfl _ _ rfl (w.heap.size + 1) _ _ _ (.int .i64 (m : Int)) (.int .i64 (r : Int)) (.slice (some ⟨gd, 0, none⟩) n n) rfl rfl HI.out.vr rfl rfl rfl ?_; intro w8 HV8 HG8)
   have d0 := HV8.out.c0
   have d1 := HV8.out.c1
   have d2 := HV8.out.c2
   refine bodyPost_ret (v := .tuple #[mv m r (some ⟨gd, 0, none⟩) n n, .int .i64 0]) (by simp [results, Tryz.results95, go_sem, d0, d1, d2, mv]) rfl ?_
   exact ⟨gd, rfl, (HR.out.kept HG8.out (by omega)).congr (qgs fn (by rw [HRu.out.len]; exact Nat.le_refl _)), by omega, qa4 HI.out.below HG8.out (by omega)⟩
open Go.RowKit
theorem qcf (w : World) (r c n k m d N : Nat) (a b : Option Addr) (F z : Nat → Nat) (ha : Mt w a n k F) (R : Rt r c n) (hb : Il w b m (fun i => (z i : Int))) (hz : ∀ i, i < m → z i < r) (hm : m ≤ 64) (HN : Hid (m * c = N)) :
  Calls Tryz.prog 22 #[mv r c a n k, .slice b m d] w fun e w' => ∃ g, e = .returned (.tuple #[mv m c (some ⟨g, 0, none⟩) N N, .int .i64 0]) ∧ RowAt w' g 5 N (pkf F z c) ∧ w.heap.size ≤ g ∧ Below w.heap.size w w' := by
 have HRt : Hid (Rt r c n) := R
 have HRu : Hid (Rt m c N) := ⟨hm, R.c64, HN.out⟩
 have hn := R.le
 have hN := HRu.out.le
 have hr64 := R.r64
 have hc64 := R.c64
 have HA : Hid (Mt w a n k F) := ha
 have HIb : Hid (Il w b m (fun i => (z i : Int))) := hb
 have HZ : Hid (∀ i, i < m → z i < r) := hz
 obtain ⟨q, HQ⟩ : ∃ q : Nat → Int, Hid (∀ i, q i = (z i : Int)) := ⟨fun i => (z i : Int), fun _ => rfl⟩
 have HIn : Hid (∀ i, i < m → 0 ≤ q i ∧ q i < r) := fun i hi => by rw [HQ.out]; have := hz i hi; omega
 obtain ⟨fn, HFn⟩ : ∃ fn : Nat → Nat, Hid (pkf F z c = fn) := ⟨_, rfl⟩
 rw [HFn.out]
 obtain ⟨wb, HW, HX⟩ : ∃ wb, Hid (wb = (w.alloc (.cells #[.int .i64 (r : Int), .int .i64 (c : Int), .slice a n k] 24)).alloc (.cells #[.int .i64 0, .int .i64 0, .slice none 0 0] 24)) ∧ Hid (Box2 w wb r c n k a) := ⟨_, rfl, box2 w r c n k a⟩
 have hIq : Il w b m q := fun i hi => by obtain ⟨x, o, e, hc⟩ := hb i hi; exact ⟨x, o, e, by rw [HQ.out]; exact hc⟩
 clear HIb
 have HIb : Hid (Il w b m q) := hIq
 clear ha R hb hz hIq
 go_enter Tryz.func22, Tryz.ntmps22
 go_wp2_with (first
  | (go_at_call 45; rw [← HW.out]; refine (qay _ _ _ _ _ _ HRt.out.p).mono ?_; rintro e w2 ⟨rfl, hb2⟩; have HB2 : Hid (Below wb.heap.size wb w2) := hb2; clear hb2))
 go_loopw [7, 16] (fun _ j wr => ∃ t' : Nat, t' ≤ m ∧ j = .int .i64 (t' : Int) ∧ Below wb.heap.size wb wr) (fun _ j _ => m - (intOf j).toNat)
 case atStart => exact ⟨0, by omega, rfl, HB2.out⟩
 case round =>
  clear HB2
  obtain ⟨i, hi, rfl, hbr⟩ := hrel
  have HB2 : Hid (Below wb.heap.size wb wr) := hbr
  have a0 := (HX.out.va.later hbr).c0
  have a1 := (HX.out.va.later hbr).c1
  have a2 := (HX.out.va.later hbr).c2
  clear hbr
  by_cases hlt : i < m
  ·obtain ⟨x, o, eb, hci⟩ := HIb.out i (by omega)
   have hcw : wr.cell? ⟨x, o + i, none⟩ = some (.int .i64 (q i)) := keepc (qa0 HX.out.below HB2.out) hci
   obtain ⟨y, HY⟩ : ∃ y, Hid (q i = y) := ⟨_, rfl⟩
   rw [HY.out] at hcw
   have HH : Hid (0 ≤ y ∧ y < r) := by have := HIn.out i hlt; rw [HY.out] at this; exact this
   have i1 : (i : Int) < (m : Int) := by omega
   clear hci
   subst eb
   go_wp2_with (go_at_call 46; refine (qim _ _ _ _ _ _ _ HH.out).mono ?_; rintro e w3 ⟨rfl, hb3⟩; have HB3 : Hid (Below wb.heap.size wb w3) := qa0 HB2.out hb3; clear hb3)
   exact ⟨⟨i + 1, by omega, by go_num, HB3.out⟩, by simp [intOf]; omega⟩
  ·obtain rfl : m = i := by omega
   go_wp2_with (first
    | (go_at_call 47; refine (qhi _ _ ⟨by omega, by omega⟩).mono ?_; rintro e w' ⟨rfl, rfl⟩)
    | (go_at_call 48; refine (qce _ m c N hm hc64 HN).mono ?_; rintro e w3 ⟨gd, rfl, hr3, hg3, hb3⟩; have HR3 : Hid (RowAt w3 gd 5 N (fun _ => 0)) := hr3; have HB3 : Hid (Below wb.heap.size wb w3) := qa0 HB2.out hb3; have l2 := HB2.out.size; have hg4 : wr.heap.size ≤ gd := hg3; have m0' := (Vr.new w3 (.int .i64 (m : Int)) (.int .i64 (c : Int)) (.slice (some ⟨gd, 0, none⟩) N N)).c0; clear hr3 hb3 hg3))
   have HI0 : Hid (NInv w (w3.alloc (.cells #[.int .i64 (m : Int), .int .i64 (c : Int), .slice (some ⟨gd, 0, none⟩) N N] 24)) gd w3.heap.size r c m c n k N a (fun _ => 0)) := by
    have l0 := HX.out.vr.lt
    have l3 := HR3.out.lt
    exact ⟨(HX.out.va.later HB3.out).later (qa1 _ _), (HX.out.vr.later HB3.out).later (qa1 _ _), Vr.new w3 _ _ _, HR3.out.later (qa1 _ _), qa0 (qa0 HX.out.below HB3.out) (qa1 _ _), by omega, by omega⟩
   clear HW HX HB2 HR3 HB3 a0 a1 a2 m0' hlt hi
   go_loopw [9, 38] (fun _ j wr => ∃ i : Nat, i ≤ m ∧ j = .int .i64 (i : Int) ∧ NInv w wr gd w3.heap.size r c m c n k N a (upf fn (i * c))) (fun _ j _ => m - (intOf j).toNat)
   case atStart => exact ⟨0, by omega, rfl, HI0.out.congr (fun p _ => by rw [Nat.zero_mul, qfa])⟩
   case round =>
    clear HI0
    obtain ⟨i, hi, rfl, I⟩ := hrel
    have HI : Hid (NInv w wr gd w3.heap.size r c m c n k N a (upf fn (i * c))) := I
    clear I
    by_cases hlt : i < m
    ·obtain ⟨x, o, eb, hci⟩ := HIb.out i hlt
     rw [HQ.out] at hci
     obtain ⟨y, HY⟩ : ∃ y, Hid (z i = y) := ⟨_, rfl⟩
     rw [HY.out] at hci
     have hyr : y < r := by rw [← HY.out]; exact HZ.out i hlt
     obtain ⟨p, HP⟩ : ∃ p, Hid (i * c = p) := ⟨_, rfl⟩
     obtain ⟨pa, HPa⟩ : ∃ p, Hid (y * c = p) := ⟨_, rfl⟩
     obtain ⟨sp, HSp⟩ : ∃ s, Hid (pc (some ⟨gd, 0, none⟩) p c = s) := ⟨_, rfl⟩
     obtain ⟨sa, HSa⟩ : ∃ s, Hid (pc a pa c = s) := ⟨_, rfl⟩
     rw [HP.out] at HI
     have HFi : Hid (p + c ≤ N) := by have := HRu.out.fit hlt; rw [HP.out] at this; exact this
     have HFa : Hid (pa + c ≤ n) := by have := HRt.out.fit hyr; rw [HPa.out] at this; exact this
     obtain ⟨hh, HHh⟩ : ∃ hh : Nat → Nat, Hid ((fun j => F (pa + j)) = hh) := ⟨_, rfl⟩
     have HSl : Hid (Sl w sa c hh) := by have := HA.out.piece HFa.out; rw [HSa.out, HHh.out] at this; exact this
     have HNext : Hid (∀ q, cpf (upf fn p) hh p c q = upf fn ((i + 1) * c) q) := fun q => by
      rw [qhp fn _ p c (fun j hj => by rw [← HFn.out, ← HP.out, qch F z c i j hj, HY.out, HPa.out, ← HHh.out]) q, ← HP.out, Nat.add_mul, Nat.one_mul]
     have HD : Hid (wr.drew.cell? ⟨w3.heap.size, 0, none⟩ = some (.int .i64 (m : Int)) ∧ wr.drew.cell? ⟨w3.heap.size, 1, none⟩ = some (.int .i64 (c : Int)) ∧ wr.drew.cell? ⟨w3.heap.size, 2, none⟩ = some (.slice (some ⟨gd, 0, none⟩) N N) ∧ wr.drew.cell? ⟨w.heap.size, 0, none⟩ = some (.int .i64 (r : Int)) ∧ wr.drew.cell? ⟨w.heap.size, 1, none⟩ = some (.int .i64 (c : Int)) ∧ wr.drew.cell? ⟨w.heap.size, 2, none⟩ = some (.slice a n k) ∧ wr.drew.cell? ⟨x, o + i, none⟩ = some (.int .i64 (y : Int))) := ⟨HI.out.vm.c0, HI.out.vm.c1, HI.out.vm.c2, HI.out.va.c0, HI.out.va.c1, HI.out.va.c2, keepc HI.out.drew.below hci⟩
     have i0 : (0 : Int) ≤ (i : Int) := Int.natCast_nonneg _
     have i1 : (i : Int) < (m : Int) := by omega
     subst eb
     go_wp2
     go_region_held3 (fun w' => w'.cell? ⟨w3.heap.size, 0, none⟩ = some (.int .i64 (m : Int)) ∧ w'.cell? ⟨w3.heap.size, 1, none⟩ = some (.int .i64 (c : Int)) ∧ w'.cell? ⟨w3.heap.size, 2, none⟩ = some (.slice (some ⟨gd, 0, none⟩) N N) ∧ w'.cell? ⟨w.heap.size, 0, none⟩ = some (.int .i64 (r : Int)) ∧ w'.cell? ⟨w.heap.size, 1, none⟩ = some (.int .i64 (c : Int)) ∧ w'.cell? ⟨w.heap.size, 2, none⟩ = some (.slice a n k) ∧ w'.cell? ⟨x, o + i, none⟩ = some (.int .i64 (y : Int)))
      (first
       | exact HK4.out
       | exact HK2.out
       | exact HK1.out
       | exact HD.out)
      (first
       | (go_at_call 49; have _x := HK1; refine (qaz _ _ c n k y pa a sa HA.out.nil HA.out.room HFa.out hn (by omega) HPa HSa).mono ?_; rintro e w5 ⟨rfl, hb5⟩; have HI5 : Hid (NInv w w5 gd w3.heap.size r c m c n k N a (upf fn p)) := HI4.out.later hb5; have HK2 : Hid (w5.cell? ⟨w3.heap.size, 0, none⟩ = some (.int .i64 (m : Int)) ∧ w5.cell? ⟨w3.heap.size, 1, none⟩ = some (.int .i64 (c : Int)) ∧ w5.cell? ⟨w3.heap.size, 2, none⟩ = some (.slice (some ⟨gd, 0, none⟩) N N) ∧ w5.cell? ⟨w.heap.size, 0, none⟩ = some (.int .i64 (r : Int)) ∧ w5.cell? ⟨w.heap.size, 1, none⟩ = some (.int .i64 (c : Int)) ∧ w5.cell? ⟨w.heap.size, 2, none⟩ = some (.slice a n k) ∧ w5.cell? ⟨x, o + i, none⟩ = some (.int .i64 (y : Int))) := ⟨HI5.out.vm.c0, HI5.out.vm.c1, HI5.out.vm.c2, HI5.out.va.c0, HI5.out.va.c1, HI5.out.va.c2, keepc HI5.out.below hci⟩; clear hb5)
       | (go_at_call 49; refine (qaz _ _ c N N i p (some ⟨gd, 0, none⟩) sp (fun e => by cases e) (Nat.le_refl _) HFi.out hN (by omega) HP HSp).mono ?_; rintro e w4 ⟨rfl, hb4⟩; have HI4 : Hid (NInv w w4 gd w3.heap.size r c m c n k N a (upf fn p)) := (HI.out.drew).later hb4; have HK1 : Hid (w4.cell? ⟨w3.heap.size, 0, none⟩ = some (.int .i64 (m : Int)) ∧ w4.cell? ⟨w3.heap.size, 1, none⟩ = some (.int .i64 (c : Int)) ∧ w4.cell? ⟨w3.heap.size, 2, none⟩ = some (.slice (some ⟨gd, 0, none⟩) N N) ∧ w4.cell? ⟨w.heap.size, 0, none⟩ = some (.int .i64 (r : Int)) ∧ w4.cell? ⟨w.heap.size, 1, none⟩ = some (.int .i64 (c : Int)) ∧ w4.cell? ⟨w.heap.size, 2, none⟩ = some (.slice a n k) ∧ w4.cell? ⟨x, o + i, none⟩ = some (.int .i64 (y : Int))) := ⟨HI4.out.vm.c0, HI4.out.vm.c1, HI4.out.vm.c2, HI4.out.va.c0, HI4.out.va.c1, HI4.out.va.c2, keepc HI4.out.below hci⟩; clear hb4)
       | (refine qde rfl _ _ rfl gd p N c c c sp sa (upf fn p) hh rfl rfl HI5.out.data (fun h => by rw [← HSp.out]; exact qem gd p c h) (HSl.out.later HI5.out.below) HFi.out ?_; intro w7 HR7 HG7; have HI7 : Hid (NInv w w7 gd w3.heap.size r c m c n k N a (upf fn ((i + 1) * c))) := (HI5.out.copy HR7.out HG7.out).congr (fun q _ => HNext.out q); have HK4 : Hid (w7.cell? ⟨w3.heap.size, 0, none⟩ = some (.int .i64 (m : Int)) ∧ w7.cell? ⟨w3.heap.size, 1, none⟩ = some (.int .i64 (c : Int)) ∧ w7.cell? ⟨w3.heap.size, 2, none⟩ = some (.slice (some ⟨gd, 0, none⟩) N N) ∧ w7.cell? ⟨w.heap.size, 0, none⟩ = some (.int .i64 (r : Int)) ∧ w7.cell? ⟨w.heap.size, 1, none⟩ = some (.int .i64 (c : Int)) ∧ w7.cell? ⟨w.heap.size, 2, none⟩ = some (.slice a n k) ∧ w7.cell? ⟨x, o + i, none⟩ = some (.int .i64 (y : Int))) := ⟨HI7.out.vm.c0, HI7.out.vm.c1, HI7.out.vm.c2, HI7.out.va.c0, HI7.out.va.c1, HI7.out.va.c2, keepc HI7.out.below hci⟩; clear HR7 HG7))
     go_wp2
     exact ⟨⟨i + 1, by omega, by go_num, HI7.out⟩, by simp [intOf]; omega⟩
    ·obtain rfl : i = m := by omega
     have HR : Hid (RowAt wr gd 5 N (upf fn (i * c))) := HI.out.data
     have c0 := HI.out.vm.c0
     have c1 := HI.out.vm.c1
     have c2 := HI.out.vm.c2
     have hlow := HI.out.dlow
     go_wp2_with (refine qa2 rfl _ _ rfl (w.heap.size + 1) _ _ _ (.int .i64 (i : Int)) (.int .i64 (c : Int)) (.slice (some ⟨gd, 0, none⟩) N N) rfl rfl HI.out.vr rfl rfl rfl ?_; intro w8 HV8 HG8)
     have d0 := HV8.out.c0
     have d1 := HV8.out.c1
     have d2 := HV8.out.c2
     refine bodyPost_ret (v := .tuple #[mv i c (some ⟨gd, 0, none⟩) N N, .int .i64 0]) (by simp [results, Tryz.results22, go_sem, d0, d1, d2, mv]) rfl ?_
     exact ⟨gd, rfl, (HR.out.kept HG8.out (by omega)).congr (qgs fn (by rw [HRu.out.len]; exact Nat.le_refl _)), by omega, qa4 HI.out.below HG8.out (by omega)⟩
end Go.Proofs.YtokdejhbjoglcaaGreat
