/-
  Stage 19: local.search.
  Stage 19: local.Least.
-/
import Derived.Test.YtblagbghpfopcaaGreatQwwin00
import Derived.Test.YtblagbghpfopcaaGreatQwwin46
import Derived.Test.YtblagbghpfopcaaGreatQwwin43
set_option maxRecDepth 100000
set_option maxHeartbeats 16000000
namespace Go.Proofs.YtblagbghpfopcaaGreat
open Go.RowKit Go.Shelf
attribute [local go_sem] Oper.semAt_some
theorem lsearch (w : World) (r c n k b : Nat) (a : Option Addr) (F : Nat → Nat) (ha : Mt w a n k F) (R : Rt r c n) (hb : b < r) (C : Nat → Nat) (f ix G : Nat → Nat → Nat) (O : qex r b C f ix G) :
  Calls Tryz.prog 27 #[mv r c a n k, .int .i64 (b : Int)] w fun e w' => ∃ (x : Nat) (v : Bool) (er : Nat), e = .returned (.tuple #[.int .u64 (x : Int), .bool v, .int .i64 (er : Int)]) ∧ SrP (m2 F r c) r b C G x v er ∧ Below w.heap.size w w' := by
 have hr := R.r64
 have hM := qax ha.sl.1 R
 have hb64 : b < 64 := by omega
 obtain ⟨A, z, D, hA, hz, hD, hDl, hDb⟩ := all_but hr hb
 have HFu : Hid (∀ w' : World, Calls Tryz.prog 59 #[.int .i64 (r : Int)] w' fun e w'' => e = .returned (.tuple #[.int .u64 (A : Int), .int .i64 0]) ∧ w' = w'') := fun w' => hA ▸ jfull_ok r w' hr
 obtain ⟨v0, hv0⟩ : ∃ v0 : Bool, v0 = true ↔ SS (m2 F r c) r D (m2 F r c b) := by
  by_cases h : SS (m2 F r c) r D (m2 F r c b)
  ·exact ⟨true, fun _ => h, fun _ => rfl⟩
  ·exact ⟨false, fun e => absurd e (by decide), fun e => absurd e h⟩
 obtain ⟨wb, HW, hsv, hbb, hsz⟩ := SrV.new w r c n k b a
 have HSV := qa2 hsv
 have HBb := qa2 hbb
 have HA := qa2 ha
 have HRt := qa2 R
 have HO := qa2 O
 have HMe := qa2 hM
 have HRp : Hid (∀ w', Below wb.heap.size wb w' → Calls Tryz.prog 45 #[mv r c a n k, .int .i64 (b : Int), .int .u64 (D : Int)] w' fun e w'' => e = .returned (.bool v0) ∧ Below w'.heap.size w' w'') := fun w' h => qhm w' r c n k b D a F v0 (ha.later (qa0 hbb h)) R hb hDl hv0
 have HWe := qa2 HW
 have HDb := qa2 hDb
 have HDl := qa2 hDl
 have m0 := hsv.m.c0
 have m1 := hsv.m.c1
 have m2' := hsv.m.c2
 have b0 := hsv.b.cell
 clear hsv hbb HW hA ha R O hM hDb hDl
 refine (callsIn_wide (n := 6)).1 (callsIn_of_wp_marks Tryz.func27 rfl trivial ?_ rfl)
 simp only [Tryz.ntmps27, mv, List.size_toArray, List.length_cons, List.length_nil, Nat.reduceAdd, Nat.reduceSub, Array.replicate_succ, Array.replicate_zero, List.push_toArray, List.append_toArray, List.nil_append, List.cons_append]
 refine wpIn_wide.2 ?_
 go_wp2
 rw [← HWe.out]
 go_step3
 go_wp2_with (go_at_call 59; refine (HFu.out _).mono ?_; rintro e w' ⟨rfl, rfl⟩)
 go_region_held3 (fun w' => w'.cell? ⟨w.heap.size, 0, none⟩ = some (.int .i64 (r : Int)) ∧ w'.cell? ⟨w.heap.size, 1, none⟩ = some (.int .i64 (c : Int)) ∧ w'.cell? ⟨w.heap.size, 2, none⟩ = some (.slice a n k) ∧ w'.cell? ⟨w.heap.size + 1, 0, none⟩ = some (.int .i64 (b : Int)))
   (first | exact ⟨HV1.out.m.c0, HV1.out.m.c1, HV1.out.m.c2, HV1.out.b.cell⟩ | go_keep | exact ⟨(HSV.out.later (Below.refl _ _).drew).m.c0, (HSV.out.later (Below.refl _ _).drew).m.c1, (HSV.out.later (Below.refl _ _).drew).m.c2, (HSV.out.later (Below.refl _ _).drew).b.cell⟩)
   (first | (go_at_call 45; refine (HRp.out _ (Below.refl _ _).drew).mono ?_; rintro e w1 ⟨rfl, hb⟩; have HV1 : Hid (SrV w1 w.heap.size r c n k b a 0 false 0) := (HSV.out.later (Below.refl _ _).drew).later hb; have HB1 : Hid (Below w.heap.size w w1) := qa0 (qa0 HBb.out (Below.refl _ _).drew) hb; have hs1 : w.heap.size + 5 ≤ w1.heap.size := (by have h1 := hb.size; have h2 := (Below.refl wb.heap.size wb).drew.size; simp at h1; omega); clear hb))
 have HV0 := qa2 hv0
 clear m0 m1 m2' b0 hv0 HSV HBb HRp HFu HWe hsz
 cases v0
 ·have HS0 : Hid (SrP (m2 F r c) r b C G 0 false 0) := .inl ⟨rfl, rfl, rfl, qmz HMe.out HDb.out (fun h => absurd (HV0.out.2 h) (by decide))⟩
  have HP3 := qa2 (HV1.out.put3 (.int .u64 0) (.bool false) (.int .i64 0))
  obtain ⟨y1, c1⟩ := HP3.out.c1
  obtain ⟨y2, c2⟩ := HP3.out.c2
  obtain ⟨y3, c3⟩ := HP3.out.c3
  have f1 := HP3.out.f1
  have f2 := HP3.out.f2
  have f3 := HP3.out.f3
  have HBz : Hid (Below w.heap.size w _) := HB1.out.trans (HP3.out.low w.heap.size (by omega) (by omega))
  clear hz hD HDl HDb HV0 hb hr hb64 HA HRt HO HMe
  have hnb : (!false) = true := rfl
  go_wp2
  have p1 := cell_of_row _ (w.heap.size + 1 + 1) 0 _ _ _ HP3.out.p1
  have p2 := cell_of_row _ (w.heap.size + 1 + 1 + 1) 0 _ _ _ HP3.out.p2
  have p3 := cell_of_row _ (w.heap.size + 1 + 1 + 1 + 1) 0 _ _ _ HP3.out.p3
  simp only [List.getElem?_toArray, List.getElem?_cons_zero] at p1 p2 p3
  refine ⟨.tuple #[.int .u64 0, .bool false, .int .i64 0], by simp [results, Tryz.results27, go_sem, p1, p2, p3], ?_⟩
  exact ⟨0, false, 0, rfl, HS0.out, HBz.out⟩
 ·have hnb : (!true) = false := rfl
  have HVl := qa2 (HV1.out.later (qa1 w1 (.cells #[.int .i64 0] 3)))
  have HLl : Hid (Cl (w1.alloc (.cells #[.int .i64 0] 3)) w1.heap.size (.int .i64 0) 3) := Cl.new _ _ _
  have hsl : (w1.alloc (.cells #[.int .i64 0] 3)).heap.size = w1.heap.size + 1 := by simp
  have HBl : Hid (Below w.heap.size w (w1.alloc (.cells #[.int .i64 0] 3))) := HB1.out.trans ((qa1 _ _).mono (by omega))
  generalize HWl : w1.alloc (.cells #[.int .i64 0] 3) = wl at *
  have m0 := HVl.out.m.c0
  have HWl' := qa2 HWl
  clear HWl
  go_wp2
  obtain ⟨L, HL⟩ : ∃ L, Hid (w1.heap.size = L) := ⟨_, rfl⟩
  obtain ⟨ml, HM⟩ : ∃ m, Hid (w1.heap.size + 1 = m) := ⟨_, rfl⟩
  have hLm : L < ml := by rw [← HL.out, ← HM.out]; omega
  have hm4 : w.heap.size + 4 < L := by rw [← HL.out]; omega
  rw [HWl'.out]
  have HI0 : Hid (Sr19 w wl ml L r c n k b 0 0 false 0 a ml wl.heap.size []) := ⟨HBl.out, HVl.out, by rw [← HL.out]; exact HLl.out, by rw [← HM.out]; omega, trivial⟩
  have HSSD : Hid (SS (m2 F r c) r D (m2 F r c b)) := HV0.out.1 (by trivial)
  rw [HL.out]
  clear HVl HLl HBl hsl HWl' HV1 HB1 hs1 HM HL HV0
  go_step3
  go_wp2
  clear m0
  refine wp_loop (fun act W => ∃ (i : Nat) (ds : List Deferred) (u10 u11 u29 u30 u31 u32 u33 u34 u35 u36 u37 u38 u39 u40 u41 u42 u43 u44 u45 u46 : Value), i ≤ r ∧ act = { tmps := #[Value.agg #[Value.int IntKind.i64 (r : Int), Value.int IntKind.i64 (c : Int), Value.slice a n k], Value.int IntKind.i64 (b : Int), Value.pointer (some { block := w.heap.size, off := 0 }), Value.pointer (some { block := w.heap.size + 1, off := 0 }), Value.pointer (some { block := w.heap.size + 1 + 1, off := 0 }), Value.pointer (some { block := w.heap.size + 1 + 1 + 1, off := 0 }), Value.pointer (some { block := w.heap.size + 1 + 1 + 1 + 1, off := 0 }), Value.int IntKind.u64 (A : Int), Value.int IntKind.i64 0, Value.pointer (some { block := L, off := 0 }), u10, u11, Value.tuple #[Value.int IntKind.u64 (A : Int), Value.int IntKind.i64 0], Value.pointer (some { block := w.heap.size, off := 0 }), Value.int IntKind.i64 (r : Int), Value.tuple #[Value.int IntKind.u64 (A : Int), Value.int IntKind.i64 0], Value.int IntKind.u64 (A : Int), Value.int IntKind.i64 0, Value.agg #[Value.int IntKind.i64 (r : Int), Value.int IntKind.i64 (c : Int), Value.slice a n k], Value.int IntKind.i64 (b : Int), Value.int IntKind.u64 (A : Int), Value.int IntKind.i64 (b : Int), Value.int IntKind.u64 (z : Int), Value.int IntKind.u64 (D : Int), Value.bool true, Value.bool false, Value.pointer (some { block := w.heap.size, off := 0 }), Value.int IntKind.i64 (r : Int), Value.int IntKind.i64 (i : Int), u29, u30, u31, u32, u33, u34, u35, u36, u37, u38, u39, u40, u41, u42, u43, u44, u45, u46], defers := ds } ∧ Sr19 w W ml L r c n k b (sm19 C i) 0 false 0 a ml W.heap.size ds ∧ NoneB (m2 F r c) r b C G i 0 ∧ sm19 C i ≤ 16384) (fun act _ => r - (intOf (act.tmps.getD 28 undef)).toNat) ?hstart ?hround
  case hstart => exact ⟨0, [], _, _, _, _, _, _, _, _, _, _, _, _, _, _, _, _, _, _, _, _, by omega, rfl, HI0.out, NoneB.zero _ _ _ _ _, by show 0 ≤ 16384; omega⟩
  case hround =>
   rintro act W ⟨i, ds, u10, u11, u29, u30, u31, u32, u33, u34, u35, u36, u37, u38, u39, u40, u41, u42, u43, u44, u45, u46, hi, rfl, hI, hN, hq⟩
   have HI := qa2 hI
   have HN := qa2 hN
   have hsz := hI.sz
   clear hI hN HI0
   by_cases hlt : i < r
   ·have c1 : decide ((i : Int) < (r : Int)) = true := decide_eq_true (by omega)
    have c2 : decide (i < r) = true := decide_eq_true hlt
    have m0 := HI.out.v.m.c0
    have b0 := HI.out.v.b.cell
    go_wp2_with (go_at_call 44; refine (lothers _ _ _ _).mono ?_; rintro e w2 ⟨bn, bk, bb, rfl, hn1, hn2, hn3, hg1, hg2, hg3, hb2⟩; have HC1 := qa2 hn1; have HC2 := qa2 hn2; have HC3 := qa2 hn3; have HB2 : Hid (Below W.heap.size W w2) := hb2; have hs2 := hb2.size; clear hn1 hn2 hn3 hb2)
    have HI2 : Hid (Sr19 w w2 w2.heap.size L r c n k b (sm19 C i) 0 false 0 a ml W.heap.size ds) := (HI.out.low (by omega) (by omega) (Nat.le_refl _) HB2.out).up (Nat.le_refl _)
    have l1 := HC1.out.lt
    have l2 := HC2.out.lt
    have l3 := HC3.out.lt
    obtain ⟨m, HMm⟩ : ∃ m, Hid (w2.heap.size = m) := ⟨_, rfl⟩
    have hmm : W.heap.size ≤ m := by rw [← HMm.out]; exact hs2
    have hm2 : w2.heap.size = m := HMm.out
    rw [hm2] at l1 l2 l3
    have HI2' : Hid (Sr19 w w2 m L r c n k b (sm19 C i) 0 false 0 a ml W.heap.size ds) := by rw [← HMm.out]; exact HI2.out
    clear HI2 m0 b0
    refine (wpIn_wide (n := 4)).1 ?_
    refine qgy (nn := 4) (C := C i) (bn := bn) (bk := bk) (bb := bb) (n := r) (b := b) (i : Int) (f i) (ix i) (G i)
     (fun j W' => Sr19 w W' m L r c n k b (sm19 C i + j) 0 false 0 a ml W.heap.size ds ∧ Cl W' bn (.int .i64 (r : Int)) 3 ∧ Cl W' bk (.int .i64 (i : Int)) 3 ∧ Cl W' bb (.int .i64 (b : Int)) 3 ∧ NoneB (m2 F r c) r b C G i j ∧ sm19 C i + j ≤ 16384)
     (fun cc W' => (cc = .exit 0 ∧ ∃ j, j < C i ∧ sm19 C i + j = 16384 ∧ NoneB (m2 F r c) r b C G i j ∧ Sr19 w W' m L r c n k b (sm19 C i + j) 0 false 0 a ml W.heap.size ds) ∨ (cc = .ret ∧ ∃ j, j < C i ∧ sm19 C i + j < 16384 ∧ NoneB (m2 F r c) r b C G i j ∧ SS (m2 F r c) r (G i j) (m2 F r c b) ∧ Sr19 w W' m L r c n k b (sm19 C i + j + 1) (G i j) true 0 a ml W.heap.size ds))
     (by omega) hr hb (HO.out i hlt).all (HO.out i hlt).is rfl ?hKp ?hKx ?hKc ?h0
     (fun s => { tmps := #[Value.agg #[Value.int IntKind.i64 (r : Int), Value.int IntKind.i64 (c : Int), Value.slice a n k], Value.int IntKind.i64 (b : Int), Value.pointer (some { block := w.heap.size, off := 0 }), Value.pointer (some { block := w.heap.size + 1, off := 0 }), Value.pointer (some { block := w.heap.size + 1 + 1, off := 0 }), Value.pointer (some { block := w.heap.size + 1 + 1 + 1, off := 0 }), Value.pointer (some { block := w.heap.size + 1 + 1 + 1 + 1, off := 0 }), Value.int IntKind.u64 (A : Int), Value.int IntKind.i64 0, Value.pointer (some { block := L, off := 0 }), Value.int IntKind.i64 (i : Int), Value.int IntKind.u64 (s : Int), Value.tuple #[Value.int IntKind.u64 (A : Int), Value.int IntKind.i64 0], Value.pointer (some { block := w.heap.size, off := 0 }), Value.int IntKind.i64 (r : Int), Value.tuple #[Value.int IntKind.u64 (A : Int), Value.int IntKind.i64 0], Value.int IntKind.u64 (A : Int), Value.int IntKind.i64 0, Value.agg #[Value.int IntKind.i64 (r : Int), Value.int IntKind.i64 (c : Int), Value.slice a n k], Value.int IntKind.i64 (b : Int), Value.int IntKind.u64 (A : Int), Value.int IntKind.i64 (b : Int), Value.int IntKind.u64 (z : Int), Value.int IntKind.u64 (D : Int), Value.bool true, Value.bool false, Value.pointer (some { block := w.heap.size, off := 0 }), Value.int IntKind.i64 (r : Int), Value.int IntKind.i64 (i : Int), Value.bool true, Value.int IntKind.i64 (i : Int), Value.pointer (some { block := w.heap.size, off := 0 }), Value.int IntKind.i64 (r : Int), Value.int IntKind.i64 (b : Int), Value.int IntKind.i64 (i : Int), Value.func (Fn.func 76) #[] #[Value.pointer (some { block := bn, off := 0 }), Value.pointer (some { block := bk, off := 0 }), Value.pointer (some { block := bb, off := 0 })], Value.int IntKind.u64 (s : Int), u37, u38, u39, u40, u41, u42, u43, u44, u45, u46], defers := [] }) ?hassign ?hbody ?hdone ?hstop
    case hKp =>
     rintro j W1 W2 ⟨h1, h2, h3, h4, h5, h6⟩ hB
     rw [hm2] at hB
     exact ⟨h1.low (by omega) (by omega) hmm hB, h2.low l1 hB, h3.low l2 hB, h4.low l3 hB, h5, h6⟩
    case hKx =>
     rintro cc W1 W2 (⟨h1, j, h2, h3, h4, h5⟩ | ⟨h1, j, h2, h3, h4, h5, h6⟩) hB
     ·rw [hm2] at hB
      exact .inl ⟨h1, j, h2, h3, h4, h5.low (by omega) (by omega) hmm hB⟩
     ·rw [hm2] at hB
      exact .inr ⟨h1, j, h2, h3, h4, h5, h6.low (by omega) (by omega) hmm hB⟩
    case hKc => exact fun j W1 h => ⟨h.2.1.cell, h.2.2.1.cell, h.2.2.2.1.cell⟩
    case h0 => exact ⟨HI2'.out, HC1.out, HC2.out, HC3.out, HN.out, hq⟩
    case hassign =>
     intro q l s W1 K hK
     gi_wp2
     exact hK
    case hbody =>
     rintro q l j W1 hj ⟨h1, h2, h3, h4, h5, h6⟩
     rw [hm2]
     obtain ⟨t, HT⟩ : ∃ t, Hid (sm19 C i + j = t) := ⟨_, rfl⟩
     rw [HT.out] at h1 h6
     have H1 := qa2 h1
     have H2 := qa2 h2
     have H3 := qa2 h3
     have H4 := qa2 h4
     have H5 := qa2 h5
     have a1c := h1.l.cell
     have a1f := h1.l.free
     have hsz1 := h1.sz
     clear h1 h2 h3 h4 h5
     by_cases h16 : t = 16384
     ·have k1 : ((t : Int) == 16384) = true := by simp [h16]; try rfl
      have HX : Hid (rndR (fun j W' => Sr19 w W' m L r c n k b (sm19 C i + j) 0 false 0 a ml W.heap.size ds ∧ Cl W' bn (.int .i64 (r : Int)) 3 ∧ Cl W' bk (.int .i64 (i : Int)) 3 ∧ Cl W' bb (.int .i64 (b : Int)) 3 ∧ NoneB (m2 F r c) r b C G i j ∧ sm19 C i + j ≤ 16384)
       (fun cc W' => (cc = .exit 0 ∧ ∃ j, j < C i ∧ sm19 C i + j = 16384 ∧ NoneB (m2 F r c) r b C G i j ∧ Sr19 w W' m L r c n k b (sm19 C i + j) 0 false 0 a ml W.heap.size ds) ∨ (cc = .ret ∧ ∃ j, j < C i ∧ sm19 C i + j < 16384 ∧ NoneB (m2 F r c) r b C G i j ∧ SS (m2 F r c) r (G i j) (m2 F r c b) ∧ Sr19 w W' m L r c n k b (sm19 C i + j + 1) (G i j) true 0 a ml W.heap.size ds)) j m W1 (.exit 0) { tmps := #[], defers := [] } W1) :=
       ⟨.inl ⟨rfl, j, hj, by rw [HT.out]; exact h16, H5.out, by rw [HT.out]; exact H1.out⟩, Nat.le_refl _, fun _ _ _ => rfl⟩
      clear HT h6 h16
      gi_wp2
      exact HX.out
     ·have k1 : ((t : Int) == 16384) = false := by simp; omega
      obtain ⟨t', ht'⟩ : ∃ t', t + 1 = t' := ⟨_, rfl⟩
      have e1 : (t : Int) + 1 = (t' : Int) := by omega
      obtain ⟨s, HS⟩ : ∃ s, Hid (G i j = s) := ⟨_, rfl⟩
      obtain ⟨v, hv⟩ : ∃ v : Bool, v = true ↔ SS (m2 F r c) r s (m2 F r c b) := by
       by_cases h : SS (m2 F r c) r s (m2 F r c b)
       ·exact ⟨true, fun _ => h, fun _ => rfl⟩
       ·exact ⟨false, fun e => absurd e (by decide), fun e => absurd e h⟩
      have hsl : s < 2 ^ r := by rw [← HS.out]; exact (HO.out i hlt).lt j hj
      have hg := qap W1 L 0 (.int .i64 (t' : Int))
      obtain ⟨W2, HW2⟩ : ∃ W2, Hid (W1.setCell ⟨L, 0, none⟩ (.int .i64 (t' : Int)) = W2) := ⟨_, rfl⟩
      rw [HW2.out] at hg
      have hgs : W2.heap.size = W1.heap.size := by rw [← HW2.out]; simp
      have H12 : Hid (Sr19 w W2 m L r c n k b t' 0 false 0 a ml W.heap.size ds) := by
       rw [← HW2.out]
       exact H1.out.put hm4 hLm t'
      have HB12 : Hid (∀ i, m ≤ i → i < W1.heap.size → W2.heap[i]? = W1.heap[i]?) := fun i h1 h2 => hg.block i h2 (fun e => by have := Option.some.inj e; omega)
      have HC12 : Hid (Cl W2 bn (.int .i64 (r : Int)) 3 ∧ Cl W2 bk (.int .i64 (i : Int)) 3 ∧ Cl W2 bb (.int .i64 (b : Int)) 3) := ⟨H2.out.kept hg (fun e => by have := Option.some.inj e; omega), H3.out.kept hg (fun e => by have := Option.some.inj e; omega), H4.out.kept hg (fun e => by have := Option.some.inj e; omega)⟩
      have HRp : Hid (Calls Tryz.prog 45 #[mv r c a n k, .int .i64 (b : Int), .int .u64 (s : Int)] W2 fun e w'' => e = .returned (.bool v) ∧ Below W2.heap.size W2 w'') := qhm W2 r c n k b s a F v (HA.out.later H12.out.below) HRt.out hb hsl hv
      have m0 := H12.out.v.m.c0
      have m1 := H12.out.v.m.c1
      have m2' := H12.out.v.m.c2
      have b0 := H12.out.v.b.cell
      rw [← HW2.out] at m0 m1 m2' b0
      have HV := qa2 hv
      have HTt : Hid (sm19 C i + (j + 1) = t') := by show _ = _; have := HT.out; omega
      have h16' : t' ≤ 16384 := by omega
      clear hg hv hsl H1 H2 H3 H4
      rw [HS.out]
      cases v
      ·have HF : Hid (∀ w3, Below W2.heap.size W2 w3 → ((Sr19 w w3 m L r c n k b (sm19 C i + (j + 1)) 0 false 0 a ml W.heap.size ds ∧ Cl w3 bn (.int .i64 (r : Int)) 3 ∧ Cl w3 bk (.int .i64 (i : Int)) 3 ∧ Cl w3 bb (.int .i64 (b : Int)) 3 ∧ NoneB (m2 F r c) r b C G i (j + 1) ∧ sm19 C i + (j + 1) ≤ 16384) ∧ W1.heap.size ≤ w3.heap.size ∧ ∀ i, m ≤ i → i < W1.heap.size → w3.heap[i]? = W1.heap[i]?)) := fun w3 hb3 => by
        have hm := hb3.size
        refine ⟨⟨?_, HC12.out.1.later hb3, HC12.out.2.1.later hb3, HC12.out.2.2.later hb3, H5.out.step (by rw [HS.out]; exact fun h => absurd (HV.out.2 h) (by decide)), by rw [HTt.out]; exact h16'⟩, by omega, fun i h1 h2 => by rw [hb3.block i (by omega)]; exact HB12.out i h1 h2⟩
        rw [HTt.out]
        exact H12.out.low (by omega) (by omega) hmm (hb3.mono (by omega))
       clear HT h6 h16 ht' HTt HV HC12 HB12 H12 H5
       gi_wp2
       refine ⟨trivial, fun h => (by cases h), ?_⟩
       gi_at_call 45
       rw [HW2.out]
       refine (CallsIn.inRound l (callsIn_wide.2 HRp.out)).mono ?_
       rintro e w3 ⟨rfl, hb3⟩
       have HB3 : Hid (Below W2.heap.size W2 w3) := hb3
       clear hb3
       gi_wp2
       exact HF.out w3 HB3.out
      ·have HF : Hid (∀ w3, Below W2.heap.size W2 w3 → Sr19 w w3 m L r c n k b t' 0 false 0 a ml W.heap.size ds ∧ W1.heap.size ≤ w3.heap.size ∧ ∀ i, m ≤ i → i < W1.heap.size → w3.heap[i]? = W1.heap[i]?) := fun w3 hb3 => by
        have hm := hb3.size
        exact ⟨H12.out.low (by omega) (by omega) hmm (hb3.mono (by omega)), by omega, fun i h1 h2 => by rw [hb3.block i (by omega)]; exact HB12.out i h1 h2⟩
       have HX : Hid (sm19 C i + j < 16384 ∧ NoneB (m2 F r c) r b C G i j ∧ SS (m2 F r c) r s (m2 F r c b) ∧ sm19 C i + j + 1 = t') := ⟨by have := HT.out; omega, H5.out, HV.out.1 rfl, by have := HT.out; omega⟩
       clear HT h6 h16 ht' HTt HV HC12 HB12 H12 H5
       gi_wp2
       refine ⟨trivial, fun h => (by cases h), ?_⟩
       gi_at_call 45
       rw [HW2.out]
       refine (CallsIn.inRound l (callsIn_wide.2 HRp.out)).mono ?_
       rintro e w3 ⟨rfl, hb3⟩
       obtain ⟨hs3, hz3, hk3⟩ := HF.out w3 hb3
       have HS3 := qa2 hs3
       have HK3 := qa2 hk3
       have HP3 := qa2 (hs3.v.put3 (.int .u64 (s : Int)) (.bool true) (.int .i64 0))
       obtain ⟨y1, c1'⟩ := HP3.out.c1
       obtain ⟨y2, c2'⟩ := HP3.out.c2
       obtain ⟨y3, c3'⟩ := HP3.out.c3
       have f1' := HP3.out.f1
       have f2' := HP3.out.f2
       have f3' := HP3.out.f3
       clear hb3 hs3 hk3
       gi_wp2
       obtain ⟨x1, x2, x3, x4⟩ := HX.out
       have hz := HP3.out.size
       refine ⟨.inr ⟨rfl, j, hj, x1, x2, by rw [HS.out]; exact x3, by rw [HS.out, x4]; exact HS3.out.put3 hm4 hLm hmm (by omega) s true 0⟩, by omega, fun i h1 h2 => by rw [HP3.out.high i (by omega) (by omega)]; exact HK3.out i h1 h2⟩
    case hdone =>
     rintro E W1 hE ⟨h1, _, _, _, h5, h6⟩ hdf
     rw [hm2] at hE
     have H1 := qa2 h1
     have H5 := qa2 h5
     have HDf := qa2 hdf
     clear h1 h5 hdf
     go_wp2
     refine ⟨⟨i + 1, _, _, _, _, _, _, _, _, _, _, _, _, _, _, _, _, _, _, _, _, _, by omega, rfl, ⟨H1.out.below, H1.out.v, H1.out.l, by have := H1.out.sz; omega, ⟨E, rfl, by omega, lt_of_block HDf.out, HDf.out, H1.out.d.mono (by omega)⟩⟩, H5.out.size, h6⟩, ?_⟩
     simp [intOf]
     omega
    case hstop =>
     rintro E cc W1 hE (⟨rfl, j, h2, h3, h4, h5⟩ | ⟨rfl, j, h2, h3, h4, h5, h6⟩) hdf
     ·rw [hm2] at hE
      have hz5 := h5.sz
      have HD : Hid (DOk W1 ml W1.heap.size ({ target := .collected E, args := #[] } :: ds)) := ⟨E, rfl, by omega, lt_of_block hdf, hdf, h5.d.mono (by omega)⟩
      have H5 := qa2 h5
      have HX : Hid (SrP (m2 F r c) r b C G 0 false 4) := .inr (.inr ⟨rfl, rfl, rfl, i, j, hlt, h2, h3, h4, D, HDl.out, fun e => (HDb.out b hb).1 e rfl, HSSD.out⟩)
      have HP3 := qa2 (h5.v.put3 (.int .u64 0) (.bool false) (.int .i64 4))
      obtain ⟨y1, c1'⟩ := HP3.out.c1
      obtain ⟨y2, c2'⟩ := HP3.out.c2
      obtain ⟨y3, c3'⟩ := HP3.out.c3
      have f1' := HP3.out.f1
      have f2' := HP3.out.f2
      have f3' := HP3.out.f3
      clear h2 h3 h4 h5 hdf
      refine wpIn_wide.2 ?_
      go_wp2
      have hz := HP3.out.size
      refine qcq _ _ _ (HD.out.kept (fun i h1 h2 h3 => HP3.out.high i (by omega) h3)) (by omega) (fun W' hW' => ?_)
      have p1 := cell_of_row W' (w.heap.size + 1 + 1) 0 _ _ _ ((hW'.block _ (by omega)).trans HP3.out.p1)
      have p2 := cell_of_row W' (w.heap.size + 1 + 1 + 1) 0 _ _ _ ((hW'.block _ (by omega)).trans HP3.out.p2)
      have p3 := cell_of_row W' (w.heap.size + 1 + 1 + 1 + 1) 0 _ _ _ ((hW'.block _ (by omega)).trans HP3.out.p3)
      simp only [List.getElem?_toArray, List.getElem?_cons_zero] at p1 p2 p3
      refine ⟨.tuple #[.int .u64 0, .bool false, .int .i64 4], by simp [results, Tryz.results27, go_sem, p1, p2, p3], ?_⟩
      exact ⟨0, false, 4, rfl, HX.out, (H5.out.below.trans (HP3.out.low w.heap.size (by omega) (by omega))).trans (hW'.mono (by omega))⟩
     ·rw [hm2] at hE
      have hz5 := h6.sz
      have HD : Hid (DOk W1 ml W1.heap.size ({ target := .collected E, args := #[] } :: ds)) := ⟨E, rfl, by omega, lt_of_block hdf, hdf, h6.d.mono (by omega)⟩
      have H6 := qa2 h6
      have HX : Hid (SrP (m2 F r c) r b C G (G i j) true 0) := .inr (.inl ⟨rfl, rfl, i, j, hlt, h2, rfl, h3, h5, h4⟩)
      clear h2 h3 h4 h5 h6 hdf
      refine wpIn_wide.2 ?_
      go_wp2
      refine qcq _ _ _ HD.out (by omega) (fun W' hW' => ?_)
      have V := H6.out.v.low (m := ml) (by omega) hW'
      have p1 := V.x.cell
      have p2 := V.v.cell
      have p3 := V.e.cell
      refine ⟨.tuple #[.int .u64 (G i j : Nat), .bool true, .int .i64 ((0 : Nat) : Int)], by simp [results, Tryz.results27, go_sem, p1, p2, p3], ?_⟩
      exact ⟨G i j, true, 0, rfl, HX.out, H6.out.below.trans (hW'.mono (by omega))⟩
   ·obtain rfl : i = r := by omega
    exact absurd HSSD.out (HN.out.end HO.out hb HDl.out (fun e => (HDb.out b hb).1 e rfl))
open Go.RowKit Go.Shelf
attribute [local go_sem] Oper.semAt_some
theorem qj0 {H : Nat → Nat} {r t b : Nat} (hb : b < r) : ext0 (fun j => H (b * t + j)) t = m2 H r t b := funext fun j => by
 unfold ext0
 by_cases hj : j < t
 ·rw [if_pos hj, qb1 _ hb hj]
 ·rw [if_neg hj, qaf _ (by omega)]
/-- What Least answers of a generator. -/
def LeaP (w w' : World) (e : Ending) (M : Nat → Nat → Nat) (r b : Nat) (C : Nat → Nat) (G : Nat → Nat → Nat) : Prop :=
 (∃ er : Nat, e = .returned (.tuple #[.int .u64 0, .slice none 0 0, .bool false, .int .i64 (er : Int)]) ∧ SrP M r b C G 0 false er ∧ Below w.heap.size w w') ∨
 (∃ (x g : Nat) (P : Nat → Nat), e = .returned (.tuple #[.int .u64 (x : Int), .slice (some ⟨g, 0, none⟩) r r, .bool true, .int .i64 0]) ∧ SrP M r b C G x true 0 ∧ CmbS M r b x P ∧ RowAt w' g 5 r P ∧ w.heap.size ≤ g ∧ Below w.heap.size w w')
theorem qgz (w : World) (r c n k b : Nat) (a : Option Addr) (F : Nat → Nat) (ha : Mt w a n k F) (R : Rt r c n) (hg : GenQ r c n) (hb : b < r) (C : Nat → Nat) (f ix G : Nat → Nat → Nat) (O : qex r b C f ix G) :
  Calls Tryz.prog 7 #[mv r c a n k, .int .i64 (b : Int)] w fun e w' => LeaP w w' e (m2 F r c) r b C G := by
 have hr := R.r64
 have HWr : Hid (∀ w' : World, Calls Tryz.prog 25 #[mv r c a n k, .int .i64 (b : Int)] w' fun e w'' => e = .returned (.int .i64 0) ∧ Below w'.heap.size w' w'') := fun w' => lwrong w' r c b 0 n k a (.inr (.inr ⟨hg, ⟨by omega, by omega⟩, rfl⟩))
 obtain ⟨wb, HW⟩ : ∃ wb, Hid (wb = w.alloc (.cells #[.int .i64 (r : Int), .int .i64 (c : Int), .slice a n k] 24)) := ⟨_, rfl⟩
 have HVa : Hid (Vr wb w.heap.size (.int .i64 (r : Int)) (.int .i64 (c : Int)) (.slice a n k)) := by show Vr _ _ _ _ _; rw [HW.out]; exact Vr.new _ _ _ _
 have HB0 : Hid (Below w.heap.size w wb) := by rw [HW.out]; exact qa1 _ _
 have HA := qa2 ha
 have HR := qa2 R
 have HO := qa2 O
 have HMe := qa2 (qax ha.sl.1 R)
 clear ha R O hg
 go_enter Tryz.func7, Tryz.ntmps7
 go_wp2_with (first
  | (go_at_call 25; rw [← HW.out]; refine (HWr.out _).mono ?_; rintro e w1 ⟨rfl, hb1⟩; have HV1 : Hid (Vr w1 w.heap.size (.int .i64 (r : Int)) (.int .i64 (c : Int)) (.slice a n k)) := HVa.out.later hb1; have HB1 : Hid (Below w.heap.size w w1) := qa0 HB0.out hb1; have u0 := HV1.out.c0; have u1 := HV1.out.c1; have u2 := HV1.out.c2; clear hb1)
  | (go_at_call 26; refine (qmv _ r c n k a F (HA.out.later HB1.out) HR.out).mono ?_; rintro e w2 ⟨g, top, N, H, rfl, hrow, hH, RN, hK, hb2⟩; have HH : Hid (∀ q, q < N → H q < 256) := hH; have HRN : Hid (Rt r top N) := RN; have HK : Hid (KerEq (m2 F r c) (m2 H r top) r) := hK; have HM2 : Hid (Mt (w2.alloc (.cells #[.int .i64 (r : Int), .int .i64 (top : Int), .slice (some ⟨g, 0, none⟩) N N] 24)) (some ⟨g, 0, none⟩) N N H) := (hrow.mt hH).later (qa1 _ _); have HVb : Hid (Vr (w2.alloc (.cells #[.int .i64 (r : Int), .int .i64 (top : Int), .slice (some ⟨g, 0, none⟩) N N] 24)) w2.heap.size (.int .i64 (r : Int)) (.int .i64 (top : Int)) (.slice (some ⟨g, 0, none⟩) N N)) := Vr.new _ _ _ _; have HV2 : Hid (Vr (w2.alloc (.cells #[.int .i64 (r : Int), .int .i64 (top : Int), .slice (some ⟨g, 0, none⟩) N N] 24)) w.heap.size (.int .i64 (r : Int)) (.int .i64 (c : Int)) (.slice a n k)) := (HV1.out.later hb2).later (qa1 _ _); have HB2 : Hid (Below w.heap.size w (w2.alloc (.cells #[.int .i64 (r : Int), .int .i64 (top : Int), .slice (some ⟨g, 0, none⟩) N N] 24))) := qa0 (qa0 HB1.out hb2) (qa1 _ _); clear hrow hH RN hK hb2)
  | (go_at_call 27; refine (lsearch _ r top N N b (some ⟨g, 0, none⟩) H HM2.out HRN.out hb C f ix G HO.out).mono ?_))
 rintro e w3 ⟨x, v, er, rfl, hs3, hb3⟩
 have HS3 : Hid (SrP (m2 F r c) r b C G x v er) := hs3.ker (qax HH.out HRN.out) HMe.out HK.out.symm hb
 have HB3 : Hid (Below w.heap.size w w3) := qa0 HB2.out hb3
 have HM3 : Hid (Mt w3 (some ⟨g, 0, none⟩) N N H) := HM2.out.later hb3
 have HVb3 : Hid (Vr w3 w2.heap.size (.int .i64 (r : Int)) (.int .i64 (top : Int)) (.slice (some ⟨g, 0, none⟩) N N)) := HVb.out.later hb3
 have HV3 : Hid (Vr w3 w.heap.size (.int .i64 (r : Int)) (.int .i64 (c : Int)) (.slice a n k)) := HV2.out.later hb3
 have hs := hs3.lst HO.out hb
 clear hb3 HV1 HV2 HVb HM2 HB1 HB2 HWr HVa HB0 HW u0 u1 u2 HA
 cases v
 ·clear hs hs3
  have hnv : (!false) = true := rfl
  go_wp2
  refine bodyPost_ret (v := .tuple #[.int .u64 0, .slice none 0 0, .bool false, .int .i64 (er : Int)]) (by simp [results, Tryz.results7, go_sem]) rfl ?_
  have h0 : x = 0 := by
   rcases HS3.out with ⟨h, _⟩ | ⟨h, _⟩ | ⟨h, _⟩
   ·exact h
   ·exact absurd h (by decide)
   ·exact h
  exact .inl ⟨er, rfl, by rw [← h0]; exact HS3.out, HB3.out⟩
 ·have hl : LstS (m2 H r top) r b x := by
   rcases hs with ⟨_, h1, _⟩ | ⟨_, _, hl⟩ | ⟨_, h1, _⟩
   ·exact absurd h1 (by decide)
   ·exact hl
   ·exact absurd h1 (by decide)
  have he0 : er = 0 := by
   rcases hs with ⟨_, h1, _⟩ | ⟨_, h, _⟩ | ⟨_, h1, _⟩
   ·exact absurd h1 (by decide)
   ·exact h
   ·exact absurd h1 (by decide)
  subst he0
  have hnv : (!true) = false := rfl
  have HHe := qa2 (qax HH.out HRN.out)
  have HLs := qa2 hl
  obtain ⟨K, hK⟩ : ∃ K, cn x r = K := ⟨_, rfl⟩
  obtain ⟨q, hq⟩ : ∃ q, lf x r = q := ⟨_, rfl⟩
  have HLi := qmo (f := q) (K := K) (qc7 hr hl.lt) (by rw [qfe hr hl.lt]; exact hK) (fun i _ => by rw [qm8 hr hl.lt, hq])
  have hKr : K ≤ 64 := by rw [← hK]; exact Nat.le_trans (qb0 r x) hr
  have HQ : Hid (∀ i, i < K → q i < r) := fun i hi => by rw [← hq]; exact (qal (by rw [hK]; exact hi)).1
  have HU : Hid (∀ i t, i < t → t < K → q i < q t) := fun i t h1 h2 => by rw [← hq]; exact qn0 h1 (by rw [hK]; exact h2)
  obtain ⟨NP, HNP⟩ : ∃ NP, Hid (K * top = NP) := ⟨_, rfl⟩
  have RP : Rt K top NP := ⟨hKr, HRN.out.c64, HNP.out⟩
  have HRP := qa2 RP
  have HPl : Hid (∀ i, i < NP → pkf H q top i < 256) := fun i hi => qfa HH.out HRN.out HQ.out i (by rw [HNP.out]; exact hi)
  have HSp : Hid (Spn (m2 (pkf H q top) K top) K (ext0 (fun j => H (b * top + j)) top)) := by
   rw [qj0 hb, ← hq, ← hK]
   exact (pick_ss HH.out HRN.out).2 hl.is
  have HEq : Hid (∀ X, CmbA (pkf H q top) (fun j => H (b * top + j)) K top X → CmbS (m2 F r c) r b x (spr x X)) := fun X hX => by
   refine (cmbs_of HHe.out hr HLs.out hX.1.1 (fun j => ?_)).ker HHe.out HMe.out HK.out.symm hb
   have h1 := hX.2 j
   rw [qj0 hb] at h1
   rw [h1, hq, hK]
   exact qb2 (fun _ _ => rfl) (fun i hi => by rw [qgc HQ.out hi])
  have HPP : Hid (∀ X i, i < r → pp q K X i = spr x X i) := fun X i hi => by rw [← hq, ← hK]; exact pp_spr X hi
  have hKi : (0 : Int) ≤ (K : Int) := by omega
  have b0 := HVb3.out.c0
  have b1 := HVb3.out.c1
  have b2 := HVb3.out.c2
  clear hs hs3 hl hK hq RP HK
  go_wp2_with (first
   | (go_at_call 28; refine (HLi.out _).mono ?_; rintro e w4 ⟨xs, xd, rfl, hil, hb4⟩; have HB4 : Hid (Below w.heap.size w w4) := qa0 HB3.out hb4; have HM4 : Hid (Mt w4 (some ⟨g, 0, none⟩) N N H) := HM3.out.later hb4; have HVb4 : Hid (Vr w4 w2.heap.size (.int .i64 (r : Int)) (.int .i64 (top : Int)) (.slice (some ⟨g, 0, none⟩) N N)) := HVb3.out.later hb4; have HV4 : Hid (Vr w4 w.heap.size (.int .i64 (r : Int)) (.int .i64 (c : Int)) (.slice a n k)) := HV3.out.later hb4; have HIl4 := qa2 hil; have d0 := HVb4.out.c0; have d1 := HVb4.out.c1; have d2 := HVb4.out.c2; clear hb4 hil)
   | (go_at_call 29; refine (qg6 _ r top N N K xd NP (some ⟨g, 0, none⟩) xs H q HM4.out HRN.out HIl4.out HQ.out hKr HNP).mono ?_; rintro e w5 ⟨g5, rfl, hr5, hg5, hb5⟩; have HB5 : Hid (Below w.heap.size w (w5.alloc (.cells #[.int .i64 (K : Int), .int .i64 (top : Int), .slice (some ⟨g5, 0, none⟩) NP NP] 24))) := qa0 (qa0 HB4.out hb5) (qa1 _ _); have HP5 : Hid (Mt (w5.alloc (.cells #[.int .i64 (K : Int), .int .i64 (top : Int), .slice (some ⟨g5, 0, none⟩) NP NP] 24)) (some ⟨g5, 0, none⟩) NP NP (pkf H q top)) := (hr5.mt HPl.out).later (qa1 _ _); have HM5 : Hid (Mt (w5.alloc (.cells #[.int .i64 (K : Int), .int .i64 (top : Int), .slice (some ⟨g5, 0, none⟩) NP NP] 24)) (some ⟨g, 0, none⟩) N N H) := (HM4.out.later hb5).later (qa1 _ _); have HVb5 : Hid (Vr (w5.alloc (.cells #[.int .i64 (K : Int), .int .i64 (top : Int), .slice (some ⟨g5, 0, none⟩) NP NP] 24)) w2.heap.size (.int .i64 (r : Int)) (.int .i64 (top : Int)) (.slice (some ⟨g, 0, none⟩) N N)) := (HVb4.out.later hb5).later (qa1 _ _); have HVc5 : Hid (Vr (w5.alloc (.cells #[.int .i64 (K : Int), .int .i64 (top : Int), .slice (some ⟨g5, 0, none⟩) NP NP] 24)) w5.heap.size (.int .i64 (K : Int)) (.int .i64 (top : Int)) (.slice (some ⟨g5, 0, none⟩) NP NP)) := Vr.new _ _ _ _; have HV5 : Hid (Vr (w5.alloc (.cells #[.int .i64 (K : Int), .int .i64 (top : Int), .slice (some ⟨g5, 0, none⟩) NP NP] 24)) w.heap.size (.int .i64 (r : Int)) (.int .i64 (c : Int)) (.slice a n k)) := (HV4.out.later hb5).later (qa1 _ _); have HIl5 : Hid (Il (w5.alloc (.cells #[.int .i64 (K : Int), .int .i64 (top : Int), .slice (some ⟨g5, 0, none⟩) NP NP] 24)) xs K (fun i => (q i : Int))) := (HIl4.out.later hb5).later (qa1 _ _); have x0 := HVb5.out.c0; have x1 := HVb5.out.c1; have x2 := HVb5.out.c2; clear hr5 hg5 hb5)
   | (go_at_call 30; refine (mrow_ok _ r top N N b (some ⟨g, 0, none⟩) H HM5.out HRN.out hb).mono ?_; rintro e w6 h6; obtain ⟨ys, yd, rfl, hy, hb6⟩ := qmp HH.out HRN.out hb h6; have HB6 : Hid (Below w.heap.size w w6) := qa0 HB5.out hb6; have HY6 := qa2 hy; have HP6 : Hid (Mt w6 (some ⟨g5, 0, none⟩) NP NP (pkf H q top)) := HP5.out.later hb6; have HVc6 : Hid (Vr w6 w5.heap.size (.int .i64 (K : Int)) (.int .i64 (top : Int)) (.slice (some ⟨g5, 0, none⟩) NP NP)) := HVc5.out.later hb6; have HV6 : Hid (Vr w6 w.heap.size (.int .i64 (r : Int)) (.int .i64 (c : Int)) (.slice a n k)) := HV5.out.later hb6; have HIl6 : Hid (Il w6 xs K (fun i => (q i : Int))) := HIl5.out.later hb6; have z0 := HVc6.out.c0; have z1 := HVc6.out.c1; have z2 := HVc6.out.c2; clear hy hb6 h6)
   | (go_at_call 31; refine (qm4 _ K top NP NP yd (some ⟨g5, 0, none⟩) ys (pkf H q top) _ HP6.out HRP.out HY6.out HSp.out).mono ?_; rintro e w7 ⟨cs, cd, X, rfl, hm7, hX, hb7⟩; have HB7 : Hid (Below w.heap.size w w7) := qa0 HB6.out hb7; have HM7 := qa2 hm7; have HX7 := qa2 (HEq.out X hX); have HV7 : Hid (Vr w7 w.heap.size (.int .i64 (r : Int)) (.int .i64 (c : Int)) (.slice a n k)) := HV6.out.later hb7; have HIl7 : Hid (Il w7 xs K (fun i => (q i : Int))) := HIl6.out.later hb7; have y0 := HV7.out.c0; clear hm7 hX hb7)
   | (go_at_call 32; refine (lplaced _ r K xd cd xs cs q X hr hKr HQ.out HU.out HIl7.out HM7.out.sl).mono ?_; rintro e w8 ⟨g8, rfl, hr8, hg8, hb8⟩; have HR8 : Hid (RowAt w8 g8 5 r (spr x X)) := hr8.congr (fun i hi => HPP.out X i hi); have HB8 : Hid (Below w.heap.size w w8) := qa0 HB7.out hb8; have hg9 : w.heap.size ≤ g8 := Nat.le_trans HB7.out.size hg8; clear hr8 hg8 hb8))
  refine bodyPost_ret (v := .tuple #[.int .u64 (x : Int), .slice (some ⟨g8, 0, none⟩) r r, .bool true, .int .i64 0]) (by simp [results, Tryz.results7, go_sem]) rfl ?_
  exact .inr ⟨x, g8, spr x X, rfl, HS3.out, HX7.out, HR8.out, hg9, HB8.out⟩
end Go.Proofs.YtblagbghpfopcaaGreat
