/-
  Contracts of the program's matrices: fillMultiples, Kron.
-/
import Derived.Test.YtmgfeepnkahkmaaGreatQggid00
import Derived.Test.YtmgfeepnkahkmaaGreatQggid14
set_option maxRecDepth 100000
set_option maxHeartbeats 16000000
namespace Go.Proofs.YtmgfeepnkahkmaaGreat
open Go.RowKit
/-- The multiples of G, one by each factor. -/
def mlf (h G : Nat → Nat) (cb q : Nat) : Nat := fm (h (q / cb)) (G (q % cb))
theorem mlf_at (h G : Nat → Nat) (cb t j : Nat) (hj : j < cb) : mlf h G cb (t * cb + j) = fm (h t) (G j) := by
 have h1 : (t * cb + j) / cb = t := by rw [Nat.mul_comm, Nat.mul_add_div (by omega), Nat.div_eq_of_lt hj, Nat.add_zero]
 have h2 : (t * cb + j) % cb = j := by rw [Nat.mul_comm, Nat.mul_add_mod, Nat.mod_eq_of_lt hj]
 unfold mlf
 rw [h1, h2]
theorem cpf_more (f m hh : Nat → Nat) (p q c : Nat) (e : ∀ j, j < c → hh j = m (q + j)) (z : Nat) : cpf (cpf f m p q) hh (p + q) c z = cpf f m p (q + c) z := by
 unfold cpf
 by_cases h1 : p + q ≤ z ∧ z < p + q + c
 ·rw [if_pos h1, if_pos ⟨by omega, by omega⟩, e _ (by omega)]
  congr 1
  omega
 ·rw [if_neg h1]
  by_cases h2 : p ≤ z ∧ z < p + q
  ·rw [if_pos h2, if_pos ⟨by omega, by omega⟩]
  ·rw [if_neg h2, if_neg (by omega)]
theorem cpf_zero (f m : Nat → Nat) (p z : Nat) : cpf f m p 0 z = f z := by unfold cpf; rw [if_neg (by omega)]
theorem fill_any (w : World) (gd p N ca cb CC da db : Nat) (dp sa sb : Option Addr) (f h G : Nat → Nat) (hr : RowAt w gd 5 N f) (hf : p + CC ≤ N) (eC : ca * cb = CC) (hdp : 0 < CC → dp = some ⟨gd, p, none⟩) (ha : Sl w sa ca h) (hb : Sl w sb cb G) (oa : 0 < ca → Off gd sa) (ob : 0 < cb → Off gd sb) (hN : N ≤ 4096) (hca : ca ≤ 64) (hcb : cb ≤ 64) :
  Calls Tryz.prog 63 #[.slice dp CC CC, .slice sa ca da, .slice sb cb db] w fun e w' => e = .returned (.tuple #[]) ∧ RowAt w' gd 5 N (cpf f (mlf h G cb) p CC) ∧ w.grownBy w' (some gd) := by
 have HR0 : Hid (RowAt w gd 5 N f) := hr
 have HEC : Hid (ca * cb = CC) := eC
 have HDp : Hid (0 < CC → dp = some ⟨gd, p, none⟩) := hdp
 have HD0 : Hid (dp = none → CC = 0) := fun e => by
  rcases Nat.eq_zero_or_pos CC with h | h
  ·exact h
  ·have := hdp h; rw [e] at this; cases this
 have HA : Hid (Sl w sa ca h) := ha
 have HB : Hid (Sl w sb cb G) := hb
 have HOa : Hid (0 < ca → Off gd sa) := oa
 have HOb : Hid (0 < cb → Off gd sb) := ob
 obtain ⟨m, HM⟩ : ∃ m : Nat → Nat, Hid (mlf h G cb = m) := ⟨_, rfl⟩
 rw [HM.out]
 clear hr eC hdp ha hb oa ob
 go_enter Tryz.func63, Tryz.ntmps63
 go_wp2
 go_loopw [6, 9] (fun _ i wr => ∃ t : Nat, t ≤ ca ∧ i = .int .i64 (t : Int) ∧ RowAt wr gd 5 N (cpf f m p (t * cb)) ∧ w.grownBy wr (some gd)) (fun _ i _ => ca - (intOf i).toNat)
 case atStart => exact ⟨0, by omega, rfl, HR0.out.congr (fun z _ => by rw [Nat.zero_mul, cpf_zero]), qd5 _ _⟩
 case round =>
  clear HR0
  obtain ⟨t, ht, rfl, hr, hg⟩ := hrel
  have HR : Hid (RowAt wr gd 5 N (cpf f m p (t * cb))) := hr
  have HG : Hid (w.grownBy wr (some gd)) := hg
  by_cases hlt : t < ca
  ·have HAr : Hid (Sl wr sa ca h) := HA.out.beside hg HOa.out
   have HBr : Hid (Sl wr sb cb G) := HB.out.beside hg HOb.out
   obtain ⟨bf, of, ef, hcf⟩ := HAr.out.2 t hlt
   obtain ⟨x, HX⟩ : ∃ x, Hid (h t = x) := ⟨_, rfl⟩
   rw [HX.out] at hcf
   have hx : x < 256 := by rw [← HX.out]; exact HA.out.1 t hlt
   have hbf : bf ≠ gd := HOa.out (by omega) ⟨bf, of, none⟩ ef
   obtain ⟨q, HQ⟩ : ∃ q, Hid (t * cb = q) := ⟨_, rfl⟩
   have HFi : Hid (q + cb ≤ CC) := by
    show q + cb ≤ CC
    rw [← HQ.out, ← HEC.out]
    exact Nat.le_trans (Nat.le_of_eq (show t * cb + cb = (t + 1) * cb by rw [Nat.add_mul, Nat.one_mul])) (Nat.mul_le_mul_right cb hlt)
   obtain ⟨sp, HSp⟩ : ∃ s, Hid (pc dp q cb = s) := ⟨_, rfl⟩
   have HSpv : Hid (0 < cb → sp = some ⟨gd, p + q, none⟩) := fun h => by
    have h2 := HFi.out
    rw [← HSp.out, HDp.out (by omega)]
    unfold pc
    rw [if_neg (by omega)]
    show some (Addr.add _ _) = _
    rw [add_plain]
   rw [HQ.out] at HR
   have HNext : Hid (∀ hh : Nat → Nat, (∀ j, j < cb → hh j = fm x (G j)) → ∀ z, cpf (cpf f m p q) hh (p + q) cb z = cpf f m p ((t + 1) * cb) z) := fun hh e z => by
    rw [cpf_more f m hh p q cb (fun j hj => by rw [e j hj, ← HM.out, ← HQ.out, mlf_at h G cb t j hj, HX.out]) z, ← HQ.out, Nat.add_mul, Nat.one_mul]
   have HD : Hid (wr.drew.cell? ⟨bf, of + t, none⟩ = some (.int .u8 (x : Int))) := hcf
   have t0 : (0 : Int) ≤ (t : Int) := Int.natCast_nonneg _
   have t1 : (t : Int) < (ca : Int) := by omega
   have hfi := HFi.out
   have hcc : CC ≤ 4096 := by omega
   have hpq : p + q + cb ≤ N := by omega
   clear hr hg
   subst ef
   go_wp2
   go_region_held3 (fun w' => w'.cell? ⟨bf, of + t, none⟩ = some (.int .u8 (x : Int)))
    (first
     | exact HK4.out
     | exact HK2.out
     | exact HD.out)
    (first
     | (go_at_call 89; refine (qfn _ dp CC CC cb t q HD0.out (Nat.le_refl _) HFi.out hcc (by omega) HQ sp HSp).mono ?_; rintro e w' ⟨rfl, rfl⟩)
     | (go_at_call 90; refine (scale_sl _ sb cb x db G hx (HBr.out.later (Below.refl _ _).drew) (by omega)).mono ?_; rintro e w5 ⟨s5, k5, rfl, hs5, hb5⟩; have HB5 : Hid (Below wr.heap.size wr w5) := qa0 (Below.refl _ _).drew hb5; have HS5 : Hid (Sl w5 s5 cb (fun j => fm x (G j))) := hs5; have HK2 : Hid (w5.cell? ⟨bf, of + t, none⟩ = some (.int .u8 (x : Int))) := keepc HB5.out hcf; clear hs5 hb5)
     | (refine qb6 rfl _ _ rfl gd (p + q) N cb cb k5 sp s5 (cpf f m p q) (fun j => fm x (G j)) rfl rfl (HR.out.later HB5.out) HSpv.out HS5.out hpq ?_; intro w7 HR7 HG7; have HR8 : Hid (RowAt w7 gd 5 N (cpf f m p ((t + 1) * cb))) := HR7.out.congr (fun z _ => HNext.out _ (fun _ _ => rfl) z); have HG8 : Hid (w.grownBy w7 (some gd)) := qaa (qaa HG.out (qcf HB5.out _)) HG7.out; have HK4 : Hid (w7.cell? ⟨bf, of + t, none⟩ = some (.int .u8 (x : Int))) := keepg HG7.out HK2.out (fun e => by cases e; exact hbf rfl); clear HR7 HG7))
   go_wp2
   exact ⟨⟨t + 1, by omega, by go_num, HR8.out, HG8.out⟩, by simp [intOf]; omega⟩
  ·obtain rfl : t = ca := by omega
   rw [HEC.out] at HR
   clear hr hg
   go_wp2
   go_end0
   exact ⟨rfl, HR.out, HG.out⟩
theorem KInv.copy {w wr w' : World} {gd g6 RR CC ra ca rb cb na nb n ka kb : Nat} {a b : Option Addr} {fn fn' : Nat → Nat} (I : KInv w wr gd g6 RR CC ra ca rb cb na nb n ka kb a b fn) (hr : RowAt w' gd 5 n fn') (hg : wr.grownBy w' (some gd)) : KInv w w' gd g6 RR CC ra ca rb cb na nb n ka kb a b fn' :=
 have d := I.dlow
 ⟨I.va.kept hg (by omega), I.vb.kept hg (by omega), I.vr.kept hg (by omega), I.vm.kept hg (Ne.symm I.d6), hr, qa3 I.below hg (by omega), I.d6, I.dlow⟩
theorem KInv.drew {w wr : World} {gd g6 RR CC ra ca rb cb na nb n ka kb : Nat} {a b : Option Addr} {fn : Nat → Nat} (I : KInv w wr gd g6 RR CC ra ca rb cb na nb n ka kb a b fn) : KInv w wr.drew gd g6 RR CC ra ca rb cb na nb n ka kb a b fn := I.later (Below.refl _ _).drew
theorem krf_row (F G : Nat → Nat) (ca rb cb CC i k j : Nat) (hk : k < rb) (hj : j < CC) : krf F G ca rb cb CC ((i * rb + k) * CC + j) = mlf (fun t => F (i * ca + t)) (fun t => G (k * cb + t)) cb j := by
 have h1 : (i * rb + k) / rb = i := by rw [Nat.mul_comm, Nat.mul_add_div (by omega), Nat.div_eq_of_lt hk, Nat.add_zero]
 have h2 : (i * rb + k) % rb = k := by rw [Nat.mul_comm, Nat.mul_add_mod, Nat.mod_eq_of_lt hk]
 rw [krf_at F G ca rb cb CC _ j hj, h1, h2]
 rfl
theorem mkron_ok (w : World) (ra ca rb cb na nb RR CC n ka kb : Nat) (a b : Option Addr) (F G : Nat → Nat) (ha : Mt w a na ka F) (hb : Mt w b nb kb G) (RA : Rt ra ca na) (RB : Rt rb cb nb) (eR : ra * rb = RR) (eC : ca * cb = CC) (RC : Rt RR CC n) :
  Calls Tryz.prog 29 #[mv ra ca a na ka, mv rb cb b nb kb] w fun e w' => ∃ g, e = .returned (.tuple #[mv RR CC (some ⟨g, 0, none⟩) n n, .int .i64 0]) ∧ RowAt w' g 5 n (krf F G ca rb cb CC) ∧ w.heap.size ≤ g ∧ Below w.heap.size w w' := by
 have HRA : Hid (Rt ra ca na) := RA
 have HRB : Hid (Rt rb cb nb) := RB
 have HRC : Hid (Rt RR CC n) := RC
 have HER : Hid (ra * rb = RR) := eR
 have HEC : Hid (ca * cb = CC) := eC
 have la := RA.le
 have lb := RB.le
 have lc := RC.le
 have RR64 := RC.r64
 have CC64 := RC.c64
 have ra64 := RA.r64
 have rb64 := RB.r64
 have ca64 := RA.c64
 have cb64 := RB.c64
 have eR' : (ra : Int) * (rb : Int) = (RR : Int) := by rw [← eR]; simp
 have eC' : (ca : Int) * (cb : Int) = (CC : Int) := by rw [← eC]; simp
 have wR : IntKind.i64.wrap (RR : Int) = (RR : Int) := by rw [IntKind.wrap_i64]; omega
 have wC : IntKind.i64.wrap (CC : Int) = (CC : Int) := by rw [IntKind.wrap_i64]; omega
 have HA : Hid (Mt w a na ka F) := ha
 have HBm : Hid (Mt w b nb kb G) := hb
 obtain ⟨wb, HW, HX⟩ : ∃ wb, Hid (wb = (((w.alloc (.cells #[.int .i64 (ra : Int), .int .i64 (ca : Int), .slice a na ka] 24)).alloc (.cells #[.int .i64 (rb : Int), .int .i64 (cb : Int), .slice b nb kb] 24)).alloc (.cells #[.int .i64 0, .int .i64 0, .slice none 0 0] 24)).alloc (.cells #[.int .i64 (ra : Int), .int .i64 (ca : Int), .slice a na ka, .int .i64 (rb : Int), .int .i64 (cb : Int), .slice b nb kb] 24)) ∧ Hid (Box3s w wb (ra : Int) (ca : Int) (rb : Int) (cb : Int) na ka nb kb a b) := ⟨_, rfl, box3s w (ra : Int) (ca : Int) (rb : Int) (cb : Int) na ka nb kb a b⟩
 obtain ⟨fn, HFn⟩ : ∃ fn : Nat → Nat, Hid (krf F G ca rb cb CC = fn) := ⟨_, rfl⟩
 rw [HFn.out]
 clear ha hb RA RB RC eR eC
 go_enter Tryz.func29, Tryz.ntmps29
 go_wp2_with (first
  | (go_at_call 60; rw [← HW.out]; refine (qjz _ _ _ _ _ _ _ _ _ _ _ _ HX.out.tw HRA.out.p HRB.out.p).mono ?_; rintro e w2 ⟨rfl, hb2⟩; have HB2 : Hid (Below wb.heap.size wb w2) := hb2; have a1 := (HX.out.va.later HB2.out).c1; have b0 := (HX.out.vb.later HB2.out).c0; have a0 := (HX.out.va.later HB2.out).c0; have b1 := (HX.out.vb.later HB2.out).c1; clear hb2)
  | (go_at_call 61; refine (qcu _ _ ⟨by omega, by omega⟩).mono ?_; rintro e w' ⟨rfl, rfl⟩)
  | (go_at_call 62; refine (qb0 _ RR CC n RR64 CC64 HRC.out.len).mono ?_; rintro e w3 ⟨gd, rfl, hr3, hg3, hb3⟩; have HR3 : Hid (RowAt w3 gd 5 n (fun _ => 0)) := hr3; have HB3 : Hid (Below wb.heap.size wb w3) := qa0 HB2.out hb3; have l2 := HB2.out.size; have hg4 : w2.heap.size ≤ gd := hg3; have a0' := ((HX.out.va.later HB3.out).later (qa1 w3 (.cells #[.int .i64 (RR : Int), .int .i64 (CC : Int), .slice (some ⟨gd, 0, none⟩) n n] 24))).c0; clear hr3 hb3 hg3))
 have HI0 : Hid (KInv w (w3.alloc (.cells #[.int .i64 (RR : Int), .int .i64 (CC : Int), .slice (some ⟨gd, 0, none⟩) n n] 24)) gd w3.heap.size RR CC ra ca rb cb na nb n ka kb a b (fun _ => 0)) := by
  have l0 := HX.out.vr.lt
  have l3 := HR3.out.lt
  exact ⟨(HX.out.va.later HB3.out).later (qa1 _ _), (HX.out.vb.later HB3.out).later (qa1 _ _), (HX.out.vr.later HB3.out).later (qa1 _ _), Vr.new w3 _ _ _, HR3.out.later (qa1 _ _), qa0 (qa0 HX.out.below HB3.out) (qa1 _ _), by omega, by omega⟩
 clear HW HX HB2 HR3 HB3 a0 a1 b0 b1 a0'
 go_loopw [7, 8, 45] (fun _ _ i wr => ∃ m : Nat, m ≤ ra ∧ i = .int .i64 (m : Int) ∧ KInv w wr gd w3.heap.size RR CC ra ca rb cb na nb n ka kb a b (upf fn (m * rb * CC))) (fun _ _ i _ => ra - (intOf i).toNat)
 case atStart => exact ⟨0, by omega, rfl, HI0.out.congr (fun p _ => by rw [Nat.zero_mul, Nat.zero_mul, qcy])⟩
 case round =>
  clear HI0
  obtain ⟨m, hm, rfl, I⟩ := hrel
  have HI : Hid (KInv w wr gd w3.heap.size RR CC ra ca rb cb na nb n ka kb a b (upf fn (m * rb * CC))) := I
  have b0 := I.vb.c0
  clear I
  by_cases hlt : m < ra
  ·go_wp2
   clear b0
   go_loopw [8, 50] (fun _ j wi => ∃ q : Nat, q ≤ rb ∧ j = .int .i64 (q : Int) ∧ KInv w wi gd w3.heap.size RR CC ra ca rb cb na nb n ka kb a b (upf fn ((m * rb + q) * CC))) (fun _ j _ => rb - (intOf j).toNat)
   case atStart => exact ⟨0, by omega, rfl, HI.out⟩
   case round =>
    clear HI
    obtain ⟨q, hq, rfl, I⟩ := hrel
    have HI : Hid (KInv w wr gd w3.heap.size RR CC ra ca rb cb na nb n ka kb a b (upf fn ((m * rb + q) * CC))) := I
    clear I
    by_cases hlq : q < rb
    ·obtain ⟨y, HY⟩ : ∃ y, Hid (m * rb + q = y) := ⟨_, rfl⟩
     obtain ⟨y0, HY0⟩ : ∃ y, Hid (m * rb = y) := ⟨_, rfl⟩
     have hy : y0 + q = y := by rw [← HY.out, ← HY0.out]
     have hyR : y < RR := by
      rw [← HY.out, ← HER.out]
      exact Nat.lt_of_lt_of_le (show m * rb + q < (m + 1) * rb by rw [Nat.add_mul, Nat.one_mul]; omega) (Nat.mul_le_mul_right rb hlt)
     obtain ⟨p, HP⟩ : ∃ p, Hid (y * CC = p) := ⟨_, rfl⟩
     obtain ⟨pa, HPa⟩ : ∃ p, Hid (m * ca = p) := ⟨_, rfl⟩
     obtain ⟨pb, HPb⟩ : ∃ p, Hid (q * cb = p) := ⟨_, rfl⟩
     obtain ⟨sp, HSp⟩ : ∃ s, Hid (pc (some ⟨gd, 0, none⟩) p CC = s) := ⟨_, rfl⟩
     obtain ⟨sa, HSa⟩ : ∃ s, Hid (pc a pa ca = s) := ⟨_, rfl⟩
     obtain ⟨sb, HSb⟩ : ∃ s, Hid (pc b pb cb = s) := ⟨_, rfl⟩
     rw [HY.out, HP.out] at HI
     have HFi : Hid (p + CC ≤ n) := by have := HRC.out.fit hyR; rw [HP.out] at this; exact this
     have HFa : Hid (pa + ca ≤ na) := by have := HRA.out.fit hlt; rw [HPa.out] at this; exact this
     have HFb : Hid (pb + cb ≤ nb) := by have := HRB.out.fit hlq; rw [HPb.out] at this; exact this
     obtain ⟨fa, HFA⟩ : ∃ f : Nat → Nat, Hid ((fun t => F (pa + t)) = f) := ⟨_, rfl⟩
     obtain ⟨fb, HFB⟩ : ∃ f : Nat → Nat, Hid ((fun t => G (pb + t)) = f) := ⟨_, rfl⟩
     have HSl : Hid (Sl w sa ca fa) := by have := HA.out.piece HFa.out; rw [HSa.out, HFA.out] at this; exact this
     have HSm : Hid (Sl w sb cb fb) := by have := HBm.out.piece HFb.out; rw [HSb.out, HFB.out] at this; exact this
     have hlow := HI.out.dlow
     have HOa : Hid (0 < ca → Off gd sa) := fun h => qcq HSl.out (by omega) h
     have HOb : Hid (0 < cb → Off gd sb) := fun h => qcq HSm.out (by omega) h
     have HNext : Hid (∀ z, cpf (upf fn p) (mlf fa fb cb) p CC z = upf fn ((m * rb + (q + 1)) * CC) z) := fun z => by
      rw [qdm fn _ p CC (fun j hj => by rw [← HFn.out, ← HP.out, ← HY.out, krf_row F G ca rb cb CC m q j hlq hj, HPa.out, HPb.out, HFA.out, HFB.out]) z, ← HP.out, ← HY.out, ← Nat.add_assoc, Nat.add_mul (m * rb + q), Nat.one_mul]
     have ey : (m : Int) * (rb : Int) = (y0 : Int) := by rw [← HY0.out]; simp
     have ey2 : (y0 : Int) + (q : Int) = (y : Int) := by omega
     have wy0 : IntKind.i64.wrap (y0 : Int) = (y0 : Int) := by rw [IntKind.wrap_i64]; omega
     have wy : IntKind.i64.wrap (y : Int) = (y : Int) := by rw [IntKind.wrap_i64]; omega
     have HD : Hid (wr.drew.cell? ⟨w3.heap.size, 0, none⟩ = some (.int .i64 (RR : Int)) ∧ wr.drew.cell? ⟨w3.heap.size, 1, none⟩ = some (.int .i64 (CC : Int)) ∧ wr.drew.cell? ⟨w3.heap.size, 2, none⟩ = some (.slice (some ⟨gd, 0, none⟩) n n) ∧ wr.drew.cell? ⟨w.heap.size, 0, none⟩ = some (.int .i64 (ra : Int)) ∧ wr.drew.cell? ⟨w.heap.size, 1, none⟩ = some (.int .i64 (ca : Int)) ∧ wr.drew.cell? ⟨w.heap.size, 2, none⟩ = some (.slice a na ka) ∧ wr.drew.cell? ⟨w.heap.size + 1, 0, none⟩ = some (.int .i64 (rb : Int)) ∧ wr.drew.cell? ⟨w.heap.size + 1, 1, none⟩ = some (.int .i64 (cb : Int)) ∧ wr.drew.cell? ⟨w.heap.size + 1, 2, none⟩ = some (.slice b nb kb)) := ⟨HI.out.vm.c0, HI.out.vm.c1, HI.out.vm.c2, HI.out.va.c0, HI.out.va.c1, HI.out.va.c2, HI.out.vb.c0, HI.out.vb.c1, HI.out.vb.c2⟩
     go_wp2
     go_region_held3 (fun w' => w'.cell? ⟨w3.heap.size, 0, none⟩ = some (.int .i64 (RR : Int)) ∧ w'.cell? ⟨w3.heap.size, 1, none⟩ = some (.int .i64 (CC : Int)) ∧ w'.cell? ⟨w3.heap.size, 2, none⟩ = some (.slice (some ⟨gd, 0, none⟩) n n) ∧ w'.cell? ⟨w.heap.size, 0, none⟩ = some (.int .i64 (ra : Int)) ∧ w'.cell? ⟨w.heap.size, 1, none⟩ = some (.int .i64 (ca : Int)) ∧ w'.cell? ⟨w.heap.size, 2, none⟩ = some (.slice a na ka) ∧ w'.cell? ⟨w.heap.size + 1, 0, none⟩ = some (.int .i64 (rb : Int)) ∧ w'.cell? ⟨w.heap.size + 1, 1, none⟩ = some (.int .i64 (cb : Int)) ∧ w'.cell? ⟨w.heap.size + 1, 2, none⟩ = some (.slice b nb kb))
      (first
       | exact HK4.out
       | exact HK3.out
       | exact HK2.out
       | exact HK1.out
       | exact HD.out)
      (first
       | (go_at_call 64; have _x := HK2; refine (qaq _ _ cb nb kb q pb b sb HBm.out.nil HBm.out.room HFb.out lb (by omega) HPb HSb).mono ?_; rintro e w6 ⟨rfl, hb6⟩; have HI6 : Hid (KInv w w6 gd w3.heap.size RR CC ra ca rb cb na nb n ka kb a b (upf fn p)) := HI5.out.later hb6; have HK3 : Hid (w6.cell? ⟨w3.heap.size, 0, none⟩ = some (.int .i64 (RR : Int)) ∧ w6.cell? ⟨w3.heap.size, 1, none⟩ = some (.int .i64 (CC : Int)) ∧ w6.cell? ⟨w3.heap.size, 2, none⟩ = some (.slice (some ⟨gd, 0, none⟩) n n) ∧ w6.cell? ⟨w.heap.size, 0, none⟩ = some (.int .i64 (ra : Int)) ∧ w6.cell? ⟨w.heap.size, 1, none⟩ = some (.int .i64 (ca : Int)) ∧ w6.cell? ⟨w.heap.size, 2, none⟩ = some (.slice a na ka) ∧ w6.cell? ⟨w.heap.size + 1, 0, none⟩ = some (.int .i64 (rb : Int)) ∧ w6.cell? ⟨w.heap.size + 1, 1, none⟩ = some (.int .i64 (cb : Int)) ∧ w6.cell? ⟨w.heap.size + 1, 2, none⟩ = some (.slice b nb kb)) := ⟨HI6.out.vm.c0, HI6.out.vm.c1, HI6.out.vm.c2, HI6.out.va.c0, HI6.out.va.c1, HI6.out.va.c2, HI6.out.vb.c0, HI6.out.vb.c1, HI6.out.vb.c2⟩; clear hb6)
       | (go_at_call 64; have _x := HK1; refine (qaq _ _ ca na ka m pa a sa HA.out.nil HA.out.room HFa.out la (by omega) HPa HSa).mono ?_; rintro e w5 ⟨rfl, hb5⟩; have HI5 : Hid (KInv w w5 gd w3.heap.size RR CC ra ca rb cb na nb n ka kb a b (upf fn p)) := HI4.out.later hb5; have HK2 : Hid (w5.cell? ⟨w3.heap.size, 0, none⟩ = some (.int .i64 (RR : Int)) ∧ w5.cell? ⟨w3.heap.size, 1, none⟩ = some (.int .i64 (CC : Int)) ∧ w5.cell? ⟨w3.heap.size, 2, none⟩ = some (.slice (some ⟨gd, 0, none⟩) n n) ∧ w5.cell? ⟨w.heap.size, 0, none⟩ = some (.int .i64 (ra : Int)) ∧ w5.cell? ⟨w.heap.size, 1, none⟩ = some (.int .i64 (ca : Int)) ∧ w5.cell? ⟨w.heap.size, 2, none⟩ = some (.slice a na ka) ∧ w5.cell? ⟨w.heap.size + 1, 0, none⟩ = some (.int .i64 (rb : Int)) ∧ w5.cell? ⟨w.heap.size + 1, 1, none⟩ = some (.int .i64 (cb : Int)) ∧ w5.cell? ⟨w.heap.size + 1, 2, none⟩ = some (.slice b nb kb)) := ⟨HI5.out.vm.c0, HI5.out.vm.c1, HI5.out.vm.c2, HI5.out.va.c0, HI5.out.va.c1, HI5.out.va.c2, HI5.out.vb.c0, HI5.out.vb.c1, HI5.out.vb.c2⟩; clear hb5)
       | (go_at_call 64; refine (qaq _ _ CC n n y p (some ⟨gd, 0, none⟩) sp (fun e => by cases e) (Nat.le_refl _) HFi.out lc (by omega) HP HSp).mono ?_; rintro e w4 ⟨rfl, hb4⟩; have HI4 : Hid (KInv w w4 gd w3.heap.size RR CC ra ca rb cb na nb n ka kb a b (upf fn p)) := (HI.out.drew).later hb4; have HK1 : Hid (w4.cell? ⟨w3.heap.size, 0, none⟩ = some (.int .i64 (RR : Int)) ∧ w4.cell? ⟨w3.heap.size, 1, none⟩ = some (.int .i64 (CC : Int)) ∧ w4.cell? ⟨w3.heap.size, 2, none⟩ = some (.slice (some ⟨gd, 0, none⟩) n n) ∧ w4.cell? ⟨w.heap.size, 0, none⟩ = some (.int .i64 (ra : Int)) ∧ w4.cell? ⟨w.heap.size, 1, none⟩ = some (.int .i64 (ca : Int)) ∧ w4.cell? ⟨w.heap.size, 2, none⟩ = some (.slice a na ka) ∧ w4.cell? ⟨w.heap.size + 1, 0, none⟩ = some (.int .i64 (rb : Int)) ∧ w4.cell? ⟨w.heap.size + 1, 1, none⟩ = some (.int .i64 (cb : Int)) ∧ w4.cell? ⟨w.heap.size + 1, 2, none⟩ = some (.slice b nb kb)) := ⟨HI4.out.vm.c0, HI4.out.vm.c1, HI4.out.vm.c2, HI4.out.va.c0, HI4.out.va.c1, HI4.out.va.c2, HI4.out.vb.c0, HI4.out.vb.c1, HI4.out.vb.c2⟩; clear hb4)
       | (go_at_call 63; refine (fill_any _ gd p n ca cb CC ca cb sp sa sb (upf fn p) fa fb HI6.out.data HFi.out HEC.out (fun h => by rw [← HSp.out]; exact qcg gd p CC h) (HSl.out.later HI6.out.below) (HSm.out.later HI6.out.below) HOa.out HOb.out lc ca64 cb64).mono ?_; rintro e w7 ⟨rfl, hr7, hg7⟩; have HI7 : Hid (KInv w w7 gd w3.heap.size RR CC ra ca rb cb na nb n ka kb a b (upf fn ((m * rb + (q + 1)) * CC))) := (HI6.out.copy hr7 hg7).congr (fun z _ => HNext.out z); have HK4 : Hid (w7.cell? ⟨w3.heap.size, 0, none⟩ = some (.int .i64 (RR : Int)) ∧ w7.cell? ⟨w3.heap.size, 1, none⟩ = some (.int .i64 (CC : Int)) ∧ w7.cell? ⟨w3.heap.size, 2, none⟩ = some (.slice (some ⟨gd, 0, none⟩) n n) ∧ w7.cell? ⟨w.heap.size, 0, none⟩ = some (.int .i64 (ra : Int)) ∧ w7.cell? ⟨w.heap.size, 1, none⟩ = some (.int .i64 (ca : Int)) ∧ w7.cell? ⟨w.heap.size, 2, none⟩ = some (.slice a na ka) ∧ w7.cell? ⟨w.heap.size + 1, 0, none⟩ = some (.int .i64 (rb : Int)) ∧ w7.cell? ⟨w.heap.size + 1, 1, none⟩ = some (.int .i64 (cb : Int)) ∧ w7.cell? ⟨w.heap.size + 1, 2, none⟩ = some (.slice b nb kb)) := ⟨HI7.out.vm.c0, HI7.out.vm.c1, HI7.out.vm.c2, HI7.out.va.c0, HI7.out.va.c1, HI7.out.va.c2, HI7.out.vb.c0, HI7.out.vb.c1, HI7.out.vb.c2⟩; clear hr7 hg7))
     go_wp2
     exact ⟨⟨q + 1, by omega, by go_num, HI7.out⟩, by simp [intOf]; omega⟩
    ·obtain rfl : q = rb := by omega
     go_wp2
     exact ⟨⟨m + 1, by omega, by go_num, HI.out.congr (fun z _ => by rw [Nat.add_mul m 1, Nat.one_mul])⟩, by simp [intOf]; omega⟩
  ·obtain rfl : m = ra := by omega
   have HR : Hid (RowAt wr gd 5 n (upf fn (m * rb * CC))) := HI.out.data
   have c0 := HI.out.vm.c0
   have c1 := HI.out.vm.c1
   have c2 := HI.out.vm.c2
   have hlow := HI.out.dlow
   go_wp2_with (refine qa4 rfl _ _ rfl (w.heap.size + 1 + 1) _ _ _ (.int .i64 (RR : Int)) (.int .i64 (CC : Int)) (.slice (some ⟨gd, 0, none⟩) n n) rfl rfl HI.out.vr rfl rfl rfl ?_; intro w8 HV8 HG8)
   have d0 := HV8.out.c0
   have d1 := HV8.out.c1
   have d2 := HV8.out.c2
   refine bodyPost_ret (v := .tuple #[mv RR CC (some ⟨gd, 0, none⟩) n n, .int .i64 0]) (by simp [results, Tryz.results29, go_sem, d0, d1, d2, mv]) rfl ?_
   exact ⟨gd, rfl, (HR.out.kept HG8.out (by omega)).congr (qf7 fn (by rw [HER.out, HRC.out.len]; exact Nat.le_refl _)), by omega, qa3 HI.out.below HG8.out (by omega)⟩
end Go.Proofs.YtmgfeepnkahkmaaGreat
