/-
  Contract of the matrices' reference: Kron.
-/
import Derived.Test.YtaoehildaenbnaaSh
namespace Go.Proofs.Ytaoehildaenbnaa
open Go.RowKit
/-- The Kron's entries, CC columns. -/
def krf (F G : Nat → Nat) (ca rb cb CC p : Nat) : Nat := fm (F (p / CC / rb * ca + p % CC / cb)) (G (p / CC % rb * cb + p % CC % cb))
/-- .. those before q. -/
def kdf (F G : Nat → Nat) (ca rb cb CC q p : Nat) : Nat := if p < q then krf F G ca rb cb CC p else 0
theorem kdf_step (F G : Nat → Nat) (ca rb cb CC q p : Nat) : (if p = q then krf F G ca rb cb CC q else kdf F G ca rb cb CC q p) = kdf F G ca rb cb CC (q + 1) p := by
  unfold kdf
  by_cases h : p = q
  · subst h; rw [if_pos rfl, if_pos (by omega)]
  · rw [if_neg h]
    by_cases h1 : p < q
    · rw [if_pos h1, if_pos (by omega)]
    · rw [if_neg h1, if_neg (by omega)]
theorem krf_at (F G : Nat → Nat) (ca rb cb CC i j : Nat) (hj : j < CC) : krf F G ca rb cb CC (i * CC + j) = fm (F (i / rb * ca + j / cb)) (G (i % rb * cb + j % cb)) := by
  have h1 : (i * CC + j) / CC = i := by rw [Nat.mul_comm, Nat.mul_add_div (by omega), Nat.div_eq_of_lt hj, Nat.add_zero]
  have h2 : (i * CC + j) % CC = j := by rw [Nat.mul_comm, Nat.mul_add_mod, Nat.mod_eq_of_lt hj]
  unfold krf
  rw [h1, h2]
/-- What the loops of Kron keep. -/
structure KInv (w wr : World) (gd g6 RR CC ra ca rb cb na nb n ka kb : Nat) (a b : Option Addr) (fn : Nat → Nat) : Prop where
  va : Vr wr w.heap.size (.int .i64 (ra : Int)) (.int .i64 (ca : Int)) (.slice a na ka)
  vb : Vr wr (w.heap.size + 1) (.int .i64 (rb : Int)) (.int .i64 (cb : Int)) (.slice b nb kb)
  vr : Vr wr (w.heap.size + 1 + 1) (.int .i64 0) (.int .i64 0) (.slice none 0 0)
  vm : Vr wr g6 (.int .i64 (RR : Int)) (.int .i64 (CC : Int)) (.slice (some ⟨gd, 0, none⟩) n n)
  data : RowAt wr gd 5 n fn
  below : Below w.heap.size w wr
  d6 : gd ≠ g6
  dlow : w.heap.size + 1 + 1 < gd
theorem KInv.congr {w wr : World} {gd g6 RR CC ra ca rb cb na nb n ka kb : Nat} {a b : Option Addr} {fn fn' : Nat → Nat} (I : KInv w wr gd g6 RR CC ra ca rb cb na nb n ka kb a b fn) (e : ∀ p, p < n → fn p = fn' p) : KInv w wr gd g6 RR CC ra ca rb cb na nb n ka kb a b fn' :=
  ⟨I.va, I.vb, I.vr, I.vm, I.data.congr e, I.below, I.d6, I.dlow⟩
theorem KInv.later {w wr w' : World} {gd g6 RR CC ra ca rb cb na nb n ka kb : Nat} {a b : Option Addr} {fn : Nat → Nat} (I : KInv w wr gd g6 RR CC ra ca rb cb na nb n ka kb a b fn) (hb : Below wr.heap.size wr w') : KInv w w' gd g6 RR CC ra ca rb cb na nb n ka kb a b fn :=
  ⟨I.va.later hb, I.vb.later hb, I.vr.later hb, I.vm.later hb, I.data.later hb, two_below I.below hb, I.d6, I.dlow⟩
theorem KInv.set {w wr : World} {gd g6 RR CC ra ca rb cb na nb n ka kb q v : Nat} {a b : Option Addr} {fn : Nat → Nat} (I : KInv w wr gd g6 RR CC ra ca rb cb na nb n ka kb a b fn) : KInv w (wr.setCell ⟨gd, q, none⟩ (.int .u8 (v : Int))) gd g6 RR CC ra ca rb cb na nb n ka kb a b (fun p => if p = q then v else fn p) :=
  have d := I.dlow
  ⟨I.va.kept (grown_setCell _ _ _ _) (by omega), I.vb.kept (grown_setCell _ _ _ _) (by omega), I.vr.kept (grown_setCell _ _ _ _) (by omega), I.vm.kept (grown_setCell _ _ _ _) (Ne.symm I.d6), I.data.set q v, I.below.setCell (by show w.heap.size ≤ gd; omega) _, I.d6, I.dlow⟩
set_option maxRecDepth 20000 in
set_option maxHeartbeats 4000000 in
theorem rkron_ok (w : World) (ra ca rb cb na nb RR CC n ka kb : Nat) (a b : Option Addr) (F G : Nat → Nat) (ha : Sl w a na F) (hb : Sl w b nb G) (RA : Rt ra ca na) (RB : Rt rb cb nb) (eR : ra * rb = RR) (eC : ca * cb = CC) (RC : Rt RR CC n) :
    Calls Try.prog 32 #[mv ra ca a na ka, mv rb cb b nb kb] w fun e w' => ∃ g, e = .returned (.tuple #[mv RR CC (some ⟨g, 0, none⟩) n n, .int .i64 0]) ∧ RowAt w' g 5 n (krf F G ca rb cb CC) ∧ w.heap.size ≤ g ∧ Below w.heap.size w w' := by
  have HRA : Hid (Rt ra ca na) := RA
  have HRB : Hid (Rt rb cb nb) := RB
  have HRC : Hid (Rt RR CC n) := RC
  have HER : Hid (ra * rb = RR) := eR
  have HEC : Hid (ca * cb = CC) := eC
  have la := RA.le
  have lb := RB.le
  have lc := RC.le
  have RR64 := RC.r64
  have CC64 := RC.c64
  have eR' : (ra : Int) * (rb : Int) = (RR : Int) := by rw [← eR]; simp
  have eC' : (ca : Int) * (cb : Int) = (CC : Int) := by rw [← eC]; simp
  have wR : IntKind.i64.wrap (RR : Int) = (RR : Int) := by rw [IntKind.wrap_i64]; omega
  have wC : IntKind.i64.wrap (CC : Int) = (CC : Int) := by rw [IntKind.wrap_i64]; omega
  have gR : decide ((64 : Int) < (RR : Int)) = false := by simp; omega
  have gC : decide ((64 : Int) < (CC : Int)) = false := by simp; omega
  obtain ⟨wb, HW⟩ : ∃ wb, Hid (wb = ((w.alloc (.cells #[.int .i64 (ra : Int), .int .i64 (ca : Int), .slice a na ka] 24)).alloc (.cells #[.int .i64 (rb : Int), .int .i64 (cb : Int), .slice b nb kb] 24)).alloc (.cells #[.int .i64 0, .int .i64 0, .slice none 0 0] 24)) := ⟨_, rfl⟩
  have HVa : Hid (Vr wb w.heap.size (.int .i64 (ra : Int)) (.int .i64 (ca : Int)) (.slice a na ka)) := by rw [HW.out]; exact ((Vr.new w _ _ _).later (alloc_low _ _)).later (alloc_low _ _)
  have HVb : Hid (Vr wb (w.heap.size + 1) (.int .i64 (rb : Int)) (.int .i64 (cb : Int)) (.slice b nb kb)) := by show Vr _ _ _ _ _; rw [HW.out]; have := (Vr.new (w.alloc (.cells #[.int .i64 (ra : Int), .int .i64 (ca : Int), .slice a na ka] 24)) (.int .i64 (rb : Int)) (.int .i64 (cb : Int)) (.slice b nb kb)).later (alloc_low _ (.cells #[.int .i64 0, .int .i64 0, .slice none 0 0] 24)); simpa using this
  have HVr : Hid (Vr wb (w.heap.size + 1 + 1) (.int .i64 0) (.int .i64 0) (.slice none 0 0)) := by show Vr _ _ _ _ _; rw [HW.out]; have := Vr.new ((w.alloc (.cells #[.int .i64 (ra : Int), .int .i64 (ca : Int), .slice a na ka] 24)).alloc (.cells #[.int .i64 (rb : Int), .int .i64 (cb : Int), .slice b nb kb] 24)) (.int .i64 0) (.int .i64 0) (.slice none 0 0); simpa using this
  have HB0 : Hid (Below w.heap.size w wb) := by rw [HW.out]; exact two_below (two_below (alloc_low _ _) (alloc_low _ _)) (alloc_low _ _)
  have HSa : Hid (Sl w a na F) := ha
  have HSb : Hid (Sl w b nb G) := hb
  clear ha hb RA RB RC eR eC
  go_enter Try.func32, Try.ntmps32
  go_wp2_with (first
    | (go_at_call 14; have _x := HB1; refine (right_yes _ _ _ _ _ _ HRB.out.p).mono ?_; rintro e w2 ⟨rfl, hb2⟩; have HB2 : Hid (Below wb.heap.size wb w2) := two_below HB1.out hb2; have a0 := (HVa.out.later HB2.out).c0; have a1 := (HVa.out.later HB2.out).c1; have b0 := (HVb.out.later HB2.out).c0; have b1 := (HVb.out.later HB2.out).c1; clear hb2)
    | (go_at_call 14; rw [← HW.out]; refine (right_yes _ _ _ _ _ _ HRA.out.p).mono ?_; rintro e w1 ⟨rfl, hb1⟩; have HB1 : Hid (Below wb.heap.size wb w1) := hb1; have b0 := (HVb.out.later hb1).c0; have b1 := (HVb.out.later hb1).c1; have b2 := (HVb.out.later hb1).c2; clear hb1)
    | (go_at_call 39; refine (zero_any _ RR CC n RR64 CC64 HRC.out.len).mono ?_; rintro e w3 ⟨gd, rfl, hr3, hg3, hb3⟩; have HR3 : Hid (RowAt w3 gd 5 n (fun _ => 0)) := hr3; have HB3 : Hid (Below wb.heap.size wb w3) := two_below HB2.out hb3; have l2 := HB2.out.size; clear hr3 hb3))
  have HI0 : Hid (KInv w (w3.alloc (.cells #[.int .i64 (RR : Int), .int .i64 (CC : Int), .slice (some ⟨gd, 0, none⟩) n n] 24)) gd w3.heap.size RR CC ra ca rb cb na nb n ka kb a b (fun _ => 0)) := by
    have l0 := HVr.out.lt
    have l3 := HR3.out.lt
    exact ⟨(HVa.out.later HB3.out).later (alloc_low _ _), (HVb.out.later HB3.out).later (alloc_low _ _), (HVr.out.later HB3.out).later (alloc_low _ _), Vr.new w3 _ _ _, HR3.out.later (alloc_low _ _), two_below (two_below HB0.out HB3.out) (alloc_low _ _), by omega, by omega⟩
  clear HW HVa HVb HVr HB0 HB1 HB2 HR3 HB3 a0 a1 b0 b1 b2
  go_loopw [7] (fun i wr => ∃ m : Nat, m ≤ RR ∧ i = .int .i64 (m : Int) ∧ KInv w wr gd w3.heap.size RR CC ra ca rb cb na nb n ka kb a b (kdf F G ca rb cb CC (m * CC))) (fun i _ => RR - (intOf i).toNat)
  case atStart => exact ⟨0, by omega, rfl, HI0.out.congr (fun p _ => by rw [Nat.zero_mul]; rfl)⟩
  case round =>
    clear HI0
    obtain ⟨m, hm, rfl, I⟩ := hrel
    have HI : Hid (KInv w wr gd w3.heap.size RR CC ra ca rb cb na nb n ka kb a b (kdf F G ca rb cb CC (m * CC))) := I
    have v0 := I.vm.c0
    clear I
    by_cases hlt : m < RR
    · go_wp2
      go_loopw [8] (fun j wi => ∃ q : Nat, q ≤ CC ∧ j = .int .i64 (q : Int) ∧ KInv w wi gd w3.heap.size RR CC ra ca rb cb na nb n ka kb a b (kdf F G ca rb cb CC (m * CC + q))) (fun j _ => CC - (intOf j).toNat)
      case atStart => exact ⟨0, by omega, rfl, HI.out⟩
      case round =>
        clear HI v0
        obtain ⟨q, hq, rfl, I⟩ := hrel
        have HI : Hid (KInv w wr gd w3.heap.size RR CC ra ca rb cb na nb n ka kb a b (kdf F G ca rb cb CC (m * CC + q))) := I
        have m1 := I.vm.c1
        by_cases hlq : q < CC
        · have a0 := I.va.c0
          have a1 := I.va.c1
          have a2 := I.va.c2
          have b0 := I.vb.c0
          have b1 := I.vb.c1
          have b2 := I.vb.c2
          have m2 := I.vm.c2
          have rb0 : 0 < rb := Nat.pos_of_ne_zero (fun e => by have := HER.out; rw [e, Nat.mul_zero] at this; omega)
          have cb0 : 0 < cb := Nat.pos_of_ne_zero (fun e => by have := HEC.out; rw [e, Nat.mul_zero] at this; omega)
          have hia : m / rb < ra := (Nat.div_lt_iff_lt_mul rb0).2 (by rw [HER.out]; exact hlt)
          have hja : q / cb < ca := (Nat.div_lt_iff_lt_mul cb0).2 (by rw [HEC.out]; exact hlq)
          have hib : m % rb < rb := Nat.mod_lt _ rb0
          have hjb : q % cb < cb := Nat.mod_lt _ cb0
          obtain ⟨i1, HI1⟩ : ∃ i, Hid (m / rb = i) := ⟨_, rfl⟩
          obtain ⟨j1, HJ1⟩ : ∃ i, Hid (q / cb = i) := ⟨_, rfl⟩
          obtain ⟨i2, HI2⟩ : ∃ i, Hid (m % rb = i) := ⟨_, rfl⟩
          obtain ⟨j2, HJ2⟩ : ∃ i, Hid (q % cb = i) := ⟨_, rfl⟩
          have d1 : (m : Int) / (rb : Int) = (i1 : Int) := by rw [← HI1.out]; simp
          have d2 : (q : Int) / (cb : Int) = (j1 : Int) := by rw [← HJ1.out]; simp
          have d3 : (m : Int) % (rb : Int) = (i2 : Int) := by rw [← HI2.out]; simp
          have d4 : (q : Int) % (cb : Int) = (j2 : Int) := by rw [← HJ2.out]; simp
          have d5 : Int.tdiv (m : Int) (rb : Int) = (i1 : Int) := by rw [Int.tdiv_eq_ediv_of_nonneg (by omega)]; exact d1
          have d6 : Int.tdiv (q : Int) (cb : Int) = (j1 : Int) := by rw [Int.tdiv_eq_ediv_of_nonneg (by omega)]; exact d2
          have d7 : Int.tmod (m : Int) (rb : Int) = (i2 : Int) := by rw [Int.tmod_eq_emod_of_nonneg (by omega)]; exact d3
          have d8 : Int.tmod (q : Int) (cb : Int) = (j2 : Int) := by rw [Int.tmod_eq_emod_of_nonneg (by omega)]; exact d4
          have z1 : ¬ ((rb : Int) = 0) := by omega
          have z2 : ¬ ((cb : Int) = 0) := by omega
          have z3 : ¬ (rb = 0) := by omega
          have z4 : ¬ (cb = 0) := by omega
          have i1l : i1 ≤ 64 := by rw [← HI1.out]; exact Nat.le_trans (Nat.div_le_self _ _) (by omega)
          have j1l : j1 ≤ 64 := by rw [← HJ1.out]; exact Nat.le_trans (Nat.div_le_self _ _) (by omega)
          have w5' : IntKind.i64.wrap (i1 : Int) = (i1 : Int) := by rw [IntKind.wrap_i64]; omega
          have w6' : IntKind.i64.wrap (j1 : Int) = (j1 : Int) := by rw [IntKind.wrap_i64]; omega
          rw [HI1.out] at hia
          rw [HJ1.out] at hja
          rw [HI2.out] at hib
          rw [HJ2.out] at hjb
          obtain ⟨p, HP⟩ : ∃ p, Hid (m * CC + q = p) := ⟨_, rfl⟩
          have hpn : p < n := by rw [← HP.out]; exact HRC.out.at hlt hlq
          have hd := I.data.cell p hpn
          have hf := I.data.free p
          rw [show kdf F G ca rb cb CC (m * CC + q) p = 0 from by unfold kdf; rw [if_neg (by rw [HP.out]; omega)]] at hd
          obtain ⟨y, HY⟩ : ∃ y, Hid (F (i1 * ca + j1) = y) := ⟨_, rfl⟩
          obtain ⟨z, HZ⟩ : ∃ z, Hid (G (i2 * cb + j2) = z) := ⟨_, rfl⟩
          have hy : y < 256 := by rw [← HY.out]; exact HSa.out.1 _ (HRA.out.at hia hja)
          have hz : z < 256 := by rw [← HZ.out]; exact HSb.out.1 _ (HRB.out.at hib hjb)
          obtain ⟨v, HV⟩ : ∃ v, Hid (fm y z = v) := ⟨_, rfl⟩
          have HNx : Hid (krf F G ca rb cb CC p = v) := by show _ = _; rw [← HP.out, krf_at F G ca rb cb CC m q hlq, HI1.out, HJ1.out, HI2.out, HJ2.out, HY.out, HZ.out, HV.out]
          have HMul : Hid (∀ w, Calls Try.prog 48 #[.int .u8 (y : Int), .int .u8 (z : Int)] w fun e w' => e = .returned (.int .u8 (v : Int)) ∧ w = w') := by rw [← HV.out]; exact fun w => rmul_at y z w hy hz
          have e1 : ((m : Int) * (CC : Int)) = ((m * CC : Nat) : Int) := by simp
          have hmp : m * CC ≤ p := by rw [← HP.out]; omega
          have w1' : IntKind.i64.wrap ((m : Int) * (CC : Int)) = (m : Int) * (CC : Int) := by rw [e1, IntKind.wrap_i64]; omega
          have w2' : IntKind.i64.wrap ((m : Int) * (CC : Int) + (q : Int)) = (p : Int) := by rw [e1, IntKind.wrap_i64]; have := HP.out; omega
          have p0 : (0 : Int) ≤ (p : Int) := by omega
          have p1 : (p : Int) < (n : Int) := by omega
          have HD : Hid ((fun w' => w'.cell? ⟨w3.heap.size, 1, none⟩ = some (.int .i64 (CC : Int)) ∧ w'.cell? ⟨w3.heap.size, 2, none⟩ = some (.slice (some ⟨gd, 0, none⟩) n n) ∧ w'.cell? ⟨w.heap.size, 0, none⟩ = some (.int .i64 (ra : Int)) ∧ w'.cell? ⟨w.heap.size, 1, none⟩ = some (.int .i64 (ca : Int)) ∧ w'.cell? ⟨w.heap.size, 2, none⟩ = some (.slice a na ka) ∧ w'.cell? ⟨w.heap.size + 1, 0, none⟩ = some (.int .i64 (rb : Int)) ∧ w'.cell? ⟨w.heap.size + 1, 1, none⟩ = some (.int .i64 (cb : Int)) ∧ w'.cell? ⟨w.heap.size + 1, 2, none⟩ = some (.slice b nb kb) ∧ w'.cell? ⟨gd, p, none⟩ = some (.int .u8 0) ∧ w'.frozen? ⟨gd, p, none⟩ = false) wr.drew) := ⟨m1, m2, a0, a1, a2, b0, b1, b2, hd, hf⟩
          have HAa : Hid (∀ w', Below wr.heap.size wr w' → Calls Try.prog 44 #[.agg #[.int .i64 (ra : Int), .int .i64 (ca : Int), .slice a na ka], .int .i64 (i1 : Int), .int .i64 (j1 : Int)] w' fun e w'' => e = .returned (.int .u8 (y : Int)) ∧ Below w'.heap.size w' w'') := fun w' h' => at3_any w' _ ca i1 j1 na ka y a F (HSa.out.later (two_below HI.out.below h')) (HRA.out.at hia hja) la HY
          have HAb : Hid (∀ w', Below wr.heap.size wr w' → Calls Try.prog 44 #[.agg #[.int .i64 (rb : Int), .int .i64 (cb : Int), .slice b nb kb], .int .i64 (i2 : Int), .int .i64 (j2 : Int)] w' fun e w'' => e = .returned (.int .u8 (z : Int)) ∧ Below w'.heap.size w' w'') := fun w' h' => at3_any w' _ cb i2 j2 nb kb z b G (HSb.out.later (two_below HI.out.below h')) (HRB.out.at hib hjb) lb HZ
          clear I e1 hib hjb hia hja
          go_wp2
          refine wp_region_park (k := 30) (n := 30) (fun w' => w'.cell? ⟨w3.heap.size, 1, none⟩ = some (.int .i64 (CC : Int)) ∧ w'.cell? ⟨w3.heap.size, 2, none⟩ = some (.slice (some ⟨gd, 0, none⟩) n n) ∧ w'.cell? ⟨w.heap.size, 0, none⟩ = some (.int .i64 (ra : Int)) ∧ w'.cell? ⟨w.heap.size, 1, none⟩ = some (.int .i64 (ca : Int)) ∧ w'.cell? ⟨w.heap.size, 2, none⟩ = some (.slice a na ka) ∧ w'.cell? ⟨w.heap.size + 1, 0, none⟩ = some (.int .i64 (rb : Int)) ∧ w'.cell? ⟨w.heap.size + 1, 1, none⟩ = some (.int .i64 (cb : Int)) ∧ w'.cell? ⟨w.heap.size + 1, 2, none⟩ = some (.slice b nb kb) ∧ w'.cell? ⟨gd, p, none⟩ = some (.int .u8 0) ∧ w'.frozen? ⟨gd, p, none⟩ = false) (by kernel_rfl) (by kernel_rfl) (by decide) (by rfl) ?_
          refine wpAnyH_take (i := 0) (v := ?v0) rfl (by kernel_rfl) (by kernel_rfl) (by kernel_rfl) (fun _ _ _ h => h) (Or.inl ⟨by rfl, ?y0⟩) HD.out ?z0
          case y0 => (intro w hSw; (try dsimp only at hSw); go_simp; try with_reducible rfl)
          try simp only [List.getElem_toArray, List.getElem_cons_zero, Act.put, List.setIfInBounds_toArray, List.set_cons_zero, List.set_cons_succ]
          refine wpAnyH_take (i := 1) (v := ?v1) rfl (by kernel_rfl) (by kernel_rfl) (by kernel_rfl) (fun _ _ _ h => h) (Or.inl ⟨by rfl, ?y1⟩) HD.out ?z1
          case y1 => (intro w hSw; (try dsimp only at hSw); go_simp; try with_reducible rfl)
          try simp only [List.getElem_toArray, List.getElem_cons_succ, List.getElem_cons_zero, Act.put, List.setIfInBounds_toArray, List.set_cons_zero, List.set_cons_succ]
          refine wpAnyH_take (i := 2) (v := ?v2) rfl (by kernel_rfl) (by kernel_rfl) (by kernel_rfl) (fun _ _ _ h => h) (Or.inl ⟨by rfl, ?y2⟩) HD.out ?z2
          case y2 => (intro w hSw; (try dsimp only at hSw); go_simp; try with_reducible rfl)
          try simp only [List.getElem_toArray, List.getElem_cons_succ, List.getElem_cons_zero, Act.put, List.setIfInBounds_toArray, List.set_cons_zero, List.set_cons_succ]
          refine wpAnyH_take (i := 3) (v := ?v3) rfl (by kernel_rfl) (by kernel_rfl) (by kernel_rfl) (fun _ _ _ h => h) (Or.inl ⟨by rfl, ?y3⟩) HD.out ?z3
          case y3 => (intro w hSw; (try dsimp only at hSw); go_simp; try with_reducible rfl)
          try simp only [List.getElem_toArray, List.getElem_cons_succ, List.getElem_cons_zero, Act.put, List.setIfInBounds_toArray, List.set_cons_zero, List.set_cons_succ]
          refine wpAnyH_take (i := 4) (v := ?v4) rfl (by kernel_rfl) (by kernel_rfl) (by kernel_rfl) (fun _ _ _ h => h) (Or.inl ⟨by rfl, ?y4⟩) HD.out ?z4
          case y4 => (intro w hSw; (try dsimp only at hSw); go_simp; try with_reducible rfl)
          try simp only [List.getElem_toArray, List.getElem_cons_succ, List.getElem_cons_zero, Act.put, List.setIfInBounds_toArray, List.set_cons_zero, List.set_cons_succ]
          refine wpAnyH_take (i := 5) (v := ?v5) rfl (by kernel_rfl) (by kernel_rfl) (by kernel_rfl) (fun _ _ _ h => h) (Or.inl ⟨by rfl, ?y5⟩) HD.out ?z5
          case y5 => (intro w hSw; (try dsimp only at hSw); go_simp; try with_reducible rfl)
          try simp only [List.getElem_toArray, List.getElem_cons_succ, List.getElem_cons_zero, Act.put, List.setIfInBounds_toArray, List.set_cons_zero, List.set_cons_succ]
          refine wpAnyH_take (i := 6) (v := ?v6) rfl (by kernel_rfl) (by kernel_rfl) (by kernel_rfl) (fun _ _ _ h => h) (Or.inl ⟨by rfl, ?y6⟩) HD.out ?z6
          case y6 => (intro w hSw; (try dsimp only at hSw); go_simp; try with_reducible rfl)
          try simp only [List.getElem_toArray, List.getElem_cons_succ, List.getElem_cons_zero, Act.put, List.setIfInBounds_toArray, List.set_cons_zero, List.set_cons_succ]
          refine wpAnyH_take (i := 7) (v := ?v7) rfl (by kernel_rfl) (by kernel_rfl) (by kernel_rfl) (fun _ _ _ h => h) (Or.inl ⟨by rfl, ?y7⟩) HD.out ?z7
          case y7 => (intro w hSw; (try dsimp only at hSw); go_simp; try with_reducible rfl)
          try simp only [List.getElem_toArray, List.getElem_cons_succ, List.getElem_cons_zero, Act.put, List.setIfInBounds_toArray, List.set_cons_zero, List.set_cons_succ]
          refine wpAnyH_take (i := 8) (v := ?v8) rfl (by kernel_rfl) (by kernel_rfl) (by kernel_rfl) (fun _ _ _ h => h) (Or.inl ⟨by rfl, ?y8⟩) HD.out ?z8
          case y8 => (intro w hSw; (try dsimp only at hSw); go_simp; try with_reducible rfl)
          try simp only [List.getElem_toArray, List.getElem_cons_succ, List.getElem_cons_zero, Act.put, List.setIfInBounds_toArray, List.set_cons_zero, List.set_cons_succ]
          refine wpAnyH_take (i := 9) (v := ?v9) rfl (by kernel_rfl) (by kernel_rfl) (by kernel_rfl) (fun _ _ _ h => h) (Or.inl ⟨by rfl, ?y9⟩) HD.out ?z9
          case y9 => (intro w hSw; (try dsimp only at hSw); go_simp; try with_reducible rfl)
          try simp only [List.getElem_toArray, List.getElem_cons_succ, List.getElem_cons_zero, Act.put, List.setIfInBounds_toArray, List.set_cons_zero, List.set_cons_succ]
          refine wpAnyH_take (i := 10) (v := ?v10) rfl (by kernel_rfl) (by kernel_rfl) (by kernel_rfl) (fun _ _ _ h => h) (Or.inl ⟨by rfl, ?y10⟩) HD.out ?z10
          case y10 => (intro w hSw; (try dsimp only at hSw); go_simp; try with_reducible rfl)
          try simp only [List.getElem_toArray, List.getElem_cons_succ, List.getElem_cons_zero, Act.put, List.setIfInBounds_toArray, List.set_cons_zero, List.set_cons_succ]
          refine wpAnyH_take (i := 11) (v := ?v11) rfl (by kernel_rfl) (by kernel_rfl) (by kernel_rfl) (fun _ _ _ h => h) (Or.inl ⟨by rfl, ?y11⟩) HD.out ?z11
          case y11 => (intro w hSw; (try dsimp only at hSw); go_simp; try with_reducible rfl)
          try simp only [List.getElem_toArray, List.getElem_cons_succ, List.getElem_cons_zero, Act.put, List.setIfInBounds_toArray, List.set_cons_zero, List.set_cons_succ]
          refine wpAnyH_take (i := 12) (v := ?v12) rfl (by kernel_rfl) (by kernel_rfl) (by kernel_rfl) (fun _ _ _ h => h) (Or.inl ⟨by rfl, ?y12⟩) HD.out ?z12
          case y12 => (intro w hSw; (try dsimp only at hSw); go_simp; try with_reducible rfl)
          try simp only [List.getElem_toArray, List.getElem_cons_succ, List.getElem_cons_zero, Act.put, List.setIfInBounds_toArray, List.set_cons_zero, List.set_cons_succ]
          refine wpAnyH_take (i := 13) (v := ?v13) rfl (by kernel_rfl) (by kernel_rfl) (by kernel_rfl) (fun _ _ _ h => h) (Or.inl ⟨by rfl, ?y13⟩) HD.out ?z13
          case y13 => (intro w hSw; (try dsimp only at hSw); go_simp; try with_reducible rfl)
          try simp only [List.getElem_toArray, List.getElem_cons_succ, List.getElem_cons_zero, Act.put, List.setIfInBounds_toArray, List.set_cons_zero, List.set_cons_succ]
          refine wpAnyH_take (i := 14) (v := ?v14) rfl (by kernel_rfl) (by kernel_rfl) (by kernel_rfl) (fun _ _ _ h => h) (Or.inl ⟨by rfl, ?y14⟩) HD.out ?z14
          case y14 => (intro w hSw; (try dsimp only at hSw); go_simp; try with_reducible rfl)
          try simp only [List.getElem_toArray, List.getElem_cons_succ, List.getElem_cons_zero, Act.put, List.setIfInBounds_toArray, List.set_cons_zero, List.set_cons_succ]
          refine wpAnyH_take (i := 15) (v := ?v15) rfl (by kernel_rfl) (by kernel_rfl) (by kernel_rfl) (fun _ _ _ h => h) (Or.inl ⟨by rfl, ?y15⟩) HD.out ?z15
          case y15 => (intro w hSw; (try dsimp only at hSw); go_simp; try with_reducible rfl)
          try simp only [List.getElem_toArray, List.getElem_cons_succ, List.getElem_cons_zero, Act.put, List.setIfInBounds_toArray, List.set_cons_zero, List.set_cons_succ]
          refine wpAnyH_take (i := 16) (v := ?v16) rfl (by kernel_rfl) (by kernel_rfl) (by kernel_rfl) (fun _ _ _ h => h) (Or.inl ⟨by rfl, ?y16⟩) HD.out ?z16
          case y16 => (intro w hSw; (try dsimp only at hSw); go_simp; try with_reducible rfl)
          try simp only [List.getElem_toArray, List.getElem_cons_succ, List.getElem_cons_zero, Act.put, List.setIfInBounds_toArray, List.set_cons_zero, List.set_cons_succ]
          refine wpAnyH_take (i := 18) (v := ?v18) rfl (by kernel_rfl) (by kernel_rfl) (by kernel_rfl) (fun _ _ _ h => h) (Or.inl ⟨by rfl, ?y18⟩) HD.out ?z18
          case y18 => (intro w hSw; (try dsimp only at hSw); go_simp; try with_reducible rfl)
          try simp only [List.getElem_toArray, List.getElem_cons_succ, List.getElem_cons_zero, Act.put, List.setIfInBounds_toArray, List.set_cons_zero, List.set_cons_succ]
          refine wpAnyH_take (i := 19) (v := ?v19) rfl (by kernel_rfl) (by kernel_rfl) (by kernel_rfl) (fun _ _ _ h => h) (Or.inl ⟨by rfl, ?y19⟩) HD.out ?z19
          case y19 => (intro w hSw; (try dsimp only at hSw); go_simp; try with_reducible rfl)
          try simp only [List.getElem_toArray, List.getElem_cons_succ, List.getElem_cons_zero, Act.put, List.setIfInBounds_toArray, List.set_cons_zero, List.set_cons_succ]
          refine wpAnyH_take (i := 20) (v := ?v20) rfl (by kernel_rfl) (by kernel_rfl) (by kernel_rfl) (fun _ _ _ h => h) (Or.inl ⟨by rfl, ?y20⟩) HD.out ?z20
          case y20 => (intro w hSw; (try dsimp only at hSw); go_simp; try with_reducible rfl)
          try simp only [List.getElem_toArray, List.getElem_cons_succ, List.getElem_cons_zero, Act.put, List.setIfInBounds_toArray, List.set_cons_zero, List.set_cons_succ]
          refine wpAnyH_take (i := 21) (v := ?v21) rfl (by kernel_rfl) (by kernel_rfl) (by kernel_rfl) (fun _ _ _ h => h) (Or.inl ⟨by rfl, ?y21⟩) HD.out ?z21
          case y21 => (intro w hSw; (try dsimp only at hSw); go_simp; try with_reducible rfl)
          try simp only [List.getElem_toArray, List.getElem_cons_succ, List.getElem_cons_zero, Act.put, List.setIfInBounds_toArray, List.set_cons_zero, List.set_cons_succ]
          refine wpAnyH_take (i := 22) (v := ?v22) rfl (by kernel_rfl) (by kernel_rfl) (by kernel_rfl) (fun _ _ _ h => h) (Or.inl ⟨by rfl, ?y22⟩) HD.out ?z22
          case y22 => (intro w hSw; (try dsimp only at hSw); go_simp; try with_reducible rfl)
          try simp only [List.getElem_toArray, List.getElem_cons_succ, List.getElem_cons_zero, Act.put, List.setIfInBounds_toArray, List.set_cons_zero, List.set_cons_succ]
          refine wpAnyH_take (i := 23) (v := ?v23) rfl (by kernel_rfl) (by kernel_rfl) (by kernel_rfl) (fun _ _ _ h => h) (Or.inl ⟨by rfl, ?y23⟩) HD.out ?z23
          case y23 => (intro w hSw; (try dsimp only at hSw); go_simp; try with_reducible rfl)
          try simp only [List.getElem_toArray, List.getElem_cons_succ, List.getElem_cons_zero, Act.put, List.setIfInBounds_toArray, List.set_cons_zero, List.set_cons_succ]
          refine wpAnyH_take (i := 24) (v := ?v24) rfl (by kernel_rfl) (by kernel_rfl) (by kernel_rfl) (fun _ _ _ h => h) (Or.inl ⟨by rfl, ?y24⟩) HD.out ?z24
          case y24 => (intro w hSw; (try dsimp only at hSw); go_simp; try with_reducible rfl)
          try simp only [List.getElem_toArray, List.getElem_cons_succ, List.getElem_cons_zero, Act.put, List.setIfInBounds_toArray, List.set_cons_zero, List.set_cons_succ]
          refine wpAnyH_take (i := 25) (v := ?v25) rfl (by kernel_rfl) (by kernel_rfl) (by kernel_rfl) (fun _ _ _ h => h) (Or.inl ⟨by rfl, ?y25⟩) HD.out ?z25
          case y25 => (intro w hSw; (try dsimp only at hSw); go_simp; try with_reducible rfl)
          try simp only [List.getElem_toArray, List.getElem_cons_succ, List.getElem_cons_zero, Act.put, List.setIfInBounds_toArray, List.set_cons_zero, List.set_cons_succ]
          refine wpAnyH_take (i := 26) (v := ?v26) rfl (by kernel_rfl) (by kernel_rfl) (by kernel_rfl) (fun _ _ _ h => h) (Or.inl ⟨by rfl, ?y26⟩) HD.out ?z26
          case y26 => (intro w hSw; (try dsimp only at hSw); go_simp; try with_reducible rfl)
          try simp only [List.getElem_toArray, List.getElem_cons_succ, List.getElem_cons_zero, Act.put, List.setIfInBounds_toArray, List.set_cons_zero, List.set_cons_succ]
          refine wpAnyH_ready (rs := [17]) (by kernel_rfl) (by simp) ?_
          refine AllReadyH.cons rfl (fun K hK => ?_) AllReadyH.nil
          go_simp
          refine (HAa.out wr.drew (Below.refl _ _).drew).mono ?_; rintro e w5 ⟨rfl, hbk⟩; have HD5 : Hid ((fun w' => w'.cell? ⟨w3.heap.size, 1, none⟩ = some (.int .i64 (CC : Int)) ∧ w'.cell? ⟨w3.heap.size, 2, none⟩ = some (.slice (some ⟨gd, 0, none⟩) n n) ∧ w'.cell? ⟨w.heap.size, 0, none⟩ = some (.int .i64 (ra : Int)) ∧ w'.cell? ⟨w.heap.size, 1, none⟩ = some (.int .i64 (ca : Int)) ∧ w'.cell? ⟨w.heap.size, 2, none⟩ = some (.slice a na ka) ∧ w'.cell? ⟨w.heap.size + 1, 0, none⟩ = some (.int .i64 (rb : Int)) ∧ w'.cell? ⟨w.heap.size + 1, 1, none⟩ = some (.int .i64 (cb : Int)) ∧ w'.cell? ⟨w.heap.size + 1, 2, none⟩ = some (.slice b nb kb) ∧ w'.cell? ⟨gd, p, none⟩ = some (.int .u8 0) ∧ w'.frozen? ⟨gd, p, none⟩ = false) w5) := ⟨keepc hbk HD.out.1, keepc hbk HD.out.2.1, keepc hbk HD.out.2.2.1, keepc hbk HD.out.2.2.2.1, keepc hbk HD.out.2.2.2.2.1, keepc hbk HD.out.2.2.2.2.2.1, keepc hbk HD.out.2.2.2.2.2.2.1, keepc hbk HD.out.2.2.2.2.2.2.2.1, keepc hbk HD.out.2.2.2.2.2.2.2.2.1, keepf hbk HD.out.2.2.2.2.2.2.2.2.1 HD.out.2.2.2.2.2.2.2.2.2⟩; have HB5 : Hid (Below wr.heap.size wr w5) := two_below (Below.refl _ _).drew hbk; clear hbk; dsimp only
          refine hK.out _ _ HD5.out (fun _ => ?_)
          clear hK K
          try simp only [List.getElem_toArray, List.getElem_cons_succ, List.getElem_cons_zero, Act.put, List.setIfInBounds_toArray, List.set_cons_zero, List.set_cons_succ]
          refine wpAnyH_ready (rs := [27]) (by kernel_rfl) (by simp) ?_
          refine AllReadyH.cons rfl (fun K hK => ?_) AllReadyH.nil
          go_simp
          refine (HAb.out _ HB5.out).mono ?_; rintro e w6 ⟨rfl, hbk⟩; have HD6 : Hid ((fun w' => w'.cell? ⟨w3.heap.size, 1, none⟩ = some (.int .i64 (CC : Int)) ∧ w'.cell? ⟨w3.heap.size, 2, none⟩ = some (.slice (some ⟨gd, 0, none⟩) n n) ∧ w'.cell? ⟨w.heap.size, 0, none⟩ = some (.int .i64 (ra : Int)) ∧ w'.cell? ⟨w.heap.size, 1, none⟩ = some (.int .i64 (ca : Int)) ∧ w'.cell? ⟨w.heap.size, 2, none⟩ = some (.slice a na ka) ∧ w'.cell? ⟨w.heap.size + 1, 0, none⟩ = some (.int .i64 (rb : Int)) ∧ w'.cell? ⟨w.heap.size + 1, 1, none⟩ = some (.int .i64 (cb : Int)) ∧ w'.cell? ⟨w.heap.size + 1, 2, none⟩ = some (.slice b nb kb) ∧ w'.cell? ⟨gd, p, none⟩ = some (.int .u8 0) ∧ w'.frozen? ⟨gd, p, none⟩ = false) w6) := ⟨keepc hbk HD5.out.1, keepc hbk HD5.out.2.1, keepc hbk HD5.out.2.2.1, keepc hbk HD5.out.2.2.2.1, keepc hbk HD5.out.2.2.2.2.1, keepc hbk HD5.out.2.2.2.2.2.1, keepc hbk HD5.out.2.2.2.2.2.2.1, keepc hbk HD5.out.2.2.2.2.2.2.2.1, keepc hbk HD5.out.2.2.2.2.2.2.2.2.1, keepf hbk HD5.out.2.2.2.2.2.2.2.2.1 HD5.out.2.2.2.2.2.2.2.2.2⟩; have HB6 : Hid (Below wr.heap.size wr w6) := two_below HB5.out hbk; have hd6 := HD6.out.2.2.2.2.2.2.2.2.1; have hf6 := HD6.out.2.2.2.2.2.2.2.2.2; clear hbk; dsimp only
          refine hK.out _ _ HD6.out (fun _ => ?_)
          clear hK K
          try simp only [List.getElem_toArray, List.getElem_cons_succ, List.getElem_cons_zero, Act.put, List.setIfInBounds_toArray, List.set_cons_zero, List.set_cons_succ]
          refine wpAnyH_ready (rs := [28]) (by kernel_rfl) (by simp) ?_
          refine AllReadyH.cons rfl (fun K hK => ?_) AllReadyH.nil
          go_simp
          refine (HMul.out _).mono ?_; rintro e w' ⟨rfl, rfl⟩; dsimp only
          refine hK.out _ _ HD6.out (fun _ => ?_)
          clear hK K
          try simp only [List.getElem_toArray, List.getElem_cons_succ, List.getElem_cons_zero, Act.put, List.setIfInBounds_toArray, List.set_cons_zero, List.set_cons_succ]
          refine wpAnyH_take (i := 29) (v := ?v29) rfl (by kernel_rfl) (by kernel_rfl) (by kernel_rfl) (fun _ _ _ h => h) (Or.inl ⟨by rfl, ?y29⟩) HD6.out ?z29
          case y29 => (intro w hSw; (try dsimp only at hSw); go_simp; try with_reducible rfl)
          try simp only [List.getElem_toArray, List.getElem_cons_succ, List.getElem_cons_zero, Act.put, List.setIfInBounds_toArray, List.set_cons_zero, List.set_cons_succ]
          refine wpAnyH_done (by kernel_rfl) ?_ _
          refine park_last rfl (fun K hK => ?_)
          go_simp
          refine hK.out _ _ ?_
          clear hK K
          try simp only [List.getElem_toArray, List.getElem_cons_succ, List.getElem_cons_zero, Act.put, List.setIfInBounds_toArray, List.set_cons_zero, List.set_cons_succ]
          go_wp2
          exact ⟨⟨q + 1, by omega, by go_num, ((HI.out.later HB6.out).set (q := p) (v := v)).congr (fun t _ => by rw [← HNx.out, ← HP.out]; exact kdf_step F G ca rb cb CC (m * CC + q) t)⟩, by simp [intOf]; omega⟩
        · obtain rfl : q = CC := by omega
          clear I
          go_wp2
          exact ⟨⟨m + 1, by omega, by go_num, HI.out.congr (fun p _ => by rw [Nat.add_mul, Nat.one_mul])⟩, by simp [intOf]; omega⟩
    · obtain rfl : m = RR := by omega
      have c0 := HI.out.vm.c0
      have c1 := HI.out.vm.c1
      have c2 := HI.out.vm.c2
      have HVr : Hid (Vr wr (w.heap.size + 1 + 1) (.int .i64 0) (.int .i64 0) (.slice none 0 0)) := HI.out.vr
      go_wp2_with (refine wpList_store_var rfl _ _ rfl (w.heap.size + 1 + 1) _ _ _ (.int .i64 (m : Int)) (.int .i64 (CC : Int)) (.slice (some ⟨gd, 0, none⟩) n n) rfl rfl HVr.out rfl rfl rfl ?_; intro w4 HV4 HG4)
      have d0 := HV4.out.c0
      have d1 := HV4.out.c1
      have d2 := HV4.out.c2
      have dl := HI.out.dlow
      refine bodyPost_ret (v := .tuple #[mv m CC (some ⟨gd, 0, none⟩) n n, .int .i64 0]) (by simp [results, Try.results32, go_sem, d0, d1, d2, mv]) rfl ?_
      exact ⟨gd, rfl, (HI.out.data.kept HG4.out (by omega)).congr (fun p hp => by unfold kdf; rw [if_pos (by rw [HRC.out.len]; exact hp)]), by omega, below_row HI.out.below HG4.out (by omega)⟩
end Go.Proofs.Ytaoehildaenbnaa
