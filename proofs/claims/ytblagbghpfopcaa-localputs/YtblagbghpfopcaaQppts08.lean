/-
  Contract of the matrices' reference: Mul.
-/
import Derived.Test.YtblagbghpfopcaaQppts00
import Derived.Test.YtblagbghpfopcaaQppts07
set_option maxRecDepth 100000
set_option maxHeartbeats 16000000
namespace Go.Proofs.Ytblagbghpfopcaa
open Go.RowKit
theorem rmmul_ok (w : World) (ra ca cb na nb n ka kb : Nat) (a b : Option Addr) (F G : Nat → Nat) (ha : Sl w a na F) (hb : Sl w b nb G) (RA : Rt ra ca na) (RB : Rt ca cb nb) (RC : Rt ra cb n) :
  Calls Try.prog 30 #[mv ra ca a na ka, mv ca cb b nb kb] w fun e w' => ∃ g, e = .returned (.tuple #[mv ra cb (some ⟨g, 0, none⟩) n n, .int .i64 0]) ∧ RowAt w' g 5 n (prk F G ca cb ca) ∧ w.heap.size ≤ g ∧ Below w.heap.size w w' := by
 have HRA : Hid (Rt ra ca na) := RA
 have HRB : Hid (Rt ca cb nb) := RB
 have HRC : Hid (Rt ra cb n) := RC
 have la := RA.le
 have lb := RB.le
 have lc := RC.le
 have ra64 := RA.r64
 have ca64 := RA.c64
 have cb64 := RB.c64
 obtain ⟨wb, HW⟩ : ∃ wb, Hid (wb = ((w.alloc (.cells #[.int .i64 (ra : Int), .int .i64 (ca : Int), .slice a na ka] 24)).alloc (.cells #[.int .i64 (ca : Int), .int .i64 (cb : Int), .slice b nb kb] 24)).alloc (.cells #[.int .i64 0, .int .i64 0, .slice none 0 0] 24)) := ⟨_, rfl⟩
 have HVa : Hid (Vr wb w.heap.size (.int .i64 (ra : Int)) (.int .i64 (ca : Int)) (.slice a na ka)) := by rw [HW.out]; exact ((Vr.new w _ _ _).later (qa0 _ _)).later (qa0 _ _)
 have HVb : Hid (Vr wb (w.heap.size + 1) (.int .i64 (ca : Int)) (.int .i64 (cb : Int)) (.slice b nb kb)) := by show Vr _ _ _ _ _; rw [HW.out]; have := (Vr.new (w.alloc (.cells #[.int .i64 (ra : Int), .int .i64 (ca : Int), .slice a na ka] 24)) (.int .i64 (ca : Int)) (.int .i64 (cb : Int)) (.slice b nb kb)).later (qa0 _ (.cells #[.int .i64 0, .int .i64 0, .slice none 0 0] 24)); simpa using this
 have HVr : Hid (Vr wb (w.heap.size + 1 + 1) (.int .i64 0) (.int .i64 0) (.slice none 0 0)) := by show Vr _ _ _ _ _; rw [HW.out]; have := Vr.new ((w.alloc (.cells #[.int .i64 (ra : Int), .int .i64 (ca : Int), .slice a na ka] 24)).alloc (.cells #[.int .i64 (ca : Int), .int .i64 (cb : Int), .slice b nb kb] 24)) (.int .i64 0) (.int .i64 0) (.slice none 0 0); simpa using this
 have HB0 : Hid (Below w.heap.size w wb) := by rw [HW.out]; exact qa1 (qa1 (qa0 _ _) (qa0 _ _)) (qa0 _ _)
 have HSa : Hid (Sl w a na F) := ha
 have HSb : Hid (Sl w b nb G) := hb
 clear ha hb RA RB RC
 go_enter Try.func30, Try.ntmps30
 go_wp2_with (first
  | (go_at_call 25; have _x := HB1; refine (qam _ _ _ _ _ _ HRB.out.p).mono ?_; rintro e w2 ⟨rfl, hb2⟩; have HB2 : Hid (Below wb.heap.size wb w2) := qa1 HB1.out hb2; have a1 := (HVa.out.later HB2.out).c1; have b0 := (HVb.out.later HB2.out).c0; have a0 := (HVa.out.later HB2.out).c0; have b1 := (HVb.out.later HB2.out).c1; clear hb2)
  | (go_at_call 25; rw [← HW.out]; refine (qam _ _ _ _ _ _ HRA.out.p).mono ?_; rintro e w1 ⟨rfl, hb1⟩; have HB1 : Hid (Below wb.heap.size wb w1) := hb1; have b0 := (HVb.out.later hb1).c0; have b1 := (HVb.out.later hb1).c1; have b2 := (HVb.out.later hb1).c2; clear hb1)
  | (go_at_call 49; refine (zero_any _ ra cb n ra64 cb64 HRC.out.len).mono ?_; rintro e w3 ⟨gd, rfl, hr3, hg3, hb3⟩; have HR3 : Hid (RowAt w3 gd 5 n (fun _ => 0)) := hr3; have HB3 : Hid (Below wb.heap.size wb w3) := qa1 HB2.out hb3; have l2 := HB2.out.size; clear hr3 hb3))
 have HI0 : Hid (MInv w (w3.alloc (.cells #[.int .i64 (ra : Int), .int .i64 (cb : Int), .slice (some ⟨gd, 0, none⟩) n n] 24)) gd w3.heap.size ra ca ca cb na nb n ka kb a b (fun _ => 0)) := by
  have l0 := HVr.out.lt
  have l3 := HR3.out.lt
  exact ⟨(HVa.out.later HB3.out).later (qa0 _ _), (HVb.out.later HB3.out).later (qa0 _ _), (HVr.out.later HB3.out).later (qa0 _ _), Vr.new w3 _ _ _, HR3.out.later (qa0 _ _), qa1 (qa1 HB0.out HB3.out) (qa0 _ _), by omega, by omega⟩
 clear HW HVa HVb HVr HB0 HB1 HB2 HR3 HB3 a0 a1 b0 b1 b2
 go_loopw [7] (fun i wr => ∃ m : Nat, m ≤ ra ∧ i = .int .i64 (m : Int) ∧ MInv w wr gd w3.heap.size ra ca ca cb na nb n ka kb a b (mdf F G ca cb (m * cb) 0)) (fun i _ => ra - (intOf i).toNat)
 case atStart => exact ⟨0, by omega, rfl, HI0.out.congr (fun p _ => by rw [Nat.zero_mul, mdf_zero])⟩
 case round =>
  clear HI0
  obtain ⟨m, hm, rfl, I⟩ := hrel
  have HI : Hid (MInv w wr gd w3.heap.size ra ca ca cb na nb n ka kb a b (mdf F G ca cb (m * cb) 0)) := I
  have a0 := I.va.c0
  clear I
  by_cases hlt : m < ra
  ·go_wp2
   go_loopw [8] (fun j wi => ∃ q : Nat, q ≤ cb ∧ j = .int .i64 (q : Int) ∧ MInv w wi gd w3.heap.size ra ca ca cb na nb n ka kb a b (mdf F G ca cb (m * cb + q) 0)) (fun j _ => cb - (intOf j).toNat)
   case atStart => exact ⟨0, by omega, rfl, HI.out⟩
   case round =>
    clear HI a0
    obtain ⟨q, hq, rfl, I⟩ := hrel
    have HI : Hid (MInv w wr gd w3.heap.size ra ca ca cb na nb n ka kb a b (mdf F G ca cb (m * cb + q) 0)) := I
    have b1 := I.vb.c1
    clear I
    by_cases hlq : q < cb
    ·go_wp2
     go_loopw [9] (fun t wk => ∃ s : Nat, s ≤ ca ∧ t = .int .i64 (s : Int) ∧ MInv w wk gd w3.heap.size ra ca ca cb na nb n ka kb a b (mdf F G ca cb (m * cb + q) s)) (fun t _ => ca - (intOf t).toNat)
     case atStart => exact ⟨0, by omega, rfl, HI.out⟩
     case round =>
      clear HI b1
      obtain ⟨s, hs, rfl, I⟩ := hrel
      have HI : Hid (MInv w wr gd w3.heap.size ra ca ca cb na nb n ka kb a b (mdf F G ca cb (m * cb + q) s)) := I
      have a0 := I.va.c0
      have a1 := I.va.c1
      have a2 := I.va.c2
      by_cases hls : s < ca
      ·have b0 := I.vb.c0
       have b1 := I.vb.c1
       have b2 := I.vb.c2
       have m1 := I.vm.c1
       have m2 := I.vm.c2
       obtain ⟨p, HP⟩ : ∃ p, Hid (m * cb + q = p) := ⟨_, rfl⟩
       have hpn : p < n := by rw [← HP.out]; exact HRC.out.at hlt hlq
       have hd := I.data.cell p hpn
       have hf := I.data.free p
       obtain ⟨x, HX⟩ : ∃ x, Hid (prk F G ca cb s p = x) := ⟨_, rfl⟩
       rw [show mdf F G ca cb (m * cb + q) s p = x from by rw [HP.out, mdf_here, HX.out]] at hd
       have hx : x < 256 := by rw [← HX.out, ← HP.out]; exact prk_lt G HSa.out.1 HRA.out hlt hlq hs
       obtain ⟨y, HY⟩ : ∃ y, Hid (F (m * ca + s) = y) := ⟨_, rfl⟩
       obtain ⟨z, HZ⟩ : ∃ z, Hid (G (s * cb + q) = z) := ⟨_, rfl⟩
       have hy : y < 256 := by rw [← HY.out]; exact HSa.out.1 _ (HRA.out.at hlt hls)
       have hz : z < 256 := by rw [← HZ.out]; exact HSb.out.1 _ (HRB.out.at hls hlq)
       obtain ⟨v, HV⟩ : ∃ v, Hid (fm y z = v) := ⟨_, rfl⟩
       have hv : v < 256 := by rw [← HV.out]; exact qal _ _ hy
       have hxo : bits .xor .u8 (x : Int) (v : Int) = ((x ^^^ v : Nat) : Int) := u8_xor_nat _ _ hx hv
       have HNx : Hid (prk F G ca cb (s + 1) p = x ^^^ v) := by show _ = _; rw [← HP.out, prk_succ F G ca cb m q s hlq, HP.out, HX.out, HY.out, HZ.out, HV.out]
       have HMul : Hid (∀ w, Calls Try.prog 50 #[.int .u8 (y : Int), .int .u8 (z : Int)] w fun e w' => e = .returned (.int .u8 (v : Int)) ∧ w = w') := by rw [← HV.out]; exact fun w => qgi y z w hy hz
       have e1 : ((m : Int) * (cb : Int)) = ((m * cb : Nat) : Int) := by simp
       have hmp : m * cb ≤ p := by rw [← HP.out]; omega
       have w1' : IntKind.i64.wrap ((m : Int) * (cb : Int)) = (m : Int) * (cb : Int) := by rw [e1, IntKind.wrap_i64]; omega
       have w2' : IntKind.i64.wrap ((m : Int) * (cb : Int) + (q : Int)) = (p : Int) := by rw [e1, IntKind.wrap_i64]; have := HP.out; omega
       have p0 : (0 : Int) ≤ (p : Int) := by omega
       have p1 : (p : Int) < (n : Int) := by omega
       have bel : Below wr.heap.size wr wr.drew := (Below.refl _ _).drew
       have HD : Hid ((fun w' => w'.cell? ⟨w3.heap.size, 1, none⟩ = some (.int .i64 (cb : Int)) ∧ w'.cell? ⟨w3.heap.size, 2, none⟩ = some (.slice (some ⟨gd, 0, none⟩) n n) ∧ w'.cell? ⟨w.heap.size, 0, none⟩ = some (.int .i64 (ra : Int)) ∧ w'.cell? ⟨w.heap.size, 1, none⟩ = some (.int .i64 (ca : Int)) ∧ w'.cell? ⟨w.heap.size, 2, none⟩ = some (.slice a na ka) ∧ w'.cell? ⟨w.heap.size + 1, 0, none⟩ = some (.int .i64 (ca : Int)) ∧ w'.cell? ⟨w.heap.size + 1, 1, none⟩ = some (.int .i64 (cb : Int)) ∧ w'.cell? ⟨w.heap.size + 1, 2, none⟩ = some (.slice b nb kb) ∧ w'.cell? ⟨gd, p, none⟩ = some (.int .u8 (x : Int)) ∧ w'.frozen? ⟨gd, p, none⟩ = false) wr.drew) := ⟨m1, m2, a0, a1, a2, b0, b1, b2, hd, hf⟩
       have HAa : Hid (∀ w', Below wr.heap.size wr w' → Calls Try.prog 29 #[.agg #[.int .i64 (ra : Int), .int .i64 (ca : Int), .slice a na ka], .int .i64 (m : Int), .int .i64 (s : Int)] w' fun e w'' => e = .returned (.int .u8 (y : Int)) ∧ Below w'.heap.size w' w'') := fun w' h' => qbx w' _ ca m s na ka y a F (HSa.out.later (qa1 HI.out.below h')) (HRA.out.at hlt hls) la HY
       have HAb : Hid (∀ w', (Below wr.heap.size wr w') → Calls Try.prog 29 #[.agg #[.int .i64 (ca : Int), .int .i64 (cb : Int), .slice b nb kb], .int .i64 (s : Int), .int .i64 (q : Int)] w' fun e w'' => e = .returned (.int .u8 (z : Int)) ∧ Below w'.heap.size w' w'') := fun w' h' => qbx w' _ cb s q nb kb z b G (HSb.out.later (qa1 HI.out.below h')) (HRB.out.at hls hlq) lb HZ
       have n6 : w3.heap.size ≠ gd := Ne.symm I.d6
       have n0 : w.heap.size ≠ gd := by have := I.dlow; omega
       have n1 : w.heap.size + 1 ≠ gd := by have := I.dlow; omega
       clear I e1 bel
       go_wp2
       refine qbf (k := 21) (n := 21) (fun w' => w'.cell? ⟨w3.heap.size, 1, none⟩ = some (.int .i64 (cb : Int)) ∧ w'.cell? ⟨w3.heap.size, 2, none⟩ = some (.slice (some ⟨gd, 0, none⟩) n n) ∧ w'.cell? ⟨w.heap.size, 0, none⟩ = some (.int .i64 (ra : Int)) ∧ w'.cell? ⟨w.heap.size, 1, none⟩ = some (.int .i64 (ca : Int)) ∧ w'.cell? ⟨w.heap.size, 2, none⟩ = some (.slice a na ka) ∧ w'.cell? ⟨w.heap.size + 1, 0, none⟩ = some (.int .i64 (ca : Int)) ∧ w'.cell? ⟨w.heap.size + 1, 1, none⟩ = some (.int .i64 (cb : Int)) ∧ w'.cell? ⟨w.heap.size + 1, 2, none⟩ = some (.slice b nb kb) ∧ w'.cell? ⟨gd, p, none⟩ = some (.int .u8 (x : Int)) ∧ w'.frozen? ⟨gd, p, none⟩ = false) (by kernel_rfl) (by kernel_rfl) (by decide) (by rfl) ?_
       refine wtkq 0 ?v0 rfl (by kernel_rfl) (fun _ _ _ h => h) (by rfl) ?y0 HD.out ?z0
       case y0 => (intro w hSw; (try dsimp only at hSw); go_simp; try with_reducible rfl)
       try simp only [mz1, mz3, Act.put, mz4, mz5, mz6]
       refine wtkq 1 ?v1 rfl (by kernel_rfl) (fun _ _ _ h => h) (by rfl) ?y1 HD.out ?z1
       case y1 => (intro w hSw; (try dsimp only at hSw); go_simp; try with_reducible rfl)
       try simp only [mz1, mz2, mz3, Act.put, mz4, mz5, mz6]
       refine wtkq 2 ?v2 rfl (by kernel_rfl) (fun _ _ _ h => h) (by rfl) ?y2 HD.out ?z2
       case y2 => (intro w hSw; (try dsimp only at hSw); go_simp; try with_reducible rfl)
       try simp only [mz1, mz2, mz3, Act.put, mz4, mz5, mz6]
       refine wtkq 3 ?v3 rfl (by kernel_rfl) (fun _ _ _ h => h) (by rfl) ?y3 HD.out ?z3
       case y3 => (intro w hSw; (try dsimp only at hSw); go_simp; try with_reducible rfl)
       try simp only [mz1, mz2, mz3, Act.put, mz4, mz5, mz6]
       refine wtkq 4 ?v4 rfl (by kernel_rfl) (fun _ _ _ h => h) (by rfl) ?y4 HD.out ?z4
       case y4 => (intro w hSw; (try dsimp only at hSw); go_simp; try with_reducible rfl)
       try simp only [mz1, mz2, mz3, Act.put, mz4, mz5, mz6]
       refine wtkq 5 ?v5 rfl (by kernel_rfl) (fun _ _ _ h => h) (by rfl) ?y5 HD.out ?z5
       case y5 => (intro w hSw; (try dsimp only at hSw); go_simp; try with_reducible rfl)
       try simp only [mz1, mz2, mz3, Act.put, mz4, mz5, mz6]
       refine wtkq 6 ?v6 rfl (by kernel_rfl) (fun _ _ _ h => h) (by rfl) ?y6 HD.out ?z6
       case y6 => (intro w hSw; (try dsimp only at hSw); go_simp; try with_reducible rfl)
       try simp only [mz1, mz2, mz3, Act.put, mz4, mz5, mz6]
       refine wtkq 7 ?v7 rfl (by kernel_rfl) (fun _ _ _ h => h) (by rfl) ?y7 HD.out ?z7
       case y7 => (intro w hSw; (try dsimp only at hSw); go_simp; try with_reducible rfl)
       try simp only [mz1, mz2, mz3, Act.put, mz4, mz5, mz6]
       refine wtkq 8 ?v8 rfl (by kernel_rfl) (fun _ _ _ h => h) (by rfl) ?y8 HD.out ?z8
       case y8 => (intro w hSw; (try dsimp only at hSw); go_simp; try with_reducible rfl)
       try simp only [mz1, mz2, mz3, Act.put, mz4, mz5, mz6]
       refine wtkq 9 ?v9 rfl (by kernel_rfl) (fun _ _ _ h => h) (by rfl) ?y9 HD.out ?z9
       case y9 => (intro w hSw; (try dsimp only at hSw); go_simp; try with_reducible rfl)
       try simp only [mz1, mz2, mz3, Act.put, mz4, mz5, mz6]
       refine wtkq 10 ?v10 rfl (by kernel_rfl) (fun _ _ _ h => h) (by rfl) ?y10 HD.out ?z10
       case y10 => (intro w hSw; (try dsimp only at hSw); go_simp; try with_reducible rfl)
       try simp only [mz1, mz2, mz3, Act.put, mz4, mz5, mz6]
       refine wtkq 11 ?v11 rfl (by kernel_rfl) (fun _ _ _ h => h) (by rfl) ?y11 HD.out ?z11
       case y11 => (intro w hSw; (try dsimp only at hSw); go_simp; try with_reducible rfl)
       try simp only [mz1, mz2, mz3, Act.put, mz4, mz5, mz6]
       refine wtkq 12 ?v12 rfl (by kernel_rfl) (fun _ _ _ h => h) (by rfl) ?y12 HD.out ?z12
       case y12 => (intro w hSw; (try dsimp only at hSw); go_simp; try with_reducible rfl)
       try simp only [mz1, mz2, mz3, Act.put, mz4, mz5, mz6]
       refine wtkq 14 ?v14 rfl (by kernel_rfl) (fun _ _ _ h => h) (by rfl) ?y14 HD.out ?z14
       case y14 => (intro w hSw; (try dsimp only at hSw); go_simp; try with_reducible rfl)
       try simp only [mz1, mz2, mz3, Act.put, mz4, mz5, mz6]
       refine wtkq 15 ?v15 rfl (by kernel_rfl) (fun _ _ _ h => h) (by rfl) ?y15 HD.out ?z15
       case y15 => (intro w hSw; (try dsimp only at hSw); go_simp; try with_reducible rfl)
       try simp only [mz1, mz2, mz3, Act.put, mz4, mz5, mz6]
       refine wtkq 16 ?v16 rfl (by kernel_rfl) (fun _ _ _ h => h) (by rfl) ?y16 HD.out ?z16
       case y16 => (intro w hSw; (try dsimp only at hSw); go_simp; try with_reducible rfl)
       try simp only [mz1, mz2, mz3, Act.put, mz4, mz5, mz6]
       refine wpAnyH_ready (rs := [13]) (by kernel_rfl) (by simp) ?_
       refine AllReadyH.cons rfl (fun K hK => ?_) AllReadyH.nil
       go_simp
       refine (HAa.out wr.drew (Below.refl _ _).drew).mono ?_; rintro e w5 ⟨rfl, hbk⟩; have HD5 : Hid ((fun w' => w'.cell? ⟨w3.heap.size, 1, none⟩ = some (.int .i64 (cb : Int)) ∧ w'.cell? ⟨w3.heap.size, 2, none⟩ = some (.slice (some ⟨gd, 0, none⟩) n n) ∧ w'.cell? ⟨w.heap.size, 0, none⟩ = some (.int .i64 (ra : Int)) ∧ w'.cell? ⟨w.heap.size, 1, none⟩ = some (.int .i64 (ca : Int)) ∧ w'.cell? ⟨w.heap.size, 2, none⟩ = some (.slice a na ka) ∧ w'.cell? ⟨w.heap.size + 1, 0, none⟩ = some (.int .i64 (ca : Int)) ∧ w'.cell? ⟨w.heap.size + 1, 1, none⟩ = some (.int .i64 (cb : Int)) ∧ w'.cell? ⟨w.heap.size + 1, 2, none⟩ = some (.slice b nb kb) ∧ w'.cell? ⟨gd, p, none⟩ = some (.int .u8 (x : Int)) ∧ w'.frozen? ⟨gd, p, none⟩ = false) w5) := ⟨keepc hbk HD.out.1, keepc hbk HD.out.2.1, keepc hbk HD.out.2.2.1, keepc hbk HD.out.2.2.2.1, keepc hbk HD.out.2.2.2.2.1, keepc hbk HD.out.2.2.2.2.2.1, keepc hbk HD.out.2.2.2.2.2.2.1, keepc hbk HD.out.2.2.2.2.2.2.2.1, keepc hbk HD.out.2.2.2.2.2.2.2.2.1, keepf hbk HD.out.2.2.2.2.2.2.2.2.1 HD.out.2.2.2.2.2.2.2.2.2⟩; have HB5 : Hid (Below wr.heap.size wr w5) := qa1 (Below.refl _ _).drew hbk; clear hbk; dsimp only
       refine hK.out _ _ HD5.out (fun _ => ?_)
       clear hK K
       try simp only [mz1, mz2, mz3, Act.put, mz4, mz5, mz6]
       refine wpAnyH_ready (rs := [17]) (by kernel_rfl) (by simp) ?_
       refine AllReadyH.cons rfl (fun K hK => ?_) AllReadyH.nil
       go_simp
       refine (HAb.out _ HB5.out).mono ?_; rintro e w6 ⟨rfl, hbk⟩; have HD6 : Hid ((fun w' => w'.cell? ⟨w3.heap.size, 1, none⟩ = some (.int .i64 (cb : Int)) ∧ w'.cell? ⟨w3.heap.size, 2, none⟩ = some (.slice (some ⟨gd, 0, none⟩) n n) ∧ w'.cell? ⟨w.heap.size, 0, none⟩ = some (.int .i64 (ra : Int)) ∧ w'.cell? ⟨w.heap.size, 1, none⟩ = some (.int .i64 (ca : Int)) ∧ w'.cell? ⟨w.heap.size, 2, none⟩ = some (.slice a na ka) ∧ w'.cell? ⟨w.heap.size + 1, 0, none⟩ = some (.int .i64 (ca : Int)) ∧ w'.cell? ⟨w.heap.size + 1, 1, none⟩ = some (.int .i64 (cb : Int)) ∧ w'.cell? ⟨w.heap.size + 1, 2, none⟩ = some (.slice b nb kb) ∧ w'.cell? ⟨gd, p, none⟩ = some (.int .u8 (x : Int)) ∧ w'.frozen? ⟨gd, p, none⟩ = false) w6) := ⟨keepc hbk HD5.out.1, keepc hbk HD5.out.2.1, keepc hbk HD5.out.2.2.1, keepc hbk HD5.out.2.2.2.1, keepc hbk HD5.out.2.2.2.2.1, keepc hbk HD5.out.2.2.2.2.2.1, keepc hbk HD5.out.2.2.2.2.2.2.1, keepc hbk HD5.out.2.2.2.2.2.2.2.1, keepc hbk HD5.out.2.2.2.2.2.2.2.2.1, keepf hbk HD5.out.2.2.2.2.2.2.2.2.1 HD5.out.2.2.2.2.2.2.2.2.2⟩; have HB6 : Hid (Below wr.heap.size wr w6) := qa1 HB5.out hbk; have hd6 := HD6.out.2.2.2.2.2.2.2.2.1; have hf6 := HD6.out.2.2.2.2.2.2.2.2.2; clear hbk; dsimp only
       refine hK.out _ _ HD6.out (fun _ => ?_)
       clear hK K
       try simp only [mz1, mz2, mz3, Act.put, mz4, mz5, mz6]
       refine wpAnyH_ready (rs := [18]) (by kernel_rfl) (by simp) ?_
       refine AllReadyH.cons rfl (fun K hK => ?_) AllReadyH.nil
       go_simp
       refine (HMul.out _).mono ?_; rintro e w' ⟨rfl, rfl⟩; dsimp only
       refine hK.out _ _ HD6.out (fun _ => ?_)
       clear hK K
       try simp only [mz1, mz2, mz3, Act.put, mz4, mz5, mz6]
       refine wtkq 19 ?v19 rfl (by kernel_rfl) (fun _ _ _ h => h) (by rfl) ?y19 HD6.out ?z19
       case y19 => (intro w hSw; (try dsimp only at hSw); go_simp; try with_reducible rfl)
       try simp only [mz1, mz2, mz3, Act.put, mz4, mz5, mz6]
       refine wtkq 20 ?v20 rfl (by kernel_rfl) (fun _ _ _ h => h) (by rfl) ?y20 HD6.out ?z20
       case y20 => (intro w hSw; (try dsimp only at hSw); go_simp; try with_reducible rfl)
       try simp only [mz1, mz2, mz3, Act.put, mz4, mz5, mz6]
       refine wpAnyH_done (by kernel_rfl) ?_ _
       refine qdv rfl (fun K hK => ?_)
       go_simp
       refine hK.out _ _ ?_
       clear hK K
       try simp only [mz1, mz2, mz3, Act.put, mz4, mz5, mz6]
       go_wp2
       exact ⟨⟨s + 1, by omega, by go_num, ((HI.out.later HB6.out).set (q := p) (v := x ^^^ v)).congr (fun t _ => by rw [← HNx.out, ← HP.out, mdf_step])⟩, by simp [intOf]; omega⟩
      ·obtain rfl : s = ca := by omega
       clear I
       go_wp2
       exact ⟨⟨q + 1, by omega, by go_num, HI.out.congr (fun p _ => mdf_next F G s cb (m * cb + q) p)⟩, by simp [intOf]; omega⟩
    ·obtain rfl : q = cb := by omega
     go_wp2
     exact ⟨⟨m + 1, by omega, by go_num, HI.out.congr (fun p _ => by rw [Nat.add_mul, Nat.one_mul])⟩, by simp [intOf]; omega⟩
  ·obtain rfl : m = ra := by omega
   have c0 := HI.out.vm.c0
   have c1 := HI.out.vm.c1
   have c2 := HI.out.vm.c2
   have HVr : Hid (Vr wr (w.heap.size + 1 + 1) (.int .i64 0) (.int .i64 0) (.slice none 0 0)) := HI.out.vr
   go_wp2_with (refine qa4 rfl _ _ rfl (w.heap.size + 1 + 1) _ _ _ (.int .i64 (m : Int)) (.int .i64 (cb : Int)) (.slice (some ⟨gd, 0, none⟩) n n) rfl rfl HVr.out rfl rfl rfl ?_; intro w4 HV4 HG4)
   have d0 := HV4.out.c0
   have d1 := HV4.out.c1
   have d2 := HV4.out.c2
   have dl := HI.out.dlow
   refine bodyPost_ret (v := .tuple #[mv m cb (some ⟨gd, 0, none⟩) n n, .int .i64 0]) (by simp [results, Try.results30, go_sem, d0, d1, d2, mv]) rfl ?_
   exact ⟨gd, rfl, (HI.out.data.kept HG4.out (by omega)).congr (fun p hp => by unfold mdf; rw [if_pos (by rw [HRC.out.len]; exact hp)]), by omega, qa9 HI.out.below HG4.out (by omega)⟩
end Go.Proofs.Ytblagbghpfopcaa
