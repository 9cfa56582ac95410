/-
  Contract of the matrices' reference: Mul.
  Contracts of the matrices' reference: what fails in Transpose and Mul; Apply.
  Contract of the matrices' reference: Kron.
  Contracts of the matrices' reference: what fails in Kron; Same.
  Contract of the matrices' reference: Stack.
  Contracts of the matrices' reference: what fails in Stack; Same; Copy.
  Contract of the matrices' reference: Pick.
  Contracts of the matrices' reference: what fails in Pick.
  Contracts of the matrices' reference: Of.
  Contracts of the matrices' reference: Of without rows; what fails in Of.
-/
import Derived.Test.YtokdejhbjoglcaaGreatQddes00
import Derived.Test.YtokdejhbjoglcaaGreatQddes12
import Derived.Laws.AppendOwnNone
set_option maxRecDepth 100000
set_option maxHeartbeats 16000000
namespace Go.Proofs.YtokdejhbjoglcaaGreat
open Go.RowKit
theorem rmmul_ok (w : World) (ra ca cb na nb n ka kb : Nat) (a b : Option Addr) (F G : Nat → Nat) (ha : Sl w a na F) (hb : Sl w b nb G) (RA : Rt ra ca na) (RB : Rt ca cb nb) (RC : Rt ra cb n) :
  Calls Tryz.prog 25 #[mv ra ca a na ka, mv ca cb b nb kb] w fun e w' => ∃ g, e = .returned (.tuple #[mv ra cb (some ⟨g, 0, none⟩) n n, .int .i64 0]) ∧ RowAt w' g 5 n (prk F G ca cb ca) ∧ w.heap.size ≤ g ∧ Below w.heap.size w w' := by
 have HRA : Hid (Rt ra ca na) := RA
 have HRB : Hid (Rt ca cb nb) := RB
 have HRC : Hid (Rt ra cb n) := RC
 have la := RA.le
 have lb := RB.le
 have lc := RC.le
 have ra64 := RA.r64
 have ca64 := RA.c64
 have cb64 := RB.c64
 obtain ⟨wb, HW⟩ : ∃ wb, Hid (wb = ((w.alloc (.cells #[.int .i64 (ra : Int), .int .i64 (ca : Int), .slice a na ka] 24)).alloc (.cells #[.int .i64 (ca : Int), .int .i64 (cb : Int), .slice b nb kb] 24)).alloc (.cells #[.int .i64 0, .int .i64 0, .slice none 0 0] 24)) := ⟨_, rfl⟩
 have HVa : Hid (Vr wb w.heap.size (.int .i64 (ra : Int)) (.int .i64 (ca : Int)) (.slice a na ka)) := by rw [HW.out]; exact ((Vr.new w _ _ _).later (qa1 _ _)).later (qa1 _ _)
 have HVb : Hid (Vr wb (w.heap.size + 1) (.int .i64 (ca : Int)) (.int .i64 (cb : Int)) (.slice b nb kb)) := by show Vr _ _ _ _ _; rw [HW.out]; have := (Vr.new (w.alloc (.cells #[.int .i64 (ra : Int), .int .i64 (ca : Int), .slice a na ka] 24)) (.int .i64 (ca : Int)) (.int .i64 (cb : Int)) (.slice b nb kb)).later (qa1 _ (.cells #[.int .i64 0, .int .i64 0, .slice none 0 0] 24)); simpa using this
 have HVr : Hid (Vr wb (w.heap.size + 1 + 1) (.int .i64 0) (.int .i64 0) (.slice none 0 0)) := by show Vr _ _ _ _ _; rw [HW.out]; have := Vr.new ((w.alloc (.cells #[.int .i64 (ra : Int), .int .i64 (ca : Int), .slice a na ka] 24)).alloc (.cells #[.int .i64 (ca : Int), .int .i64 (cb : Int), .slice b nb kb] 24)) (.int .i64 0) (.int .i64 0) (.slice none 0 0); simpa using this
 have HB0 : Hid (Below w.heap.size w wb) := by rw [HW.out]; exact qa0 (qa0 (qa1 _ _) (qa1 _ _)) (qa1 _ _)
 have HSa : Hid (Sl w a na F) := ha
 have HSb : Hid (Sl w b nb G) := hb
 clear ha hb RA RB RC
 go_enter Tryz.func25, Tryz.ntmps25
 go_wp2_with (first
  | (go_at_call 40; have _x := HB1; refine (qam _ _ _ _ _ _ HRB.out.p).mono ?_; rintro e w2 ⟨rfl, hb2⟩; have HB2 : Hid (Below wb.heap.size wb w2) := qa0 HB1.out hb2; have a1 := (HVa.out.later HB2.out).c1; have b0 := (HVb.out.later HB2.out).c0; have a0 := (HVa.out.later HB2.out).c0; have b1 := (HVb.out.later HB2.out).c1; clear hb2)
  | (go_at_call 40; rw [← HW.out]; refine (qam _ _ _ _ _ _ HRA.out.p).mono ?_; rintro e w1 ⟨rfl, hb1⟩; have HB1 : Hid (Below wb.heap.size wb w1) := hb1; have b0 := (HVb.out.later hb1).c0; have b1 := (HVb.out.later hb1).c1; have b2 := (HVb.out.later hb1).c2; clear hb1)
  | (go_at_call 19; refine (qhg _ ra cb n ra64 cb64 HRC.out.len).mono ?_; rintro e w3 ⟨gd, rfl, hr3, hg3, hb3⟩; have HR3 : Hid (RowAt w3 gd 5 n (fun _ => 0)) := hr3; have HB3 : Hid (Below wb.heap.size wb w3) := qa0 HB2.out hb3; have l2 := HB2.out.size; clear hr3 hb3))
 have HI0 : Hid (MInv w (w3.alloc (.cells #[.int .i64 (ra : Int), .int .i64 (cb : Int), .slice (some ⟨gd, 0, none⟩) n n] 24)) gd w3.heap.size ra ca ca cb na nb n ka kb a b (fun _ => 0)) := by
  have l0 := HVr.out.lt
  have l3 := HR3.out.lt
  exact ⟨(HVa.out.later HB3.out).later (qa1 _ _), (HVb.out.later HB3.out).later (qa1 _ _), (HVr.out.later HB3.out).later (qa1 _ _), Vr.new w3 _ _ _, HR3.out.later (qa1 _ _), qa0 (qa0 HB0.out HB3.out) (qa1 _ _), by omega, by omega⟩
 clear HW HVa HVb HVr HB0 HB1 HB2 HR3 HB3 a0 a1 b0 b1 b2
 go_loopw [7] (fun i wr => ∃ m : Nat, m ≤ ra ∧ i = .int .i64 (m : Int) ∧ MInv w wr gd w3.heap.size ra ca ca cb na nb n ka kb a b (mdf F G ca cb (m * cb) 0)) (fun i _ => ra - (intOf i).toNat)
 case atStart => exact ⟨0, by omega, rfl, HI0.out.congr (fun p _ => by rw [Nat.zero_mul, mdf_zero])⟩
 case round =>
  clear HI0
  obtain ⟨m, hm, rfl, I⟩ := hrel
  have HI : Hid (MInv w wr gd w3.heap.size ra ca ca cb na nb n ka kb a b (mdf F G ca cb (m * cb) 0)) := I
  have a0 := I.va.c0
  clear I
  by_cases hlt : m < ra
  ·go_wp2
   go_loopw [8] (fun j wi => ∃ q : Nat, q ≤ cb ∧ j = .int .i64 (q : Int) ∧ MInv w wi gd w3.heap.size ra ca ca cb na nb n ka kb a b (mdf F G ca cb (m * cb + q) 0)) (fun j _ => cb - (intOf j).toNat)
   case atStart => exact ⟨0, by omega, rfl, HI.out⟩
   case round =>
    clear HI a0
    obtain ⟨q, hq, rfl, I⟩ := hrel
    have HI : Hid (MInv w wr gd w3.heap.size ra ca ca cb na nb n ka kb a b (mdf F G ca cb (m * cb + q) 0)) := I
    have b1 := I.vb.c1
    clear I
    by_cases hlq : q < cb
    ·go_wp2
     go_loopw [9] (fun t wk => ∃ s : Nat, s ≤ ca ∧ t = .int .i64 (s : Int) ∧ MInv w wk gd w3.heap.size ra ca ca cb na nb n ka kb a b (mdf F G ca cb (m * cb + q) s)) (fun t _ => ca - (intOf t).toNat)
     case atStart => exact ⟨0, by omega, rfl, HI.out⟩
     case round =>
      clear HI b1
      obtain ⟨s, hs, rfl, I⟩ := hrel
      have HI : Hid (MInv w wr gd w3.heap.size ra ca ca cb na nb n ka kb a b (mdf F G ca cb (m * cb + q) s)) := I
      have a0 := I.va.c0
      have a1 := I.va.c1
      have a2 := I.va.c2
      by_cases hls : s < ca
      ·have b0 := I.vb.c0
       have b1 := I.vb.c1
       have b2 := I.vb.c2
       have m1 := I.vm.c1
       have m2 := I.vm.c2
       obtain ⟨p, HP⟩ : ∃ p, Hid (m * cb + q = p) := ⟨_, rfl⟩
       have hpn : p < n := by rw [← HP.out]; exact HRC.out.at hlt hlq
       have hd := I.data.cell p hpn
       have hf := I.data.free p
       obtain ⟨x, HX⟩ : ∃ x, Hid (prk F G ca cb s p = x) := ⟨_, rfl⟩
       rw [show mdf F G ca cb (m * cb + q) s p = x from by rw [HP.out, mdf_here, HX.out]] at hd
       have hx : x < 256 := by rw [← HX.out, ← HP.out]; exact prk_lt G HSa.out.1 HRA.out hlt hlq hs
       obtain ⟨y, HY⟩ : ∃ y, Hid (F (m * ca + s) = y) := ⟨_, rfl⟩
       obtain ⟨z, HZ⟩ : ∃ z, Hid (G (s * cb + q) = z) := ⟨_, rfl⟩
       have hy : y < 256 := by rw [← HY.out]; exact HSa.out.1 _ (HRA.out.at hlt hls)
       have hz : z < 256 := by rw [← HZ.out]; exact HSb.out.1 _ (HRB.out.at hls hlq)
       obtain ⟨v, HV⟩ : ∃ v, Hid (fm y z = v) := ⟨_, rfl⟩
       have hv : v < 256 := by rw [← HV.out]; exact qao _ _ hy
       have hxo : bits .xor .u8 (x : Int) (v : Int) = ((x ^^^ v : Nat) : Int) := u8_xor_nat _ _ hx hv
       have HNx : Hid (prk F G ca cb (s + 1) p = x ^^^ v) := by show _ = _; rw [← HP.out, prk_succ F G ca cb m q s hlq, HP.out, HX.out, HY.out, HZ.out, HV.out]
       have HMul : Hid (∀ w, Calls Tryz.prog 52 #[.int .u8 (y : Int), .int .u8 (z : Int)] w fun e w' => e = .returned (.int .u8 (v : Int)) ∧ w = w') := by rw [← HV.out]; exact fun w => qe4 y z w hy hz
       have e1 : ((m : Int) * (cb : Int)) = ((m * cb : Nat) : Int) := by simp
       have hmp : m * cb ≤ p := by rw [← HP.out]; omega
       have w1' : IntKind.i64.wrap ((m : Int) * (cb : Int)) = (m : Int) * (cb : Int) := by rw [e1, IntKind.wrap_i64]; omega
       have w2' : IntKind.i64.wrap ((m : Int) * (cb : Int) + (q : Int)) = (p : Int) := by rw [e1, IntKind.wrap_i64]; have := HP.out; omega
       have p0 : (0 : Int) ≤ (p : Int) := by omega
       have p1 : (p : Int) < (n : Int) := by omega
       have bel : Below wr.heap.size wr wr.drew := (Below.refl _ _).drew
       have HD : Hid ((fun w' => w'.cell? ⟨w3.heap.size, 1, none⟩ = some (.int .i64 (cb : Int)) ∧ w'.cell? ⟨w3.heap.size, 2, none⟩ = some (.slice (some ⟨gd, 0, none⟩) n n) ∧ w'.cell? ⟨w.heap.size, 0, none⟩ = some (.int .i64 (ra : Int)) ∧ w'.cell? ⟨w.heap.size, 1, none⟩ = some (.int .i64 (ca : Int)) ∧ w'.cell? ⟨w.heap.size, 2, none⟩ = some (.slice a na ka) ∧ w'.cell? ⟨w.heap.size + 1, 0, none⟩ = some (.int .i64 (ca : Int)) ∧ w'.cell? ⟨w.heap.size + 1, 1, none⟩ = some (.int .i64 (cb : Int)) ∧ w'.cell? ⟨w.heap.size + 1, 2, none⟩ = some (.slice b nb kb) ∧ w'.cell? ⟨gd, p, none⟩ = some (.int .u8 (x : Int)) ∧ w'.frozen? ⟨gd, p, none⟩ = false) wr.drew) := ⟨m1, m2, a0, a1, a2, b0, b1, b2, hd, hf⟩
       have HAa : Hid (∀ w', Below wr.heap.size wr w' → Calls Tryz.prog 53 #[.agg #[.int .i64 (ra : Int), .int .i64 (ca : Int), .slice a na ka], .int .i64 (m : Int), .int .i64 (s : Int)] w' fun e w'' => e = .returned (.int .u8 (y : Int)) ∧ Below w'.heap.size w' w'') := fun w' h' => qbx w' _ ca m s na ka y a F (HSa.out.later (qa0 HI.out.below h')) (HRA.out.at hlt hls) la HY
       have HAb : Hid (∀ w', (Below wr.heap.size wr w') → Calls Tryz.prog 53 #[.agg #[.int .i64 (ca : Int), .int .i64 (cb : Int), .slice b nb kb], .int .i64 (s : Int), .int .i64 (q : Int)] w' fun e w'' => e = .returned (.int .u8 (z : Int)) ∧ Below w'.heap.size w' w'') := fun w' h' => qbx w' _ cb s q nb kb z b G (HSb.out.later (qa0 HI.out.below h')) (HRB.out.at hls hlq) lb HZ
       have n6 : w3.heap.size ≠ gd := Ne.symm I.d6
       have n0 : w.heap.size ≠ gd := by have := I.dlow; omega
       have n1 : w.heap.size + 1 ≠ gd := by have := I.dlow; omega
       clear I e1 bel
       go_wp2
       refine qad (k := 21) (n := 21) (fun w' => w'.cell? ⟨w3.heap.size, 1, none⟩ = some (.int .i64 (cb : Int)) ∧ w'.cell? ⟨w3.heap.size, 2, none⟩ = some (.slice (some ⟨gd, 0, none⟩) n n) ∧ w'.cell? ⟨w.heap.size, 0, none⟩ = some (.int .i64 (ra : Int)) ∧ w'.cell? ⟨w.heap.size, 1, none⟩ = some (.int .i64 (ca : Int)) ∧ w'.cell? ⟨w.heap.size, 2, none⟩ = some (.slice a na ka) ∧ w'.cell? ⟨w.heap.size + 1, 0, none⟩ = some (.int .i64 (ca : Int)) ∧ w'.cell? ⟨w.heap.size + 1, 1, none⟩ = some (.int .i64 (cb : Int)) ∧ w'.cell? ⟨w.heap.size + 1, 2, none⟩ = some (.slice b nb kb) ∧ w'.cell? ⟨gd, p, none⟩ = some (.int .u8 (x : Int)) ∧ w'.frozen? ⟨gd, p, none⟩ = false) (by kernel_rfl) (by kernel_rfl) (by decide) (by rfl) ?_
       refine wtkq 0 ?v0 rfl (by kernel_rfl) (fun _ _ _ h => h) (by rfl) ?y0 HD.out ?z0
       case y0 => (intro w hSw; (try dsimp only at hSw); go_simp; try with_reducible rfl)
       try simp only [mz1, mz3, Act.put, mz4, mz5, mz6]
       refine wtkq 1 ?v1 rfl (by kernel_rfl) (fun _ _ _ h => h) (by rfl) ?y1 HD.out ?z1
       case y1 => (intro w hSw; (try dsimp only at hSw); go_simp; try with_reducible rfl)
       try simp only [mz1, mz2, mz3, Act.put, mz4, mz5, mz6]
       refine wtkq 2 ?v2 rfl (by kernel_rfl) (fun _ _ _ h => h) (by rfl) ?y2 HD.out ?z2
       case y2 => (intro w hSw; (try dsimp only at hSw); go_simp; try with_reducible rfl)
       try simp only [mz1, mz2, mz3, Act.put, mz4, mz5, mz6]
       refine wtkq 3 ?v3 rfl (by kernel_rfl) (fun _ _ _ h => h) (by rfl) ?y3 HD.out ?z3
       case y3 => (intro w hSw; (try dsimp only at hSw); go_simp; try with_reducible rfl)
       try simp only [mz1, mz2, mz3, Act.put, mz4, mz5, mz6]
       refine wtkq 4 ?v4 rfl (by kernel_rfl) (fun _ _ _ h => h) (by rfl) ?y4 HD.out ?z4
       case y4 => (intro w hSw; (try dsimp only at hSw); go_simp; try with_reducible rfl)
       try simp only [mz1, mz2, mz3, Act.put, mz4, mz5, mz6]
       refine wtkq 5 ?v5 rfl (by kernel_rfl) (fun _ _ _ h => h) (by rfl) ?y5 HD.out ?z5
       case y5 => (intro w hSw; (try dsimp only at hSw); go_simp; try with_reducible rfl)
       try simp only [mz1, mz2, mz3, Act.put, mz4, mz5, mz6]
       refine wtkq 6 ?v6 rfl (by kernel_rfl) (fun _ _ _ h => h) (by rfl) ?y6 HD.out ?z6
       case y6 => (intro w hSw; (try dsimp only at hSw); go_simp; try with_reducible rfl)
       try simp only [mz1, mz2, mz3, Act.put, mz4, mz5, mz6]
       refine wtkq 7 ?v7 rfl (by kernel_rfl) (fun _ _ _ h => h) (by rfl) ?y7 HD.out ?z7
       case y7 => (intro w hSw; (try dsimp only at hSw); go_simp; try with_reducible rfl)
       try simp only [mz1, mz2, mz3, Act.put, mz4, mz5, mz6]
       refine wtkq 8 ?v8 rfl (by kernel_rfl) (fun _ _ _ h => h) (by rfl) ?y8 HD.out ?z8
       case y8 => (intro w hSw; (try dsimp only at hSw); go_simp; try with_reducible rfl)
       try simp only [mz1, mz2, mz3, Act.put, mz4, mz5, mz6]
       refine wtkq 9 ?v9 rfl (by kernel_rfl) (fun _ _ _ h => h) (by rfl) ?y9 HD.out ?z9
       case y9 => (intro w hSw; (try dsimp only at hSw); go_simp; try with_reducible rfl)
       try simp only [mz1, mz2, mz3, Act.put, mz4, mz5, mz6]
       refine wtkq 10 ?v10 rfl (by kernel_rfl) (fun _ _ _ h => h) (by rfl) ?y10 HD.out ?z10
       case y10 => (intro w hSw; (try dsimp only at hSw); go_simp; try with_reducible rfl)
       try simp only [mz1, mz2, mz3, Act.put, mz4, mz5, mz6]
       refine wtkq 11 ?v11 rfl (by kernel_rfl) (fun _ _ _ h => h) (by rfl) ?y11 HD.out ?z11
       case y11 => (intro w hSw; (try dsimp only at hSw); go_simp; try with_reducible rfl)
       try simp only [mz1, mz2, mz3, Act.put, mz4, mz5, mz6]
       refine wtkq 12 ?v12 rfl (by kernel_rfl) (fun _ _ _ h => h) (by rfl) ?y12 HD.out ?z12
       case y12 => (intro w hSw; (try dsimp only at hSw); go_simp; try with_reducible rfl)
       try simp only [mz1, mz2, mz3, Act.put, mz4, mz5, mz6]
       refine wtkq 14 ?v14 rfl (by kernel_rfl) (fun _ _ _ h => h) (by rfl) ?y14 HD.out ?z14
       case y14 => (intro w hSw; (try dsimp only at hSw); go_simp; try with_reducible rfl)
       try simp only [mz1, mz2, mz3, Act.put, mz4, mz5, mz6]
       refine wtkq 15 ?v15 rfl (by kernel_rfl) (fun _ _ _ h => h) (by rfl) ?y15 HD.out ?z15
       case y15 => (intro w hSw; (try dsimp only at hSw); go_simp; try with_reducible rfl)
       try simp only [mz1, mz2, mz3, Act.put, mz4, mz5, mz6]
       refine wtkq 16 ?v16 rfl (by kernel_rfl) (fun _ _ _ h => h) (by rfl) ?y16 HD.out ?z16
       case y16 => (intro w hSw; (try dsimp only at hSw); go_simp; try with_reducible rfl)
       try simp only [mz1, mz2, mz3, Act.put, mz4, mz5, mz6]
       refine wpAnyH_ready (rs := [13]) (by kernel_rfl) (by simp) ?_
       refine AllReadyH.cons rfl (fun K hK => ?_) AllReadyH.nil
       go_simp
       refine (HAa.out wr.drew (Below.refl _ _).drew).mono ?_; rintro e w5 ⟨rfl, hbk⟩; have HD5 : Hid ((fun w' => w'.cell? ⟨w3.heap.size, 1, none⟩ = some (.int .i64 (cb : Int)) ∧ w'.cell? ⟨w3.heap.size, 2, none⟩ = some (.slice (some ⟨gd, 0, none⟩) n n) ∧ w'.cell? ⟨w.heap.size, 0, none⟩ = some (.int .i64 (ra : Int)) ∧ w'.cell? ⟨w.heap.size, 1, none⟩ = some (.int .i64 (ca : Int)) ∧ w'.cell? ⟨w.heap.size, 2, none⟩ = some (.slice a na ka) ∧ w'.cell? ⟨w.heap.size + 1, 0, none⟩ = some (.int .i64 (ca : Int)) ∧ w'.cell? ⟨w.heap.size + 1, 1, none⟩ = some (.int .i64 (cb : Int)) ∧ w'.cell? ⟨w.heap.size + 1, 2, none⟩ = some (.slice b nb kb) ∧ w'.cell? ⟨gd, p, none⟩ = some (.int .u8 (x : Int)) ∧ w'.frozen? ⟨gd, p, none⟩ = false) w5) := ⟨keepc hbk HD.out.1, keepc hbk HD.out.2.1, keepc hbk HD.out.2.2.1, keepc hbk HD.out.2.2.2.1, keepc hbk HD.out.2.2.2.2.1, keepc hbk HD.out.2.2.2.2.2.1, keepc hbk HD.out.2.2.2.2.2.2.1, keepc hbk HD.out.2.2.2.2.2.2.2.1, keepc hbk HD.out.2.2.2.2.2.2.2.2.1, keepf hbk HD.out.2.2.2.2.2.2.2.2.1 HD.out.2.2.2.2.2.2.2.2.2⟩; have HB5 : Hid (Below wr.heap.size wr w5) := qa0 (Below.refl _ _).drew hbk; clear hbk; dsimp only
       refine hK.out _ _ HD5.out (fun _ => ?_)
       clear hK K
       try simp only [mz1, mz2, mz3, Act.put, mz4, mz5, mz6]
       refine wpAnyH_ready (rs := [17]) (by kernel_rfl) (by simp) ?_
       refine AllReadyH.cons rfl (fun K hK => ?_) AllReadyH.nil
       go_simp
       refine (HAb.out _ HB5.out).mono ?_; rintro e w6 ⟨rfl, hbk⟩; have HD6 : Hid ((fun w' => w'.cell? ⟨w3.heap.size, 1, none⟩ = some (.int .i64 (cb : Int)) ∧ w'.cell? ⟨w3.heap.size, 2, none⟩ = some (.slice (some ⟨gd, 0, none⟩) n n) ∧ w'.cell? ⟨w.heap.size, 0, none⟩ = some (.int .i64 (ra : Int)) ∧ w'.cell? ⟨w.heap.size, 1, none⟩ = some (.int .i64 (ca : Int)) ∧ w'.cell? ⟨w.heap.size, 2, none⟩ = some (.slice a na ka) ∧ w'.cell? ⟨w.heap.size + 1, 0, none⟩ = some (.int .i64 (ca : Int)) ∧ w'.cell? ⟨w.heap.size + 1, 1, none⟩ = some (.int .i64 (cb : Int)) ∧ w'.cell? ⟨w.heap.size + 1, 2, none⟩ = some (.slice b nb kb) ∧ w'.cell? ⟨gd, p, none⟩ = some (.int .u8 (x : Int)) ∧ w'.frozen? ⟨gd, p, none⟩ = false) w6) := ⟨keepc hbk HD5.out.1, keepc hbk HD5.out.2.1, keepc hbk HD5.out.2.2.1, keepc hbk HD5.out.2.2.2.1, keepc hbk HD5.out.2.2.2.2.1, keepc hbk HD5.out.2.2.2.2.2.1, keepc hbk HD5.out.2.2.2.2.2.2.1, keepc hbk HD5.out.2.2.2.2.2.2.2.1, keepc hbk HD5.out.2.2.2.2.2.2.2.2.1, keepf hbk HD5.out.2.2.2.2.2.2.2.2.1 HD5.out.2.2.2.2.2.2.2.2.2⟩; have HB6 : Hid (Below wr.heap.size wr w6) := qa0 HB5.out hbk; have hd6 := HD6.out.2.2.2.2.2.2.2.2.1; have hf6 := HD6.out.2.2.2.2.2.2.2.2.2; clear hbk; dsimp only
       refine hK.out _ _ HD6.out (fun _ => ?_)
       clear hK K
       try simp only [mz1, mz2, mz3, Act.put, mz4, mz5, mz6]
       refine wpAnyH_ready (rs := [18]) (by kernel_rfl) (by simp) ?_
       refine AllReadyH.cons rfl (fun K hK => ?_) AllReadyH.nil
       go_simp
       refine (HMul.out _).mono ?_; rintro e w' ⟨rfl, rfl⟩; dsimp only
       refine hK.out _ _ HD6.out (fun _ => ?_)
       clear hK K
       try simp only [mz1, mz2, mz3, Act.put, mz4, mz5, mz6]
       refine wtkq 19 ?v19 rfl (by kernel_rfl) (fun _ _ _ h => h) (by rfl) ?y19 HD6.out ?z19
       case y19 => (intro w hSw; (try dsimp only at hSw); go_simp; try with_reducible rfl)
       try simp only [mz1, mz2, mz3, Act.put, mz4, mz5, mz6]
       refine wtkq 20 ?v20 rfl (by kernel_rfl) (fun _ _ _ h => h) (by rfl) ?y20 HD6.out ?z20
       case y20 => (intro w hSw; (try dsimp only at hSw); go_simp; try with_reducible rfl)
       try simp only [mz1, mz2, mz3, Act.put, mz4, mz5, mz6]
       refine wpAnyH_done (by kernel_rfl) ?_ _
       refine qau rfl (fun K hK => ?_)
       go_simp
       refine hK.out _ _ ?_
       clear hK K
       try simp only [mz1, mz2, mz3, Act.put, mz4, mz5, mz6]
       go_wp2
       exact ⟨⟨s + 1, by omega, by go_num, ((HI.out.later HB6.out).set (q := p) (v := x ^^^ v)).congr (fun t _ => by rw [← HNx.out, ← HP.out, mdf_step])⟩, by simp [intOf]; omega⟩
      ·obtain rfl : s = ca := by omega
       clear I
       go_wp2
       exact ⟨⟨q + 1, by omega, by go_num, HI.out.congr (fun p _ => mdf_next F G s cb (m * cb + q) p)⟩, by simp [intOf]; omega⟩
    ·obtain rfl : q = cb := by omega
     go_wp2
     exact ⟨⟨m + 1, by omega, by go_num, HI.out.congr (fun p _ => by rw [Nat.add_mul, Nat.one_mul])⟩, by simp [intOf]; omega⟩
  ·obtain rfl : m = ra := by omega
   have c0 := HI.out.vm.c0
   have c1 := HI.out.vm.c1
   have c2 := HI.out.vm.c2
   have HVr : Hid (Vr wr (w.heap.size + 1 + 1) (.int .i64 0) (.int .i64 0) (.slice none 0 0)) := HI.out.vr
   go_wp2_with (refine qa2 rfl _ _ rfl (w.heap.size + 1 + 1) _ _ _ (.int .i64 (m : Int)) (.int .i64 (cb : Int)) (.slice (some ⟨gd, 0, none⟩) n n) rfl rfl HVr.out rfl rfl rfl ?_; intro w4 HV4 HG4)
   have d0 := HV4.out.c0
   have d1 := HV4.out.c1
   have d2 := HV4.out.c2
   have dl := HI.out.dlow
   refine bodyPost_ret (v := .tuple #[mv m cb (some ⟨gd, 0, none⟩) n n, .int .i64 0]) (by simp [results, Tryz.results25, go_sem, d0, d1, d2, mv]) rfl ?_
   exact ⟨gd, rfl, (HI.out.data.kept HG4.out (by omega)).congr (fun p hp => by unfold mdf; rw [if_pos (by rw [HRC.out.len]; exact hp)]), by omega, qa4 HI.out.below HG4.out (by omega)⟩
open Go.RowKit
/-- Three boxes: two arguments and a result. -/
structure Box3 (w wb : World) (r c r' c' : Int) (n k m d : Nat) (a b : Option Addr) : Prop where
 va : Vr wb w.heap.size (.int .i64 r) (.int .i64 c) (.slice a n k)
 vb : Vr wb (w.heap.size + 1) (.int .i64 r') (.int .i64 c') (.slice b m d)
 vr : Vr wb (w.heap.size + 1 + 1) (.int .i64 0) (.int .i64 0) (.slice none 0 0)
 below : Below w.heap.size w wb
theorem box3 (w : World) (r c r' c' : Int) (n k m d : Nat) (a b : Option Addr) : Box3 w (((w.alloc (.cells #[.int .i64 r, .int .i64 c, .slice a n k] 24)).alloc (.cells #[.int .i64 r', .int .i64 c', .slice b m d] 24)).alloc (.cells #[.int .i64 0, .int .i64 0, .slice none 0 0] 24)) r c r' c' n k m d a b := by
 refine ⟨((Vr.new w _ _ _).later (qa1 _ _)).later (qa1 _ _), ?_, ?_, qa0 (qa0 (qa1 _ _) (qa1 _ _)) (qa1 _ _)⟩
 ·have := (Vr.new (w.alloc (.cells #[.int .i64 r, .int .i64 c, .slice a n k] 24)) (.int .i64 r') (.int .i64 c') (.slice b m d)).later (qa1 _ (.cells #[.int .i64 0, .int .i64 0, .slice none 0 0] 24))
  simpa using this
 ·have := Vr.new ((w.alloc (.cells #[.int .i64 r, .int .i64 c, .slice a n k] 24)).alloc (.cells #[.int .i64 r', .int .i64 c', .slice b m d] 24)) (.int .i64 0) (.int .i64 0) (.slice none 0 0)
  simpa using this
open Go.RowKit
theorem qa9 {ops : Array Oper} {op : Oper} {a : Act} {w : World} {K : Act → World → Prop} {Q : Exit → Act → World → Prop} (hgd : op.guard = none) (p q : Operand) (ho : op.op = .store 24 p q)
  (b : Nat) (x y z x' y' z' : Value) (hp : a.eval p = .pointer (some ⟨b, 0, none⟩)) (hq : a.eval q = .agg #[x', y', z']) (hv : Vr w b x y z) (h0 : x'.oneCell' = true) (h1 : y'.oneCell' = true) (h2 : z'.oneCell' = true)
  (h : ∀ w', Hid (Vr w' b x' y' z') → Hid (w.grownBy w' (some b)) → K (a.put op.dst undef) w') : if Region.wanted op (yielded ops a.tmps) = true then Oper.wp Tryz.prog op a w K Q else K (a.put op.dst undef) w := by
 have hw : Region.wanted op (yielded ops a.tmps) = true := by simp [Region.wanted, hgd]
 rw [if_pos hw]
 exact wp_store_mid 24 p q ho b 0 #[x', y', z'] hp hq hv.there size24 (by simp [h0, h1, h2]) (h _ (((hv.set0 x').set1 y').set2 z') (qbb (qbb (qa3 _ _ _ _) (qa3 _ _ _ _)) (qa3 _ _ _ _)))
/-- One list behind the other. -/
def stf (F G : Nat → Nat) (m p : Nat) : Nat := if p < m then F p else G (p - m)
theorem qgn (F G : Nat → Nat) (m k : Nat) : (row m F).toList ++ (row k G).toList = (row (m + k) (stf F G m)).toList := by
 apply List.ext_getElem?
 intro i
 have hl : (row m F).toList.length = m := by simp [qa6]
 by_cases h1 : i < m
 ·rw [List.getElem?_append_left (by omega), Array.getElem?_toList, Array.getElem?_toList, qba m F i h1, qba (m + k) _ i (by omega)]
  unfold stf; rw [if_pos h1]
 ·rw [List.getElem?_append_right (by omega), hl, Array.getElem?_toList, Array.getElem?_toList]
  by_cases h2 : i < m + k
  ·rw [qba k G (i - m) (by omega), qba (m + k) _ i h2]
   unfold stf; rw [if_neg h1]
  ·rw [Array.getElem?_eq_none (by simp [qa6]; omega), Array.getElem?_eq_none (by simp [qa6]; omega)]
theorem qap {ops : Array Oper} {op : Oper} {a : Act} {w : World} {K : Act → World → Prop} {Q : Exit → Act → World → Prop} (hgd : op.guard = none) (s x : Operand) (ho : op.op = .call { callee := .builtin .append, args := #[s, x], argTypes := #[22, 22] })
  (base n : Nat) (v : Value) (ls : List Value) (hs : a.eval s = v) (hown : w.ownsRow base 5 1 v n ls) (b : Option Addr) (m c : Nat) (G : Nat → Nat) (hx : a.eval x = .slice b m c) (hb : Sl w b m G) (h0 : b = none → m = 0 ∧ c = 0) (h63 : n + m ≤ 140737488351232) (hbase : base ≤ w.heap.size)
  (h : ∀ v' w', w'.ownsRow base 5 1 v' (n + m) (ls ++ (row m G).toList) → w.grownBy w' v.ownBlock → K (a.put op.dst v') w') : if Region.wanted op (yielded ops a.tmps) = true then Oper.wp Tryz.prog op a w K Q else K (a.put op.dst undef) w := by
 obtain ⟨i0, hi, hz0, hz1, hz2⟩ := info_parts qd9
 have hw : Region.wanted op (yielded ops a.tmps) = true := by simp [Region.wanted, hgd]
 rw [if_pos hw]
 cases b with
 | none =>
  obtain ⟨rfl, rfl⟩ := h0 rfl
  have hrun := run_append_owned_none (P := Tryz.prog) (w := w) base 22 op.type 5 i0 1 Tryz.underlying22 hi v n ls hown
  unfold Oper.wp
  simp [execOp, ho, resolve, invoke, builtin, hs, hx, hrun, Result.andThen]
  exact h v w (by rw [qbj, List.append_nil]; exact hown) ⟨rfl, rfl, rfl, Nat.le_refl _, fun _ _ _ => rfl⟩
 | some ad =>
  exact wp_append_own w s x 22 ho base 5 i0 (.int .u8 0) 1 1 Tryz.underlying22 hi hz0 hz1 hz2 rfl (by decide) v n ls hs hown ad m c (row m G).toList hx (by simp [qa6]) (qbv hb (Below.refl _ _)) (qbw m G) (by unfold maxLen; omega) (by omega) hbase (fun v' w' h1 h2 _ => h v' w' h1 h2)
open Go.RowKit
/-- A slice of ints reads as q 0, q 1, .. -/
def Il (w : World) (b : Option Addr) (m : Nat) (q : Nat → Int) : Prop := ∀ i, i < m → ∃ x o, b = some ⟨x, o, none⟩ ∧ w.cell? ⟨x, o + i, none⟩ = some (.int .i64 (q i))
theorem Il.later {w w' : World} {b : Option Addr} {m : Nat} {q : Nat → Int} (h : Il w b m q) (hb : Below w.heap.size w w') : Il w' b m q := fun i hi => by
 obtain ⟨x, o, e, hc⟩ := h i hi
 exact ⟨x, o, e, by rw [hb.cell (p := ⟨x, o + i, none⟩) (qar hc)]; exact hc⟩
/-- The picked rows' entries. -/
def pkf (F : Nat → Nat) (z : Nat → Nat) (c p : Nat) : Nat := F (z (p / c) * c + p % c)
theorem qcj (F : Nat → Nat) (z : Nat → Nat) (c i j : Nat) (hj : j < c) : pkf F z c (i * c + j) = F (z i * c + j) := by
 unfold pkf
 rw [Nat.mul_comm i c, Nat.mul_add_div (by omega), Nat.div_eq_of_lt hj, Nat.add_zero, Nat.mul_add_mod, Nat.mod_eq_of_lt hj]
theorem row_pkf (F : Nat → Nat) (z : Nat → Nat) (c i : Nat) : (row (i * c) (pkf F z c)).toList ++ (row c (fun j => F (z i * c + j))).toList = (row ((i + 1) * c) (pkf F z c)).toList := by
 rw [qgn, Nat.add_mul, Nat.one_mul]
 congr 1
 apply qct
 intro p hp
 unfold stf
 by_cases h : p < i * c
 ·rw [if_pos h]
 ·rw [if_neg h]; show F (z i * c + (p - i * c)) = _; rw [← qcj F z c i (p - i * c) (by omega)]
  congr 1; omega
theorem qcw {ops : Array Oper} {rest : List Oper} {op : Oper} {a : Act} {w : World} {Q : Exit → Act → World → Prop} (hgd : op.guard = none) (s x : Operand) (ho : op.op = .call { callee := .builtin .append, args := #[s, x], argTypes := #[22, 22] })
  (base n : Nat) (v : Value) (ls : List Value) (hs : a.eval s = v) (hown : w.ownsRow base 5 1 v n ls) (b : Option Addr) (m c : Nat) (G : Nat → Nat) (hx : a.eval x = .slice b m c) (hb : Sl w b m G) (h0 : b = none → m = 0 ∧ c = 0) (h63 : n + m ≤ 140737488351232) (hbase : base ≤ w.heap.size)
  (h : ∀ v' w', w'.ownsRow base 5 1 v' (n + m) (ls ++ (row m G).toList) → w.grownBy w' v.ownBlock → wpList Tryz.prog ops Q rest (a.put op.dst v') w') : wpList Tryz.prog ops Q (op :: rest) a w :=
 wpList_plain hgd fun K hK => by
  have := qap (ops := ops) (K := K) (Q := Q) hgd s x ho base n v ls hs hown b m c G hx hb h0 h63 hbase (fun v' w' h1 h2 => hK _ _ (h v' w' h1 h2))
  rwa [if_pos (by simp [Region.wanted, hgd])] at this
theorem qbf {w : World} {base n d : Nat} {s : Option Addr} {ls : List Value} (h : w.ownsRow base 5 1 (.slice s n d) n ls) : s = none → n = 0 ∧ d = 0 := by
 intro e
 rcases h.2 with ⟨e', h0⟩ | ⟨g, cap, cur, e', _⟩
 ·simp at e'; exact ⟨h0, e'.2.2⟩
 ·rw [e] at e'; simp at e'
/-- What the loops of Pick keep. -/
structure UInv (w w1 wr : World) (g4 r c n k m q : Nat) (a : Option Addr) (G : Nat → Nat) (v : Value) : Prop where
 vb : Vr wr w.heap.size (.int .i64 (r : Int)) (.int .i64 (c : Int)) (.slice a n k)
 vr : Vr wr (w.heap.size + 1) (.int .i64 0) (.int .i64 0) (.slice none 0 0)
 vt : Vr wr g4 (.int .i64 (m : Int)) (.int .i64 (c : Int)) v
 own : wr.ownsRow (g4 + 1) 5 1 v q (row q G).toList
 below : Below w1.heap.size w1 wr
theorem UInv.later {w w1 wr w5 : World} {r c n k m q : Nat} {a : Option Addr} {G : Nat → Nat} {v : Value} (I : UInv w w1 wr w1.heap.size r c n k m q a G v) (hb5 : Below wr.heap.size wr w5) : UInv w w1 w5 w1.heap.size r c n k m q a G v :=
 ⟨I.vb.later hb5, I.vr.later hb5, I.vt.later hb5, I.own.kept (qa5.mpr hb5) (by cases hv : v.ownBlock <;> simp), qa0 I.below hb5⟩
theorem UInv.grown {w w1 w5 w8 : World} {r c n k m q q' cap : Nat} {gg : Option Addr} {a : Option Addr} {G : Nat → Nat} {v : Value} (I : UInv w w1 w5 w1.heap.size r c n k m q a G v)
  (hown : w8.ownsRow (w1.heap.size + 1) 5 1 (.slice gg q' cap) q' (row q' G).toList) (hg : w5.grownBy w8 v.ownBlock) (hw : w.heap.size + 1 < w1.heap.size) :
  UInv w w1 (w8.setCell ⟨w1.heap.size, 2, none⟩ (.slice gg q' cap)) w1.heap.size r c n k m q' a G (.slice gg q' cap) := by
 have base := qaa I.own
 refine ⟨?_, ?_, ?_, ?_, ?_⟩
 ·exact (I.vb.grown hg (fun e => by have := base _ e; omega)).kept (qa3 _ _ _ _) (by omega)
 ·exact (I.vr.grown hg (fun e => by have := base _ e; omega)).kept (qa3 _ _ _ _) (by omega)
 ·exact Vr.set2 (I.vt.grown hg (fun e => by have := base _ e; omega)) _
 ·exact hown.kept (qa3 _ _ _ _) (.inr (fun e => by have := qaa hown _ e; omega))
 ·have b8 : Below w1.heap.size w1 w8 := I.below.grown hg I.below.size (fun k hk => by have := base k hk; omega)
  exact b8.setCell (Nat.le_refl _) _
theorem qay (w : World) (r c n k m d N : Nat) (a b : Option Addr) (F z : Nat → Nat) (ha : Sl w a n F) (R : Rt r c n) (hb : Il w b m (fun i => (z i : Int))) (hz : ∀ i, i < m → z i < r) (hm : m ≤ 64) (HN : Hid (m * c = N)) :
  Calls Tryz.prog 18 #[mv r c a n k, .slice b m d] w fun e w' => ∃ s d, e = .returned (.tuple #[mv m c s N d, .int .i64 0]) ∧ w'.ownsRow w.heap.size 5 1 (.slice s N d) N (row N (pkf F z c)).toList ∧ Below w.heap.size w w' := by
 have HRt : Hid (Rt r c n) := R
 have hn := R.le
 have hr := R.r64
 have hc := R.c64
 obtain ⟨wb, HW⟩ : ∃ wb, Hid (wb = (w.alloc (.cells #[.int .i64 (r : Int), .int .i64 (c : Int), .slice a n k] 24)).alloc (.cells #[.int .i64 0, .int .i64 0, .slice none 0 0] 24)) := ⟨_, rfl⟩
 have HVb : Hid (Vr wb w.heap.size (.int .i64 (r : Int)) (.int .i64 (c : Int)) (.slice a n k)) := by rw [HW.out]; exact (Vr.new w _ _ _).later (qa1 _ _)
 have HVr : Hid (Vr wb (w.heap.size + 1) (.int .i64 0) (.int .i64 0) (.slice none 0 0)) := by show Vr _ _ _ _ _; rw [HW.out]; have := Vr.new (w.alloc (.cells #[.int .i64 (r : Int), .int .i64 (c : Int), .slice a n k] 24)) (.int .i64 0) (.int .i64 0) (.slice none 0 0); simpa using this
 have HB0 : Hid (Below w.heap.size w wb) := by rw [HW.out]; exact qa0 (qa1 _ _) (qa1 _ _)
 have HSa : Hid (Sl w a n F) := ha
 have HSb : Hid (Il w b m (fun i => (z i : Int))) := hb
 have HZ : Hid (∀ i, i < m → z i < r) := hz
 clear ha R hb hz
 go_enter Tryz.func18, Tryz.ntmps18
 go_wp2_with (go_at_call 40; rw [← HW.out]; refine (qam _ _ _ _ _ _ HRt.out.p).mono ?_; rintro e w0 ⟨rfl, hb1⟩; have HB1 : Hid (Below wb.heap.size wb w0) := hb1; clear hb1)
 have HBw0 : Hid (Below w.heap.size w w0) := qa0 HB0.out HB1.out
 have HV0 : Hid (Vr w0 w.heap.size (.int .i64 (r : Int)) (.int .i64 (c : Int)) (.slice a n k)) := HVb.out.later HB1.out
 have HR0 : Hid (Vr w0 (w.heap.size + 1) (.int .i64 0) (.int .i64 0) (.slice none 0 0)) := HVr.out.later HB1.out
 clear HW HVb HVr HB0 HB1
 go_loopw [6] (fun j wr => ∃ q : Nat, q ≤ m ∧ j = .int .i64 (q : Int) ∧ Below w0.heap.size w0 wr) (fun j _ => m - (intOf j).toNat)
 case atStart => exact ⟨0, by omega, rfl, Below.refl _ _⟩
 case round =>
  obtain ⟨q, hq, rfl, hbr⟩ := hrel
  have HB : Hid (Below w0.heap.size w0 wr) := hbr
  clear hbr
  by_cases hlt : q < m
  ·obtain ⟨x, o, eb, hcell⟩ := HSb.out.later (qa0 HBw0.out HB.out) q hlt
   have zr := HZ.out q hlt
   dsimp only at hcell
   obtain ⟨y, HY⟩ : ∃ y, Hid (z q = y) := ⟨_, rfl⟩
   rw [HY.out] at hcell zr
   have b0 := (HV0.out.later HB.out).c0
   have g1 : decide ((y : Int) < 0) = false := by simp
   have g2 : decide (r ≤ y) = false := by simp; omega
   subst eb
   go_wp2
   go_region
   go_wp2
   exact ⟨⟨q + 1, by omega, by go_num, by first | exact HB.out | exact HB.out.drew⟩, by simp [intOf]; omega⟩
  ·obtain rfl : q = m := by omega
   have b1 := (HV0.out.later HB.out).c1
   have g3 : decide (64 < q) = false := by simp; omega
   have HBw : Hid (Below w.heap.size w wr) := qa0 HBw0.out HB.out
   have HVb : Hid (Vr wr w.heap.size (.int .i64 (r : Int)) (.int .i64 (c : Int)) (.slice a n k)) := HV0.out.later HB.out
   have HVr : Hid (Vr wr (w.heap.size + 1) (.int .i64 0) (.int .i64 0) (.slice none 0 0)) := HR0.out.later HB.out
   have hlw := HVr.out.lt
   go_wp2
   have HI0 : Hid (UInv w wr (wr.alloc (.cells #[.int .i64 (q : Int), .int .i64 (c : Int), .slice none 0 0] 24)) wr.heap.size r c n k q 0 a (pkf F z c) (.slice none 0 0)) :=
    ⟨HVb.out.later (qa1 _ _), HVr.out.later (qa1 _ _), Vr.new wr _ _ _, by rw [qbj]; exact World.ownsRow_nil _ _ _ _, qa1 _ _⟩
   clear HV0 HR0 HB HVb HVr b1 hlt hq HBw0
   obtain ⟨w1, HW1⟩ : ∃ w1, Hid (w1 = wr) := ⟨_, rfl⟩
   rw [← HW1.out] at HI0 HBw hlw
   rw [← HW1.out]
   clear HW1
   go_loopw [8, 9, 10] (fun j _ _ wr => ∃ (t : Nat) (v : Value), t ≤ q ∧ j = .int .i64 (t : Int) ∧ UInv w w1 wr w1.heap.size r c n k q (t * c) a (pkf F z c) v) (fun j _ _ _ => q - (intOf j).toNat)
   case atStart => exact ⟨0, _, by omega, rfl, by rw [Nat.zero_mul]; exact HI0.out⟩
   case round =>
    clear HI0
    obtain ⟨t, v, ht, rfl, I⟩ := hrel
    have HI : Hid (UInv w w1 wr w1.heap.size r c n k q (t * c) a (pkf F z c) v) := I
    clear I
    by_cases hlt : t < q
    ·obtain ⟨x, o, eb, hcell⟩ := HSb.out.later (qa0 HBw.out HI.out.below) t hlt
     have zr := HZ.out t hlt
     dsimp only at hcell
     obtain ⟨y, HY⟩ : ∃ y, Hid (z t = y) := ⟨_, rfl⟩
     rw [HY.out] at hcell zr
     have b0 := HI.out.vb.c0
     have b1 := HI.out.vb.c1
     have b2 := HI.out.vb.c2
     have HRow : Hid (∀ w', Below wr.heap.size wr w' → Calls Tryz.prog 41 #[.agg #[.int .i64 (r : Int), .int .i64 (c : Int), .slice a n k], .int .i64 (y : Int)] w' fun e w'' => ∃ v, e = .returned (.tuple #[v, .int .i64 0]) ∧ w''.ownsRow w'.heap.size 5 1 v c (row c (fun j => F (y * c + j))).toList ∧ Below w'.heap.size w' w'') := fun w' h' => qgm w' r c n k y a F (HSa.out.later (qa0 (qa0 HBw.out HI.out.below) h')) HRt.out zr
     have hsz := HI.out.below.size
     have hFb : Hid (∀ j, j < c → F (y * c + j) < 256) := fun j hj => HSa.out.1 _ (HRt.out.at zr hj)
     subst eb
     go_wp2
     go_region_with (go_at_call 41; refine (HRow.out _ (by first | exact Below.refl _ _ | exact (Below.refl _ _).drew)).mono ?_; rintro e w5 ⟨v5, rfl, ho5, hbk⟩; obtain ⟨s5, d5, e5, hsl5, hfr5⟩ := own_sl ho5 hFb.out; subst e5; have HN5 : Hid (s5 = none → c = 0 ∧ d5 = 0) := qbf ho5; have HS5 : Hid (Sl w5 s5 c (fun j => F (y * c + j))) := hsl5; have HI5 : Hid (UInv w w1 w5 w1.heap.size r c n k q (t * c) a (pkf F z c) v) := HI.out.later (by first | exact hbk | exact qa0 (Below.refl _ _).drew hbk); have t2 := HI5.out.vt.c2; have tf := HI5.out.vt.free 2; clear ho5 hsl5 hfr5 hbk)
     go_wp2_with (refine qcw rfl _ _ rfl (w1.heap.size + 1) (t * c) v _ rfl HI5.out.own s5 c d5 _ rfl HS5.out HN5.out (by have : t * c ≤ 64 * 64 := Nat.mul_le_mul (by omega) hc; omega) (by have := HI5.out.vt.lt; omega) ?_; intro v8 w8 hown8 hgrow8; have HO8 : Hid (w8.ownsRow (w1.heap.size + 1) 5 1 v8 ((t + 1) * c) (row ((t + 1) * c) (pkf F z c)).toList) := (by show World.ownsRow _ _ _ _ _ _ _; rw [← row_pkf, HY.out, Nat.add_mul, Nat.one_mul]; exact hown8); have HG8 : Hid (w5.grownBy w8 v.ownBlock) := hgrow8; have tf8 := keepgf hgrow8 t2 tf (fun e => by { have := qaa HI5.out.own _ e; omega }); have t28 := keepg hgrow8 t2 (fun e => by { have := qaa HI5.out.own _ e; omega }); clear hown8 hgrow8; obtain ⟨s8, d8, e8, _, _⟩ := qbd HO8.out; subst e8)
     all_goals exact ⟨⟨t + 1, _, by omega, by go_num, HI5.out.grown HO8.out HG8.out hlw⟩, by simp [intOf]; omega⟩
    ·obtain rfl : t = q := by omega
     have hown := HI.out.own
     rw [HN.out] at hown
     obtain ⟨s, e, e3, _, _⟩ := qbd hown
     subst e3
     have c0 := HI.out.vt.c0
     have c1 := HI.out.vt.c1
     have c2 := HI.out.vt.c2
     have HVr : Hid (Vr wr (w.heap.size + 1) (.int .i64 0) (.int .i64 0) (.slice none 0 0)) := HI.out.vr
     have HO : Hid (wr.ownsRow (w1.heap.size + 1) 5 1 (.slice s N e) N (row N (pkf F z c)).toList) := hown
     have hsz := HBw.out.size
     clear hown
     go_wp2_with (refine qa2 rfl _ _ rfl (w.heap.size + 1) _ _ _ (.int .i64 (t : Int)) (.int .i64 (c : Int)) (.slice s N e) rfl rfl HVr.out rfl rfl rfl ?_; intro w4 HV4 HG4)
     have d0 := HV4.out.c0
     have d1 := HV4.out.c1
     have d2 := HV4.out.c2
     refine bodyPost_ret (v := .tuple #[mv t c s N e, .int .i64 0]) (by simp [results, Tryz.results18, go_sem, d0, d1, d2, mv]) rfl ?_
     have own4 := HO.out.kept HG4.out (.inr (fun h => by have := qaa HO.out _ h; omega))
     exact ⟨s, e, rfl, qdm own4 (by omega), qa4 (qa0 HBw.out HI.out.below) HG4.out (by omega)⟩
open Go.RowKit
/-- Two boxes: an argument and a result. -/
structure Box2 (w wb : World) (r c : Int) (n k : Nat) (a : Option Addr) : Prop where
 va : Vr wb w.heap.size (.int .i64 r) (.int .i64 c) (.slice a n k)
 vr : Vr wb (w.heap.size + 1) (.int .i64 0) (.int .i64 0) (.slice none 0 0)
 below : Below w.heap.size w wb
theorem box2 (w : World) (r c : Int) (n k : Nat) (a : Option Addr) : Box2 w ((w.alloc (.cells #[.int .i64 r, .int .i64 c, .slice a n k] 24)).alloc (.cells #[.int .i64 0, .int .i64 0, .slice none 0 0] 24)) r c n k a := by
 refine ⟨(Vr.new w _ _ _).later (qa1 _ _), ?_, qa0 (qa1 _ _) (qa1 _ _)⟩
 have := Vr.new (w.alloc (.cells #[.int .i64 r, .int .i64 c, .slice a n k] 24)) (.int .i64 0) (.int .i64 0) (.slice none 0 0)
 simpa using this
open Go.RowKit
/-- The rows' entries, one behind the other. -/
def off (f : Nat → Nat → Nat) (c p : Nat) : Nat := f (p / c) (p % c)
end Go.Proofs.YtokdejhbjoglcaaGreat
