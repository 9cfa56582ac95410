/-
  VerdictGives, the walks.
-/
import Derived.Test.YtokdejhbjoglcaaQgges00
import Derived.Test.YtokdejhbjoglcaaQgges49
import Derived.Test.YtokdejhbjoglcaaQgges11
set_option maxRecDepth 100000
set_option maxHeartbeats 16000000
namespace Go.Proofs.Ytokdejhbjoglcaa
open Go.RowKit Go.Shelf
attribute [local go_sem] Oper.semAt_some
theorem gives_ok (w : World) (r c n k s K L Q kb : Nat) (a b : Option Addr) (F X : Nat → Nat) (p : Nat) (ha : Mt w a n k F) (hb : Sl w b c X) (R : Rt r c n) (hs : s < 2 ^ r) (hKs : cn s r = K) (hpt : ∀ j, j < r → bt p j = 1 → ¬ bt s j = 1)
  (HL : Hid (c * r = L)) (HQ : Hid (K * r = Q))
  (HDc : Hid (∀ w' : World, Below w.heap.size w w' → Calls Try.prog 11 #[mv r c a n k, .int .u64 (s : Int)] w' fun e w'' => MadeT w' w'' e c r L (fun O => DecP F O p r c)))
  (HRb : Hid (∀ w' : World, Below w.heap.size w w' → Calls Try.prog 12 #[mv r c a n k, .int .u64 (s : Int)] w' fun e w'' => MadeT w' w'' e K r Q (fun M => RebP F M s p r c)))
  (HGe : Hid (∀ w' : World, Below w.heap.size w w' → Calls Try.prog 13 #[mv r c a n k, .int .u64 (s : Int)] w' fun e w'' => e = .returned (.bool true) ∧ Below w'.heap.size w' w'')) :
  Calls Try.prog 4 #[mv r c a n k, .int .u64 (s : Int), .slice b c kb] w fun e w' => e = .returned (.bool true) ∧ Below w.heap.size w w' := by
 obtain ⟨i0, hi, hz0, hz1, hz2⟩ := info_parts qe3
 have hr := R.r64
 have hc := R.c64
 have hs6 := qay hr hs
 have HA : Hid (Mt w a n k F) := ha
 have HX : Hid (Sl w b c X) := hb
 have HR : Hid (Rt r c n) := R
 have hK : K ≤ 64 := by rw [← hKs]; exact Nat.le_trans (qax r s) hr
 have RL : Hid (Rt c r L) := ⟨hc, hr, HL.out⟩
 have RQ : Hid (Rt K r Q) := ⟨hK, hr, HQ.out⟩
 obtain ⟨Y, HY⟩ : ∃ Y, Hid (apf F X c = Y) := ⟨_, rfl⟩
 have HYe : Hid (∀ i, i < r → Y i < 256) := by rw [← HY.out]; exact apf_lt X ha.sl.1 R
 have HPT := qac hpt
 have HKs := qac hKs
 have HLd : Hid (∀ O, DecP F O p r c → ∀ i, i < c → apf O (fun q => if q < r ∧ bt s q = 1 then (q * 37 + 11) % 256 else Y q) r i = X i) := fun O h i hi => qee ha.sl.1 R hb.1 h (fun j hj hbj => by rw [if_neg (fun hh => hpt j hj hbj hh.2), ← HY.out]) i hi
 have HLl : Hid (∀ M, RebP F M s p r c → ∀ i, i < K → apf M (fun q => if q < r ∧ bt s q = 1 then (q * 37 + 11) % 256 else Y q) r i = Y (lf s r i)) := fun M h i hi => by
  obtain ⟨O, h1, h2⟩ := h
  rw [hKs] at h2
  rw [← HY.out]
  exact qi3 ha.sl.1 R hK hb.1 (fun i hi => (qab (by omega)).1) h1 h2 (fun j hj hbj => by rw [if_neg (fun hh => hpt j hj hbj hh.2)]) i hi
 have hcc : ((c : Int) == (c : Int)) = true := by simp
 clear ha hb R hs hKs hpt
 go_enter Try.func4, Try.ntmps4
 go_wp2_with (first
  | (go_at_call 11; refine (HDc.out _ (qa1 _ _)).mono ?_; rintro e w1 ⟨gd, O, rfl, hr1, hg1, hd1, hb⟩; have HB1 : Hid (Below w.heap.size w (w1.alloc (.cells #[.int .i64 (c : Int), .int .i64 (r : Int), .slice (some ⟨gd, 0, none⟩) L L] 24))) := qa0 (qa0 (qa1 _ _) hb) (qa1 _ _); have HVg1 : Hid (Vr (w1.alloc (.cells #[.int .i64 (c : Int), .int .i64 (r : Int), .slice (some ⟨gd, 0, none⟩) L L] 24)) w.heap.size (.int .i64 (r : Int)) (.int .i64 (c : Int)) (.slice a n k)) := ((Vr.new w _ _ _).later hb).later (qa1 _ _); have HVd1 : Hid (Vr (w1.alloc (.cells #[.int .i64 (c : Int), .int .i64 (r : Int), .slice (some ⟨gd, 0, none⟩) L L] 24)) w1.heap.size (.int .i64 (c : Int)) (.int .i64 (r : Int)) (.slice (some ⟨gd, 0, none⟩) L L)) := Vr.new _ _ _ _; have HRd1 : Hid (RowAt (w1.alloc (.cells #[.int .i64 (c : Int), .int .i64 (r : Int), .slice (some ⟨gd, 0, none⟩) L L] 24)) gd 5 L O) := hr1.later (qa1 _ _); have HDp := qac hd1; have g0 := HVg1.out.c0; have g1 := HVg1.out.c1; have g2 := HVg1.out.c2; clear hr1 hg1 hd1 hb)
  | (go_at_call 12; refine (HRb.out _ HB1.out).mono ?_; rintro e w2 ⟨gm, M, rfl, hr2, hg2, hd2, hb⟩; have HB2 : Hid (Below w.heap.size w (w2.alloc (.cells #[.int .i64 (K : Int), .int .i64 (r : Int), .slice (some ⟨gm, 0, none⟩) Q Q] 24))) := qa0 (qa0 HB1.out hb) (qa1 _ _); have HVg2 : Hid (Vr (w2.alloc (.cells #[.int .i64 (K : Int), .int .i64 (r : Int), .slice (some ⟨gm, 0, none⟩) Q Q] 24)) w.heap.size (.int .i64 (r : Int)) (.int .i64 (c : Int)) (.slice a n k)) := (HVg1.out.later hb).later (qa1 _ _); have HVd2 : Hid (Vr (w2.alloc (.cells #[.int .i64 (K : Int), .int .i64 (r : Int), .slice (some ⟨gm, 0, none⟩) Q Q] 24)) w1.heap.size (.int .i64 (c : Int)) (.int .i64 (r : Int)) (.slice (some ⟨gd, 0, none⟩) L L)) := (HVd1.out.later hb).later (qa1 _ _); have HRd2 : Hid (RowAt (w2.alloc (.cells #[.int .i64 (K : Int), .int .i64 (r : Int), .slice (some ⟨gm, 0, none⟩) Q Q] 24)) gd 5 L O) := (HRd1.out.later hb).later (qa1 _ _); have HVm2 : Hid (Vr (w2.alloc (.cells #[.int .i64 (K : Int), .int .i64 (r : Int), .slice (some ⟨gm, 0, none⟩) Q Q] 24)) w2.heap.size (.int .i64 (K : Int)) (.int .i64 (r : Int)) (.slice (some ⟨gm, 0, none⟩) Q Q)) := Vr.new _ _ _ _; have HRm2 : Hid (RowAt (w2.alloc (.cells #[.int .i64 (K : Int), .int .i64 (r : Int), .slice (some ⟨gm, 0, none⟩) Q Q] 24)) gm 5 Q M) := hr2.later (qa1 _ _); have HMp := qac hd2; have j0 := HVg2.out.c0; have j1 := HVg2.out.c1; have j2 := HVg2.out.c2; clear hr2 hg2 hd2 hb)
  | (go_at_call 13; refine (HGe.out _ HB2.out).mono ?_; rintro e w3 ⟨rfl, hb⟩; have HB3 : Hid (Below w.heap.size w w3) := qa0 HB2.out hb; have HVg3 := qac (HVg2.out.later hb); have HVd3 := qac (HVd2.out.later hb); have HVm3 := qac (HVm2.out.later hb); have HRd3 := qac (HRd2.out.later hb); have HRm3 := qac (HRm2.out.later hb); have l0 := HVg3.out.c0; have l1 := HVg3.out.c1; have l2 := HVg3.out.c2; clear hb)
  | (go_at_call 15; refine (qdn _ r c n k kb a b F X (HA.out.later HB3.out).sl (HX.out.later HB3.out) HR.out).mono ?_; rintro e w4 ⟨gy, rfl, hr4, hg4, hb⟩; rw [HY.out] at hr4; have HI0 : Hid (GvI w3 w4 w4 gy r s 0 Y (.slice none 0 0)) := ⟨hr4.congr (fun q _ => by rw [if_neg (fun hh => Nat.not_lt_zero _ hh.1)]), (by show World.ownsRow _ _ _ _ _ _ _; rw [show cn s 0 = 0 from rfl, qb8]; exact World.ownsRow_nil _ _ _ _), hb, Nat.le_refl _⟩; have hgy1 := hg4; have hgy2 : gy < w4.heap.size := hr4.lt; clear hr4 hg4 hb))
 clear HGe HRb HDc HB1 HB2 HVg1 HVg2 HVd1 HVd2 HRd1 HRd2 HVm2 HRm2 g0 g1 g2 j0 j1 j2 l0 l1 l2
 go_loopw [15, 16] (fun v vi wr => ∃ j : Nat, j ≤ r ∧ vi = .int .i64 (j : Int) ∧ GvI w3 w4 wr gy r s j Y v) (fun _ vi _ => r - (intOf vi).toNat)
 case atStart => exact ⟨0, by omega, rfl, HI0.out⟩
 case round =>
  clear HI0
  obtain ⟨j, hj, rfl, hI⟩ := hrel
  have HI := qac hI
  by_cases hlt : j < r
  ·have p0 : (0 : Int) ≤ (j : Int) := by omega
   have p1 : (j : Int) < (r : Int) := by omega
   have hj64 : j < 64 := by omega
   by_cases hbt : bt s j = 1
   ·have HH : Hid (∀ w : World, Calls Try.prog 16 #[.int .u64 (s : Int), .int .i64 (j : Int)] w fun e w' => e = .returned (.bool true) ∧ w = w') := fun w => by
     have h := qbz s j w hs6 hj64
     rw [decide_eq_true hbt] at h
     exact h
    obtain ⟨y, HYj⟩ : ∃ y, Hid (Y j = y) := ⟨_, rfl⟩
    have hcy : wr.cell? ⟨gy, j, none⟩ = some (.int .u8 (y : Int)) := by
     have h := hI.row.cell j hlt
     rw [if_neg (fun hh => Nat.lt_irrefl _ hh.1), HYj.out] at h
     exact h
    obtain ⟨v, Hv⟩ : ∃ v, Hid ((j * 37 + 11) % 256 = v) := ⟨_, rfl⟩
    have hw8 : IntKind.u8.wrap ((j : Int) * 37 + 11) = (v : Int) := by
     rw [← Hv.out, IntKind.wrap_u8]
     omega
    obtain ⟨m, Hm⟩ : ∃ m, Hid (cn s j = m) := ⟨_, rfl⟩
    have hm64 : m ≤ 64 := by rw [← Hm.out]; have := qax j s; omega
    have HO : Hid (Ob wr w4.heap.size u15 m (fun t => Y (lf s r t))) := by rw [← Hm.out]; exact hI.own
    have HE : Hid (Y (lf s r m) = y) := by
     show _ = _
     rw [← Hm.out, (lf_cn hlt hbt).2, HYj.out]
    have hsz := hI.size
    have hml : m + 1 ≤ maxLen := by unfold maxLen; omega
    have hfin : ∀ (w5 : World) (v' : Value), Ob w5 w4.heap.size v' (m + 1) (fun t => Y (lf s r t)) → (wr.alloc (.cells #[.int .u8 (y : Int)] 5)).grownBy w5 u15.ownBlock → GvI w3 w4 (w5.setCell ⟨gy, j, none⟩ (.int .u8 (v : Int))) gy r s (j + 1) Y v' ∧ w5.cell? ⟨gy, j, none⟩ = some (.int .u8 (y : Int)) ∧ w5.frozen? ⟨gy, j, none⟩ = false := fun w5 v' ho hg => by
     have hub : u15.ownBlock ≠ some gy := fun e => by have := qae HO.out gy e; omega
     have hrow1 : RowAt (wr.alloc (.cells #[.int .u8 (y : Int)] 5)) gy 5 r (fun q => if q < j ∧ bt s q = 1 then (q * 37 + 11) % 256 else Y q) := HI.out.row.later (qa1 _ _)
     have hrow : RowAt w5 gy 5 r (fun q => if q < j ∧ bt s q = 1 then (q * 37 + 11) % 256 else Y q) := by
      unfold RowAt at hrow1 ⊢
      rw [hg.block gy (by simp; omega) (fun e => hub e.symm)]
      exact hrow1
     have hlow : Below w3.heap.size w3 w5 := (qa0 HI.out.low (qa1 wr _)).grown hg (by have := HI.out.low.size; simp; omega) (fun g e => by have := qae HO.out g e; omega)
     have gs := qa3 w5 gy j (.int .u8 (v : Int))
     have hs5 := hg.size
     refine ⟨⟨(hrow.set j v).congr (fun q _ => gv_step (r := r) hbt Hv.out q), ?_, hlow.grown gs hlow.size (fun g e => by have h := Option.some.inj e; omega), ?_⟩, ?_, hrow.free j⟩
     ·rw [qak, hbt, Hm.out]
      exact ho.kept gs (.inr (fun e => by have := qae ho gy e; omega))
     ·have : (wr.alloc (.cells #[.int .u8 (y : Int)] 5)).heap.size = wr.heap.size + 1 := by simp
      have : (w5.setCell ⟨gy, j, none⟩ (.int .u8 (v : Int))).heap.size = w5.heap.size := by simp
      omega
     ·have h := hrow.cell j hlt
      rw [if_neg (fun hh => Nat.lt_irrefl _ hh.1), HYj.out] at h
      exact h
    have HF := qac hfin
    clear hI hbt hfin HI HYj Hm Hv
    go_wp2_with (first
     | (go_at_call 16; refine (HH.out _).mono ?_; rintro e w' ⟨rfl, rfl⟩)
     | (at_builtin; refine wpList_append_own _ rfl _ _ 22 rfl w4.heap.size 5 i0 (.int .u8 0) 1 1 Try.underlying22 hi hz0 hz1 hz2 rfl (by decide) _ m _ rfl (World.ownsRow.alloc HO.out _) ⟨wr.heap.size, 0, none⟩ 1 1 [.int .u8 (y : Nat)] rfl rfl (qfu _ _ _) (one_one _) hml (by omega) (by simp; omega) ?_; intro v' w5 hown' hgrow' _; have HO5 : Hid (Ob w5 w4.heap.size v' (m + 1) (fun t => Y (lf s r t))) := (by show World.ownsRow _ _ _ _ _ _ _; rw [← qem, HE.out]; exact hown'); obtain ⟨hF1, hF2, hF3⟩ := HF.out w5 v' HO5.out hgrow'; have HF1 := qac hF1; clear hown' hgrow' hF1))
    exact ⟨⟨j + 1, by omega, by go_num, HF1.out⟩, by simp [intOf]; omega⟩
   ·have HH : Hid (∀ w : World, Calls Try.prog 16 #[.int .u64 (s : Int), .int .i64 (j : Int)] w fun e w' => e = .returned (.bool false) ∧ w = w') := fun w => by
     have h := qbz s j w hs6 hj64
     rw [decide_eq_false hbt] at h
     exact h
    have HI2 := qac (hI.skip hbt)
    clear hI hbt HI
    go_wp2_with (go_at_call 16; refine (HH.out _).mono ?_; rintro e w' ⟨rfl, rfl⟩)
    exact ⟨⟨j + 1, by omega, by go_num, HI2.out⟩, by simp [intOf]; omega⟩
  ·obtain rfl : j = r := by omega
   obtain ⟨yw, HYw⟩ : ∃ yw : Nat → Nat, Hid ((fun q => if q < j ∧ bt s q = 1 then (q * 37 + 11) % 256 else Y q) = yw) := ⟨_, rfl⟩
   have hrow := hI.row
   rw [HYw.out] at hrow
   have hywe : ∀ q, q < j → yw q < 256 := fun q hq => by
    rw [← HYw.out]
    show (if _ then _ else _) < 256
    split
    ·exact Nat.mod_lt _ (by decide)
    ·exact HYe.out q hq
   have HSy : Hid (Sl wr (some ⟨gy, 0, none⟩) j yw) := hrow.sl hywe
   have hown := hI.own
   rw [HKs.out] at hown
   have HOw : Hid (Ob wr w4.heap.size u15 K (fun t => Y (lf s j t))) := hown
   have HYl : Hid (∀ i, i < K → Y (lf s j i) < 256) := fun i hi => HYe.out _ (qab (by rw [HKs.out]; exact hi)).1
   have HSd : Hid (Sl wr (some ⟨gd, 0, none⟩) L O) := (HRd3.out.later hI.low).sl (by rw [← HL.out]; exact HDp.out.el)
   have HMe : Hid (∀ q, q < Q → M q < 256) := fun q hq => by
    obtain ⟨O2, h1, h2⟩ := HMp.out
    rw [h2 q (by rw [HKs.out, HQ.out]; exact hq)]
    unfold prk
    exact qe1 (fun t ht => qah _ _ (by
     have hj0 : 0 < j := by
      apply Nat.pos_of_ne_zero
      intro h
      subst h
      have := HQ.out
      omega
     have hi2 : q / j < K := Nat.div_lt_of_lt_mul (by rw [Nat.mul_comm, HQ.out]; exact hq)
     rw [qc8 F _ c (q / j) t ht]
     exact HA.out.sl.1 _ (HR.out.at (qab (by rw [HKs.out]; exact hi2)).1 ht)))
   have HSm : Hid (Sl wr (some ⟨gm, 0, none⟩) Q M) := (HRm3.out.later hI.low).sl HMe.out
   have HBr : Hid (Below w.heap.size w wr) := qa0 HB3.out hI.low
   have HVm := qac (HVm3.out.later hI.low)
   have k0 := (HVd3.out.later hI.low).c0
   have k1 := (HVd3.out.later hI.low).c1
   have k2 := (HVd3.out.later hI.low).c2
   have HLd2 : Hid (∀ i, i < c → apf O yw j i = X i) := by rw [← HYw.out]; exact HLd.out O HDp.out
   have HLl2 : Hid (∀ i, i < K → apf M yw j i = Y (lf s j i)) := by rw [← HYw.out]; exact HLl.out M HMp.out
   obtain ⟨sg, dg, esg⟩ := ob_form HOw.out
   subst esg
   have HM1 : Hid True := trivial
   clear hI HI hown hrow hywe HYw HLd HLl HDp HMp
   go_wp2_with (first
    | (go_at_call 15; have _x := HM1; refine (qdn _ c j L L j (some ⟨gd, 0, none⟩) (some ⟨gy, 0, none⟩) O yw HSd.out HSy.out RL.out).mono ?_; rintro e w5 ⟨ga, rfl, hr5, _, hb⟩; have HSa5 : Hid (Sl w5 (some ⟨ga, 0, none⟩) c X) := ((hr5.congr HLd2.out).sl HX.out.1); have HB5 : Hid (Below w.heap.size w w5) := qa0 HBr.out hb; have HSy5 := qac (HSy.out.later hb); have HSm5 := qac (HSm.out.later hb); have HO5 := qac (HOw.out.later hb); have n0 := (HVm.out.later hb).c0; have n1 := (HVm.out.later hb).c1; have n2 := (HVm.out.later hb).c2; clear hr5 hb HM1 _x)
    | (go_at_call 15; refine (qdn _ K j Q Q j (some ⟨gm, 0, none⟩) (some ⟨gy, 0, none⟩) M yw HSm5.out HSy5.out RQ.out).mono ?_; rintro e w6 ⟨gb, rfl, hr6, _, hb⟩; have HSb6 : Hid (Sl w6 (some ⟨gb, 0, none⟩) K (fun t => Y (lf s j t))) := ((hr6.congr HLl2.out).sl HYl.out); have HB6 : Hid (Below w.heap.size w w6) := qa0 HB5.out hb; have HSa6 := qac (HSa5.out.later hb); have HO6 := qac (HO5.out.later hb); clear hr6 hb)
    | (go_at_call 14; refine (qh7 _).mono ?_; rintro e w7 ⟨rfl, hb⟩; have HB7 : Hid (Below w.heap.size w w7) := qa0 HB6.out hb; have HSa7 := qac (HSa6.out.later hb); have HSb7 := qac (HSb6.out.later hb); have HSg7 : Hid (Sl w7 sg K (fun t => Y (lf s j t))) := qcf (HO6.out.later hb) HYl.out; have HX7 := qac (HX.out.later HB7.out); have HM2 : Hid True := trivial; clear hb)
    | (go_at_call 17; have _x := HM2; refine (qf8 _ (some ⟨ga, 0, none⟩) b c c kb X HSa7.out HX7.out).mono ?_; rintro e w' ⟨rfl, rfl⟩; clear HM2 _x)
    | (go_at_call 17; refine (qf8 _ (some ⟨gb, 0, none⟩) sg K K dg (fun t => Y (lf s j t)) HSb7.out HSg7.out).mono ?_; rintro e w' ⟨rfl, rfl⟩))
   go_ret
   exact ⟨rfl, HB7.out⟩
theorem qjw (w : World) (r c E : Int) (n k s m kb : Nat) (a b : Option Addr) (hE : (E == 0) = false)
  (HDc : Hid (∀ w' : World, Below w.heap.size w w' → Calls Try.prog 11 #[mv r c a n k, .int .u64 (s : Int)] w' fun e w'' => e = .returned (.tuple #[mv 0 0 none 0 0, .bool false, .int .i64 E]) ∧ Below w'.heap.size w' w''))
  (HRb : Hid (∀ w' : World, Below w.heap.size w w' → Calls Try.prog 12 #[mv r c a n k, .int .u64 (s : Int)] w' fun e w'' => e = .returned (.tuple #[mv 0 0 none 0 0, .bool false, .int .i64 E]) ∧ Below w'.heap.size w' w''))
  (HGe : Hid (∀ w' : World, Below w.heap.size w w' → Calls Try.prog 13 #[mv r c a n k, .int .u64 (s : Int)] w' fun e w'' => e = .returned (.bool false) ∧ Below w'.heap.size w' w'')) :
  Calls Try.prog 4 #[mv r c a n k, .int .u64 (s : Int), .slice b m kb] w fun e w' => e = .returned (.bool true) ∧ Below w.heap.size w w' := by
 have hE3 : (E != 0) = true := by simp only [bne, hE]; rfl
 go_enter Try.func4, Try.ntmps4
 go_wp2_with (first
  | (go_at_call 11; refine (HDc.out _ (qa1 _ _)).mono ?_; rintro e w1 ⟨rfl, hb⟩; have HB1 : Hid (Below w.heap.size w (w1.alloc (.cells #[.int .i64 0, .int .i64 0, .slice none 0 0] 24))) := qa0 (qa0 (qa1 _ _) hb) (qa1 _ _); have HVg1 : Hid (Vr (w1.alloc (.cells #[.int .i64 0, .int .i64 0, .slice none 0 0] 24)) w.heap.size (.int .i64 r) (.int .i64 c) (.slice a n k)) := ((Vr.new w _ _ _).later hb).later (qa1 _ _); have g0 := HVg1.out.c0; have g1 := HVg1.out.c1; have g2 := HVg1.out.c2; clear hb)
  | (go_at_call 12; refine (HRb.out _ HB1.out).mono ?_; rintro e w2 ⟨rfl, hb⟩; have HB2 : Hid (Below w.heap.size w (w2.alloc (.cells #[.int .i64 0, .int .i64 0, .slice none 0 0] 24))) := qa0 (qa0 HB1.out hb) (qa1 _ _); have HVg2 : Hid (Vr (w2.alloc (.cells #[.int .i64 0, .int .i64 0, .slice none 0 0] 24)) w.heap.size (.int .i64 r) (.int .i64 c) (.slice a n k)) := (HVg1.out.later hb).later (qa1 _ _); have j0 := HVg2.out.c0; have j1 := HVg2.out.c1; have j2 := HVg2.out.c2; clear hb)
  | (go_at_call 13; refine (HGe.out _ HB2.out).mono ?_; rintro e w3 ⟨rfl, hb⟩; have HB3 : Hid (Below w.heap.size w w3) := qa0 HB2.out hb; have l1 := (HVg2.out.later hb).c1; clear hb)
  | (go_at_call 14; refine (qh7 _).mono ?_; rintro e w4 ⟨rfl, hb⟩; have HB4 : Hid (Below w.heap.size w w4) := qa0 HB3.out hb; clear hb))
 go_ret
 exact ⟨rfl, HB4.out⟩
theorem gives_no (w : World) (r c : Int) (n k s m kb : Nat) (a b : Option Addr)
  (HDc : Hid (∀ w' : World, Below w.heap.size w w' → Calls Try.prog 11 #[mv r c a n k, .int .u64 (s : Int)] w' fun e w'' => e = .returned (.tuple #[mv 0 0 none 0 0, .bool false, .int .i64 0]) ∧ Below w'.heap.size w' w''))
  (HRb : Hid (∀ w' : World, Below w.heap.size w w' → Calls Try.prog 12 #[mv r c a n k, .int .u64 (s : Int)] w' fun e w'' => e = .returned (.tuple #[mv 0 0 none 0 0, .bool false, .int .i64 0]) ∧ Below w'.heap.size w' w''))
  (HGe : Hid (∀ w' : World, Below w.heap.size w w' → Calls Try.prog 13 #[mv r c a n k, .int .u64 (s : Int)] w' fun e w'' => e = .returned (.bool true) ∧ Below w'.heap.size w' w'')) :
  Calls Try.prog 4 #[mv r c a n k, .int .u64 (s : Int), .slice b m kb] w fun e w' => e = .returned (.bool true) ∧ Below w.heap.size w w' := by
 go_enter Try.func4, Try.ntmps4
 go_wp2_with (first
  | (go_at_call 11; refine (HDc.out _ (qa1 _ _)).mono ?_; rintro e w1 ⟨rfl, hb⟩; have HB1 : Hid (Below w.heap.size w (w1.alloc (.cells #[.int .i64 0, .int .i64 0, .slice none 0 0] 24))) := qa0 (qa0 (qa1 _ _) hb) (qa1 _ _); have HVg1 : Hid (Vr (w1.alloc (.cells #[.int .i64 0, .int .i64 0, .slice none 0 0] 24)) w.heap.size (.int .i64 r) (.int .i64 c) (.slice a n k)) := ((Vr.new w _ _ _).later hb).later (qa1 _ _); have g0 := HVg1.out.c0; have g1 := HVg1.out.c1; have g2 := HVg1.out.c2; clear hb)
  | (go_at_call 12; refine (HRb.out _ HB1.out).mono ?_; rintro e w2 ⟨rfl, hb⟩; have HB2 : Hid (Below w.heap.size w (w2.alloc (.cells #[.int .i64 0, .int .i64 0, .slice none 0 0] 24))) := qa0 (qa0 HB1.out hb) (qa1 _ _); have HVg2 : Hid (Vr (w2.alloc (.cells #[.int .i64 0, .int .i64 0, .slice none 0 0] 24)) w.heap.size (.int .i64 r) (.int .i64 c) (.slice a n k)) := (HVg1.out.later hb).later (qa1 _ _); have j0 := HVg2.out.c0; have j1 := HVg2.out.c1; have j2 := HVg2.out.c2; clear hb)
  | (go_at_call 13; refine (HGe.out _ HB2.out).mono ?_; rintro e w3 ⟨rfl, hb⟩; have HB3 : Hid (Below w.heap.size w w3) := qa0 HB2.out hb; have l1 := (HVg2.out.later hb).c1; clear hb)
  | (go_at_call 14; refine (qh7 _).mono ?_; rintro e w4 ⟨rfl, hb⟩; have HB4 : Hid (Below w.heap.size w w4) := qa0 HB3.out hb; clear hb))
 go_ret
 exact ⟨rfl, HB4.out⟩
theorem qjx (w : World) (r c n k s K L Q m kb : Nat) (a b : Option Addr) (P1 P2 : (Nat → Nat) → Prop) (hm : m ≠ c)
  (HDc : Hid (∀ w' : World, Below w.heap.size w w' → Calls Try.prog 11 #[mv r c a n k, .int .u64 (s : Int)] w' fun e w'' => MadeT w' w'' e c r L P1))
  (HRb : Hid (∀ w' : World, Below w.heap.size w w' → Calls Try.prog 12 #[mv r c a n k, .int .u64 (s : Int)] w' fun e w'' => MadeT w' w'' e K r Q P2))
  (HGe : Hid (∀ w' : World, Below w.heap.size w w' → Calls Try.prog 13 #[mv r c a n k, .int .u64 (s : Int)] w' fun e w'' => e = .returned (.bool true) ∧ Below w'.heap.size w' w'')) :
  Calls Try.prog 4 #[mv r c a n k, .int .u64 (s : Int), .slice b m kb] w fun e w' => e = .returned (.bool true) ∧ Below w.heap.size w w' := by
 have hm2 : ((m : Int) == (c : Int)) = false := by rw [beq_eq_false_iff_ne]; omega
 have hm3 : ((m : Int) != (c : Int)) = true := by simp only [bne, hm2]; rfl
 go_enter Try.func4, Try.ntmps4
 go_wp2_with (first
  | (go_at_call 11; refine (HDc.out _ (qa1 _ _)).mono ?_; rintro e w1 ⟨gd, O, rfl, _, _, _, hb⟩; have HB1 : Hid (Below w.heap.size w (w1.alloc (.cells #[.int .i64 (c : Int), .int .i64 (r : Int), .slice (some ⟨gd, 0, none⟩) L L] 24))) := qa0 (qa0 (qa1 _ _) hb) (qa1 _ _); have HVg1 : Hid (Vr (w1.alloc (.cells #[.int .i64 (c : Int), .int .i64 (r : Int), .slice (some ⟨gd, 0, none⟩) L L] 24)) w.heap.size (.int .i64 (r : Int)) (.int .i64 (c : Int)) (.slice a n k)) := ((Vr.new w _ _ _).later hb).later (qa1 _ _); have g0 := HVg1.out.c0; have g1 := HVg1.out.c1; have g2 := HVg1.out.c2; clear hb)
  | (go_at_call 12; refine (HRb.out _ HB1.out).mono ?_; rintro e w2 ⟨gm, M, rfl, _, _, _, hb⟩; have HB2 : Hid (Below w.heap.size w (w2.alloc (.cells #[.int .i64 (K : Int), .int .i64 (r : Int), .slice (some ⟨gm, 0, none⟩) Q Q] 24))) := qa0 (qa0 HB1.out hb) (qa1 _ _); have HVg2 : Hid (Vr (w2.alloc (.cells #[.int .i64 (K : Int), .int .i64 (r : Int), .slice (some ⟨gm, 0, none⟩) Q Q] 24)) w.heap.size (.int .i64 (r : Int)) (.int .i64 (c : Int)) (.slice a n k)) := (HVg1.out.later hb).later (qa1 _ _); have j0 := HVg2.out.c0; have j1 := HVg2.out.c1; have j2 := HVg2.out.c2; clear hb)
  | (go_at_call 13; refine (HGe.out _ HB2.out).mono ?_; rintro e w3 ⟨rfl, hb⟩; have HB3 : Hid (Below w.heap.size w w3) := qa0 HB2.out hb; have l1 := (HVg2.out.later hb).c1; clear hb)
  | (go_at_call 14; refine (qh7 _).mono ?_; rintro e w4 ⟨rfl, hb⟩; have HB4 : Hid (Below w.heap.size w w4) := qa0 HB3.out hb; clear hb))
 go_ret
 exact ⟨rfl, HB4.out⟩
theorem qi4 (w : World) (r c : Int) (n k s m kb : Nat) (a b : Option Addr) (F X : Nat → Nat) (ha : Mt w a n k F) (hX : Sl w b m X) (hs6 : s < 18446744073709551616) :
  Calls Try.prog 4 #[mv r c a n k, .int .u64 (s : Int), .slice b m kb] w fun e w' => e = .returned (.bool true) ∧ Below w.heap.size w w' := by
 obtain ⟨v, q, E, h, C⟩ := say_ex w r c n k s a F ha hs6
 by_cases hE : E = 0
 ·subst hE
  have HGe : Hid (∀ w' : World, Below w.heap.size w w' → Calls Try.prog 13 #[mv r c a n k, .int .u64 (s : Int)] w' fun e w'' => e = .returned (.bool true) ∧ Below w'.heap.size w' w'') := fun w' hb => lgen18 w' r c 0 n k s a v true rfl (fun w'' hb2 => C.rr w'' (qa0 hb hb2))
  cases v with
  | false => exact gives_no w r c n k s m kb a b (fun w' hb => qec (ha.later hb) hs6 h) (fun w' hb => qe0 (ha.later hb) hs6 h) HGe
  | true =>
   obtain ⟨r', c', t, p, rfl, rfl, G, R, hc1, hcr, hs, ht, hta, htb, hp, hk, hle, hb, hq⟩ := h.fine
   have hcn := hb.1 rfl
   have HDc : Hid (∀ w' : World, Below w.heap.size w w' → Calls Try.prog 11 #[mv r' c' a n k, .int .u64 (s : Int)] w' fun e w'' => MadeT w' w'' e c' r' (c' * r') (fun O => DecP F O p r' c')) := fun w' hbl => qed (ha.later hbl) R G hs ht htb hp hcn rfl
   have HRb : Hid (∀ w' : World, Below w.heap.size w w' → Calls Try.prog 12 #[mv r' c' a n k, .int .u64 (s : Int)] w' fun e w'' => MadeT w' w'' e (cn s r') r' (cn s r' * r') (fun M => RebP F M s p r' c')) := fun w' hbl => qg4 (ha.later hbl) R G hs ht htb hp hcn rfl
   by_cases hm : m = c'
   ·subst hm
    exact gives_ok w r' m n k s (cn s r') (m * r') (cn s r' * r') kb a b F X p ha hX R hs rfl (fun j hj hbj => (htb j hj).1 ((hp.2 j hj).1 hbj).1) rfl rfl HDc HRb HGe
   ·exact qjx w r' c' n k s (cn s r') (c' * r') (cn s r' * r') m kb a b _ _ hm HDc HRb HGe
 ·obtain ⟨rfl, hE2⟩ := h.err hE
  exact qjw w r c E n k s m kb a b hE2 (fun w' hb => qec (ha.later hb) hs6 h) (fun w' hb => qe0 (ha.later hb) hs6 h) (fun w' hb => lgen18 w' r c E n k s a false false hE2 (fun w'' hb2 => C.rr w'' (qa0 hb hb2)))
end Go.Proofs.Ytokdejhbjoglcaa
