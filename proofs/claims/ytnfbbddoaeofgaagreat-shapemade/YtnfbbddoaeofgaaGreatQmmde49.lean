/-
  The document's answer: codes of portions, pyramids.
-/
import Derived.Test.YtnfbbddoaeofgaaGreatQmmde00
import Derived.Test.YtnfbbddoaeofgaaGreatQmmde47
set_option maxRecDepth 100000
set_option maxHeartbeats 16000000
namespace Go.Proofs.YtnfbbddoaeofgaaGreat
open Go.RowKit
theorem qlr (w : World) (k l s m R N : Nat) (hk : 1 ≤ k) (hl : 1 ≤ l) (hs : 1 ≤ s) (HK : Hid (l * s = k)) (HR : Hid (k + l + m = R)) (hR : R ≤ 64) (HN : Hid (R * k = N)) :
  Calls Tryz.prog 43 #[.int .i64 (k : Int), .int .i64 (l : Int), .int .i64 (m : Int), .bool true] w fun e w' => CAns w w' e R k N (ptf k l s (fun j => crf k (k * k + j)) (fun q => crf k ((k + 1) * k + q))) l (gpf k s) 0 := by
 obtain ⟨i0, hi0, hz0, hz1, hz2⟩ := info_parts qcp
 obtain ⟨u0, hu0, hy0, hy1, hy2⟩ := info_parts ju64
 have HV0 : Hid (Vq (w.alloc (.cells #[.int .i64 0, .int .i64 0, .slice none 0 0, .slice none 0 0] 27)) w.heap.size 27 #[.int .i64 0, .int .i64 0, .slice none 0 0, .slice none 0 0]) := Vq.new w _ _
 have hrr := HR.out
 have HPl : Hid (∀ w, Calls Tryz.prog 35 #[.int .i64 (k : Int), .int .i64 (l : Int), .int .i64 (m : Int)] w fun e w' => e = .returned (.int .i64 0) ∧ w = w') := fun w => qcj w k l m 0 (by omega) (.inr (.inr ⟨by omega, by omega, rfl⟩))
 obtain ⟨A, HA⟩ : ∃ A, Hid (k * k = A) := ⟨_, rfl⟩
 obtain ⟨dp, HDp⟩ : ∃ d, Hid (m + 1 = d) := ⟨_, rfl⟩
 obtain ⟨tp, HTp⟩ : ∃ d, Hid (k + 1 = d) := ⟨_, rfl⟩
 obtain ⟨Bq, HBq⟩ : ∃ B, Hid (dp * k = B) := ⟨_, rfl⟩
 obtain ⟨T, HT⟩ : ∃ T, Hid (k + dp = T) := ⟨_, rfl⟩
 obtain ⟨Q, HQ⟩ : ∃ Q, Hid (A + Bq = Q) := ⟨_, rfl⟩
 have htt := HT.out
 have hdd := HDp.out
 have HRT : Hid (Rt T k Q) := ⟨by omega, by omega, by rw [← HQ.out, ← HA.out, ← HBq.out, ← HT.out, Nat.add_mul]⟩
 have hQ : Q ≤ 4096 := HRT.out.le
 have HRD : Hid (Rt R k N) := ⟨hR, by omega, HN.out⟩
 have hN : N ≤ 4096 := HRD.out.le
 have HCr : Hid (∀ w, Calls Tryz.prog 38 #[.int .i64 (k : Int), .int .i64 (dp : Int)] w fun e w' => ∃ s d, e = .returned (.tuple #[mv (T : Int) k s Q d, .int .i64 0]) ∧ Mt w' s Q d (crf k) ∧ Below w.heap.size w w') := fun w => by rw [← HT.out, ← HQ.out]; exact qeg w k dp A Bq hk (by omega) HA HBq
 obtain ⟨F, HF⟩ : ∃ F : Nat → Nat, Hid (ptf k l s (fun j => crf k (k * k + j)) (fun q => crf k ((k + 1) * k + q)) = F) := ⟨_, rfl⟩
 rw [HF.out]
 have HFid : Hid (∀ q, q < A → idf k q = F q) := fun q hq => by rw [← HF.out, ← HA.out] at *; exact (ptf_id hq).symm
 have HFp : Hid (∀ p j, p < l → j < k → F ((k + p) * k + j) = if j / s = p then (fun j => crf k (k * k + j)) j else 0) := fun p j hp hj => by rw [← HF.out]; exact qi9 hp hj
 have HFx : Hid (∀ i j, j < k → F ((k + l) * k + i * k + j) = crf k (((k + 1) + i) * k + j)) := fun i j hj => by rw [← HF.out, qia]; congr 1; rw [Nat.add_mul (k + 1) i k]; omega
 have HFlt : Hid (∀ q, F q < 256) := fun q => by rw [← HF.out]; exact qi7 HK.out hl (fun j => by exact qb8 k _) (fun j => qb8 k _) q
 have q1 : (k : Int) / (l : Int) = (s : Int) := by rw [← Int.natCast_ediv, ← HK.out, Nat.mul_div_cancel_left s (by omega)]
 have q2 : (k : Int).tdiv (l : Int) = (s : Int) := by rw [Int.tdiv_eq_ediv_of_nonneg (by omega)]; exact q1
 have m0 : (k : Int) % (l : Int) = 0 := qdt HK.out
 have m1 : (k : Int).tmod (l : Int) = 0 := by rw [Int.tmod_eq_emod_of_nonneg (by omega)]; exact m0
 have hsk : s ≤ k := by have := Nat.le_mul_of_pos_left s (show 0 < l by omega); rw [HK.out] at this; exact this
 have w1' : IntKind.i64.wrap (s : Int) = (s : Int) := by rw [IntKind.wrap_i64]; omega
 obtain ⟨kl, HKL⟩ : ∃ kl, Hid (k + l = kl) := ⟨_, rfl⟩
 have hkl2 := HKL.out
 have w2' : IntKind.i64.wrap ((k : Int) + (l : Int)) = (kl : Int) := by rw [IntKind.wrap_i64]; omega
 have w3' : IntKind.i64.wrap ((kl : Int) + (m : Int)) = (R : Int) := by rw [IntKind.wrap_i64]; omega
 have wd : IntKind.i64.wrap ((m : Int) + 1) = (dp : Int) := by rw [IntKind.wrap_i64]; have := HDp.out; omega
 have gl : ((l : Int) == 0) = false := by simp; omega
 have hlz : ¬ (l : Int) = 0 := by omega
 have gs : ((s : Int) == 0) = false := by simp; omega
 have hsz : ¬ (s : Int) = 0 := by omega
 have g1 : decide ((k : Int) < 1) = false := by simp; omega
 have g2 : decide ((l : Int) < 1) = false := by simp; omega
 have g3 : decide ((m : Int) < 0) = false := by simp
 have g4 : ((k : Int) % (l : Int) != 0) = false := by simp [m0]
 have g5 : ((k : Int).tmod (l : Int) != 0) = false := by simp [m1]
 have hA4 : A ≤ 4096 := by have := HQ.out; omega
 have hA1 : 1 ≤ A := by rw [← HA.out]; exact Nat.mul_le_mul hk hk
 have hkR : k ≤ R := by omega
 have hklR : kl ≤ R := by omega
 have hk64 : k ≤ 64 := by omega
 have hl64 : l ≤ 64 := by omega
 have hm64 : m ≤ 64 := by omega
 have hT64 : T ≤ 64 := by omega
 have hkT : k ≤ T := by omega
 clear hrr htt hdd hkl2 HF m0 m1
 go_enter Tryz.func43, Tryz.ntmps43
 go_wp2_with (first
  | (go_at_call 35; refine (HPl.out _).mono ?_; rintro e w' ⟨rfl, rfl⟩)
  | (go_at_call 38; refine (HCr.out _).mono ?_; rintro e w1 ⟨sb, db, rfl, hm1, hb1⟩; have HM1 : Hid (Mt w1 sb Q db (crf k)) := hm1; have HB1 : Hid (Below (w.alloc (.cells #[.int .i64 0, .int .i64 0, .slice none 0 0, .slice none 0 0] 27)).heap.size (w.alloc (.cells #[.int .i64 0, .int .i64 0, .slice none 0 0, .slice none 0 0] 27)) w1) := hb1; have HV1 : Hid (Vq w1 w.heap.size 27 #[.int .i64 0, .int .i64 0, .slice none 0 0, .slice none 0 0]) := HV0.out.later hb1; clear hm1 hb1)
  | (go_at_call 82; (refine (qe9 _ k A hk64 HA).mono ?_; rintro e w2 ⟨g1, rfl, hr2, hg2, hb2⟩; have hI2 := qic HV1.out HM1.out (qa1 (qa0 _ _) HB1.out) hr2 hg2 hb2 (R := R) (T := T) (q := gpf k s) HFid.out (by omega); obtain ⟨hI, hvo, hvi⟩ := hI2; have HI3 : Hid (RpI w ((w2.alloc (.cells #[.int .i64 (k : Int), .int .i64 (k : Int), .slice (some ⟨g1, 0, none⟩) A A] 24)).setCell ⟨w1.heap.size + 1, 2, none⟩ (.slice (some ⟨g1, 0, none⟩) A A)) w1.heap.size (w1.heap.size + 1) (w1.heap.size + 1 + 1) T k R Q db sb A F 0 (gpf k s) (some ⟨g1, 0, none⟩) A none 0) := hI; have o2 := hvo.cell 2 _ rfl; have f2 := hvo.free 2; have y2 := hvi.cell 2 _ rfl; clear hr2 hg2 hb2 hI hvo hvi)))
 obtain ⟨bB, HbB⟩ : ∃ b, Hid (w1.heap.size = b) := ⟨_, rfl⟩
 rw [HbB.out] at HI3 ⊢
 obtain ⟨bO, HbO⟩ : ∃ b, Hid (bB + 1 = b) := ⟨_, rfl⟩
 rw [HbO.out] at HI3 ⊢
 obtain ⟨B, HB⟩ : ∃ b, Hid (bO + 1 = b) := ⟨_, rfl⟩
 rw [HB.out] at HI3
 go_loopw [18, 19, 20, 21] (fun sp _ _ _ wr => ∃ (p d d2 : Nat) (s1 s2 : Option Addr), p ≤ l ∧ sp = .int .i64 (p : Int) ∧ RpI w wr bB bO B T k R Q db sb ((k + p) * k) F p (gpf k s) s1 d s2 d2) (fun sp _ _ _ _ => l - (intOf sp).toNat)
 case atStart => exact ⟨0, A, 0, _, none, by omega, rfl, by rw [Nat.add_zero, HA.out]; exact HI3.out⟩
 case round =>
  clear HI3 o2 f2 y2
  obtain ⟨p, d, d2, s1, s2, hp, rfl, I⟩ := hrel
  have HI : Hid (RpI w wr bB bO B T k R Q db sb ((k + p) * k) F p (gpf k s) s1 d s2 d2) := I
  clear I
  by_cases hlt : p < l
  ·obtain ⟨x, HX⟩ : ∃ x, Hid (k + p = x) := ⟨_, rfl⟩
   have hx64 : x < 64 := by have := HX.out; have := HKL.out; omega
   have wx : IntKind.i64.wrap ((k : Int) + (p : Int)) = (x : Int) := by rw [IntKind.wrap_i64]; have := HX.out; omega
   obtain ⟨Z, hZ⟩ : ∃ Z, 2 ^ x = Z := ⟨_, rfl⟩
   have hp2 : IntKind.u64.wrap (2 ^ x) = (Z : Int) := by rw [← hZ]; exact qj0 x hx64
   have c3 : decide ((63 : Int) < (x : Int)) = false := decide_eq_false (by omega)
   have HG0 : Hid (grf k s p 0 = Z) := by show 2 ^ (k + p) = Z; rw [HX.out]; exact hZ
   obtain ⟨base, HBs⟩ : ∃ b, Hid ((k + p) * k = b) := ⟨_, rfl⟩
   rw [HBs.out] at HI
   have hbase : base + k ≤ N := by
    have := HRD.out.fit (i := k + p) (by have := HKL.out; omega)
    rw [HBs.out] at this
    exact this
   clear hZ
   go_wp2
   obtain ⟨ws, HWs⟩ : ∃ ws, Hid (ws = wr) := ⟨_, rfl⟩
   go_loopw [19, 20, 21] (fun sg sj _ wr => ∃ (j G d : Nat) (s1 : Option Addr), j ≤ k ∧ sj = .int .i64 (j : Int) ∧ Hid (grf k s p j = G) ∧ sg = .int .u64 (G : Int) ∧ RpI w wr bB bO B T k R Q db sb (base + j) F p (gpf k s) s1 d s2 d2) (fun _ sj _ _ => k - (intOf sj).toNat)
   case atStart => exact ⟨0, Z, d, s1, by omega, rfl, HG0, rfl, HI.out⟩
   case round =>
    clear HI HWs HG0
    obtain ⟨j, G, d, s1, hj, rfl, HG, rfl, I⟩ := hrel
    have HI : Hid (RpI w wr bB bO B T k R Q db sb (base + j) F p (gpf k s) s1 d s2 d2) := I
    clear I
    have o2 := HI.out.vo.cell 2 _ rfl
    have hsize := HI.out.lB
    have l1 := HI.out.l1
    have l2 := HI.out.l2
    by_cases hlj : j < k
    ·obtain ⟨v, HVf⟩ : ∃ v, Hid (F (base + j) = v) := ⟨_, rfl⟩
     have HFv : Hid ((if j / s = p then (fun j => crf k (k * k + j)) j else 0) = v) := by show _ = _; rw [← HVf.out, ← HBs.out, HFp.out p j hlt hlj]
     have hv256 : v < 256 := by rw [← HVf.out]; exact HFlt.out _
     have hml : base + j + 1 ≤ maxLen := by unfold maxLen; omega
     have d1 : (j : Int) / (s : Int) = ((j / s : Nat) : Int) := by rw [Int.natCast_ediv]
     obtain ⟨y, HY⟩ : ∃ y, Hid (j / s = y) := ⟨_, rfl⟩
     rw [HY.out] at d1 HFv
     have hyj : y ≤ j := by rw [← HY.out]; exact Nat.div_le_self _ _
     have d2' : (j : Int).tdiv (s : Int) = (y : Int) := by rw [Int.tdiv_eq_ediv_of_nonneg (by omega)]; exact d1
     have wy : IntKind.i64.wrap (y : Int) = (y : Int) := by rw [IntKind.wrap_i64]; omega
     by_cases hy : y = p
     ·have gy : ((y : Int) == (p : Int)) = true := by simp [hy]
      rw [if_pos hy] at HFv
      have hj64 : j < 64 := by omega
      obtain ⟨Z2, hZ2⟩ : ∃ Z, 2 ^ j = Z := ⟨_, rfl⟩
      obtain ⟨G2, HG2⟩ : ∃ G2, Hid (grf k s p (j + 1) = G2) := ⟨_, rfl⟩
      have hp3 : IntKind.u64.wrap (2 ^ j) = (Z2 : Int) := by rw [← hZ2]; exact qj0 j hj64
      have c4 : decide ((63 : Int) < (j : Int)) = false := decide_eq_false (by omega)
      have hor : bits .or .u64 (G : Int) (Z2 : Int) = (G2 : Int) := by
       rw [u64_or_nat G Z2 (by rw [← HG.out]; exact grf_lt (by have := HX.out; omega) j (by omega)) (by rw [← hZ2]; exact qd3 hj64), ← hZ2, ← HG.out, ← HG2.out]
       show _ = (((if j / s = p then grf k s p j ||| 2 ^ j else grf k s p j) : Nat) : Int)
       rw [if_pos (by rw [HY.out]; exact hy)]
      have y0 := HI.out.vb.cell 0 _ rfl
      have y1 := HI.out.vb.cell 1 _ rfl
      have y2 := HI.out.vb.cell 2 _ rfl
      have HAt : Hid (∀ w, Mt w sb Q db (crf k) → Calls Tryz.prog 59 #[mv T k sb Q db, .int .i64 (k : Int), .int .i64 (j : Int)] w fun e w' => e = .returned (.int .u8 (v : Int)) ∧ Below w.heap.size w w') := fun w h => qc0 w T k k j Q db v sb (crf k) h.sl (HRT.out.at (by have := HT.out; have := HDp.out; omega) hlj) hQ (qas HFv.out)
      clear hZ2 hy HY
      go_wp2_with (first
       | (go_at_call 59; refine (HAt.out _ HI.out.mb).mono ?_; rintro e w7 ⟨rfl, hb7⟩; have HI7 : Hid (RpI w w7 bB bO B T k R Q db sb (base + j) F p (gpf k s) s1 d s2 d2) := HI.out.later hb7; have o7 := HI7.out.vo.cell 2 _ rfl; have hsz7 := HI7.out.lB; clear hb7)
       | (at_builtin; refine wpList_append_lies _ rfl _ _ 22 rfl B 5 i0 (.int .u8 0) 1 1 Tryz.underlying22 hi0 hz0 hz1 hz2 rfl (by decide) _ (base + j) (row (base + j) F).toList rfl (World.ownsRow.alloc HI7.out.data _) ⟨w7.heap.size, 0, none⟩ 1 1 [.int .u8 (v : Int)] rfl rfl (qbd _ _ v) (one_one v) (by omega) hml (by omega) (by simp; omega) (w7.heap.size + 1) (by simp) ?_; intro gg cap w3 hown3 hgrow3 hat3 hlt3; have HI4 : Hid (RpI w (w3.setCell ⟨bO, 2, none⟩ (.slice (some ⟨gg, 0, none⟩) (base + j + 1) cap)) bB bO B T k R Q db sb (base + j + 1) F p (gpf k s) (some ⟨gg, 0, none⟩) cap s2 d2) := HI7.out.putD (qa0 _ _) hgrow3 (by show World.ownsRow _ _ _ _ _ _ _; rw [← qb7, HVf.out]; exact hown3); obtain ⟨hc3, hf3⟩ := HI7.out.lowO (qa0 _ _) hgrow3 (qa9 HI7.out.data) 2; clear hown3 hgrow3 hat3 hlt3))
      exact ⟨⟨j + 1, G2, cap, some ⟨gg, 0, none⟩, by omega, by go_num, HG2, rfl, by rw [← Nat.add_assoc]; exact HI4.out⟩, by simp [intOf]; omega⟩
     ·have gy : ((y : Int) == (p : Int)) = false := by simp; omega
      rw [if_neg hy] at HFv
      have hv0 : v = 0 := HFv.out.symm
      subst hv0
      have HG2 : Hid (grf k s p (j + 1) = G) := by
       show (if j / s = p then grf k s p j ||| 2 ^ j else grf k s p j) = G
       rw [if_neg (by rw [HY.out]; exact hy)]
       exact HG.out
      clear hy HY
      go_wp2_with (at_builtin; refine wpList_append_lies _ rfl _ _ 22 rfl B 5 i0 (.int .u8 0) 1 1 Tryz.underlying22 hi0 hz0 hz1 hz2 rfl (by decide) _ (base + j) (row (base + j) F).toList rfl (World.ownsRow.alloc HI.out.data _) ⟨wr.heap.size, 0, none⟩ 1 1 [.int .u8 0] rfl rfl (qbd _ _ 0) (one_one 0) (by omega) hml (by omega) (by simp; omega) (wr.heap.size + 1) (by simp) ?_; intro gg cap w3 hown3 hgrow3 hat3 hlt3; have HI4 : Hid (RpI w (w3.setCell ⟨bO, 2, none⟩ (.slice (some ⟨gg, 0, none⟩) (base + j + 1) cap)) bB bO B T k R Q db sb (base + j + 1) F p (gpf k s) (some ⟨gg, 0, none⟩) cap s2 d2) := HI.out.putD (qa0 _ _) hgrow3 (by show World.ownsRow _ _ _ _ _ _ _; rw [← qb7, HVf.out]; exact hown3); obtain ⟨hc3, hf3⟩ := HI.out.lowO (qa0 _ _) hgrow3 (qa9 HI.out.data) 2; clear hown3 hgrow3 hat3 hlt3)
      exact ⟨⟨j + 1, G, cap, some ⟨gg, 0, none⟩, by omega, by go_num, HG2, rfl, by rw [← Nat.add_assoc]; exact HI4.out⟩, by simp [intOf]; omega⟩
    ·obtain rfl : j = k := by omega
     have hG : G = gpf j s p := by rw [← HG.out]; exact qky (by omega) HK.out hlt
     have HGq : Hid (gpf j s p = G) := hG.symm
     clear hG HG
     have o3 := HI.out.vo.cell 3 _ rfl
     have hml : p + 1 ≤ maxLen := by unfold maxLen; omega
     have HEq : Hid (base + j = (j + (p + 1)) * j) := by show _ = _; rw [← HBs.out, ← Nat.add_assoc, Nat.add_mul (j + p) 1 j, Nat.one_mul]
     go_wp2_with (at_builtin; refine wpList_append_lies _ rfl _ _ 25 rfl B 54 u0 (.int .u64 0) 1 8 Tryz.underlying25 hu0 hy0 hy1 hy2 rfl (by decide) _ p (jrow .u64 p (gpf j s)).toList rfl (World.ownsRow.alloc HI.out.grp _) ⟨wr.heap.size, 0, none⟩ 1 1 [.int .u64 (G : Int)] rfl rfl (qfd _ _ _ _) (qfe _ _) (by omega) hml (by omega) (by simp; omega) (wr.heap.size + 1) (by simp) ?_; intro gg cap w3 hown3 hgrow3 hat3 hlt3; have HI4 : Hid (RpI w (w3.setCell ⟨bO, 3, none⟩ (.slice (some ⟨gg, 0, none⟩) (p + 1) cap)) bB bO B T j R Q db sb (base + j) F (p + 1) (gpf j s) s1 d (some ⟨gg, 0, none⟩) cap) := HI.out.putG (qa0 _ _) hgrow3 (by show World.ownsRow _ _ _ _ _ _ _; rw [← HGq.out] at hown3; rw [← qg2]; exact hown3); obtain ⟨hc3, hf3⟩ := HI.out.lowO (qa0 _ _) hgrow3 (qa9 HI.out.grp) 3; clear hown3 hgrow3 hat3 hlt3)
     exact ⟨⟨p + 1, d, cap, s1, some ⟨gg, 0, none⟩, by omega, by go_num, by rw [← HEq.out]; exact HI4.out⟩, by simp [intOf]; omega⟩
  ·obtain rfl : p = l := by omega
   obtain ⟨base, HBs⟩ : ∃ b, Hid ((k + p) * k = b) := ⟨_, rfl⟩
   rw [HBs.out] at HI
   go_wp2
   go_loopw [22, 23, 24] (fun si _ _ wr => ∃ (i d : Nat) (s1 : Option Addr), i ≤ m ∧ si = .int .i64 (i : Int) ∧ RpI w wr bB bO B T k R Q db sb (base + i * k) F p (gpf k s) s1 d s2 d2) (fun si _ _ _ => m - (intOf si).toNat)
   case atStart => exact ⟨0, d, s1, by omega, rfl, by rw [Nat.zero_mul, Nat.add_zero]; exact HI.out⟩
   case round =>
    clear HI
    obtain ⟨i, d, s1, hi, rfl, I⟩ := hrel
    have HI : Hid (RpI w wr bB bO B T k R Q db sb (base + i * k) F p (gpf k s) s1 d s2 d2) := I
    clear I
    have l1 := HI.out.l1
    have l2 := HI.out.l2
    have l0 := HI.out.l0
    by_cases hlm : i < m
    ·obtain ⟨t, HTt⟩ : ∃ t, Hid ((k + 1) + i = t) := ⟨_, rfl⟩
     have htT : t < T := by have := HTt.out; have := HT.out; have := HDp.out; have := HTp.out; omega
     have wt0 : IntKind.i64.wrap ((k : Int) + (dp : Int)) = (T : Int) := by rw [IntKind.wrap_i64]; have := HT.out; omega
     have wt1 : IntKind.i64.wrap ((T : Int) - (m : Int)) = (tp : Int) := by rw [IntKind.wrap_i64]; have := HT.out; have := HDp.out; have := HTp.out; omega
     have wt2 : IntKind.i64.wrap ((tp : Int) + (i : Int)) = (t : Int) := by rw [IntKind.wrap_i64]; have := HTt.out; have := HDp.out; have := HTp.out; omega
     obtain ⟨n, HNn⟩ : ∃ n, Hid (base + i * k = n) := ⟨_, rfl⟩
     rw [HNn.out] at HI
     have hnN : n + k ≤ N := by
      have := HRD.out.fit (i := k + p + i) (by have := HR.out; omega)
      rw [Nat.add_mul (k + p) i k, HBs.out, HNn.out] at this
      exact this
     have HEq : Hid (n + k = base + (i + 1) * k) := by show _ = _; rw [← HNn.out, Nat.add_mul i 1 k, Nat.one_mul, Nat.add_assoc]
     have y0 := HI.out.vb.cell 0 _ rfl
     have y1 := HI.out.vb.cell 1 _ rfl
     have y2 := HI.out.vb.cell 2 _ rfl
     have HRow : Hid (∀ w, Mt w sb Q db (crf k) → Calls Tryz.prog 89 #[mv T k sb Q db, .int .i64 (t : Int)] w fun e w' => ∃ v, e = .returned (.tuple #[v, .int .i64 0]) ∧ w'.ownsRow w.heap.size 5 1 v k (row k (fun j => F (n + j))).toList ∧ Below w.heap.size w w') := fun w h => (qea w T k Q db t sb (crf k) h.sl HRT.out htT).mono (fun e w' h => by
      obtain ⟨v, he, ho, hb⟩ := h
      refine ⟨v, he, ?_, hb⟩
      rw [qbc k _ (fun j => F (n + j)) (fun j hj => by rw [← HNn.out, ← HBs.out, ← HTt.out]; exact (HFx.out i j hj).symm)] at ho
      exact ho)
     clear HNn
     go_wp2_with (first
      | (go_at_call 89; refine (HRow.out _ HI.out.mb).mono ?_; rintro e w5 ⟨v5, rfl, ho5, hb5⟩; obtain ⟨s5, d5, e5, _, _⟩ := qap ho5; subst e5; have HO5 : Hid (w5.ownsRow wr.heap.size 5 1 (.slice s5 k d5) k (row k (fun j => F (n + j))).toList) := ho5; have HB5 : Hid (Below wr.heap.size wr w5) := hb5; have HI5 : Hid (RpI w w5 bB bO B T k R Q db sb n F p (gpf k s) s1 d s2 d2) := HI.out.later hb5; have o2 := HI5.out.vo.cell 2 _ rfl; have hs5 := HI5.out.lB; clear ho5 hb5)
      | (at_builtin; refine qaj rfl _ _ rfl B n _ (row n F).toList rfl HI5.out.data s5 k d5 (fun j => F (n + j)) rfl (qc7 HO5.out (fun j _ => HFlt.out _)) (qbi HO5.out) (by omega) hs5 ?_; intro v6 w6 hown6 hgrow6; obtain ⟨s6, d6, e6, _, _⟩ := qap hown6; subst e6; have HI6 : Hid (RpI w (w6.setCell ⟨bO, 2, none⟩ (.slice s6 (n + k) d6)) bB bO B T k R Q db sb (n + k) F p (gpf k s) s6 d6 s2 d2) := HI5.out.putD (Below.refl _ _) hgrow6 (by show World.ownsRow _ _ _ _ _ _ _; rw [← qlo]; exact hown6); obtain ⟨hc6, hf6⟩ := HI5.out.lowO (Below.refl _ _) hgrow6 (qa9 HI5.out.data) 2; clear hown6 hgrow6))
     exact ⟨⟨i + 1, d6, s6, by omega, by go_num, by rw [← HEq.out]; exact HI6.out⟩, by simp [intOf]; omega⟩
    ·obtain rfl : i = m := by omega
     have o0 := HI.out.vo.cell 0 _ rfl
     have o1 := HI.out.vo.cell 1 _ rfl
     have o2 := HI.out.vo.cell 2 _ rfl
     have o3 := HI.out.vo.cell 3 _ rfl
     have HEq : Hid (base + i * k = N) := by show _ = _; rw [← HBs.out, ← HN.out, ← HR.out, ← Nat.add_mul]
     rw [HEq.out] at HI
     have HD : Hid (Ob wr B (.slice s1 N d) N F) := HI.out.data
     have HJ : Hid (Jo wr B 54 .u64 (.slice s2 p d2) p (gpf k s)) := HI.out.grp
     rw [HEq.out] at o2
     go_wp2_with (refine qa4 rfl 27 _ _ rfl w.heap.size _ #[.int .i64 (R : Int), .int .i64 (k : Int), .slice s1 N d, .slice s2 p d2] rfl rfl HI.out.vr sizeCo rfl (occ _ _ _ _ _ _ _ _) ?_; intro w8 HV8 HG8)
     have c0 := HV8.out.cell 0 _ rfl
     have c1 := HV8.out.cell 1 _ rfl
     have c2 := HV8.out.cell 2 _ rfl
     have c3 := HV8.out.cell 3 _ rfl
     refine bodyPost_ret (v := .tuple #[cv R k s1 N d s2 p d2, .int .i64 0]) (by simp [results, Tryz.results43, go_sem, c0, c1, c2, c3, cv]) rfl ?_
     have hD8 : Ob w8 B (.slice s1 N d) N F := HD.out.kept HG8.out (qcc HD.out (by omega))
     have hJ8 : Jo w8 B 54 .u64 (.slice s2 p d2) p (gpf k s) := HJ.out.kept HG8.out (qcc HJ.out (by omega))
     exact ⟨s1, d, s2, d2, rfl, ql4 hD8 (fun q _ => HFlt.out q), hJ8.jl, qa2 HI.out.below HG8.out (Nat.le_refl _)⟩
end Go.Proofs.YtnfbbddoaeofgaaGreat
