/-
  What Local and Pyramid codes bear: the law's walk.
-/
import Derived.Test.YtnfbbddoaeofgabGreatQlles00
import Derived.Test.YtnfbbddoaeofgabGreatQlles49
set_option maxRecDepth 100000
set_option maxHeartbeats 16000000
namespace Go.Proofs.YtnfbbddoaeofgabGreat
open Go.RowKit
/-- Both codes lie in their variables. -/
structure LoI (w : World) (b1 b2 R k N l : Nat) (F H q : Nat → Nat) (s1 : Option Addr) (d1 : Nat) (t1 : Option Addr) (e1 : Nat) (s2 : Option Addr) (d2 : Nat) (t2 : Option Addr) (e2 : Nat) : Prop where
 v1 : Vq w b1 27 #[.int .i64 (R : Int), .int .i64 (k : Int), .slice s1 N d1, .slice t1 l e1]
 v2 : Vq w b2 27 #[.int .i64 (R : Int), .int .i64 (k : Int), .slice s2 N d2, .slice t2 l e2]
 m1 : Mt w s1 N d1 F
 m2 : Mt w s2 N d2 H
 g1 : Jl w t1 .u64 l (fun i => (q i : Int))
 g2 : Jl w t2 .u64 l (fun i => (q i : Int))
theorem qi7 {a b : Nat} (h : a ^^^ b = 0) : a = b := by
 have h2 : a ^^^ b ^^^ b = 0 ^^^ b := by rw [h]
 rwa [Nat.xor_assoc, Nat.xor_self, Nat.xor_zero, Nat.zero_xor] at h2
theorem LoI.later {w w' : World} {b1 b2 R k N l : Nat} {F H q : Nat → Nat} {s1 : Option Addr} {d1 : Nat} {t1 : Option Addr} {e1 : Nat} {s2 : Option Addr} {d2 : Nat} {t2 : Option Addr} {e2 : Nat} (h : LoI w b1 b2 R k N l F H q s1 d1 t1 e1 s2 d2 t2 e2) (hb : Below w.heap.size w w') : LoI w' b1 b2 R k N l F H q s1 d1 t1 e1 s2 d2 t2 e2 := ⟨h.v1.later hb, h.v2.later hb, h.m1.later hb, h.m2.later hb, h.g1.later hb, h.g2.later hb⟩
theorem qi8 (w : World) (k l m s : Nat) (hk8 : k < 256) (hl8 : l < 256) (hm8 : m < 256) (h1 : 1 ≤ k) (h2 : 1 ≤ l) (h3 : 1 ≤ s) (h4 : l * s = k) (h5 : k + l + m ≤ 64) (a1 : Option Addr) (len1 cap1 : Nat) (hlen : ¬ len1 < l + m) (hk : ¬ 12 < k) (T : Nat → Nat) (HT : Hid (Mt w a1 len1 cap1 T)) (hn1 : len1 ≤ 140737488351232) :
  Calls Tryz.prog 4 #[.agg #[.int .u8 (k : Int), .int .u8 (l : Int), .int .u8 (m : Int)], .slice a1 len1 cap1] w fun e w' => e = .returned (.bool true) ∧ Below w.heap.size w w' := by
 have wk : IntKind.i64.wrap (k : Int) = (k : Int) := by rw [IntKind.wrap_i64]; omega
 have wl : IntKind.i64.wrap (l : Int) = (l : Int) := by rw [IntKind.wrap_i64]; omega
 have wm : IntKind.i64.wrap (m : Int) = (m : Int) := by rw [IntKind.wrap_i64]; omega
 obtain ⟨R, HR⟩ : ∃ R, Hid (k + l + m = R) := ⟨_, rfl⟩
 obtain ⟨N, HN⟩ : ∃ N, Hid (R * k = N) := ⟨_, rfl⟩
 have hrr := HR.out
 obtain ⟨F, HF⟩ : ∃ F : Nat → Nat, Hid (ptf k l s (fun _ => 1) (fun q => crf k (k * k + q)) = F) := ⟨_, rfl⟩
 obtain ⟨H, HH⟩ : ∃ H : Nat → Nat, Hid (ptf k l s (fun j => crf k (k * k + j)) (fun q => crf k ((k + 1) * k + q)) = H) := ⟨_, rfl⟩
 have HLo : Hid (∀ w, Calls Tryz.prog 11 #[.int .i64 (k : Int), .int .i64 (l : Int), .int .i64 (m : Int)] w fun e w' => CAns w w' e R k N F l (gpf k s) 0) := fun w => by rw [← HF.out]; exact qcc w k l s m R N h1 h2 h3 (qc7 h4) HR (by omega) HN
 have HPy : Hid (∀ w, Calls Tryz.prog 12 #[.int .i64 (k : Int), .int .i64 (l : Int), .int .i64 (m : Int)] w fun e w' => CAns w w' e R k N H l (gpf k s) 0) := fun w => by rw [← HH.out]; exact qex w k l s m R N h1 h2 h3 (qc7 h4) HR (by omega) HN
 obtain ⟨lm, HLM⟩ : ∃ lm, Hid (l + m = lm) := ⟨_, rfl⟩
 have hlm := HLM.out
 have w4 : IntKind.i64.wrap ((l : Int) + (m : Int)) = (lm : Int) := by rw [IntKind.wrap_i64]; omega
 have g1 : decide ((len1 : Int) < (lm : Int)) = false := by simp; omega
 have g2 : decide (len1 < lm) = false := by simp; omega
 have g3 : decide ((12 : Int) < (k : Int)) = false := by simp; omega
 have g4 : decide (12 < k) = false := by simpa using hk
 have gll : ((l : Int) != (l : Int)) = false := by simp
 obtain ⟨s1', HS1⟩ : ∃ x, Hid (s + 1 = x) := ⟨_, rfl⟩
 have hs1 := HS1.out
 obtain ⟨kl, HKL⟩ : ∃ x, Hid (k + l = x) := ⟨_, rfl⟩
 have hkl := HKL.out
 have w5 : IntKind.i64.wrap ((k : Int) + (l : Int)) = (kl : Int) := by rw [IntKind.wrap_i64]; omega
 have w6 : IntKind.i64.wrap ((kl : Int) + (m : Int)) = (R : Int) := by rw [IntKind.wrap_i64]; omega
 have hsk : s ≤ k := by have := Nat.le_mul_of_pos_left s (show 0 < l by omega); rw [h4] at this; exact this
 have HLs : Hid (∀ p, p < l → ∀ w, Calls Tryz.prog 13 #[.int .u64 ((gpf k s p : Nat) : Int)] w fun e w' => ∃ v, e = .returned v ∧ Jo w' w.heap.size 3 .i64 v s1' (gpq k s p) ∧ Below w.heap.size w w') := fun p hp w => by
  obtain ⟨e1, e2⟩ := gpq_list h4 hp (by omega)
  refine (rlist_ok (gpf k s p) w (gpf_lt h4 hp (by omega))).mono (fun e w' h => ?_)
  obtain ⟨v, hv, ho, hb⟩ := h
  rw [e1, HS1.out] at ho
  exact ⟨v, hv, ho.congr (fun t ht => e2 t (by omega)), hb⟩
 have HRD : Hid (Rt R k N) := ⟨by omega, by omega, HN.out⟩
 have HW0 : Hid (∀ j, j < k → crf k (k * k + j) ≠ 0 ∧ crf k (k * k + j) < 256) := fun j hj => ⟨by
  rw [qkd (i := k) hj]
  unfold crs
  rw [if_neg (by omega)]
  exact qfs (Nat.xor_lt_two_pow (n := 8) (by omega) (by omega)) (fun e => by have := qi7 e; omega), qbr k _⟩
 have HKo : Hid (∀ τ : Nat → Nat, (∀ p, p < l → τ p < s + 1) → ∀ (w : World) (a b : Option Addr) (d e : Nat), Mt w a N d F → Calls Tryz.prog 14 #[cv R k a N d b l e, .int .u64 ((ofs (fun p => gpq k s p (τ p)) l : Nat) : Int)] w fun e w' => e = .returned (.bool true) ∧ Below w.heap.size w w') := fun τ hτ w a b d e ha => qhc w R k N l d e _ a b F ha HRD.out (qd1 (n := 64) (fun p hp => qe7 h4 hp (by omega) (hτ p hp))) (fun x hx hz => qhb (m := m) (W := fun _ => 1) (by omega) h4 (fun _ _ => ⟨Nat.one_ne_zero, (by decide : (1 : Nat) < 256)⟩) hx hτ (fun i _ => by rw [qdy, qfx]) (fun i hi hb => by rw [HF.out]; exact hz i (by omega) hb))
 have HKp : Hid (∀ τ : Nat → Nat, (∀ p, p < l → τ p < s + 1) → ∀ (w : World) (a b : Option Addr) (d e : Nat), Mt w a N d H → Calls Tryz.prog 14 #[cv R k a N d b l e, .int .u64 ((ofs (fun p => gpq k s p (τ p)) l : Nat) : Int)] w fun e w' => e = .returned (.bool true) ∧ Below w.heap.size w w') := fun τ hτ w a b d e ha => qhc w R k N l d e _ a b H ha HRD.out (qd1 (n := 64) (fun p hp => qe7 h4 hp (by omega) (hτ p hp))) (fun x hx hz => qhb (m := m) (by omega) h4 HW0.out hx hτ (fun i _ => by rw [qdy, qfx]) (fun i hi hb => by rw [HH.out]; exact hz i (by omega) hb))
 have HKm : Hid (∀ q : Nat → Nat, (∀ i, i < m → q i < R) → ∀ (w : World) (a b : Option Addr) (d e : Nat), Mt w a N d F → Calls Tryz.prog 14 #[cv R k a N d b l e, .int .u64 ((ofs q m : Nat) : Int)] w fun e w' => e = .returned (.bool true) ∧ Below w.heap.size w w') := fun q hq w a b d e ha => qhc w R k N l d e _ a b F ha HRD.out (qd1 (n := 64) (fun i hi => by have := hq i hi; omega)) (fun x hx hz => qfg (s := s) (W := fun _ => 1) (by omega) (Nat.le_refl k) (by omega) hx (cn_ofs q m) (fun i hi hb => by rw [HF.out]; exact hz i (by omega) hb))
 have HKn : Hid (∀ q : Nat → Nat, (∀ i, i < m → q i < R) → ∀ (w : World) (a b : Option Addr) (d e : Nat), Mt w a N d H → Calls Tryz.prog 14 #[cv R k a N d b l e, .int .u64 ((ofs q m : Nat) : Int)] w fun e w' => e = .returned (.bool true) ∧ Below w.heap.size w w') := fun q hq w a b d e ha => qhc w R k N l d e _ a b H ha HRD.out (qd1 (n := 64) (fun i hi => by have := hq i hi; omega)) (fun x hx hz => qfg (s := s) (W := fun j => crf k (k * k + j)) (by omega) (show k ≤ k + 1 by omega) (Nat.le_refl _) hx (cn_ofs q m) (fun i hi hb => by rw [HH.out]; exact hz i (by omega) hb))
 obtain ⟨τ, HTa⟩ : ∃ τ : Nat → Nat, Hid ((fun p => T p % s1') = τ) := ⟨_, rfl⟩
 have HTl : Hid (∀ p, p < l → τ p < s + 1) := fun p _ => by rw [← HTa.out]; show T p % s1' < s + 1; have := Nat.mod_lt (T p) (show 0 < s1' by omega); omega
 obtain ⟨q1, HQ1⟩ : ∃ q1 : Nat → Nat, Hid ((fun p => gpq k s p (τ p)) = q1) := ⟨_, rfl⟩
 obtain ⟨q2, HQ2⟩ : ∃ q2 : Nat → Nat, Hid ((fun i => T (l + i) % R) = q2) := ⟨_, rfl⟩
 have HQl : Hid (∀ i, i < m → q2 i < R) := fun i _ => by rw [← HQ2.out]; exact Nat.mod_lt _ (by omega)
 have HQ64 : Hid (∀ p, p < l → q1 p < 64) := fun p hp => by rw [← HQ1.out]; exact qe7 h4 hp (by omega) (HTl.out p hp)
 have K1 : Hid (∀ (w : World) (a b : Option Addr) (d e : Nat), Mt w a N d F → Calls Tryz.prog 14 #[cv R k a N d b l e, .int .u64 ((ofs q1 l : Nat) : Int)] w fun e w' => e = .returned (.bool true) ∧ Below w.heap.size w w') := by rw [← HQ1.out]; exact HKo.out τ HTl.out
 have K2 : Hid (∀ (w : World) (a b : Option Addr) (d e : Nat), Mt w a N d H → Calls Tryz.prog 14 #[cv R k a N d b l e, .int .u64 ((ofs q1 l : Nat) : Int)] w fun e w' => e = .returned (.bool true) ∧ Below w.heap.size w w') := by rw [← HQ1.out]; exact HKp.out τ HTl.out
 have K3 : Hid (∀ (w : World) (a b : Option Addr) (d e : Nat), Mt w a N d F → Calls Tryz.prog 14 #[cv R k a N d b l e, .int .u64 ((ofs q2 m : Nat) : Int)] w fun e w' => e = .returned (.bool true) ∧ Below w.heap.size w w') := HKm.out q2 HQl.out
 have K4 : Hid (∀ (w : World) (a b : Option Addr) (d e : Nat), Mt w a N d H → Calls Tryz.prog 14 #[cv R k a N d b l e, .int .u64 ((ofs q2 m : Nat) : Int)] w fun e w' => e = .returned (.bool true) ∧ Below w.heap.size w w') := HKn.out q2 HQl.out
 obtain ⟨O, HO⟩ : ∃ O, Hid (ofs q1 l = O) := ⟨_, rfl⟩
 obtain ⟨U, HU⟩ : ∃ U, Hid (ofs q2 m = U) := ⟨_, rfl⟩
 rw [HO.out] at K1 K2
 rw [HU.out] at K3 K4
 have hR64 : R ≤ 64 := by omega
 have hR1 : 1 ≤ R := by omega
 have hs65 : s1' ≤ 65 := by omega
 have hs0 : 1 ≤ s1' := by omega
 have hl64 : l ≤ 64 := by omega
 have hm64 : m ≤ 64 := by omega
 have hlmn : lm ≤ len1 := by omega
 have gs0 : ((s1' : Int) == 0) = false := by simp; omega
 have gR0 : ((R : Int) == 0) = false := by simp; omega
 have hsz0 : ¬ (s1' : Int) = 0 := by omega
 have hRz0 : ¬ (R : Int) = 0 := by omega
 have HTq : Hid (∀ p, p < l → gpq k s p (T p % s1') = q1 p) := fun p _ => by rw [← HQ1.out, ← HTa.out]
 have HUq : Hid (∀ i, i < m → T (l + i) % R = q2 i) := fun i _ => by rw [← HQ2.out]
 clear h1 h3 h4 hrr HF HH hlen hlm hs1 hkl hk HKo HKp HKm HKn HTa HQ1 HQ2 HW0 HTl
 go_enter Tryz.func4, Tryz.ntmps4
 go_wp2
 go_region
 go_wp2_with (first
  | (go_at_call 11; refine (HLo.out _).mono ?_; rintro e w1 ⟨s1, d1, t1, e1, rfl, hm1, hj1, hb1⟩; have HB1 : Hid (Below w.heap.size w (w1.alloc (.cells #[.int .i64 (R : Int), .int .i64 (k : Int), .slice s1 N d1, .slice t1 l e1] 27))) := qa2 (qa2 (qa2 (qa1 _ _) (qb1 _)) hb1) (qa1 _ _); have HV1 : Hid (Vq (w1.alloc (.cells #[.int .i64 (R : Int), .int .i64 (k : Int), .slice s1 N d1, .slice t1 l e1] 27)) w1.heap.size 27 #[.int .i64 (R : Int), .int .i64 (k : Int), .slice s1 N d1, .slice t1 l e1]) := Vq.new w1 _ _; have HM1 : Hid (Mt (w1.alloc (.cells #[.int .i64 (R : Int), .int .i64 (k : Int), .slice s1 N d1, .slice t1 l e1] 27)) s1 N d1 F) := hm1.later (qa1 _ _); have HG1 : Hid (Jl (w1.alloc (.cells #[.int .i64 (R : Int), .int .i64 (k : Int), .slice s1 N d1, .slice t1 l e1] 27)) t1 .u64 l (fun i => ((gpf k s i : Nat) : Int))) := hj1.later (qa1 _ _); clear hm1 hj1 hb1)
  | (go_at_call 12; refine (HPy.out _).mono ?_; rintro e w2 ⟨s2, d2, t2, e2, rfl, hm2, hj2, hb2⟩; have HB2 : Hid (Below w.heap.size w (w2.alloc (.cells #[.int .i64 (R : Int), .int .i64 (k : Int), .slice s2 N d2, .slice t2 l e2] 27))) := qa2 (qa2 HB1.out hb2) (qa1 _ _); have HI2 : Hid (LoI (w2.alloc (.cells #[.int .i64 (R : Int), .int .i64 (k : Int), .slice s2 N d2, .slice t2 l e2] 27)) w1.heap.size w2.heap.size R k N l F H (gpf k s) s1 d1 t1 e1 s2 d2 t2 e2) := ⟨(HV1.out.later hb2).later (qa1 _ _), Vq.new w2 _ _, (HM1.out.later hb2).later (qa1 _ _), hm2.later (qa1 _ _), (HG1.out.later hb2).later (qa1 _ _), hj2.later (qa1 _ _)⟩; have c3 := HI2.out.v1.cell 3 _ rfl; have k3 := HI2.out.v2.cell 3 _ rfl; clear hm2 hj2 hb2))
 obtain ⟨wl, HWl⟩ : ∃ wl, Hid ((w2.alloc (.cells #[.int .i64 (R : Int), .int .i64 (k : Int), .slice s2 N d2, .slice t2 l e2] 27)) = wl) := ⟨_, rfl⟩
 rw [HWl.out] at HB2 HI2
 rw [HWl.out]
 go_loopw [12, 14, 15] (fun vo vi _ wr => ∃ (i Z : Nat), i ≤ l ∧ vi = .int .i64 (i : Int) ∧ Hid (ofs q1 i = Z) ∧ vo = .int .u64 (Z : Int) ∧ Below wl.heap.size wl wr) (fun _ vi _ _ => l - (intOf vi).toNat)
 case atStart => exact ⟨0, 0, by omega, rfl, rfl, rfl, Below.refl _ _⟩
 case round =>
  obtain ⟨i, Z, hi, rfl, HZ, rfl, hbr⟩ := hrel
  have HBr : Hid (Below wl.heap.size wl wr) := hbr
  have HIr : Hid (LoI wr w1.heap.size w2.heap.size R k N l F H (gpf k s) s1 d1 t1 e1 s2 d2 t2 e2) := HI2.out.later hbr
  have c3r := HIr.out.v1.cell 3 _ rfl
  clear hbr c3 k3
  by_cases hlt : i < l
  ·obtain ⟨x, o, ex, hcx⟩ := HIr.out.g1 i hlt
   obtain ⟨x', o', ex', hcx'⟩ := HIr.out.g2 i hlt
   obtain ⟨G, HG⟩ : ∃ G, Hid (gpf k s i = G) := ⟨_, rfl⟩
   have hc1 : wr.cell? ⟨x, o + i, none⟩ = some (.int .u64 (G : Int)) := by rw [← HG.out]; exact hcx
   have hc2 : wr.cell? ⟨x', o' + i, none⟩ = some (.int .u64 (G : Int)) := by rw [← HG.out]; exact hcx'
   have HLp : Hid (∀ w, Calls Tryz.prog 13 #[.int .u64 (G : Int)] w fun e w' => ∃ v, e = .returned v ∧ Jo w' w.heap.size 3 .i64 v s1' (gpq k s i) ∧ Below w.heap.size w w') := by rw [← HG.out]; exact HLs.out i hlt
   have p0 : (0 : Int) ≤ (i : Int) := Int.natCast_nonneg _
   have p1 : (i : Int) < (l : Int) := by omega
   have p2 : (i : Int) < (len1 : Int) := by have := HLM.out; omega
   obtain ⟨y, o3, ey, hcy⟩ := HT.out.sl.2 i (by have := HLM.out; omega)
   obtain ⟨v, HVv⟩ : ∃ v, Hid (T i = v) := ⟨_, rfl⟩
   rw [HVv.out] at hcy
   have hv8 : v < 256 := by rw [← HVv.out]; exact HT.out.sl.1 i (by have := HLM.out; omega)
   obtain ⟨r, HRr⟩ : ∃ r, Hid (v % s1' = r) := ⟨_, rfl⟩
   have hrs : r < s1' := by rw [← HRr.out]; exact Nat.mod_lt _ (by omega)
   have em : (v : Int) % (s1' : Int) = (r : Int) := by rw [← Int.natCast_emod, HRr.out]
   have et : (v : Int).tmod (s1' : Int) = (r : Int) := by rw [Int.tmod_eq_emod_of_nonneg (by omega)]; exact em
   have wr1 : IntKind.i64.wrap (r : Int) = (r : Int) := by rw [IntKind.wrap_i64]; omega
   have wv1 : IntKind.i64.wrap (v : Int) = (v : Int) := by rw [IntKind.wrap_i64]; omega
   have r0 : (0 : Int) ≤ (r : Int) := Int.natCast_nonneg _
   have r1 : (r : Int) < (s1' : Int) := by omega
   obtain ⟨b, HBb⟩ : ∃ b, Hid (q1 i = b) := ⟨_, rfl⟩
   have hb64 : b < 64 := by rw [← HBb.out]; exact HQ64.out i hlt
   have Hgb : Hid (gpq k s i r = b) := by show _ = _; rw [← HRr.out, ← HVv.out, HTq.out i hlt]; exact HBb.out
   obtain ⟨Tb, hTb⟩ : ∃ Z, 2 ^ b = Z := ⟨_, rfl⟩
   obtain ⟨Z2, HZ2⟩ : ∃ Z2, Hid (ofs q1 (i + 1) = Z2) := ⟨_, rfl⟩
   have hp2 : IntKind.u64.wrap (2 ^ b) = (Tb : Int) := by rw [← hTb]; exact j_pow b hb64
   have cb : decide ((63 : Int) < (b : Int)) = false := decide_eq_false (by omega)
   have hor : bits .or .u64 (Z : Int) (Tb : Int) = (Z2 : Int) := by
    rw [u64_or_nat Z Tb (by rw [← HZ.out]; exact qd1 (n := 64) (fun t ht => HQ64.out t (by omega))) (by rw [← hTb]; exact qcq hb64), ← hTb, ← HZ.out, ← HZ2.out]
    show _ = ((ofs q1 i ||| 2 ^ q1 i : Nat) : Int)
    rw [HBb.out]
   have gG : ((G : Int) != (G : Int)) = false := by simp
   subst ex
   subst ex'
   subst ey
   clear hcx hcx' hTb
   go_wp2_with (go_at_call 13; refine (HLp.out _).mono ?_; rintro e w3 ⟨v3, rfl, ho3, hb3⟩; obtain ⟨sl, d, rfl, hnil⟩ := ho3.form; obtain ⟨g, rfl, hgB, hgw⟩ := ho3.addr (by omega); have hcb : w3.cell? ⟨g, r, none⟩ = some (.int .i64 (b : Int)) := (by rw [← Hgb.out]; exact ho3.cell r hrs); have HB3 : Hid (Below wl.heap.size wl w3) := qa2 HBr.out hb3; have x1 := keepc hb3 hc1; have x2 := keepc hb3 hc2; have x3 := (HIr.out.v1.later hb3).cell 3 _ rfl; have x4 := (HIr.out.v2.later hb3).cell 3 _ rfl; have x5 := keepc (qa2 HB2.out HB3.out) hcy; clear ho3 hb3 hnil)
   go_quiet (fail)
   go_wp2
   exact ⟨⟨i + 1, Z2, by omega, by go_num, HZ2, rfl, qa2 HB3.out (qdx _ _)⟩, by simp [intOf]; omega⟩
  ·obtain rfl : i = l := by omega
   obtain rfl : Z = O := by rw [← HZ.out]; exact HO.out
   clear HZ HO
   obtain ⟨wm', HWm⟩ : ∃ wm', Hid (wr = wm') := ⟨_, rfl⟩
   go_wp2
   go_loop [13, 16] (fun vo vi => ∃ (j Y : Nat), j ≤ m ∧ vi = .int .i64 (j : Int) ∧ Hid (ofs q2 j = Y) ∧ vo = .int .u64 (Y : Int)) (fun _ vi => m - (intOf vi).toNat)
   case atStart => exact ⟨0, 0, by omega, rfl, rfl, rfl⟩
   case round =>
    obtain ⟨j, Y, hj, rfl, HY, rfl⟩ := hrel
    by_cases hlj : j < m
    ·obtain ⟨ij, HIj⟩ : ∃ x, Hid (i + j = x) := ⟨_, rfl⟩
     have hij := HIj.out
     have hijl : ij < len1 := by have := HLM.out; omega
     have wij : IntKind.i64.wrap ((i : Int) + (j : Int)) = (ij : Int) := by rw [IntKind.wrap_i64]; omega
     obtain ⟨y, o3, ey, hcy⟩ := HT.out.sl.2 ij hijl
     obtain ⟨v, HVv⟩ : ∃ v, Hid (T ij = v) := ⟨_, rfl⟩
     rw [HVv.out] at hcy
     have hv8 : v < 256 := by rw [← HVv.out]; exact HT.out.sl.1 ij hijl
     obtain ⟨b, HBb⟩ : ∃ b, Hid (q2 j = b) := ⟨_, rfl⟩
     have hbR : b < R := by rw [← HBb.out]; exact HQl.out j hlj
     have hb64 : b < 64 := by omega
     have hmod : v % R = b := by rw [← HBb.out, ← HUq.out j hlj, HIj.out, HVv.out]
     have em : (v : Int) % (R : Int) = (b : Int) := by rw [← Int.natCast_emod, hmod]
     have et : (v : Int).tmod (R : Int) = (b : Int) := by rw [Int.tmod_eq_emod_of_nonneg (by omega)]; exact em
     have wb1 : IntKind.i64.wrap (b : Int) = (b : Int) := by rw [IntKind.wrap_i64]; omega
     have wv1 : IntKind.i64.wrap (v : Int) = (v : Int) := by rw [IntKind.wrap_i64]; omega
     obtain ⟨Tb, hTb⟩ : ∃ Z, 2 ^ b = Z := ⟨_, rfl⟩
     obtain ⟨Y2, HY2⟩ : ∃ Z2, Hid (ofs q2 (j + 1) = Z2) := ⟨_, rfl⟩
     have hp2 : IntKind.u64.wrap (2 ^ b) = (Tb : Int) := by rw [← hTb]; exact j_pow b hb64
     have cb : decide ((63 : Int) < (b : Int)) = false := decide_eq_false (by omega)
     have hor : bits .or .u64 (Y : Int) (Tb : Int) = (Y2 : Int) := by
      rw [u64_or_nat Y Tb (by rw [← HY.out]; exact qd1 (n := 64) (fun t ht => by have := HQl.out t (by omega); omega)) (by rw [← hTb]; exact qcq hb64), ← hTb, ← HY.out, ← HY2.out]
      show _ = ((ofs q2 j ||| 2 ^ q2 j : Nat) : Int)
      rw [HBb.out]
     have n0 : (0 : Int) ≤ (ij : Int) := Int.natCast_nonneg _
     have n1 : (ij : Int) < (len1 : Int) := by omega
     have x5 := keepc (qa2 HB2.out HBr.out) hcy
     subst ey
     clear hTb hmod hcy hij
     go_wp2
     exact ⟨⟨j + 1, Y2, by omega, by go_num, HY2, rfl⟩, by simp [intOf]; omega⟩
    ·obtain rfl : j = m := by omega
     obtain rfl : Y = U := by rw [← HY.out]; exact HU.out
     clear HY HU
     have Q0 : True := trivial
     have Q1 : True := trivial
     have Q2 : True := trivial
     have Q3 : True := trivial
     go_wp2_with (first
      | (go_at_call 7; refine (qh9 _).mono ?_; rintro e w5 ⟨rfl, hb5⟩; have HB5 : Hid (Below wr.heap.size wr w5) := hb5; have HI5 : Hid (LoI w5 w1.heap.size w2.heap.size R k N i F H (gpf k s) s1 d1 t1 e1 s2 d2 t2 e2) := HIr.out.later hb5; have l0 := HI5.out.v1.cell 0 _ rfl; have l1 := HI5.out.v1.cell 1 _ rfl; have l2 := HI5.out.v1.cell 2 _ rfl; have l3 := HI5.out.v1.cell 3 _ rfl; clear hb5)
      | (go_at_call 14; clear Q0; refine (K1.out _ _ _ _ _ HI5.out.m1).mono ?_; rintro e w6 ⟨rfl, hb6⟩; have HB6 : Hid (Below wr.heap.size wr w6) := qa2 HB5.out hb6; have HI6 : Hid (LoI w6 w1.heap.size w2.heap.size R k N i F H (gpf k s) s1 d1 t1 e1 s2 d2 t2 e2) := HI5.out.later hb6; have m0 := HI6.out.v2.cell 0 _ rfl; have m1 := HI6.out.v2.cell 1 _ rfl; have m2' := HI6.out.v2.cell 2 _ rfl; have m3 := HI6.out.v2.cell 3 _ rfl; clear hb6)
      | (go_at_call 14; clear Q1; refine (K2.out _ _ _ _ _ HI6.out.m2).mono ?_; rintro e w7 ⟨rfl, hb7⟩; have HB7 : Hid (Below wr.heap.size wr w7) := qa2 HB6.out hb7; have HI7 : Hid (LoI w7 w1.heap.size w2.heap.size R k N i F H (gpf k s) s1 d1 t1 e1 s2 d2 t2 e2) := HI6.out.later hb7; have n0 := HI7.out.v1.cell 0 _ rfl; have n1 := HI7.out.v1.cell 1 _ rfl; have n2 := HI7.out.v1.cell 2 _ rfl; have n3 := HI7.out.v1.cell 3 _ rfl; clear hb7)
      | (go_at_call 14; clear Q2; refine (K3.out _ _ _ _ _ HI7.out.m1).mono ?_; rintro e w8 ⟨rfl, hb8⟩; have HB8 : Hid (Below wr.heap.size wr w8) := qa2 HB7.out hb8; have HI8 : Hid (LoI w8 w1.heap.size w2.heap.size R k N i F H (gpf k s) s1 d1 t1 e1 s2 d2 t2 e2) := HI7.out.later hb8; have o0 := HI8.out.v2.cell 0 _ rfl; have o1 := HI8.out.v2.cell 1 _ rfl; have o2 := HI8.out.v2.cell 2 _ rfl; have o3 := HI8.out.v2.cell 3 _ rfl; clear hb8)
      | (go_at_call 14; clear Q3; refine (K4.out _ _ _ _ _ HI8.out.m2).mono ?_; rintro e w9 ⟨rfl, hb9⟩; have HB9 : Hid (Below wr.heap.size wr w9) := qa2 HB8.out hb9; clear hb9))
     go_ret
     exact ⟨rfl, qa2 (qa2 HB2.out HBr.out) HB9.out⟩
end Go.Proofs.YtnfbbddoaeofgabGreat
