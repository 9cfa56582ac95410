/-
  Contracts of the program's matroid: Basis.
  Contracts of the program's matroid: Circuit.
  The program's matroid and the rows' reference, together.
  The program's calls on sets of rows and the reference's answer the same.
  The checks' own anchor: one rank and one circuit that the document fixes.
  What the checks of stage 7 need besides: right; ranks as numbers; lists' lengths.
  The program's Span, Basis, Free and Needed as numbers; a set that lies in another.
-/
import Derived.Test.YtflflmdlhmhkdabGv
import Derived.Test.YtflflmdlhmhkdabGu
namespace Go.Proofs.Ytflflmdlhmhkdab
open Go.RowKit
set_option maxRecDepth 20000 in
set_option maxHeartbeats 2000000 in
theorem tBase_ok (w : World) (r c n k s : Nat) (a : Option Addr) (F : Nat → Nat) (ha : Mt w a n k F) (R : Rt r c n) (hs : s < 2 ^ r) :
    Calls Try.prog 18 #[mv r c a n k, .int .u64 (s : Int)] w fun e w' => ∃ p : Nat, e = .returned (.tuple #[.int .u64 (p : Int), .int .i64 0]) ∧ BaS (m2 F r c) r s p ∧ Below w.heap.size w w' := by
  have hr := R.r64
  have hs6 := lt_64 hr hs
  obtain ⟨K, N, P, hK, HK, HP, HRk, _, HC⟩ := rows_facts w r c n k s a F ha R hs
  obtain ⟨f, Bs, HF, HL, HB0, HBz, HBs, HBe⟩ : ∃ (f : Nat → Nat) (Bs : (Nat → Nat) → Nat → Nat → Prop), Hid (∀ i, i < K → f i < 64) ∧ Hid (∀ w' : World, Calls Try.prog 37 #[.int .u64 (s : Int)] w' fun e w'' => ∃ x d, e = .returned (.slice x K d) ∧ Il w'' x K (fun i => (f i : Int)) ∧ Below w'.heap.size w' w'') ∧ Hid (∀ q, Bs q 0 0) ∧ Hid (∀ q u z, Bs q u z → z < 18446744073709551616) ∧ Hid (∀ q u z, Bs q u z → q u < K → Bs q (u + 1) (z ||| 2 ^ f (q u))) ∧ Hid (∀ q t z, Bs q t z → FstL (m2 P K c) K t q → BaS (m2 F r c) r s z) := by
    refine ⟨lf s r, Bsu s r, fun i hi => ?_, list_il hs6 (by rw [HK.out]; exact cn_all hr hs) (fun i _ => lf_all hr hs i), fun q => Bsu.start s r q, fun q u z h => lt_64 hr h.1, fun q u z h hq => h.step (by rw [← HK.out]; exact hq), fun q t z h hL => ?_⟩
    · rw [HK.out] at hi
      have := (lf_spec hi).1
      omega
    · rw [HK.out, HP.out] at hL
      exact h.base ha.sl.1 R hL
  clear ha R hs HK HP hs6
  go_enter Try.func18, Try.ntmps18
  go_wp2_with (first
    | (go_at_call 27; refine (HC.out _ (alloc_low _ _)).mono ?_; rintro e w1 ⟨g, rfl, hm1, hb1⟩; have HM1 : Hid (Mt w1 (some ⟨g, 0, none⟩) N N P) := hm1; have HB1 : Hid (Below w.heap.size w w1) := two_below (alloc_low _ _) hb1; clear hm1 hb1 HC)
    | (go_at_call 37; refine (HL.out _).mono ?_; rintro e w2 ⟨x2, d2, rfl, hj2, hb2⟩; have HI2 : Hid (Il w2 x2 K (fun i => (f i : Int))) := hj2; have HM2 : Hid (Mt w2 (some ⟨g, 0, none⟩) N N P) := (HM1.out.later (alloc_low _ _)).later hb2; have HB2 : Hid (Below w.heap.size w w2) := two_below (two_below HB1.out (alloc_low _ _)) hb2; have va := (Vr.new w1 (.int .i64 (K : Int)) (.int .i64 (c : Int)) (.slice (some ⟨g, 0, none⟩) N N)).later hb2; have a0 := va.c0; have a1 := va.c1; have a2 := va.c2; clear hj2 hb2 va HL HM1 HB1)
    | (go_at_call 38; refine (gfirst_ok _ K c N N (some ⟨g, 0, none⟩) P HM2.out HRk.out).mono ?_; rintro e w3 ⟨ps, pd, t, q, rfl, hp3, hL3, _, ht3, hb3⟩; have HI3 : Hid (Il w3 x2 K (fun i => (f i : Int))) := HI2.out.later hb3; have HJ3 : Hid (Il w3 ps t (fun i => (q i : Int))) := hp3; have HL3 : Hid (FstL (m2 P K c) K t q) := hL3; have HB3 : Hid (Below w.heap.size w w3) := two_below HB2.out hb3; clear hp3 hL3 hb3 HB2 HM2 HI2))
  go_loop [11, 13, 32] (fun vz _ vi => ∃ u z : Nat, u ≤ t ∧ vi = .int .i64 (u : Int) ∧ vz = .int .u64 (z : Int) ∧ Hid (Bs q u z)) (fun _ _ vi => t - (intOf vi).toNat)
  case atStart => exact ⟨0, 0, by omega, rfl, rfl, HB0.out q⟩
  case round =>
    obtain ⟨u, z, hu, rfl, rfl, HZ⟩ := hrel
    by_cases hlt : u < t
    · obtain ⟨bp, op, ep, hcp⟩ := HJ3.out u hlt
      have hqK := HL3.out.lt u hlt
      obtain ⟨v, HV⟩ : ∃ v, Hid (q u = v) := ⟨_, rfl⟩
      dsimp only at hcp
      rw [HV.out] at hcp hqK
      obtain ⟨bx, ox, ex, hcx⟩ := HI3.out v hqK
      have hf6 := HF.out v hqK
      obtain ⟨m, HM⟩ : ∃ m, Hid (f v = m) := ⟨_, rfl⟩
      dsimp only at hcx
      rw [HM.out] at hcx hf6
      subst ep
      subst ex
      obtain ⟨T, HT⟩ : ∃ T : Nat, Hid (2 ^ m = T) := ⟨_, rfl⟩
      have hp2 : IntKind.u64.wrap (2 ^ m) = (T : Int) := by rw [← HT.out]; exact j_pow m hf6
      have hT6 : T < 18446744073709551616 := by rw [← HT.out]; exact j_pow_lt hf6
      obtain ⟨y, HU⟩ : ∃ y, Hid (z ||| T = y) := ⟨_, rfl⟩
      have hor : bits .or .u64 (z : Int) (T : Int) = (y : Int) := by rw [← HU.out]; exact u64_or_nat z T (HBz.out q u z HZ.out) hT6
      have p0 : (0 : Int) ≤ (u : Int) := by omega
      have p1 : (u : Int) < (t : Int) := by omega
      have p2 : (0 : Int) ≤ (v : Int) := by omega
      have p3 : (v : Int) < (K : Int) := by omega
      have HN : Hid (Bs q (u + 1) y) := by
        have := HBs.out q u z HZ.out (by rw [HV.out]; exact hqK)
        rw [HV.out, HM.out, HT.out, HU.out] at this
        exact this
      clear hT6
      go_wp2
      exact ⟨⟨u + 1, y, by omega, by go_num, by go_num, HN⟩, by simp [intOf]; omega⟩
    · obtain rfl : u = t := by omega
      go_wp2
      go_ret2
      exact ⟨z, rfl, HBe.out q u z HZ.out HL3.out, HB3.out⟩
set_option maxRecDepth 20000 in
set_option maxHeartbeats 1000000 in
theorem tBase_bad (w : World) (r c E : Int) (n k s : Nat) (a : Option Addr) (hs6 : s < 18446744073709551616) (h : BadE r c n s E) :
    Calls Try.prog 18 #[mv r c a n k, .int .u64 (s : Int)] w fun e w' => e = .returned (.tuple #[.int .u64 0, .int .i64 E]) ∧ Below w.heap.size w w' := by
  have HC : Hid (∀ w' : World, Calls Try.prog 27 #[mv r c a n k, .int .u64 (s : Int)] w' fun e w'' => e = .returned (.tuple #[mv 0 0 none 0 0, .int .i64 E]) ∧ Below w'.heap.size w' w'') := fun w' => rows_bad w' r c E n k s a hs6 h
  have hE := h.ne
  clear h hs6
  go_enter Try.func18, Try.ntmps18
  go_wp2_with (go_at_call 27; refine (HC.out _).mono ?_; rintro e w1 ⟨rfl, hb1⟩; have HB1 : Hid (Below w.heap.size w w1) := two_below (alloc_low _ _) hb1; clear hb1)
  go_ret2
  exact ⟨rfl, two_below HB1.out (alloc_low _ _)⟩
end Go.Proofs.Ytflflmdlhmhkdab

namespace Go.Proofs.Ytflflmdlhmhkdab
open Go.RowKit
theorem ext_row {F : Nat → Nat} {r c b : Nat} (hb : b < r) : ext0 (fun j => F (b * c + j)) c = m2 F r c b := funext fun j => by
  unfold ext0
  by_cases hj : j < c
  · rw [if_pos hj, m2_at _ hb hj]
  · rw [if_neg hj, m2_cut _ (by omega)]
theorem circ_end {F x : Nat → Nat} {r c n s b z u T K y1 : Nat} {P : Nat → Nat} (hF : ∀ i, i < n → F i < 256) (R : Rt r c n) (hs : s < 2 ^ r) (hbr : b < r) (hf : FreeS (m2 F r c) r s) (hK : K = cn s r) (hP : P = pkf F (lf s r) c) (hx : CmbA P (fun j => F (b * c + j)) K c x) (hz : Nzt s 1 x K z) (hT : 2 ^ b = T) (h1 : s &&& (18446744073709551615 - z) = y1) (h2 : y1 ||| T = u) : CiS (m2 F r c) r b s u := by
  subst hK
  subst hP
  have hr := R.r64
  have hs6 := lt_64 hr hs
  have hz2 : Nzt s 1 x (cn s 64) z := by rw [cn_all hr hs]; exact hz
  have hbit : ∀ i, i < 64 → (bt u i = 1 ↔ (bt s i = 1 ∧ ¬ bt z i = 1) ∨ i = b) := fun i _ => by
    rw [← h2, ← h1, ← hT, bt_or, bt_pow, bt_diff hs6 hz.1]
  refine circ_of hF R hs hf hx.1.1 (fun j => by rw [← ext_row hbr]; exact hx.2 j) (fun i hi => ?_) hbit ?_
  · rw [hz2.all i hi]
    refine and_congr_right (fun _ => ⟨fun h => ?_, fun h j hj => ?_⟩)
    · have := h 0 (by omega)
      rwa [Nat.mul_one, Nat.add_zero] at this
    · obtain rfl : j = 0 := by omega
      rwa [Nat.mul_one, Nat.add_zero]
  · rw [← h2, ← h1, ← hT]
    exact Nat.or_lt_two_pow (Nat.lt_of_le_of_lt Nat.and_le_left hs) (Nat.pow_lt_pow_right (by decide) hbr)
set_option maxRecDepth 20000 in
set_option maxHeartbeats 2000000 in
theorem tCirc_ok (w : World) (r c n k s b : Nat) (a : Option Addr) (F : Nat → Nat) (ha : Mt w a n k F) (R : Rt r c n) (hs : s < 2 ^ r) (hbr : b < r) (hbs : ¬ bt s b = 1) (hf : FreeS (m2 F r c) r s) :
    Calls Try.prog 9 #[mv r c a n k, .int .i64 (b : Int), .int .u64 (s : Int)] w fun e w' => ∃ (x : Nat) (ok : Bool), e = .returned (.tuple #[.int .u64 (x : Int), .bool ok, .int .i64 0]) ∧ CirA (m2 F r c) r b s x ok ∧ Below w.heap.size w w' := by
  have hr := R.r64
  have hs6 := lt_64 hr hs
  have hb6 : b < 64 := by omega
  have HR : Hid (Rt r c n) := R
  have HF : Hid (∀ i, i < n → F i < 256) := ha.sl.1
  have HS : Hid (s < 2 ^ r) := hs
  have HFr : Hid (FreeS (m2 F r c) r s) := hf
  obtain ⟨K, N, P, hK, HK, HP, HRk, _, HC⟩ := rows_facts w r c n k s a F ha R hs
  have HR1 : Hid (Rt K 1 K) := ⟨hK, by omega, Nat.mul_one _⟩
  have HFree : Hid (∀ w' : World, Below w.heap.size w w' → Calls Try.prog 12 #[mv r c a n k, .int .u64 (s : Int)] w' fun e w'' => e = .returned (.tuple #[.bool true, .int .i64 0]) ∧ Below w'.heap.size w' w'') := fun w' hb => (tFree_ok w' r c n k s a F (ha.later hb) R hs).mono (fun e w'' h => by
    obtain ⟨bb, he, hi, hb⟩ := h
    rw [hi.2 hf] at he
    exact ⟨he, hb⟩)
  have HRow : Hid (∀ w' : World, Below w.heap.size w w' → Calls Try.prog 25 #[mv r c a n k, .int .i64 (b : Int)] w' fun e w'' => ∃ s c', e = .returned (.tuple #[.slice s c c', .int .i64 0]) ∧ Sl w'' s c (fun j => F (b * c + j)) ∧ Below w'.heap.size w' w'') :=
    fun w' hb => (mrow_ok w' r c n k b a F (ha.later hb) R hbr).mono (fun _ _ h => row_slice ha.sl.1 R hbr h)
  have HHas : Hid (∀ w' : World, Calls Try.prog 26 #[.int .u64 (s : Int), .int .i64 (b : Int)] w' fun e w'' => e = .returned (.bool false) ∧ w' = w'') := fun w' => by
    have := jhas_ok s b w' hs6
    rwa [decide_eq_false hbs] at this
  have HNo : Hid (∀ (w' : World) (d m q : Nat) (x : Option Addr) (D : Nat → Nat), Mt w' x m q D → Rt K d m → Calls Try.prog 29 #[mv K d x m q, .int .u64 (s : Int)] w' fun e w'' => ∃ z : Nat, e = .returned (.int .u64 (z : Int)) ∧ Nzt s d D K z ∧ Below w'.heap.size w' w'') := fun w' d m q x D hm hd => noughts_ok w' d m q s K x D hm hs6 (by rw [cn_all hr hs, HK.out]) hd
  have HSp : Hid (Spn (m2 P K c) K (ext0 (fun j => F (b * c + j)) c) ↔ SS (m2 F r c) r s (m2 F r c b)) := by
    show _ ↔ _
    rw [HK.out, HP.out, ext_row hbr]
    exact pick_ss ha.sl.1 R
  obtain ⟨T, HT⟩ : ∃ T : Nat, Hid (2 ^ b = T) := ⟨_, rfl⟩
  have hp2 : IntKind.u64.wrap (2 ^ b) = (T : Int) := by rw [← HT.out]; exact j_pow b hb6
  have hT6 : T < 18446744073709551616 := by rw [← HT.out]; exact j_pow_lt hb6
  have HBR : Hid (b < r) := hbr
  clear ha R hs hbs hf hbr
  by_cases hss : SS (m2 F r c) r s (m2 F r c b)
  · have HSS : Hid (SS (m2 F r c) r s (m2 F r c b)) := hss
    have HCo : Hid (∀ (w' : World) (g q : Nat) (x : Option Addr), Mt w' (some ⟨g, 0, none⟩) N N P → Sl w' x c (fun j => F (b * c + j)) → Calls Try.prog 28 #[mv K c (some ⟨g, 0, none⟩) N N, .slice x c q] w' fun e w'' => LstP w' w'' e K (CmbA P (fun j => F (b * c + j)) K c)) := fun w' g q x h1 h2 => gcomb_yes w' K c N N q _ x P _ h1 HRk.out h2 (HSp.out.2 hss)
    clear hss HSp
    go_enter Try.func9, Try.ntmps9
    go_wp2_with (first
      | (go_at_call 12; refine (HFree.out _ (alloc_low _ _)).mono ?_; rintro e w1 ⟨rfl, hb1⟩; have HV1 : Hid (Vr w1 w.heap.size (.int .i64 (r : Int)) (.int .i64 (c : Int)) (.slice a n k)) := (Vr.new w _ _ _).later hb1; have HB1 : Hid (Below w.heap.size w w1) := two_below (alloc_low _ _) hb1; have va := HV1.out; have a0 := va.c0; have a1 := va.c1; have a2 := va.c2; clear hb1 va)
      | (go_at_call 25; refine (HRow.out _ HB1.out).mono ?_; rintro e w2 ⟨x2, d2, rfl, hs2, hb2⟩; have HY2 : Hid (Sl w2 x2 c (fun j => F (b * c + j))) := hs2; have HV2 : Hid (Vr w2 w.heap.size (.int .i64 (r : Int)) (.int .i64 (c : Int)) (.slice a n k)) := HV1.out.later hb2; have HB2 : Hid (Below w.heap.size w w2) := two_below HB1.out hb2; have va := HV2.out; have b0 := va.c0; have b1 := va.c1; have b2 := va.c2; clear hs2 hb2 va HV1 HB1)
      | (go_at_call 26; refine (HHas.out _).mono ?_; rintro e w' ⟨rfl, rfl⟩)
      | (go_at_call 27; refine (HC.out _ HB2.out).mono ?_; rintro e w3 ⟨g, rfl, hm3, hb3⟩; have HM3 : Hid (Mt w3 (some ⟨g, 0, none⟩) N N P) := hm3; have HY3 : Hid (Sl w3 x2 c (fun j => F (b * c + j))) := HY2.out.later hb3; have HB3 : Hid (Below w.heap.size w w3) := two_below HB2.out hb3; have va := Vr.new w3 (.int .i64 (K : Int)) (.int .i64 (c : Int)) (.slice (some ⟨g, 0, none⟩) N N); have c0 := va.c0; have c1 := va.c1; have c2 := va.c2; clear hm3 hb3 va HV2 HB2 HY2)
      | (go_at_call 28; refine (HCo.out _ g d2 x2 (HM3.out.later (alloc_low _ _)) (HY3.out.later (alloc_low _ _))).mono ?_; rintro e w5 ⟨x5, d5, x, rfl, hm5, hx5, hb5⟩; have HM5 : Hid (Mt w5 x5 K d5 x) := hm5; have HX5 : Hid (CmbA P (fun j => F (b * c + j)) K c x) := hx5; have HB5 : Hid (Below w.heap.size w w5) := two_below (two_below HB3.out (alloc_low _ _)) hb5; clear hm5 hx5 hb5 HM3 HY3 HB3))
    · skip
      refine wp_region_held (S := fun w' => w'.cell? ⟨w5.heap.size, 0, none⟩ = some (.int .i64 (K : Int)) ∧ w'.cell? ⟨w5.heap.size, 1, none⟩ = some (.int .i64 1) ∧ w'.cell? ⟨w5.heap.size, 2, none⟩ = some (.slice x5 K d5)) (by kernel_rfl) ?_
      change wpAnyH _ _ _ _ _ _ _ _ (World.drew _)
      obtain ⟨W0, HW0⟩ : ∃ W0, Hid ((w5.alloc (.cells #[.int .i64 (K : Int), .int .i64 1, .slice x5 K d5] 24)).drew = W0) := ⟨_, rfl⟩
      rw [HW0.out]
      have HX0 : Hid (Vr W0 w5.heap.size (.int .i64 (K : Int)) (.int .i64 1) (.slice x5 K d5)) := by rw [← HW0.out]; exact (Vr.new w5 _ _ _).later (Below.refl _ _).drew
      have HBW : Hid (Below w5.heap.size w5 W0) := by rw [← HW0.out]; exact two_below (alloc_low _ _) (Below.refl _ _).drew
      have HB0 : Hid (Below w.heap.size w W0) := two_below HB5.out HBW.out
      refine wpAnyH_take (i := 0) (v := ?v0) rfl (by kernel_rfl) (by kernel_rfl) (by kernel_rfl) (fun _ _ _ h => h) (Or.inl ⟨by rfl, ?y0⟩) ⟨HX0.out.c0, HX0.out.c1, HX0.out.c2⟩ ?z0
      case y0 => (intro w hSw; (try dsimp only at hSw); go_simp; try with_reducible rfl)
      try simp only [List.getElem_toArray, List.getElem_cons_zero, Act.put, List.setIfInBounds_toArray, List.set_cons_zero, List.set_cons_succ]
      refine wpAnyH_take (i := 1) (v := ?v1) rfl (by kernel_rfl) (by kernel_rfl) (by kernel_rfl) (fun _ _ _ h => h) (Or.inl ⟨by rfl, ?y1⟩) ⟨HX0.out.c0, HX0.out.c1, HX0.out.c2⟩ ?z1
      case y1 => (intro w hSw; (try dsimp only at hSw); go_simp; try with_reducible rfl)
      try simp only [List.getElem_toArray, List.getElem_cons_succ, List.getElem_cons_zero, Act.put, List.setIfInBounds_toArray, List.set_cons_zero, List.set_cons_succ]
      refine wpAnyH_take (i := 2) (v := ?v2) rfl (by kernel_rfl) (by kernel_rfl) (by kernel_rfl) (fun _ _ _ h => h) (Or.inl ⟨by rfl, ?y2⟩) ⟨HX0.out.c0, HX0.out.c1, HX0.out.c2⟩ ?z2
      case y2 => (intro w hSw; (try dsimp only at hSw); go_simp; try with_reducible rfl)
      try simp only [List.getElem_toArray, List.getElem_cons_succ, List.getElem_cons_zero, Act.put, List.setIfInBounds_toArray, List.set_cons_zero, List.set_cons_succ]
      refine wpAnyH_take (i := 5) (v := ?v5) rfl (by kernel_rfl) (by kernel_rfl) (by kernel_rfl) (fun _ _ _ h => h) (Or.inl ⟨by rfl, ?y5⟩) ⟨HX0.out.c0, HX0.out.c1, HX0.out.c2⟩ ?z5
      case y5 => (intro w hSw; (try dsimp only at hSw); go_simp; try with_reducible rfl)
      try simp only [List.getElem_toArray, List.getElem_cons_succ, List.getElem_cons_zero, Act.put, List.setIfInBounds_toArray, List.set_cons_zero, List.set_cons_succ]
      refine wpAnyH_take (i := 6) (v := ?v6) rfl (by kernel_rfl) (by kernel_rfl) (by kernel_rfl) (fun _ _ _ h => h) (Or.inl ⟨by rfl, ?y6⟩) ⟨HX0.out.c0, HX0.out.c1, HX0.out.c2⟩ ?z6
      case y6 => (intro w hSw; (try dsimp only at hSw); go_simp; try with_reducible rfl)
      try simp only [List.getElem_toArray, List.getElem_cons_succ, List.getElem_cons_zero, Act.put, List.setIfInBounds_toArray, List.set_cons_zero, List.set_cons_succ]
      refine wpAnyH_ready (rs := [3]) (by kernel_rfl) (by simp) ?_
      refine AllReadyH.cons rfl (fun KK hKK => ?_) AllReadyH.nil
      go_simp
      refine (HNo.out _ 1 K d5 x5 x (HM5.out.later HBW.out) HR1.out).mono ?_
      rintro e w6 ⟨z, rfl, hz6, hb6⟩
      have HZ : Hid (Nzt s 1 x K z) := hz6
      have HB6 : Hid (Below w.heap.size w w6) := two_below HB0.out hb6
      have HV6 : Hid (Vr w6 w5.heap.size (.int .i64 (K : Int)) (.int .i64 1) (.slice x5 K d5)) := HX0.out.later hb6
      have hz64 : z < 18446744073709551616 := hz6.1
      obtain ⟨y1, HY1⟩ : ∃ y, Hid (s &&& (18446744073709551615 - z) = y) := ⟨_, rfl⟩
      have hand : bits .andNot .u64 (s : Int) (z : Int) = (y1 : Int) := by rw [← HY1.out]; exact u64_andNot_nat s z hs6 hz64
      have hy16 : y1 < 18446744073709551616 := by rw [← HY1.out]; exact Nat.lt_of_le_of_lt Nat.and_le_left hs6
      obtain ⟨u, HU⟩ : ∃ y, Hid (y1 ||| T = y) := ⟨_, rfl⟩
      have hor : bits .or .u64 (y1 : Int) (T : Int) = (u : Int) := by rw [← HU.out]; exact u64_or_nat y1 T hy16 hT6
      clear hz6 hb6
      refine hKK.out _ _ ⟨HV6.out.c0, HV6.out.c1, HV6.out.c2⟩ (fun _ => ?_)
      clear hKK KK
      try simp only [List.getElem_toArray, List.getElem_cons_succ, List.getElem_cons_zero, Act.put, List.setIfInBounds_toArray, List.set_cons_zero, List.set_cons_succ]
      refine wpAnyH_take (i := 4) (v := ?v4) rfl (by kernel_rfl) (by kernel_rfl) (by kernel_rfl) (fun _ _ _ h => h) (Or.inl ⟨by rfl, ?y4⟩) ⟨HV6.out.c0, HV6.out.c1, HV6.out.c2⟩ ?z4
      case y4 => (intro w hSw; (try dsimp only at hSw); go_simp; try with_reducible rfl)
      try simp only [List.getElem_toArray, List.getElem_cons_succ, List.getElem_cons_zero, Act.put, List.setIfInBounds_toArray, List.set_cons_zero, List.set_cons_succ]
      refine wpAnyH_take (i := 7) (v := ?v7) rfl (by kernel_rfl) (by kernel_rfl) (by kernel_rfl) (fun _ _ _ h => h) (Or.inl ⟨by rfl, ?y7⟩) ⟨HV6.out.c0, HV6.out.c1, HV6.out.c2⟩ ?z7
      case y7 => (intro w hSw; (try dsimp only at hSw); go_simp; try with_reducible rfl)
      try simp only [List.getElem_toArray, List.getElem_cons_succ, List.getElem_cons_zero, Act.put, List.setIfInBounds_toArray, List.set_cons_zero, List.set_cons_succ]
      refine wpAnyH_take (i := 8) (v := ?v8) rfl (by kernel_rfl) (by kernel_rfl) (by kernel_rfl) (fun _ _ _ h => h) (Or.inl ⟨by rfl, ?y8⟩) ⟨HV6.out.c0, HV6.out.c1, HV6.out.c2⟩ ?z8
      case y8 => (intro w hSw; (try dsimp only at hSw); go_simp; try with_reducible rfl)
      try simp only [List.getElem_toArray, List.getElem_cons_succ, List.getElem_cons_zero, Act.put, List.setIfInBounds_toArray, List.set_cons_zero, List.set_cons_succ]
      refine wpAnyH_take (i := 9) (v := ?v9) rfl (by kernel_rfl) (by kernel_rfl) (by kernel_rfl) (fun _ _ _ h => h) (Or.inl ⟨by rfl, ?y9⟩) ⟨HV6.out.c0, HV6.out.c1, HV6.out.c2⟩ ?z9
      case y9 => (intro w hSw; (try dsimp only at hSw); go_simp; try with_reducible rfl)
      try simp only [List.getElem_toArray, List.getElem_cons_succ, List.getElem_cons_zero, Act.put, List.setIfInBounds_toArray, List.set_cons_zero, List.set_cons_succ]
      refine wpAnyH_take (i := 10) (v := ?v10) rfl (by kernel_rfl) (by kernel_rfl) (by kernel_rfl) (fun _ _ _ h => h) (Or.inl ⟨by rfl, ?y10⟩) ⟨HV6.out.c0, HV6.out.c1, HV6.out.c2⟩ ?z10
      case y10 => (intro w hSw; (try dsimp only at hSw); go_simp; try with_reducible rfl)
      try simp only [List.getElem_toArray, List.getElem_cons_succ, List.getElem_cons_zero, Act.put, List.setIfInBounds_toArray, List.set_cons_zero, List.set_cons_succ]
      refine wpAnyH_done (by kernel_rfl) ?_ _
      go_wp2
      go_ret3
      refine ⟨u, true, rfl, .inr ⟨rfl, HSS.out, circ_end HF.out HR.out HS.out HBR.out HFr.out HK.out HP.out HX5.out HZ.out HT.out HY1.out HU.out⟩, HB6.out⟩
  · have HSS : Hid (¬ SS (m2 F r c) r s (m2 F r c b)) := hss
    have HCo : Hid (∀ (w' : World) (g q : Nat) (x : Option Addr), Mt w' (some ⟨g, 0, none⟩) N N P → Sl w' x c (fun j => F (b * c + j)) → Calls Try.prog 28 #[mv K c (some ⟨g, 0, none⟩) N N, .slice x c q] w' fun e w'' => NoneP w' w'' e 0) := fun w' g q x h1 h2 => gcomb_no w' K c N N q _ x P _ h1 HRk.out h2 (fun h => hss (HSp.out.1 h))
    clear hss HSp
    go_enter Try.func9, Try.ntmps9
    go_wp2_with (first
      | (go_at_call 12; refine (HFree.out _ (alloc_low _ _)).mono ?_; rintro e w1 ⟨rfl, hb1⟩; have HV1 : Hid (Vr w1 w.heap.size (.int .i64 (r : Int)) (.int .i64 (c : Int)) (.slice a n k)) := (Vr.new w _ _ _).later hb1; have HB1 : Hid (Below w.heap.size w w1) := two_below (alloc_low _ _) hb1; have va := HV1.out; have a0 := va.c0; have a1 := va.c1; have a2 := va.c2; clear hb1 va)
      | (go_at_call 25; refine (HRow.out _ HB1.out).mono ?_; rintro e w2 ⟨x2, d2, rfl, hs2, hb2⟩; have HY2 : Hid (Sl w2 x2 c (fun j => F (b * c + j))) := hs2; have HV2 : Hid (Vr w2 w.heap.size (.int .i64 (r : Int)) (.int .i64 (c : Int)) (.slice a n k)) := HV1.out.later hb2; have HB2 : Hid (Below w.heap.size w w2) := two_below HB1.out hb2; have va := HV2.out; have b0 := va.c0; have b1 := va.c1; have b2 := va.c2; clear hs2 hb2 va HV1 HB1)
      | (go_at_call 26; refine (HHas.out _).mono ?_; rintro e w' ⟨rfl, rfl⟩)
      | (go_at_call 27; refine (HC.out _ HB2.out).mono ?_; rintro e w3 ⟨g, rfl, hm3, hb3⟩; have HM3 : Hid (Mt w3 (some ⟨g, 0, none⟩) N N P) := hm3; have HY3 : Hid (Sl w3 x2 c (fun j => F (b * c + j))) := HY2.out.later hb3; have HB3 : Hid (Below w.heap.size w w3) := two_below HB2.out hb3; have va := Vr.new w3 (.int .i64 (K : Int)) (.int .i64 (c : Int)) (.slice (some ⟨g, 0, none⟩) N N); have c0 := va.c0; have c1 := va.c1; have c2 := va.c2; clear hm3 hb3 va HV2 HB2 HY2)
      | (go_at_call 28; refine (HCo.out _ g d2 x2 (HM3.out.later (alloc_low _ _)) (HY3.out.later (alloc_low _ _))).mono ?_; rintro e w5 ⟨rfl, hb5⟩; have HB5 : Hid (Below w.heap.size w w5) := two_below (two_below HB3.out (alloc_low _ _)) hb5; clear hb5 HM3 HY3 HB3))
    go_ret3
    exact ⟨0, false, rfl, .inl ⟨rfl, rfl, HSS.out⟩, HB5.out⟩
set_option maxRecDepth 20000 in
set_option maxHeartbeats 1000000 in
theorem tCirc_bad (w : World) (r c E b : Int) (n k s : Nat) (a : Option Addr) (hs6 : s < 18446744073709551616) (h : BadE r c n s E) :
    Calls Try.prog 9 #[mv r c a n k, .int .i64 b, .int .u64 (s : Int)] w fun e w' => e = .returned (.tuple #[.int .u64 0, .bool false, .int .i64 E]) ∧ Below w.heap.size w w' := by
  have HC : Hid (∀ w' : World, Calls Try.prog 12 #[mv r c a n k, .int .u64 (s : Int)] w' fun e w'' => e = .returned (.tuple #[.bool false, .int .i64 E]) ∧ Below w'.heap.size w' w'') := fun w' => tFree_bad w' r c E n k s a hs6 h
  have hE := h.ne
  clear h hs6
  go_enter Try.func9, Try.ntmps9
  go_wp2_with (go_at_call 12; refine (HC.out _).mono ?_; rintro e w1 ⟨rfl, hb1⟩; have HB1 : Hid (Below w.heap.size w w1) := two_below (alloc_low _ _) hb1; clear hb1)
  go_ret3
  exact ⟨rfl, HB1.out⟩
set_option maxRecDepth 20000 in
set_option maxHeartbeats 1000000 in
theorem tCirc_arg (w : World) (r c n k s : Nat) (b : Int) (a : Option Addr) (F : Nat → Nat) (ha : Mt w a n k F) (R : Rt r c n) (hs : s < 2 ^ r) (h : b < 0 ∨ r ≤ b ∨ bt s b.toNat = 1 ∨ ¬ FreeS (m2 F r c) r s) :
    Calls Try.prog 9 #[mv r c a n k, .int .i64 b, .int .u64 (s : Int)] w fun e w' => e = .returned (.tuple #[.int .u64 0, .bool false, .int .i64 2]) ∧ Below w.heap.size w w' := by
  have hs6 := lt_64 R.r64 hs
  obtain ⟨fr, HFr, HFree⟩ : ∃ fr : Bool, Hid (fr = true → FreeS (m2 F r c) r s) ∧ Hid (∀ w' : World, Below w.heap.size w w' → Calls Try.prog 12 #[mv r c a n k, .int .u64 (s : Int)] w' fun e w'' => e = .returned (.tuple #[.bool fr, .int .i64 0]) ∧ Below w'.heap.size w' w'') := by
    by_cases hf : FreeS (m2 F r c) r s
    · exact ⟨true, fun _ => hf, fun w' hb => (tFree_ok w' r c n k s a F (ha.later hb) R hs).mono (fun e w'' h => by obtain ⟨bb, he, hi, hb⟩ := h; rw [hi.2 hf] at he; exact ⟨he, hb⟩)⟩
    · refine ⟨false, fun h => (by cases h), fun w' hb => (tFree_ok w' r c n k s a F (ha.later hb) R hs).mono (fun e w'' h => by
        obtain ⟨bb, he, hi, hb⟩ := h
        cases bb with
        | true => exact absurd (hi.1 rfl) hf
        | false => exact ⟨he, hb⟩)⟩
  by_cases hin : 0 ≤ b ∧ b < r
  · obtain ⟨i, rfl⟩ : ∃ i : Nat, b = (i : Int) := ⟨b.toNat, by omega⟩
    have hir : i < r := by omega
    have HRow : Hid (∀ w' : World, Below w.heap.size w w' → Calls Try.prog 25 #[mv r c a n k, .int .i64 (i : Int)] w' fun e w'' => ∃ s c', e = .returned (.tuple #[.slice s c c', .int .i64 0]) ∧ Sl w'' s c (fun j => F (i * c + j)) ∧ Below w'.heap.size w' w'') :=
      fun w' hb => (mrow_ok w' r c n k i a F (ha.later hb) R hir).mono (fun _ _ h => row_slice ha.sl.1 R hir h)
    obtain ⟨hb, HHas, hor⟩ : ∃ hb : Bool, Hid (∀ w' : World, Calls Try.prog 26 #[.int .u64 (s : Int), .int .i64 (i : Int)] w' fun e w'' => e = .returned (.bool hb) ∧ w' = w'') ∧ (hb = true ∨ fr = false) := by
      refine ⟨_, fun w' => jhas_ok s i w' hs6, ?_⟩
      rcases h with h | h | h | h
      · omega
      · omega
      · exact .inl (decide_eq_true h)
      · right
        cases fr with
        | true => exact absurd (HFr.out rfl) h
        | false => rfl
    clear h HFr ha R hs hs6
    cases hb with
    | true =>
      clear hor
      go_enter Try.func9, Try.ntmps9
      go_wp2_with (first
        | (go_at_call 12; refine (HFree.out _ (alloc_low _ _)).mono ?_; rintro e w1 ⟨rfl, hb1⟩; have HV1 : Hid (Vr w1 w.heap.size (.int .i64 (r : Int)) (.int .i64 (c : Int)) (.slice a n k)) := (Vr.new w _ _ _).later hb1; have HB1 : Hid (Below w.heap.size w w1) := two_below (alloc_low _ _) hb1; have va := HV1.out; have a0 := va.c0; have a1 := va.c1; have a2 := va.c2; clear hb1 va)
        | (go_at_call 25; refine (HRow.out _ HB1.out).mono ?_; rintro e w2 ⟨x2, d2, rfl, _, hb2⟩; have HB2 : Hid (Below w.heap.size w w2) := two_below HB1.out hb2; clear hb2)
        | (go_at_call 26; refine (HHas.out _).mono ?_; rintro e w' ⟨rfl, rfl⟩))
      go_ret3
      exact ⟨rfl, HB2.out⟩
    | false =>
      obtain rfl : fr = false := by rcases hor with h | h; exact absurd h (by decide); exact h
      clear hor
      go_enter Try.func9, Try.ntmps9
      go_wp2_with (first
        | (go_at_call 12; refine (HFree.out _ (alloc_low _ _)).mono ?_; rintro e w1 ⟨rfl, hb1⟩; have HV1 : Hid (Vr w1 w.heap.size (.int .i64 (r : Int)) (.int .i64 (c : Int)) (.slice a n k)) := (Vr.new w _ _ _).later hb1; have HB1 : Hid (Below w.heap.size w w1) := two_below (alloc_low _ _) hb1; have va := HV1.out; have a0 := va.c0; have a1 := va.c1; have a2 := va.c2; clear hb1 va)
        | (go_at_call 25; refine (HRow.out _ HB1.out).mono ?_; rintro e w2 ⟨x2, d2, rfl, _, hb2⟩; have HB2 : Hid (Below w.heap.size w w2) := two_below HB1.out hb2; clear hb2)
        | (go_at_call 26; refine (HHas.out _).mono ?_; rintro e w' ⟨rfl, rfl⟩))
      go_ret3
      exact ⟨rfl, HB2.out⟩
  · have HRow : Hid (∀ w' : World, Calls Try.prog 25 #[mv r c a n k, .int .i64 b] w' fun e w'' => e = .returned (.tuple #[.slice none 0 0, .int .i64 2]) ∧ Below w'.heap.size w' w'') := fun w' => mrow_arg w' r c n k b a R hin
    clear h HFr ha R hs hs6 hin
    go_enter Try.func9, Try.ntmps9
    go_wp2_with (first
      | (go_at_call 12; refine (HFree.out _ (alloc_low _ _)).mono ?_; rintro e w1 ⟨rfl, hb1⟩; have HV1 : Hid (Vr w1 w.heap.size (.int .i64 (r : Int)) (.int .i64 (c : Int)) (.slice a n k)) := (Vr.new w _ _ _).later hb1; have HB1 : Hid (Below w.heap.size w w1) := two_below (alloc_low _ _) hb1; have va := HV1.out; have a0 := va.c0; have a1 := va.c1; have a2 := va.c2; clear hb1 va)
      | (go_at_call 25; refine (HRow.out _).mono ?_; rintro e w2 ⟨rfl, hb2⟩; have HB2 : Hid (Below w.heap.size w w2) := two_below HB1.out hb2; clear hb2))
    go_ret3
    exact ⟨rfl, HB2.out⟩
end Go.Proofs.Ytflflmdlhmhkdab

namespace Go.Proofs.Ytflflmdlhmhkdab
open Go.RowKit
/-- A matrix and a set may be, or not. -/
theorem bad_or (r c : Int) (n s : Nat) : (∃ E, BadE r c n s E) ∨ ∃ r' c' : Nat, r = r' ∧ c = c' ∧ Rt r' c' n ∧ s < 2 ^ r' := by
  by_cases h : RightP r c n
  · obtain ⟨r', c', rfl, rfl, R⟩ := right_rt h
    by_cases hs : s < 2 ^ r'
    · exact .inr ⟨r', c', rfl, rfl, R, hs⟩
    · exact .inl ⟨2, .inr ⟨h, hs, rfl⟩⟩
  · exact .inl ⟨3, .inl ⟨h, rfl⟩⟩
theorem bool_same {b b' : Bool} {P : Prop} (h : b = true ↔ P) (h' : b' = true ↔ P) : b = b' := by
  cases b <;> cases b' <;> simp_all
theorem NeS.one {M : Nat → Nat → Nat} {R s p q : Nat} (h : NeS M R s p) (h2 : NeS M R s q) : p = q := by
  apply bt_ext
  intro i
  by_cases hi : i < R
  · rw [h.2 i hi, h2.2 i hi]
  · rw [bt_big h.1 (by omega), bt_big h2.1 (by omega)]
theorem CirA.one {M : Nat → Nat → Nat} {R b s x y : Nat} {o q : Bool} (h : CirA M R b s x o) (h2 : CirA M R b s y q) : x = y ∧ o = q := by
  rcases h with ⟨rfl, rfl, h⟩ | ⟨rfl, h, h3⟩ <;> rcases h2 with ⟨rfl, rfl, h4⟩ | ⟨rfl, h4, h5⟩
  · exact ⟨rfl, rfl⟩
  · exact absurd h4 h
  · exact absurd h h4
  · exact ⟨h3.one h5, rfl⟩
theorem rank_pair (w : World) (r c : Int) (n k s : Nat) (a : Option Addr) (F : Nat → Nat) (ha : Mt w a n k F) (hs6 : s < 18446744073709551616) : ∃ (u : Int) (v : Int), (∀ w' : World, Below w.heap.size w w' → Calls Try.prog 17 #[mv r c a n k, .int .u64 (s : Int)] w' fun e w'' => e = .returned (.tuple #[.int .i64 u, .int .i64 v]) ∧ Below w'.heap.size w' w'') ∧ (∀ w' : World, Below w.heap.size w w' → Calls Try.prog 21 #[mv r c a n k, .int .u64 (s : Int)] w' fun e w'' => e = .returned (.tuple #[.int .i64 u, .int .i64 v]) ∧ Below w'.heap.size w' w'') := by
  rcases bad_or r c n s with ⟨E, h⟩ | ⟨r, c, rfl, rfl, R, hs⟩
  · exact ⟨_, E, fun w' _ => tRank_bad w' r c E n k s a hs6 h, fun w' _ => rRank_bad w' r c E n k s a hs6 h⟩
  · have hM := m2_el ha.sl.1 R
    obtain ⟨t, ht⟩ := rs_ex hM r s
    refine ⟨t, 0, fun w' hb => (tRank_ok w' r c n k s a F (ha.later hb) R hs).mono (fun e w'' h => ?_), fun w' hb => (rRank_ok w' r c n k s a F (ha.sl.later hb) R hs).mono (fun e w'' h => ?_)⟩
    · obtain ⟨t', he, ht', hbb⟩ := h
      rw [ht'.one hM ht] at he
      exact ⟨he, hbb⟩
    · obtain ⟨t', he, ht', hbb⟩ := h
      rw [ht'.one hM ht] at he
      exact ⟨he, hbb⟩
theorem bld_ex (P : Nat → Prop) : ∀ n, ∃ p, Bld P n p := by
  intro n
  induction n with
  | zero => exact ⟨0, Bld.start P⟩
  | succ n ih =>
    obtain ⟨p, hp⟩ := ih
    by_cases h : P n
    · exact ⟨_, hp.yes h⟩
    · exact ⟨_, hp.no h⟩
theorem span_pair (w : World) (r c : Int) (n k s : Nat) (a : Option Addr) (F : Nat → Nat) (ha : Mt w a n k F) (hs6 : s < 18446744073709551616) : ∃ (u : Int) (v : Int), (∀ w' : World, Below w.heap.size w w' → Calls Try.prog 15 #[mv r c a n k, .int .u64 (s : Int)] w' fun e w'' => e = .returned (.tuple #[.int .u64 u, .int .i64 v]) ∧ Below w'.heap.size w' w'') ∧ (∀ w' : World, Below w.heap.size w w' → Calls Try.prog 10 #[mv r c a n k, .int .u64 (s : Int)] w' fun e w'' => e = .returned (.tuple #[.int .u64 u, .int .i64 v]) ∧ Below w'.heap.size w' w'') := by
  rcases bad_or r c n s with ⟨E, h⟩ | ⟨r, c, rfl, rfl, R, hs⟩
  · exact ⟨_, E, fun w' _ => tSpan_bad w' r c E n k s a hs6 h, fun w' _ => rSpan_bad w' r c E n k s a hs6 h⟩
  · have hM := m2_el ha.sl.1 R
    obtain ⟨t, ht⟩ : ∃ p, SpS (m2 F r c) r s p := bld_ex _ r
    refine ⟨t, 0, fun w' hb => (tSpan_ok w' r c n k s a F (ha.later hb) R hs).mono (fun e w'' h => ?_), fun w' hb => (rSpan_ok w' r c n k s a F (ha.sl.later hb) R hs).mono (fun e w'' h => ?_)⟩
    · obtain ⟨t', he, ht', hbb⟩ := h
      rw [ht'.one ht] at he
      exact ⟨he, hbb⟩
    · obtain ⟨t', he, ht', hbb⟩ := h
      rw [ht'.one ht] at he
      exact ⟨he, hbb⟩
theorem base_pair (w : World) (r c : Int) (n k s : Nat) (a : Option Addr) (F : Nat → Nat) (ha : Mt w a n k F) (hs6 : s < 18446744073709551616) : ∃ (u : Int) (v : Int), (∀ w' : World, Below w.heap.size w w' → Calls Try.prog 18 #[mv r c a n k, .int .u64 (s : Int)] w' fun e w'' => e = .returned (.tuple #[.int .u64 u, .int .i64 v]) ∧ Below w'.heap.size w' w'') ∧ (∀ w' : World, Below w.heap.size w w' → Calls Try.prog 8 #[mv r c a n k, .int .u64 (s : Int)] w' fun e w'' => e = .returned (.tuple #[.int .u64 u, .int .i64 v]) ∧ Below w'.heap.size w' w'') := by
  rcases bad_or r c n s with ⟨E, h⟩ | ⟨r, c, rfl, rfl, R, hs⟩
  · exact ⟨_, E, fun w' _ => tBase_bad w' r c E n k s a hs6 h, fun w' _ => rBase_bad w' r c E n k s a hs6 h⟩
  · have hM := m2_el ha.sl.1 R
    obtain ⟨t, ht⟩ : ∃ p, BaS (m2 F r c) r s p := bld_ex _ r
    refine ⟨t, 0, fun w' hb => (tBase_ok w' r c n k s a F (ha.later hb) R hs).mono (fun e w'' h => ?_), fun w' hb => (rBase_ok w' r c n k s a F (ha.sl.later hb) R hs).mono (fun e w'' h => ?_)⟩
    · obtain ⟨t', he, ht', hbb⟩ := h
      rw [ht'.one ht] at he
      exact ⟨he, hbb⟩
    · obtain ⟨t', he, ht', hbb⟩ := h
      rw [ht'.one ht] at he
      exact ⟨he, hbb⟩
theorem cira_ex (M : Nat → Nat → Nat) (R b s : Nat) : ∃ x o, CirA M R b s x o := by
  by_cases h : SS M R s (M b)
  · obtain ⟨z, hz⟩ := bld_ex (fun j => j = b ∨ (bt s j = 1 ∧ ∀ t, (∀ j', j' < R → (bt t j' = 1 ↔ bt s j' = 1 ∧ j' ≠ j)) → ¬ SS M R t (M b))) R
    exact ⟨z, true, .inr ⟨rfl, h, hz.1, hz.2⟩⟩
  · exact ⟨0, false, .inl ⟨rfl, rfl, h⟩⟩
end Go.Proofs.Ytflflmdlhmhkdab

namespace Go.Proofs.Ytflflmdlhmhkdab
open Go.RowKit
/-- The document's five rows. -/
def g5 (i : Nat) : Nat := if i = 0 then 1 else if i = 3 then 1 else if i = 4 then 1 else if i = 5 then 1 else if i = 6 then 2 else if i = 7 then 2 else 0
theorem g5_lt (i : Nat) : g5 i < 256 := by
  unfold g5
  repeat' split
  all_goals decide
theorem g5_rt : Rt 5 2 10 := ⟨by decide, by decide, rfl⟩
theorem g5_el : El2 (m2 g5 5 2) := m2_el (fun i _ => g5_lt i) g5_rt
theorem ss_col {M : Nat → Nat → Nat} {R s j : Nat} {y : Nat → Nat} (h : SS M R s y) (h0 : ∀ i, i < R → bt s i = 1 → M i j = 0) : y j = 0 := by
  obtain ⟨a, _, hy⟩ := h
  rw [hy j]
  refine xs_zero (fun i hi => ?_)
  show fm (a i) (mk M s i j) = 0
  unfold mk
  split
  · rw [h0 i hi (by assumption), fm_zero]
  · rw [fm_zero]
theorem bt0 (i : Nat) : ¬ bt 0 i = 1 := by rw [bt_big (n := 0) (by decide) (Nat.zero_le _)]; decide
theorem g5_zero : RS (m2 g5 5 2) 5 0 0 := rs_none g5_el (fun i _ => bt0 i)
theorem g5_rank : RS (m2 g5 5 2) 5 7 2 := by
  have h1 := g5_zero.more g5_el (i := 0) (by decide) (fun h => absurd (ss_col (j := 0) h (fun i _ hb => absurd hb (bt0 i))) (by decide))
  have h2 := h1.more g5_el (i := 1) (by decide) (fun h => absurd (ss_col (j := 1) h (fun i _ hb => by
    rw [show (0 ||| 2 ^ 0 : Nat) = 2 ^ 0 from rfl, bt_pow] at hb
    rw [hb]; decide)) (by decide))
  have h3 : SS (m2 g5 5 2) 5 (0 ||| 2 ^ 0 ||| 2 ^ 1) (m2 g5 5 2 2) := by
    refine (spn_add (ss_row g5_el (i := 0) (by decide) (by decide)) (ss_row g5_el (i := 1) (by decide) (by decide))).congr (fun j => ?_)
    by_cases hj : j < 2
    · rcases (by omega : j = 0 ∨ j = 1) with rfl | rfl <;> decide
    · rw [m2_cut _ (by omega), m2_cut _ (by omega), m2_cut _ (by omega)]; rfl
  exact h2.same g5_el (i := 2) (by decide) h3
theorem g5_free : FreeS (m2 g5 5 2) 5 4 := g5_zero.more g5_el (i := 2) (by decide) (fun h => absurd (ss_col (j := 0) h (fun i _ hb => absurd hb (bt0 i))) (by decide))
theorem g5_circ : CirA (m2 g5 5 2) 5 3 4 12 true := by
  refine .inr ⟨rfl, ?_, by decide, fun i hi => ?_⟩
  · refine (spn_mul (c := 2) (by decide) (ss_row g5_el (s := 4) (i := 2) (by decide) (by decide))).congr (fun j => ?_)
    by_cases hj : j < 2
    · rcases (by omega : j = 0 ∨ j = 1) with rfl | rfl <;> decide
    · rw [m2_cut _ (by omega), m2_cut _ (by omega), fm_zero]
  · rcases (by omega : i = 0 ∨ i = 1 ∨ i = 2 ∨ i = 3 ∨ i = 4) with rfl | rfl | rfl | rfl | rfl
    · exact ⟨fun h => absurd h (by decide), fun h => h.elim (fun h => absurd h (by decide)) (fun h => absurd h.1 (by decide))⟩
    · exact ⟨fun h => absurd h (by decide), fun h => h.elim (fun h => absurd h (by decide)) (fun h => absurd h.1 (by decide))⟩
    · refine ⟨fun _ => .inr ⟨by decide, fun t ht hss => ?_⟩, fun _ => by decide⟩
      refine absurd (ss_col (j := 0) hss (fun i hi hb => ?_)) (by decide)
      have h1 := (ht i hi).1 hb
      rcases (by omega : i = 0 ∨ i = 1 ∨ i = 2 ∨ i = 3 ∨ i = 4) with rfl | rfl | rfl | rfl | rfl
      · exact absurd h1.1 (by decide)
      · exact absurd h1.1 (by decide)
      · exact absurd rfl h1.2
      · exact absurd h1.1 (by decide)
      · exact absurd h1.1 (by decide)
    · exact ⟨fun _ => .inl rfl, fun _ => by decide⟩
    · exact ⟨fun h => absurd h (by decide), fun h => h.elim (fun h => absurd h (by decide)) (fun h => absurd h.1 (by decide))⟩
theorem g5_row (w : World) : RowAt (w.alloc (.cells #[.int .u8 1, .int .u8 0, .int .u8 0, .int .u8 1, .int .u8 1, .int .u8 1, .int .u8 2, .int .u8 2, .int .u8 0, .int .u8 0] 5)) w.heap.size 5 10 g5 := by
  unfold RowAt
  rw [new_at]
  kernel_rfl
set_option maxRecDepth 20000 in
set_option maxHeartbeats 2000000 in
theorem anch7_any (w : World) : Calls Try.prog 7 #[] w fun e w' => e = .returned (.bool true) ∧ Below w.heap.size w w' := by
  obtain ⟨f, HF⟩ : ∃ f, Hid (g5 = f) := ⟨_, rfl⟩
  have HG : Hid (∀ w : World, Mt (w.alloc (.cells #[.int .u8 1, .int .u8 0, .int .u8 0, .int .u8 1, .int .u8 1, .int .u8 1, .int .u8 2, .int .u8 2, .int .u8 0, .int .u8 0] 5)) (some ⟨w.heap.size, 0, none⟩) 10 10 f) := fun w => by
    rw [← HF.out]
    exact (g5_row w).mt (fun i _ => g5_lt i)
  have HRk : Hid (∀ (w : World) (a : Option Addr), Mt w a 10 10 f → Calls Try.prog 17 #[mv 5 2 a 10 10, .int .u64 7] w fun e w' => e = .returned (.tuple #[.int .i64 2, .int .i64 0]) ∧ Below w.heap.size w w') := fun w a h => by
    rw [← HF.out] at h
    refine (tRank_ok w 5 2 10 10 7 a g5 h g5_rt (by decide)).mono (fun e w' hh => ?_)
    obtain ⟨t, he, ht, hb⟩ := hh
    rw [ht.one g5_el g5_rank] at he
    exact ⟨he, hb⟩
  have HCi : Hid (∀ (w : World) (a : Option Addr), Mt w a 10 10 f → Calls Try.prog 9 #[mv 5 2 a 10 10, .int .i64 3, .int .u64 4] w fun e w' => e = .returned (.tuple #[.int .u64 12, .bool true, .int .i64 0]) ∧ Below w.heap.size w w') := fun w a h => by
    rw [← HF.out] at h
    refine (tCirc_ok w 5 2 10 10 4 3 a g5 h g5_rt (by decide) (by decide) (by decide) g5_free).mono (fun e w' hh => ?_)
    obtain ⟨x, o, he, ht, hb⟩ := hh
    obtain ⟨rfl, rfl⟩ := ht.one g5_circ
    exact ⟨he, hb⟩
  clear HF
  go_enter Try.func7, Try.ntmps7
  go_wp2_with (first
    | (go_at_call 17; refine (HRk.out _ _ ((HG.out w).later (alloc_low _ _))).mono ?_; rintro e w1 ⟨rfl, hb⟩; have hv := (Vr.new (w.alloc (.cells #[.int .u8 1, .int .u8 0, .int .u8 0, .int .u8 1, .int .u8 1, .int .u8 1, .int .u8 2, .int .u8 2, .int .u8 0, .int .u8 0] 5)) (.int .i64 5) (.int .i64 2) (.slice (some ⟨w.heap.size, 0, none⟩) 10 10)).later hb; rw [World.size_alloc] at hv; have c0 := hv.c0; have c1 := hv.c1; have c2 := hv.c2; have HM1 : Hid (Mt w1 (some ⟨w.heap.size, 0, none⟩) 10 10 f) := ((HG.out w).later (alloc_low _ _)).later hb; have HB1 : Hid (Below w.heap.size w w1) := two_below (two_below (alloc_low _ _) (alloc_low _ _)) hb; clear hb hv)
    | (go_at_call 9; refine (HCi.out _ _ HM1.out).mono ?_; rintro e w2 ⟨rfl, hb⟩; have HB2 : Hid (Below w.heap.size w w2) := two_below HB1.out hb; clear hb))
  go_ret
  exact ⟨rfl, HB2.out⟩
end Go.Proofs.Ytflflmdlhmhkdab

namespace Go.Proofs.Ytflflmdlhmhkdab
open Go.RowKit
set_option maxRecDepth 20000 in
set_option maxHeartbeats 1000000 in
theorem right7_no (w : World) (r c E : Int) (n k s : Nat) (a : Option Addr) (hs6 : s < 18446744073709551616) (h : BadE r c n s E) :
    Calls Try.prog 6 #[mv r c a n k, .int .u64 (s : Int)] w fun e w' => e = .returned (.bool false) ∧ Below w.heap.size w w' := by
  have HC : Hid (∀ w' : World, Calls Try.prog 21 #[mv r c a n k, .int .u64 (s : Int)] w' fun e w'' => e = .returned (.tuple #[.int .i64 0, .int .i64 E]) ∧ Below w'.heap.size w' w'') := fun w' => rRank_bad w' r c E n k s a hs6 h
  have hE := h.ne
  clear h hs6
  go_enter Try.func6, Try.ntmps6
  go_wp2_with (go_at_call 21; refine (HC.out _).mono ?_; rintro e w1 ⟨rfl, hb⟩; have HB1 : Hid (Below w.heap.size w w1) := two_below (alloc_low _ _) hb; clear hb)
  go_ret
  exact ⟨rfl, HB1.out⟩
set_option maxRecDepth 20000 in
set_option maxHeartbeats 1000000 in
theorem right7_yes (w : World) (r c n k s : Nat) (a : Option Addr) (F : Nat → Nat) (ha : Mt w a n k F) (R : Rt r c n) (hs : s < 2 ^ r) :
    Calls Try.prog 6 #[mv r c a n k, .int .u64 (s : Int)] w fun e w' => e = .returned (.bool true) ∧ Below w.heap.size w w' := by
  have HC : Hid (∀ w' : World, Below w.heap.size w w' → Calls Try.prog 21 #[mv r c a n k, .int .u64 (s : Int)] w' fun e w'' => ∃ t : Nat, e = .returned (.tuple #[.int .i64 (t : Int), .int .i64 0]) ∧ RS (m2 F r c) r s t ∧ Below w'.heap.size w' w'') := fun w' hb => rRank_ok w' r c n k s a F (ha.sl.later hb) R hs
  clear ha R hs
  go_enter Try.func6, Try.ntmps6
  go_wp2_with (go_at_call 21; refine (HC.out _ (alloc_low _ _)).mono ?_; rintro e w1 ⟨t, rfl, _, hb⟩; have HB1 : Hid (Below w.heap.size w w1) := two_below (alloc_low _ _) hb; clear hb)
  go_ret
  exact ⟨rfl, HB1.out⟩
theorem BadE.two {r c E : Int} {n s : Nat} (h : BadE r c n s E) : E = 3 ∨ E = 2 := h.elim (fun h => .inl h.2) (fun h => .inr h.2.2)
/-- The rank as a number. -/
theorem rank_num {w : World} {r c n k s t : Nat} {a : Option Addr} {F : Nat → Nat} (ha : Mt w a n k F) (R : Rt r c n) (hs : s < 2 ^ r) (ht : RS (m2 F r c) r s t) :
    ∀ w' : World, Below w.heap.size w w' → Calls Try.prog 17 #[mv r c a n k, .int .u64 (s : Int)] w' fun e w'' => e = .returned (.tuple #[.int .i64 (t : Int), .int .i64 0]) ∧ Below w'.heap.size w' w'' := fun w' hb =>
  (tRank_ok w' r c n k s a F (ha.later hb) R hs).mono (fun e w'' h => by
    obtain ⟨t', he, ht', hbb⟩ := h
    rw [ht'.one (m2_el ha.sl.1 R) ht] at he
    exact ⟨he, hbb⟩)
theorem list_num {r s : Nat} (hr : r ≤ 64) (hs : s < 2 ^ r) : ∀ w' : World, Calls Try.prog 13 #[.int .u64 (s : Int)] w' fun e w'' => ∃ x d, e = .returned (.slice x (cn s r) d) ∧ Below w'.heap.size w' w'' := fun w' =>
  (rlist_ok s w' (lt_64 hr hs)).mono (fun e w'' h => by
    obtain ⟨v, he, ho, hb⟩ := h
    rw [cn_all hr hs] at ho
    obtain ⟨x, d, rfl, _⟩ := ho.form
    exact ⟨x, d, he, hb⟩)
theorem diff_lt {s t r : Nat} (hs : s < 2 ^ r) : s &&& (18446744073709551615 - t) < 2 ^ r := Nat.lt_of_le_of_lt Nat.and_le_left hs
theorem and_lt7 {s t r : Nat} (hs : s < 2 ^ r) : s &&& t < 2 ^ r := Nat.lt_of_le_of_lt Nat.and_le_left hs
theorem bad_other {r c : Int} {n s t : Nat} {E : Int} (_h : BadE r c n s E) : (∃ E', BadE r c n t E') ∨ ∃ r' c' : Nat, r = r' ∧ c = c' ∧ Rt r' c' n ∧ t < 2 ^ r' := bad_or r c n t
/-- Some answer of Rank. -/
theorem rank_some (w : World) (r c : Int) (n k s : Nat) (a : Option Addr) (F : Nat → Nat) (ha : Mt w a n k F) (hs6 : s < 18446744073709551616) : ∃ (u v : Int), ∀ w' : World, Below w.heap.size w w' → Calls Try.prog 17 #[mv r c a n k, .int .u64 (s : Int)] w' fun e w'' => e = .returned (.tuple #[.int .i64 u, .int .i64 v]) ∧ Below w'.heap.size w' w'' := by
  obtain ⟨u, v, h, _⟩ := rank_pair w r c n k s a F ha hs6
  exact ⟨u, v, h⟩
end Go.Proofs.Ytflflmdlhmhkdab

namespace Go.Proofs.Ytflflmdlhmhkdab
open Go.RowKit
theorem span_num {w : World} {r c n k s p : Nat} {a : Option Addr} {F : Nat → Nat} (ha : Mt w a n k F) (R : Rt r c n) (hs : s < 2 ^ r) (hp : SpS (m2 F r c) r s p) :
    ∀ w' : World, Below w.heap.size w w' → Calls Try.prog 15 #[mv r c a n k, .int .u64 (s : Int)] w' fun e w'' => e = .returned (.tuple #[.int .u64 (p : Int), .int .i64 0]) ∧ Below w'.heap.size w' w'' := fun w' hb =>
  (tSpan_ok w' r c n k s a F (ha.later hb) R hs).mono (fun e w'' h => by
    obtain ⟨t', he, ht', hbb⟩ := h
    rw [ht'.one hp] at he
    exact ⟨he, hbb⟩)
theorem base_num {w : World} {r c n k s p : Nat} {a : Option Addr} {F : Nat → Nat} (ha : Mt w a n k F) (R : Rt r c n) (hs : s < 2 ^ r) (hp : BaS (m2 F r c) r s p) :
    ∀ w' : World, Below w.heap.size w w' → Calls Try.prog 18 #[mv r c a n k, .int .u64 (s : Int)] w' fun e w'' => e = .returned (.tuple #[.int .u64 (p : Int), .int .i64 0]) ∧ Below w'.heap.size w' w'' := fun w' hb =>
  (tBase_ok w' r c n k s a F (ha.later hb) R hs).mono (fun e w'' h => by
    obtain ⟨t', he, ht', hbb⟩ := h
    rw [ht'.one hp] at he
    exact ⟨he, hbb⟩)
theorem need_num {w : World} {r c n k s p : Nat} {a : Option Addr} {F : Nat → Nat} (ha : Mt w a n k F) (R : Rt r c n) (hs : s < 2 ^ r) (hp : NeS (m2 F r c) r s p) :
    ∀ w' : World, Below w.heap.size w w' → Calls Try.prog 14 #[mv r c a n k, .int .u64 (s : Int)] w' fun e w'' => e = .returned (.tuple #[.int .u64 (p : Int), .int .i64 0]) ∧ Below w'.heap.size w' w'' := fun w' hb =>
  (tNeed_ok w' r c n k s a F (ha.later hb) R hs).mono (fun e w'' h => by
    obtain ⟨t', he, ht', hbb⟩ := h
    rw [ht'.one hp] at he
    exact ⟨he, hbb⟩)
theorem free_num {w : World} {r c n k s : Nat} {a : Option Addr} {F : Nat → Nat} {b : Bool} (ha : Mt w a n k F) (R : Rt r c n) (hs : s < 2 ^ r) (hb0 : b = true ↔ FreeS (m2 F r c) r s) :
    ∀ w' : World, Below w.heap.size w w' → Calls Try.prog 12 #[mv r c a n k, .int .u64 (s : Int)] w' fun e w'' => e = .returned (.tuple #[.bool b, .int .i64 0]) ∧ Below w'.heap.size w' w'' := fun w' hb =>
  (tFree_ok w' r c n k s a F (ha.later hb) R hs).mono (fun e w'' h => by
    obtain ⟨t', he, ht', hbb⟩ := h
    rw [bool_same ht' hb0] at he
    exact ⟨he, hbb⟩)
theorem in_other {s t r : Nat} (hr : r ≤ 64) (hs : s < 2 ^ r) (ht : t < 2 ^ r) (h : ∀ i, i < r → bt s i = 1 → bt t i = 1) : bits .andNot .u64 (s : Int) (t : Int) = 0 := by
  have hs6 := lt_64 hr hs
  have ht6 := lt_64 hr ht
  rw [u64_andNot_nat s t hs6 ht6]
  have e : s &&& (18446744073709551615 - t) = 0 := by
    apply bt_ext
    intro i
    rw [bt_diff hs6 ht6]
    constructor
    · rintro ⟨h1, h2⟩
      by_cases hi : i < r
      · exact absurd (h i hi h1) h2
      · rw [bt_big hs (by omega)] at h1; omega
    · intro h1; exact absurd h1 (bt0 i)
  rw [e]
  rfl
end Go.Proofs.Ytflflmdlhmhkdab
