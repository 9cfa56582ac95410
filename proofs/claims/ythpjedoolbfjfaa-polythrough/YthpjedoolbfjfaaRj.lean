/-
  Contract of the polynomials' reference: Interpolate, of unlike points.
-/
import Derived.Test.YthpjedoolbfjfaaRi
namespace Go.Proofs.Ythpjedoolbfjfaa
open Go.RowKit
/-- A trimmed list: the polynomial F. -/
structure Tr (w : World) (s : Option Addr) (T k : Nat) (F : Nat → Nat) : Prop where
  lk : Lk w s T k F
  len : tlen F 512 = T
  above : Above 512 F
theorem Tr.later {w w' : World} {s : Option Addr} {T k : Nat} {F : Nat → Nat} (h : Tr w s T k F) (hb : Below w.heap.size w w') : Tr w' s T k F := ⟨h.lk.later hb, h.len, h.above⟩
theorem Tr.zx {w : World} {s : Option Addr} {T k : Nat} {F : Nat → Nat} (h : Tr w s T k F) (i : Nat) : zx F T i = F i := by
  rw [← h.len, zx_tlen, zx_self h.above]
theorem Tr.idem {w : World} {s : Option Addr} {T k : Nat} {F : Nat → Nat} (h : Tr w s T k F) : tlen F T = T := by rw [← h.len, tlen_idem]
theorem Tr.le {w : World} {s : Option Addr} {T k : Nat} {F : Nat → Nat} (h : Tr w s T k F) : T ≤ 512 := by rw [← h.len]; exact tlen_le _ _
theorem mul_tr (w : World) (a b : Option Addr) (n m c d : Nat) (f h F : Nat → Nat) (ha : Tr w a n c f) (hb : Lk w b m d h) (hm : Above m h) (hs : n + m ≤ 513) (hm2 : m ≤ 512) (HF : Hid (∀ i, pm f h i = F i)) :
    Calls Try.prog 18 #[.slice a n c, .slice b m d] w fun e w' => ∃ s T k, e = .returned (.tuple #[.slice s T k, .int .i64 0]) ∧ Tr w' s T k F ∧ Below w.heap.size w w' := by
  have hle := tlen_le h m
  have han := ha.le
  have hF : ∀ i, pm (zx f n) (zx h m) i = F i := fun i => by rw [← HF.out i]; exact pm_congr ha.zx (zx_self hm) i
  have ab : Above (n + tlen h m) F := fun i hi => by
    rw [← hF i]
    refine pm_above (zx_above f n) (m := tlen h m) (fun j hj => ?_) i (by omega)
    rw [← zx_tlen]; exact zx_above h _ j hj
  refine (rpmul_at w a b n m c d n (tlen h m) (tlen F (n + tlen h m)) f h F ha.lk hb ha.idem rfl han (by omega) (.inr (.inr (by omega))) rfl hF).mono fun e w' ⟨s, k, he, hl, hbl, _⟩ => ?_
  by_cases h512 : n + tlen h m ≤ 512
  · exact ⟨s, _, k, he, ⟨hl, tlen_ext ab h512, ab.mono h512⟩, hbl⟩
  · -- the product of the highest ones stands at n + m - 2
    have a2 : Above 512 F := fun i hi => by
      rw [← hF i]
      refine pm_above (zx_above f n) (m := tlen h m) (fun j hj => ?_) i (by omega)
      rw [← zx_tlen]; exact zx_above h _ j hj
    exact ⟨s, _, k, he, ⟨hl, (tlen_ext a2 (by omega)).symm, a2⟩, hbl⟩
theorem add_tr (w : World) (a b : Option Addr) (n m c d : Nat) (f h F : Nat → Nat) (ha : Tr w a n c f) (hb : Tr w b m d h) (HF : Hid (∀ i, pa f h i = F i)) :
    Calls Try.prog 16 #[.slice a n c, .slice b m d] w fun e w' => ∃ s T k, e = .returned (.tuple #[.slice s T k, .int .i64 0]) ∧ Tr w' s T k F ∧ Below w.heap.size w w' := by
  have e : pa (zx f n) (zx h m) = F := funext fun i => by
    rw [← HF.out i]
    show Go.Proofs.Ythpjedoolbfjfaa.zx f n i ^^^ Go.Proofs.Ythpjedoolbfjfaa.zx h m i = f i ^^^ h i
    rw [ha.zx, hb.zx]
  have := radd_any w a b n m c d f h ha.lk hb.lk (by rw [ha.idem]; exact ha.le) (by rw [hb.idem]; exact hb.le)
  rw [e] at this
  refine this.mono fun _ w' ⟨s, k, he, hl, hbl, _⟩ => ⟨s, _, k, he, ⟨hl, rfl, fun i hi => ?_⟩, hbl⟩
  rw [← HF.out i]
  show f i ^^^ h i = 0
  rw [ha.above i hi, hb.above i hi]; rfl
theorem tr_nil (w : World) : Tr w none 0 0 (fun _ => 0) := ⟨Lk.nil w _, tlen_ext (n := 0) (fun _ _ => rfl) (by omega), fun _ _ => rfl⟩
theorem tr_uno (w : World) : Tr (w.alloc (.cells #[.int .u8 1] 5)) (some ⟨w.heap.size, 0, none⟩) 1 1 uno :=
  ⟨lit1_lk w 1 uno (by decide) rfl, (tlen_ext (n := 1) (fun i hi => if_neg (by omega)) (by omega)).trans (tlen_of_top uno 0 (by decide)), fun i hi => if_neg (by omega)⟩
theorem tr_short {w : World} {s : Option Addr} {T k N : Nat} {F : Nat → Nat} (h : Tr w s T k F) (hN : Above N F) (h2 : N ≤ 512) : T ≤ N := by
  rw [← h.len, tlen_ext hN h2]; exact tlen_le _ _
theorem tm_skip (f : Nat → Nat) (q : Nat) : tm f q (q + 1) = tm f q q := by simp only [tm]; rw [if_pos trivial]
theorem tm_step (f : Nat → Nat) (q j : Nat) (h : j ≠ q) : tm f q (j + 1) = pm (tm f q j) (lf (fm (f j) (finv (f q ^^^ f j))) (finv (f q ^^^ f j))) := by simp only [tm]; rw [if_neg h]
set_option maxRecDepth 20000 in
set_option maxHeartbeats 4000000 in
theorem rinter_any (w : World) (a b : Option Addr) (n c d : Nat) (f h : Nat → Nat) (ha : Lk w a n c f) (hb : Lk w b n d h) (hi : Inj f n) (zs : Array Value) (HZ : Hid (zs = brow 256 fun _ => false)) :
    Calls Try.prog 28 #[.slice a n c, .slice b n d] w fun e w' => ∃ s T k, e = .returned (.tuple #[.slice s T k, .int .i64 0]) ∧ Tr w' s T k (lg_sum f h n n) ∧ Below w.heap.size w w' := by
  have z : ∀ w, Sem.run Try.prog (zeroValue 54) w = .ok (.agg zs) w := by rw [HZ.out]; exact zero46
  have HA : Hid (Lk w a n c f) := ha
  have HB : Hid (Lk w b n d h) := hb
  have h256 : n ≤ 256 := pigeon 256 n f ha.1.1 hi
  have HNI : Hid (Inj f n) := hi
  have HF : Hid (∀ i, i < n → f i < 256) := ha.1.1
  have HH : Hid (∀ i, i < n → h i < 256) := hb.1.1
  clear ha hb hi
  go_enter Try.func28, Try.ntmps28
  go_wp2
  clear z
  go_loopw [7] (fun i wr => ∃ k : Nat, k ≤ n ∧ i = .int .i64 (k : Int) ∧ BAt wr w.heap.size 54 256 (seenB f k) ∧ Below w.heap.size w wr) (fun i _ => n - (intOf i).toNat)
  case atStart =>
    refine ⟨0, by omega, rfl, ?_, alloc_below _ _⟩
    unfold BAt
    rw [new_at, HZ.out]
    rfl
  case round =>
    obtain ⟨k, hk, rfl, hs, hbr⟩ := hrel
    by_cases hlt : k < n
    · obtain ⟨ba, oa, ea, hca⟩ := (HA.out.1.later hbr).2 k hlt
      obtain ⟨x, HX⟩ : ∃ x, Hid (f k = x) := ⟨_, rfl⟩
      rw [HX.out] at hca
      have hx : x < 256 := by rw [← HX.out]; exact HF.out k hlt
      have hc := hs.cell x hx
      have hf := hs.free x
      have hb : seenB f k x = false := by
        cases e : seenB f k x with
        | false => rfl
        | true => rw [← HX.out] at e; exact absurd HNI.out (not_inj hlt e)
      subst ea
      rw [hb] at hc
      have R : Hid (BAt (wr.setCell ⟨w.heap.size, x, none⟩ (.bool true)) w.heap.size 54 256 (seenB f (k + 1)) ∧ Below w.heap.size w (wr.setCell ⟨w.heap.size, x, none⟩ (.bool true))) := by
        refine ⟨?_, hbr.setCell (Nat.le_refl _) _⟩
        have := hs.set x true
        unfold BAt at *
        rw [this]
        congr 3
        funext j
        simp only [seenB, HX.out]
        by_cases e : j = x
        · subst e; simp
        · simp [e, Ne.symm e]
      clear hs hbr hb
      go_wp2
      exact ⟨⟨k + 1, by omega, by go_num, R.out.1, R.out.2⟩, by simp [intOf]; omega⟩
    · obtain rfl : k = n := by omega
      have HW1 : Hid (Below w.heap.size w wr) := hbr
      clear hs hbr
      go_wp2
      go_loopw [8, 9] (fun v i wo => ∃ q s T kk, q ≤ k ∧ i = .int .i64 (q : Int) ∧ v = .slice s T kk ∧ Tr wo s T kk (lg_sum f h k q) ∧ Below w.heap.size w wo) (fun _ i _ => k - (intOf i).toNat)
      case atStart => exact ⟨0, _, _, _, by omega, rfl, rfl, tr_nil _, HW1.out⟩
      case round =>
        clear HW1
        obtain ⟨q, s, T, kk, hq, rfl, rfl, htr, hbo⟩ := hrel
        by_cases hlq : q < k
        · have HT : Hid (Tr wr s T kk (lg_sum f h k q)) := htr
          have HBo : Hid (Below w.heap.size w wr) := hbo
          obtain ⟨xq, HXQ⟩ : ∃ x, Hid (f q = x) := ⟨_, rfl⟩
          have hxq : xq < 256 := by rw [← HXQ.out]; exact HF.out q hlq
          clear htr hbo
          go_wp2
          go_loopw [10, 11] (fun v i wi => ∃ j s10 T10 k10, j ≤ k ∧ i = .int .i64 (j : Int) ∧ v = .slice s10 T10 k10 ∧ Tr wi s10 T10 k10 (tm f q j) ∧ Tr wi s T kk (lg_sum f h k q) ∧ Below w.heap.size w wi) (fun _ i _ => k - (intOf i).toNat)
          case atStart => exact ⟨0, _, _, _, by omega, rfl, rfl, tr_uno _, HT.out.later (alloc_below _ _), two_below HBo.out (alloc_below _ _)⟩
          case round =>
            clear HT HBo
            obtain ⟨j, s10, T10, k10, hj, rfl, rfl, ht10, ht8, hbi⟩ := hrel
            by_cases hlj : j < k
            · by_cases ejq : j = q
              · subst ejq
                have t : ((j : Int) != (j : Int)) = false := by simp
                have H8 : Hid (Tr wr s T kk (lg_sum f h k j)) := ht8
                have H10 : Hid (Tr wr s10 T10 k10 (tm f j j)) := ht10
                have HBi : Hid (Below w.heap.size w wr) := hbi
                clear ht8 ht10 hbi
                go_wp2
                exact ⟨⟨j + 1, s10, T10, k10, by omega, by go_num, rfl, by rw [tm_skip]; exact H10.out, H8.out, HBi.out⟩, by simp [intOf]; omega⟩
              · have t : ((j : Int) != (q : Int)) = true := by simp; omega
                obtain ⟨ba, oa, ea, hcj⟩ := (HA.out.1.later hbi).2 j hlj
                obtain ⟨ba', oa', ea', hcq⟩ := (HA.out.1.later hbi).2 q hlq
                rw [ea] at ea'
                cases ea'
                obtain ⟨xj, HXJ⟩ : ∃ x, Hid (f j = x) := ⟨_, rfl⟩
                have hxj : xj < 256 := by rw [← HXJ.out]; exact HF.out j hlj
                rw [HXJ.out] at hcj
                rw [HXQ.out] at hcq
                obtain ⟨zz, HZZ⟩ : ∃ x, Hid (xq ^^^ xj = x) := ⟨_, rfl⟩
                have hzz : zz < 256 := by rw [← HZZ.out]; exact xor_lt _ _ hxq hxj
                have hz0 : zz ≠ 0 := fun e => by
                  rw [← HZZ.out] at e
                  have e2 := (xor_eq_zero_iff _ _).mp e
                  rw [← HXQ.out, ← HXJ.out] at e2
                  exact ejq (HNI.out j q hlj hlq e2.symm)
                have hxo : bits .xor .u8 (xq : Int) (xj : Int) = (zz : Int) := by rw [u8_xor_nat xq xj hxq hxj, HZZ.out]
                obtain ⟨dv, HDV⟩ : ∃ x, Hid (finv zz = x) := ⟨_, rfl⟩
                have hdv : dv < 256 := by rw [← HDV.out]; exact finv_lt zz
                have HInv : Hid (∀ w, Calls Try.prog 41 #[.int .u8 (zz : Int)] w fun e w' => e = .returned (.tuple #[.int .u8 (dv : Int), .int .i64 0]) ∧ w' = w) := by
                  intro w
                  have := rinv_any zz w hzz
                  rw [HDV.out, show ive zz = 0 from if_neg hz0] at this
                  exact this
                obtain ⟨m1, HM1⟩ : ∃ x, Hid (fm xj dv = x) := ⟨_, rfl⟩
                have hm1 : m1 < 256 := by rw [← HM1.out]; exact fm_lt _ _ hxj
                have HMul : Hid (∀ w, Calls Try.prog 35 #[.int .u8 (xj : Int), .int .u8 (dv : Int)] w fun e w' => e = .returned (.int .u8 (m1 : Int)) ∧ w = w') := by rw [← HM1.out]; exact fun w => rmul_at xj dv w hxj hdv
                have HQ : Hid (∀ w : World, Lk (w.alloc (.cells #[.int .u8 (m1 : Int), .int .u8 (dv : Int)] 5)) (some ⟨w.heap.size, 0, none⟩) 2 2 (lf m1 dv)) := fun w => lit2_lk w m1 dv (lf m1 dv) hm1 hdv rfl rfl
                have HFp : Hid (∀ i, pm (tm f q j) (lf m1 dv) i = tm f q (j + 1) i) := fun i => by
                  rw [tm_step f q j ejq, HXQ.out, HXJ.out, HZZ.out, HDV.out, HM1.out]
                have tsh : T10 ≤ 257 := by have := tr_short ht10 (tm_above f q j) (by have := tn_le q j; omega); have := tn_le q j; omega
                have H8 : Hid (Tr wr s T kk (lg_sum f h k q)) := ht8
                have H10 : Hid (Tr wr s10 T10 k10 (tm f q j)) := ht10
                have HBi : Hid (Below w.heap.size w wr) := hbi
                clear ht8 ht10 hbi hz0
                subst ea
                go_wp2
                go_quiet ((go_at_call 41; exact Calls.quiet_of_same (HInv.out _)))
                go_wp2_with (first
                  | (go_at_call 35; refine (HMul.out _).mono ?_; rintro e w' ⟨rfl, rfl⟩)
                  | (go_at_call 18; refine (mul_tr _ _ _ _ _ _ _ _ _ (tm f q (j + 1)) (H10.out.later (by first | exact below_drewN (alloc_below _ _) _ | exact alloc_below _ _)) (Lk.later (HQ.out wr) (by first | exact below_drewN (Below.refl _ _) _ | exact Below.refl _ _)) (lf_above _ _) (by omega) (by omega) HFp).mono ?_; rintro e w6 ⟨s6, T6, k6, rfl, hs6, hb6⟩))
                have hb0 : Below wr.heap.size wr w6 := two_below ((below_drewN (Below.refl _ _) nq).alloc (Nat.le_refl _) _) hb6
                exact ⟨⟨j + 1, s6, T6, k6, by omega, by go_num, rfl, hs6, H8.out.later hb0, two_below HBi.out hb0⟩, by simp [intOf]; omega⟩
            · obtain rfl : j = k := by omega
              obtain ⟨bb, ob, eb, hcy⟩ := (HB.out.1.later hbi).2 q hlq
              obtain ⟨y, HY⟩ : ∃ x, Hid (h q = x) := ⟨_, rfl⟩
              have hy : y < 256 := by rw [← HY.out]; exact HH.out q hlq
              rw [HY.out] at hcy
              have HQ : Hid (Lk (wr.alloc (.cells #[.int .u8 (y : Int)] 5)) (some ⟨wr.heap.size, 0, none⟩) 1 1 (kc y)) := lit1_lk wr y (kc y) hy rfl
              have tsh : T10 ≤ 257 := by have := tr_short ht10 (tm_above f q j) (by have := tn_le q j; omega); have := tn_le q j; omega
              have HG : Hid (∀ i, pa (lg_sum f h j q) (pm (tm f q j) (kc y)) i = lg_sum f h j (q + 1) i) := fun i => by rw [← HY.out]; rfl
              have H8 : Hid (Tr wr s T kk (lg_sum f h j q)) := ht8
              have H10 : Hid (Tr wr s10 T10 k10 (tm f q j)) := ht10
              have HBi : Hid (Below w.heap.size w wr) := hbi
              clear ht8 ht10 hbi
              subst eb
              go_wp2_with (first
                | (go_at_call 18; refine (mul_tr _ _ _ _ _ _ _ _ _ (pm (tm f q j) (kc y)) (H10.out.later (alloc_below _ _)) HQ.out (kc_above _) (by omega) (by omega) (fun _ => rfl)).mono ?_; rintro e w6 ⟨s6, T6, k6, rfl, hs6, hb6⟩; have hb0 : Hid (Below wr.heap.size wr w6) := two_below (alloc_below _ _) hb6)
                | (go_at_call 16; refine (add_tr _ _ _ _ _ _ _ _ _ (lg_sum f h j (q + 1)) (H8.out.later hb0.out) hs6 HG).mono ?_; rintro e w7 ⟨s7, T7, k7, rfl, hs7, hb7⟩))
              exact ⟨⟨q + 1, s7, T7, k7, by omega, by go_num, rfl, hs7, two_below HBi.out (two_below hb0.out hb7)⟩, by simp [intOf]; omega⟩
        · obtain rfl : q = k := by omega
          go_wp2
          go_ret2
          exact ⟨s, T, kk, rfl, htr, hbo⟩
end Go.Proofs.Ythpjedoolbfjfaa
