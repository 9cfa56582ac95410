/-
  Contracts of the program's polynomials: monic, GCD.
-/
import Derived.Test.YthpjedoolbfjfabQh
import Derived.WalkMore
namespace Go.Proofs.Ythpjedoolbfjfab
open Go.RowKit
set_option maxHeartbeats 400000 in
theorem monic_any (w : World) (s : Option Addr) (t k : Nat) (F : Nat → Nat) (hs : Lk w s t k F) (ht : tlen F t = t) :
    Calls Try.prog 33 #[.slice s t k] w fun e w' => ∃ s' k', e = .returned (.slice s' t k') ∧ Ow w' w.heap.size s' t k' (fun i => fm (finv (F (t - 1))) (F i)) ∧ Below w.heap.size w w' := by
  have HS : Hid (Sl w s t F) := hs.1
  have hn := hs.2.2.2
  cases t with
  | zero =>
    clear hs ht
    go_enter Try.func33, Try.ntmps33
    go_wp2
    go_ret
    exact ⟨none, 0, rfl, Ow.nil _ _ _, Below.refl _ _⟩
  | succ v =>
    obtain ⟨b, o, ea, hc⟩ := hs.1.2 v (by omega)
    obtain ⟨y, HY⟩ : ∃ y, Hid (F v = y) := ⟨_, rfl⟩
    have hy : y < 256 := by rw [← HY.out]; exact hs.1.1 v (by omega)
    have hy0 : y ≠ 0 := by
      have := tlen_top F (v + 1) (by rw [ht]; omega)
      rw [ht] at this
      rw [← HY.out]; exact this
    obtain ⟨iy, HIY⟩ : ∃ iy, Hid (finv y = iy) := ⟨_, rfl⟩
    have hiy : iy < 256 := by rw [← HIY.out]; exact finv_lt y
    have HInv : Hid (∀ w, Calls Try.prog 39 #[.int .u8 (y : Int)] w fun e w' => e = .returned (.tuple #[.int .u8 (iy : Int), .int .i64 0]) ∧ Below w.heap.size w w') := by
      intro w
      have := inv_any y w hy
      rw [HIY.out, show ive y = 0 from if_neg hy0] at this
      exact this
    have g1 : ((v : Int) + 1 == 0) = false := by simp; omega
    rw [show v + 1 - 1 = v by omega, HY.out, HIY.out]
    rw [HY.out] at hc
    clear hs ht hy0
    subst ea
    go_enter Try.func33, Try.ntmps33
    go_wp2_with (first
      | (go_at_call 39; refine (HInv.out _).mono ?_; rintro e w1 ⟨rfl, hb1⟩; have HB1 : Hid (Below w.heap.size w w1) := hb1; clear hb1)
      | (go_at_call 41; refine (scale_any _ _ _ _ _ F hiy (HS.out.later HB1.out) hn).mono ?_; rintro e w2 ⟨rfl, hr2, hb2⟩; have HR2 : Hid (RowAt w2 w1.heap.size 5 (v + 1) (fun i => fm iy (F i))) := hr2; have HB2 : Hid (Below w1.heap.size w1 w2) := hb2; clear hr2 hb2))
    go_ret
    exact ⟨_, _, rfl, HR2.out.ow HB1.out.size hn, two_below HB1.out HB2.out⟩
/-- What the loops of Euclid's remainders keep: rest and divisor. -/
structure GInv (w wr : World) (vp vq : Value) (P Q F G : Nat → Nat) (tp kp tq kq gp gq : Nat) : Prop where
  vp : vp = .slice (some ⟨gp, 0, none⟩) tp kp
  vq : vq = .slice (some ⟨gq, 0, none⟩) tq kq
  op : Ow wr w.heap.size (some ⟨gp, 0, none⟩) tp kp F
  oq : Ow wr w.heap.size (some ⟨gq, 0, none⟩) tq kq G
  ne : gp ≠ gq
  fp : ∀ i, i < tp → F i < 256
  fq : ∀ i, i < tq → G i < 256
  ip : tlen F tp = tp
  iq : tlen G tq = tq
  bp : tp ≤ 512
  bq : tq ≤ 512
  below : Below w.heap.size w wr
  inv : ∀ d, El d → ((Dv d P ∧ Dv d Q) ↔ (Dv d (zx F tp) ∧ Dv d (zx G tq)))
theorem GInv.gcd {w wr : World} {vp vq : Value} {P Q F G : Nat → Nat} {tp kp tq kq gp gq : Nat} (I : GInv w wr vp vq P Q F G tp kp tq kq gp gq) : GcdInv w wr vp vq P Q F G tp kp tq kq (some ⟨gp, 0, none⟩) (some ⟨gq, 0, none⟩) :=
  ⟨I.vp, I.vq, I.op.lk I.fp (by have := I.bp; omega), I.oq.lk I.fq (by have := I.bq; omega), I.ip, I.iq, I.bp, I.bq, I.below, I.inv⟩
theorem GInv.later {w wr w' : World} {vp vq : Value} {P Q F G : Nat → Nat} {tp kp tq kq gp gq : Nat} (I : GInv w wr vp vq P Q F G tp kp tq kq gp gq) (hb : Below wr.heap.size wr w') : GInv w w' vp vq P Q F G tp kp tq kq gp gq :=
  ⟨I.vp, I.vq, I.op.later hb, I.oq.later hb, I.ne, I.fp, I.fq, I.ip, I.iq, I.bp, I.bq, two_below I.below hb, I.inv⟩
theorem GInv.swap {w wr : World} {vp vq : Value} {P Q F G : Nat → Nat} {tp kp tq kq gp gq : Nat} (I : GInv w wr vp vq P Q F G tp kp tq kq gp gq) : GInv w wr vq vp P Q G F tq kq tp kp gq gp :=
  ⟨I.vq, I.vp, I.oq, I.op, Ne.symm I.ne, I.fq, I.fp, I.iq, I.ip, I.bq, I.bp, I.below, fun d hd => (I.inv d hd).trans And.comm⟩
theorem ginv_step {w wr w7 : World} {vp vq : Value} {P Q F G : Nat → Nat} {kp kq gp gq u dd z r7 : Nat} (I : GInv w wr vp vq P Q F G (u + dd + 1) kp (u + 1) kq gp gq) (ho : Ow w7 w.heap.size (some ⟨gp, 0, none⟩) (u + dd + 1) kp (rs F G z dd (u + 1))) (hg : wr.grownBy w7 (some gp)) (hz : z = fm (F (u + dd)) (finv (G u))) (hr : tlen (rs F G z dd (u + 1)) (u + dd + 1) = r7) :
    GInv w w7 (.slice (some ⟨gp, 0, none⟩) r7 kp) vq P Q (rs F G z dd (u + 1)) G r7 kp (u + 1) kq gp gq ∧ r7 < u + dd + 1 := by
  have hR := I.fp (u + dd) (by omega)
  have hG := I.fq u (by omega)
  have hG0 : G u ≠ 0 := by
    have := tlen_top G (u + 1) (by rw [I.iq]; omega)
    rw [I.iq] at this
    exact this
  have hzl : z < 256 := by rw [hz]; exact fm_lt _ _ hR
  have tg : rs F G z dd (u + 1) (u + dd + 1 - 1) = 0 := by
    have := top_gone (R := F) (h := G) (d := dd) (t := u + 1) (by omega) (by rw [show dd + (u + 1) - 1 = u + dd by omega]; exact hR) (by simpa using hG) (by simpa using hG0)
    rw [show dd + (u + 1) - 1 = u + dd by omega, show u + 1 - 1 = u by omega, ← hz] at this
    exact this
  have lt7 : r7 < u + dd + 1 := by rw [← hr]; exact tlen_gone (by omega) tg
  have hgp : w.heap.size ≤ gp := (own_block ho).1
  have e : ∀ i, zx F (u + dd + 1) i = pa (pm (mn z dd) (zx G (u + 1))) (zx (rs F G z dd (u + 1)) r7) i := by
    intro i
    show _ = _ ^^^ zx (rs F G z dd (u + 1)) r7 i
    rw [← hr, zx_tlen, show u + dd + 1 = dd + (u + 1) by omega, rs_sum]
    show _ = pm (mn z dd) (zx G (u + 1)) i ^^^ (zx F (dd + (u + 1)) i ^^^ pm (mn z dd) (zx G (u + 1)) i)
    rw [Nat.xor_comm (zx F (dd + (u + 1)) i), ← Nat.xor_assoc, Nat.xor_self, Nat.zero_xor]
  have b1 := I.bp
  refine ⟨⟨rfl, I.vq, ho.cut (by omega), own_kept I.oq hg (by simp [Value.ownBlock]; exact Ne.symm I.ne), I.ne, fun i hi => rs_lt I.fp hzl i (by omega), I.fq, by rw [← hr, tlen_idem], I.iq, by omega, I.bq, below_row I.below hg hgp, fun d hd => ?_⟩, lt7⟩
  exact (I.inv d hd).trans ((euclid hd (zx_el I.fq) (mn_po hzl) e).trans And.comm)
theorem ginv_begin {w w2 w3 : World} {f h : Nat → Nat} {n m t1 t2 g1 : Nat} (H1 : tlen f n = t1) (H2 : tlen h m = t2) (hf : ∀ i, i < n → f i < 256) (hh : ∀ i, i < m → h i < 256) (h1 : RowAt w2 g1 5 t1 f) (hg1 : w.heap.size ≤ g1) (h2 : RowAt w3 w2.heap.size 5 t2 h) (hb2 : Below w.heap.size w w2) (hb3 : Below w2.heap.size w2 w3) (l1 : t1 ≤ 512) (l2 : t2 ≤ 512) :
    GInv w w3 (.slice (some ⟨g1, 0, none⟩) t1 t1) (.slice (some ⟨w2.heap.size, 0, none⟩) t2 t2) (zx f n) (zx h m) f h t1 t1 t2 t2 g1 w2.heap.size :=
  ⟨rfl, rfl, (h1.later hb3).ow hg1 (by omega), h2.ow hb2.size (by omega), by have := h1.lt; omega, fun i hi => hf i (by have := tlen_le f n; omega), fun i hi => hh i (by have := tlen_le h m; omega), by rw [← H1, tlen_idem], by rw [← H2, tlen_idem], l1, l2, two_below hb2 hb3,
    fun d _ => by rw [show zx f t1 = zx f n from funext fun i => by rw [← H1, zx_tlen], show zx h t2 = zx h m from funext fun i => by rw [← H2, zx_tlen]]⟩
set_option maxRecDepth 20000 in
set_option maxHeartbeats 4000000 in
theorem pgcd_any (w : World) (a b : Option Addr) (n m c d t1 t2 : Nat) (f h : Nat → Nat) (ha : Lk w a n c f) (hb : Lk w b m d h) (H1 : Hid (tlen f n = t1)) (H2 : Hid (tlen h m = t2)) (hl1 : t1 ≤ 512) (hl2 : t2 ≤ 512) :
    Calls Try.prog 19 #[.slice a n c, .slice b m d] w fun e w' => ∃ D g s k, e = .returned (.tuple #[.slice s g k, .int .i64 0]) ∧ Ow w' w.heap.size s g k D ∧ (∀ i, i < g → D i < 256) ∧ GcdOk (zx f n) (zx h m) (zx D g) g ∧ g ≤ 512 ∧ Below w.heap.size w w' := by
  have t1n : t1 ≤ n := by rw [← H1.out]; exact tlen_le _ _
  have t2m : t2 ≤ m := by rw [← H2.out]; exact tlen_le _ _
  have HA : Hid (Lk w a n c f) := ha
  have HB : Hid (Lk w b m d h) := hb
  have HA1 : Hid (Lk w a t1 c f) := ha.cut t1n
  have HB1 : Hid (Lk w b t2 d h) := hb.cut t2m
  have I1 : Hid (tlen f t1 = t1) := by show _ = _; rw [← H1.out, tlen_idem]
  have I2 : Hid (tlen h t2 = t2) := by show _ = _; rw [← H2.out, tlen_idem]
  have HPf : Hid (∀ i, i < n → f i < 256) := ha.1.1
  have HPh : Hid (∀ i, i < m → h i < 256) := hb.1.1
  obtain ⟨P, HP⟩ : ∃ P, Hid (zx f n = P) := ⟨_, rfl⟩
  obtain ⟨Q, HQ⟩ : ∃ Q, Hid (zx h m = Q) := ⟨_, rfl⟩
  rw [HP.out, HQ.out]
  clear ha hb
  go_enter Try.func19, Try.ntmps19
  go_wp2
  go_step3
  go_wp2_with (first
    | (go_at_call 25; have _x := m1; refine (trimmed_any _ _ _ _ t2 h HB.out H2).mono ?_; rintro e w' ⟨rfl, rfl⟩)
    | (go_at_call 25; refine (trimmed_any _ _ _ _ t1 f HA.out H1).mono ?_; rintro e w' ⟨rfl, rfl⟩; have m1 := hl1)
    | (go_at_call 26; refine (toolong_no _ _ _ _ _ _ _ _ (lit_cell _ _ _ 0 _ rfl) (lit_cell _ _ _ 1 _ rfl) hl1 hl2).mono ?_; rintro e w' ⟨rfl, rfl⟩)
    | (go_at_call 15; have _x := HB2; refine (ptrim_any _ _ _ _ t2 h (HB1.out.later HB2.out) I2).mono ?_; rintro e w3 ⟨rfl, hr3, hb3⟩; have HR3 : Hid (RowAt w3 w2.heap.size 5 t2 h) := hr3; have HB3 : Hid (Below w2.heap.size w2 w3) := hb3; clear hr3 hb3)
    | (go_at_call 15; refine (ptrim_any _ _ _ _ t1 f (HA1.out.later (alloc_below _ _)) I1).mono ?_; rintro e w2 ⟨rfl, hr2, hb2⟩; have HR2 : Hid (RowAt w2 (w.heap.size + 1) 5 t1 f) := by { show RowAt _ _ _ _ _; have := hr2; simpa using this }; have HB2 : Hid (Below w.heap.size w w2) := two_below (alloc_below _ _) hb2; clear hr2 hb2))
  have HBeg : Hid (GInv w w3 (.slice (some ⟨w.heap.size + 1, 0, none⟩) t1 t1) (.slice (some ⟨w2.heap.size, 0, none⟩) t2 t2) P Q f h t1 t1 t2 t2 (w.heap.size + 1) w2.heap.size) := by
    rw [← HP.out, ← HQ.out]
    exact ginv_begin H1.out H2.out HPf.out HPh.out HR2.out (by omega) HR3.out HB2.out HB3.out hl1 hl2
  clear HR2 HB2 HR3 HB3
  go_step3
  go_wp2
  go_loopw [6, 7] (fun vp vq wr => ∃ F G tp kp tq kq gp gq, GInv w wr vp vq P Q F G tp kp tq kq gp gq) (fun _ vq _ => vlen vq)
  case atStart => exact ⟨_, _, _, _, _, _, _, _, HBeg.out⟩
  case round =>
    clear HBeg
    obtain ⟨F, G, tp, kp, tq, kq, gp, gq, I⟩ := hrel
    obtain rfl := I.vp
    obtain rfl := I.vq
    have hbp := I.bp
    have hbq := I.bq
    have HI : Hid (GInv w wr (.slice (some ⟨gp, 0, none⟩) tp kp) (.slice (some ⟨gq, 0, none⟩) tq kq) P Q F G tp kp tq kq gp gq) := I
    clear I
    by_cases h0 : tq = 0
    · subst h0
      have hd : decide ((0 : Int) < 0) = false := by decide
      have HL := HI.out.gcd.lp
      have HGE : Hid (GcdOk P Q (zx (fun i => fm (finv (F (tp - 1))) (F i)) tp) tp) := gcd_end HI.out.gcd
      go_wp2_with (go_at_call 33; refine (monic_any _ _ _ _ F HL HI.out.ip).mono ?_; rintro e w9 ⟨s9, k9, rfl, ho9, hb9⟩; have HO9 : Hid (Ow w9 wr.heap.size s9 tp k9 (fun i => fm (finv (F (tp - 1))) (F i))) := ho9; have HB9 : Hid (Below wr.heap.size wr w9) := hb9; clear ho9 hb9)
      try rw [Exit.noGoto_ret]
      go_ret2
      exact ⟨_, tp, s9, k9, rfl, own_mono HO9.out HI.out.below.size, fun i _ => fm_lt _ _ (finv_lt _), HGE.out, hbp, two_below HI.out.below HB9.out⟩
    · obtain ⟨u, rfl⟩ : ∃ u, tq = u + 1 := ⟨tq - 1, by omega⟩
      obtain ⟨y, HY⟩ : ∃ y, Hid (G u = y) := ⟨_, rfl⟩
      have hy0 : Hid (y ≠ 0) := by
        have := tlen_top G (u + 1) (by rw [HI.out.iq]; omega)
        rw [HI.out.iq] at this
        rw [← HY.out]; exact this
      obtain ⟨iy, HIY⟩ : ∃ iy, Hid (finv y = iy) := ⟨_, rfl⟩
      have hiy : iy < 256 := by rw [← HIY.out]; exact finv_lt y
      have gpl := (own_block HI.out.op).2
      have gql := (own_block HI.out.oq).2
      have HG : Hid (∀ i, i < u + 1 → G i < 256) := HI.out.fq
      have HSq : Hid (Sl wr (some ⟨gq, 0, none⟩) (u + 1) G) := HI.out.oq.sl HI.out.fq
      go_wp2_with (go_at_call 30; refine (stepby_any _ _ u _ y iy G HSq.out (by omega) HY hy0 HIY).mono ?_; rintro e w4 ⟨g1, g2, rfl, hk4, l1, l2, hb4⟩; have HK4 : Hid (Kept w4 g1 g2 (some ⟨gq, 0, none⟩) (u + 1) kq iy) := hk4; have HB4 : Hid (Below wr.heap.size wr w4) := hb4; clear hk4 hb4)
      have HI4 : Hid (GInv w w4 (.slice (some ⟨gp, 0, none⟩) tp kp) (.slice (some ⟨gq, 0, none⟩) (u + 1) kq) P Q F G tp kp (u + 1) kq gp gq) := HI.out.later HB4.out
      clear HI HB4 HSq
      go_loopw [6, 7] (fun vp vq wi => ∃ R r, GInv w wi vp vq P Q R G r kp (u + 1) kq gp gq ∧ Kept wi g1 g2 (some ⟨gq, 0, none⟩) (u + 1) kq iy) (fun vp _ _ => vlen vp)
      case atStart => exact ⟨F, tp, HI4.out, HK4.out⟩
      case round =>
        clear HI4 HK4
        obtain ⟨R, r, J, K⟩ := hrel
        obtain rfl := J.vp
        obtain rfl := J.vq
        have hbr := J.bp
        by_cases hlt : r < u + 1
        · have HJ : Hid (GInv w wr (.slice (some ⟨gp, 0, none⟩) r kp) (.slice (some ⟨gq, 0, none⟩) (u + 1) kq) P Q R G r kp (u + 1) kq gp gq) := J
          clear J K
          go_wp2
          exact ⟨⟨_, _, _, _, _, _, _, _, HJ.out.swap⟩, by simp only [vlen]; exact hlt⟩
        · obtain ⟨dd, rfl⟩ : ∃ dd, r = u + dd + 1 := ⟨r - (u + 1), by omega⟩
          obtain ⟨z, HZ⟩ : ∃ z, Hid (fm (R (u + dd)) iy = z) := ⟨_, rfl⟩
          obtain ⟨r7, HR7⟩ : ∃ r7, Hid (tlen (rs R G z dd (u + 1)) (u + dd + 1) = r7) := ⟨_, rfl⟩
          have HJ : Hid (GInv w wr (.slice (some ⟨gp, 0, none⟩) (u + dd + 1) kp) (.slice (some ⟨gq, 0, none⟩) (u + 1) kq) P Q R G (u + dd + 1) kp (u + 1) kq gp gq) := J
          have HK : Hid (Kept wr g1 g2 (some ⟨gq, 0, none⟩) (u + 1) kq iy) := K
          have HSr : Hid (Sl wr (some ⟨gq, 0, none⟩) (u + 1) G) := J.oq.sl J.fq
          clear J K
          go_wp2_with (go_at_call 40; refine (step_any _ w.heap.size g1 g2 gp kp kq u dd iy z r7 _ G R HK.out HSr.out HJ.out.op HJ.out.fp hiy hbr HZ HR7).mono ?_; rintro e w7 ⟨rfl, ho7, hg7⟩; have HO7 : Hid (Ow w7 w.heap.size (some ⟨gp, 0, none⟩) (u + dd + 1) kp (rs R G z dd (u + 1))) := ho7; have HG7 : Hid (wr.grownBy w7 (some gp)) := hg7; clear ho7 hg7)
          have fin := ginv_step HJ.out HO7.out HG7.out (by rw [← HZ.out, ← HIY.out, ← HY.out]) HR7.out
          exact ⟨⟨_, _, fin.1, HK.out.kept HG7.out (by omega) (by omega)⟩, by simp only [vlen]; exact fin.2⟩
set_option maxRecDepth 20000 in
set_option maxHeartbeats 400000 in
theorem pgcd_long (w : World) (a b : Option Addr) (n m c d t1 t2 : Nat) (f h : Nat → Nat) (ha : Lk w a n c f) (hb : Lk w b m d h) (H1 : Hid (tlen f n = t1)) (H2 : Hid (tlen h m = t2)) (hl : 512 < t1 ∨ 512 < t2) :
    Calls Try.prog 19 #[.slice a n c, .slice b m d] w fun e w' => e = .returned (.tuple #[.slice none 0 0, .int .i64 4]) ∧ Below w.heap.size w w' := by
  have HA : Hid (Lk w a n c f) := ha
  have HB : Hid (Lk w b m d h) := hb
  have HLL : Hid (512 < t1 ∨ 512 < t2) := hl
  clear ha hb hl
  go_enter Try.func19, Try.ntmps19
  go_wp2
  go_step3
  go_wp2_with (first
    | (go_at_call 25; have _x := m1; refine (trimmed_any _ _ _ _ t2 h HB.out H2).mono ?_; rintro e w' ⟨rfl, rfl⟩)
    | (go_at_call 25; refine (trimmed_any _ _ _ _ t1 f HA.out H1).mono ?_; rintro e w' ⟨rfl, rfl⟩; have m1 := HLL)
    | (go_at_call 26; refine (toolong_yes _ _ _ _ _ _ _ _ (lit_cell _ _ _ 0 _ rfl) (lit_cell _ _ _ 1 _ rfl) HLL.out).mono ?_; rintro e w' ⟨rfl, rfl⟩))
  try rw [Exit.noGoto_ret]
  go_ret2
  exact ⟨rfl, alloc_below _ _⟩
end Go.Proofs.Ythpjedoolbfjfab
