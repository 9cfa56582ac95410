/-
  Contracts of the program's polynomials: the division's step, DivMod.
-/
import Derived.Test.YthpjedoolbfjfabQe
namespace Go.Proofs.Ythpjedoolbfjfab
open Go.RowKit
/-- The variables that a step keeps: the divisor and its highest coefficient's inverse. -/
structure Kept (w : World) (g1 g2 : Nat) (s : Option Addr) (t c iy : Nat) : Prop where
  den : w.heap[g1]? = some (.cells #[.slice s t c] 22 (0, 0))
  inv : w.heap[g2]? = some (.cells #[.int .u8 (iy : Int)] 5 (0, 0))
theorem Kept.later {w w' : World} {g1 g2 : Nat} {s : Option Addr} {t c iy : Nat} (h : Kept w g1 g2 s t c iy) (hb : Below w.heap.size w w') : Kept w' g1 g2 s t c iy :=
  ⟨by rw [hb.block _ (lt_of_block h.den)]; exact h.den, by rw [hb.block _ (lt_of_block h.inv)]; exact h.inv⟩
theorem Kept.kept {w w' : World} {g1 g2 g : Nat} {s : Option Addr} {t c iy : Nat} (h : Kept w g1 g2 s t c iy) (hb : w.grownBy w' (some g)) (h1 : g1 ≠ g) (h2 : g2 ≠ g) : Kept w' g1 g2 s t c iy :=
  ⟨by rw [hb.block _ (lt_of_block h.den) (by simpa using h1)]; exact h.den, by rw [hb.block _ (lt_of_block h.inv) (by simpa using h2)]; exact h.inv⟩
set_option maxHeartbeats 400000 in
theorem stepby_any (w : World) (s : Option Addr) (u c y iy : Nat) (h : Nat → Nat) (hs : Sl w s (u + 1) h) (hu : u + 1 ≤ 140737488351232) (HY : Hid (h u = y)) (H0 : Hid (y ≠ 0)) (HI : Hid (finv y = iy)) :
    Calls Try.prog 30 #[.slice s (u + 1) c] w fun e w' => ∃ g1 g2, e = .returned (.func (.func 40) #[] #[.pointer (some ⟨g2, 0, none⟩), .pointer (some ⟨g1, 0, none⟩)]) ∧ Kept w' g1 g2 s (u + 1) c iy ∧ w.heap.size ≤ g1 ∧ w.heap.size ≤ g2 ∧ Below w.heap.size w w' := by
  have hmf : ∀ (fn : Fn) (first cap : Array Value) (w : World), (Instr.makeFunc fn first cap).run Try.prog w = .ok (.func fn first cap) w := fun _ _ _ _ => rfl
  obtain ⟨b, o, ea, hc⟩ := hs.2 u (by omega)
  have hy : y < 256 := by rw [← HY.out]; exact hs.1 u (by omega)
  rw [HY.out] at hc
  have HC : Hid (w.cell? ⟨b, o + u, none⟩ = some (.int .u8 (y : Int))) := hc
  have blt := cell_lt hc
  have hc1 : (w.alloc (.cells #[.slice (some ⟨b, o, none⟩) (u + 1) c] 22)).cell? ⟨b, o + u, none⟩ = some (.int .u8 (y : Int)) := by rw [World.cell?_alloc_past _ _ _ (by exact blt)]; exact hc
  have hc2 : (w.alloc (.cells #[.slice (some ⟨b, o, none⟩) (u + 1) c] 22)).cell? ⟨w.heap.size, 0, none⟩ = some (.slice (some ⟨b, o, none⟩) (u + 1) c) := lit_cell _ _ _ 0 _ rfl
  have HInv : Hid (∀ w, Calls Try.prog 39 #[.int .u8 (y : Int)] w fun e w' => e = .returned (.tuple #[.int .u8 (iy : Int), .int .i64 0]) ∧ Below w.heap.size w w') := by
    intro w
    have := inv_any y w hy
    rw [HI.out, show ive y = 0 from if_neg H0.out] at this
    exact this
  clear hs hc
  subst ea
  go_enter Try.func30, Try.ntmps30
  go_wp2_with (go_at_call 39; refine (HInv.out _).mono ?_; rintro e w1 ⟨rfl, hb1⟩; have HB1 : Hid _ := hb1; clear hb1)
  go_ret
  have b1 : Below w.heap.size w w1 := two_below (alloc_below _ _) HB1.out
  have lt1 : w.heap.size < w1.heap.size := by have := HB1.out.size; simp at this; omega
  refine ⟨w.heap.size, w1.heap.size, rfl, ⟨?_, new_at w1 _⟩, Nat.le_refl _, b1.size, two_below b1 (alloc_below _ _)⟩
  rw [(alloc_below w1 _).block _ lt1, HB1.out.block _ (by simp)]
  exact new_at w _
set_option maxRecDepth 20000 in
set_option maxHeartbeats 1000000 in
theorem step_any (w : World) (B g1 g2 g k c u dd iy z r7 : Nat) (s : Option Addr) (h R : Nat → Nat) (K : Kept w g1 g2 s (u + 1) c iy) (hs : Sl w s (u + 1) h) (ho : Ow w B (some ⟨g, 0, none⟩) (u + dd + 1) k R) (hR : ∀ i, i < u + dd + 1 → R i < 256) (hiy : iy < 256) (hle : u + dd + 1 ≤ 512) (HZ : Hid (fm (R (u + dd)) iy = z)) (HR7 : Hid (tlen (rs R h z dd (u + 1)) (u + dd + 1) = r7)) :
    Calls Try.prog 40 #[.slice (some ⟨g, 0, none⟩) (u + dd + 1) k, .pointer (some ⟨g2, 0, none⟩), .pointer (some ⟨g1, 0, none⟩)] w fun e w' => e = .returned (.tuple #[.int .u8 (z : Int), .slice (some ⟨g, 0, none⟩) r7 k]) ∧ Ow w' B (some ⟨g, 0, none⟩) (u + dd + 1) k (rs R h z dd (u + 1)) ∧ w.grownBy w' (some g) := by
  have hk : u + dd + 1 ≤ k := by
    rcases ho.2 with ⟨e, _⟩ | ⟨g', cap, cur, e, _, _, hc, _⟩
    · cases e
    · cases e; exact hc
  obtain ⟨x, HX⟩ : ∃ x, Hid (R (u + dd) = x) := ⟨_, rfl⟩
  have hx : x < 256 := by rw [← HX.out]; exact hR _ (by omega)
  have hcr : w.cell? ⟨g, u + dd, none⟩ = some (.int .u8 (x : Int)) := by rw [← HX.out]; exact own_byte ho (by omega)
  have hci : w.cell? ⟨g2, 0, none⟩ = some (.int .u8 (iy : Int)) := by rw [cell_of_row _ _ _ _ _ _ K.inv]; rfl
  have hcd : w.cell? ⟨g1, 0, none⟩ = some (.slice s (u + 1) c) := by rw [cell_of_row _ _ _ _ _ _ K.den]; rfl
  have HMul : Hid (∀ w, Calls Try.prog 29 #[.int .u8 (x : Int), .int .u8 (iy : Int)] w fun e w' => e = .returned (.int .u8 (z : Int)) ∧ w' = w) := by rw [← HZ.out, HX.out]; exact fun w => mul_nat x iy w hx hiy
  have hz : z < 256 := by rw [← HZ.out, HX.out]; exact fm_lt _ _ hx
  have HS : Hid (Sl w s (u + 1) h) := hs
  have HO : Hid (Ow w B (some ⟨g, 0, none⟩) (u + dd + 1) k R) := ho
  have HRR : Hid (∀ i, i < u + dd + 1 → R i < 256) := hR
  have W3 : Hid (∀ i, i < u + dd + 1 → rs R h z dd (u + 1) i < 256) := rs_lt hR hz
  have hdd : ((u : Int) + (dd : Int) + 1 - ((u : Int) + 1)) = (dd : Int) := by omega
  have i1 : (0 : Int) ≤ (u : Int) + (dd : Int) := by omega
  have i2 : (u : Int) + (dd : Int) < (u : Int) + (dd : Int) + 1 := by omega
  have i3 : ((u : Int) + (dd : Int)).toNat = u + dd := by omega
  clear K hs ho hR HZ HX
  go_enter Try.func40, Try.ntmps40
  go_wp2
  go_quiet ((go_at_call 29; exact Calls.quiet_of_same (HMul.out _)))
  go_wp2
  obtain ⟨v, HW⟩ : ∃ v, Hid (v = w.drewN nq) := ⟨_, rfl⟩
  rw [← HW.out]
  have hcd1 : v.cell? ⟨g1, 0, none⟩ = some (.slice s (u + 1) c) := by rw [HW.out]; exact hcd
  have HO1 : Hid (Ow v.drew B (some ⟨g, 0, none⟩) (u + dd + 1) k R) := by rw [HW.out]; exact HO.out
  have HS1 : Hid (Sl v.drew s (u + 1) h) := by rw [HW.out]; exact HS.out
  have HG1 : Hid (w.grownBy v.drew (some g)) := by rw [HW.out]; exact grown_drew (grown_of_below (below_drewN (Below.refl _ _) _) _)
  have hfit : dd + (u + 1) ≤ u + dd + 1 := by omega
  have j1 : (0 : Int) ≤ (dd : Int) := by omega
  have j2 : (dd : Int) ≤ (u : Int) + (dd : Int) + 1 := by omega
  have j3 : IntKind.i64.wrap (dd : Int) = (dd : Int) := by rw [IntKind.wrap_i64]; omega
  have j4 : u + dd + 1 - dd = u + 1 := by omega
  have c2 : ¬ (k = dd) := by omega
  have h46 : u + dd + 1 ≤ 140737488351232 := by omega
  clear hcd hcr hci HO HS HMul
  go_region_with (go_at_call 27; refine (addm_own _ B g dd (u + 1) (u + dd + 1) k _ z _ s R h hz HO1.out hfit HRR.out HS1.out h46).mono ?_; rintro e w3 ⟨rfl, ho3, hg3⟩; have HO3 : Hid (Ow w3 B (some ⟨g, 0, none⟩) (u + dd + 1) k (rs R h z dd (u + 1))) := ho3; have HG3 : Hid (w.grownBy w3 (some g)) := grown_trans HG1.out hg3; clear ho3 hg3)
  all_goals go_wp2_with (go_at_call 25; refine (trimmed_any _ _ _ _ r7 _ (HO3.out.lk W3.out h46) HR7).mono ?_; rintro e w' ⟨rfl, rfl⟩)
  all_goals go_ret2
  all_goals exact ⟨rfl, HO3.out, HG3.out⟩
/-- What the loop of a division keeps. -/
structure PInv (w wr : World) (gr gq g1 g2 : Nat) (v : Value) (s : Option Addr) (c iy nq : Nat) (P h Q R : Nat → Nat) (u r k : Nat) : Prop where
  val : v = .slice (some ⟨gr, 0, none⟩) r k
  own : Ow wr w.heap.size (some ⟨gr, 0, none⟩) r k R
  quo : RowAt wr gq 5 nq Q
  den : Sl wr s (u + 1) h
  kept : Kept wr g1 g2 s (u + 1) c iy
  below : Below w.heap.size w wr
  el : El Q
  above : Above nq Q
  trimmed : tlen R r = r
  bytes : ∀ i, i < r → R i < 256
  eq : ∀ i, P i = pa (pm Q (zx h (u + 1))) (zx R r) i
  low : ∀ i, i + (u + 1) ≤ r → Q i = 0
  le : r ≤ u + nq
theorem pinv_begin {w w5 : World} {gr gq g1 g2 u n t1 c iy nq : Nat} {s : Option Addr} {f h : Nat → Nat} (ho : RowAt w5 gr 5 t1 f) (hw : Below w.heap.size w w5) (hs : Sl w5 s (u + 1) h) (hk : Kept w5 g1 g2 s (u + 1) c iy) (hq : RowAt w5 gq 5 nq (fun _ => 0)) (h1 : tlen f n = t1) (hf : ∀ i, i < n → f i < 256) (hl : t1 ≤ u + nq) (h47 : t1 ≤ 140737488351232) (hgr : w.heap.size ≤ gr) :
    PInv w w5 gr gq g1 g2 (.slice (some ⟨gr, 0, none⟩) t1 t1) s c iy nq (zx f n) h (fun _ => 0) f u t1 t1 where
  val := rfl
  own := ho.ow hgr h47
  quo := hq
  den := hs
  kept := hk
  below := hw
  el := fun _ => (by decide : 0 < 256)
  above := fun _ _ => rfl
  trimmed := by rw [← h1, tlen_idem]
  bytes := fun i hi => hf i (by have := tlen_le f n; omega)
  eq := fun i => by
    show zx f n i = pm (fun _ => 0) _ i ^^^ zx f t1 i
    rw [show pm (fun _ => 0) (zx h (u + 1)) i = 0 from xs_zero (fun _ _ => zero_fm _), Nat.zero_xor, ← h1, zx_tlen]
  low := fun _ _ => rfl
  le := hl
theorem pinv_next {w wr w2 : World} {gr gq g1 g2 : Nat} {v : Value} {s : Option Addr} {c iy nq : Nat} {P h Q R : Nat → Nat} {u dd k z r7 : Nat} (I : PInv w wr gr gq g1 g2 v s c iy nq P h Q R u (u + dd + 1) k)
    (ho : Ow w2 w.heap.size (some ⟨gr, 0, none⟩) (u + dd + 1) k (rs R h z dd (u + 1))) (hg : wr.grownBy w2 (some gr)) (hz : z = fm (R (u + dd)) (finv (h u))) (hh : h u < 256) (h0 : h u ≠ 0) (hr : tlen (rs R h z dd (u + 1)) (u + dd + 1) = r7)
    (hrq : gr ≠ gq) (h1r : g1 ≠ gr) (h2r : g2 ≠ gr) (h1q : g1 ≠ gq) (h2q : g2 ≠ gq) (or' : Off gr s) (oq : Off gq s) (hgr : w.heap.size ≤ gr) (hgq : w.heap.size ≤ gq) :
    PInv w (w2.setCell ⟨gq, dd, none⟩ (.int .u8 (z : Int))) gr gq g1 g2 (.slice (some ⟨gr, 0, none⟩) r7 k) s c iy nq P h (qs Q z dd) (rs R h z dd (u + 1)) u r7 k ∧ r7 < u + dd + 1 := by
  have hR := I.bytes (u + dd) (by omega)
  have hzl : z < 256 := by rw [hz]; exact fm_lt _ _ hR
  have dle := I.le
  have tg : rs R h z dd (u + 1) (u + dd + 1 - 1) = 0 := by
    have := top_gone (R := R) (h := h) (d := dd) (t := u + 1) (by omega) (by rw [show dd + (u + 1) - 1 = u + dd by omega]; exact hR) (by simpa using hh) (by simpa using h0)
    rw [show dd + (u + 1) - 1 = u + dd by omega, show u + 1 - 1 = u by omega, ← hz] at this
    exact this
  have lt7 : r7 < u + dd + 1 := by rw [← hr]; exact tlen_gone (by omega) tg
  refine ⟨{ val := rfl, own := ?_, quo := (I.quo.kept hg (Ne.symm hrq)).set dd z, den := sl_setCell (I.den.kept hg or') oq, kept := (I.kept.kept hg h1r h2r).kept (grown_setCell _ _ _ _) h1q h2q, below := (below_row I.below hg hgr).setCell hgq _, el := ?_, above := ?_, trimmed := by rw [← hr, tlen_idem], bytes := ?_, eq := ?_, low := ?_, le := by omega }, lt7⟩
  · exact Ow.cut (own_kept ho (grown_setCell _ _ _ _) (by simp [Value.ownBlock]; exact hrq)) (by omega)
  · intro i; unfold qs; split
    · exact hzl
    · exact I.el i
  · intro i hi; unfold qs; rw [if_neg (by omega)]; exact I.above i hi
  · intro i hi; exact rs_lt I.bytes hzl i (by omega)
  · have q0 : Q dd = 0 := I.low dd (by omega)
    have e := I.eq
    rw [show u + dd + 1 = dd + (u + 1) by omega] at e
    have := div_step (q := zx h (u + 1)) I.el hzl (fun _ => rfl) q0 e
    intro i
    rw [this i]
    show _ ^^^ zx (rs R h z dd (u + 1)) (dd + (u + 1)) i = _ ^^^ zx (rs R h z dd (u + 1)) r7 i
    rw [← hr, zx_tlen, show u + dd + 1 = dd + (u + 1) by omega]
  · intro i hi; unfold qs; rw [if_neg (by omega)]; exact I.low i (by omega)
/-- What the program's division answers. -/
structure PDiv (w w' : World) (P q Q R : Nat → Nat) (t r nq k1 k2 : Nat) (s1 s2 : Option Addr) : Prop where
  quo : Ow w' w.heap.size s1 nq k1 Q
  rem : Ow w' w.heap.size s2 r k2 R
  apart : ∀ g, (Value.slice s1 nq k1).ownBlock = some g → (Value.slice s2 r k2).ownBlock ≠ some g
  ok : DivOk P q Q R t r
  top : tlen Q nq = nq
  above : Above nq Q
  below : Below w.heap.size w w'
theorem pinv_end {w wr : World} {gr gq g1 g2 : Nat} {v : Value} {s : Option Addr} {c iy e n m : Nat} {f h Q R : Nat → Nat} {u r k : Nat} (I : PInv w wr gr gq g1 g2 v s c iy (e + 1) (zx f n) h Q R u r k) (hr : r < u + 1) (H1 : tlen f n = u + e + 1) (H2 : tlen h m = u + 1) (h512 : u + e + 1 ≤ 512) (hrq : gr ≠ gq) (hgq : w.heap.size ≤ gq) :
    PDiv w wr (zx f n) (zx h m) Q R (u + 1) r (e + 1) (e + 1) k (some ⟨gq, 0, none⟩) (some ⟨gr, 0, none⟩) where
  quo := I.quo.ow hgq (by omega)
  rem := I.own
  apart := fun g hg => by simp [Value.ownBlock] at hg ⊢; omega
  ok := ⟨I.el, fun i hi => I.above i (by omega), I.trimmed, hr, I.bytes, fun i => by
    rw [I.eq i]
    show pm Q (zx h (u + 1)) i ^^^ _ = pm Q (zx h m) i ^^^ _
    rw [pm_congr (fun _ => rfl) (fun i => by rw [← H2, zx_tlen])]⟩
  top := by
    refine tlen_of_top _ _ ?_
    intro hz
    have e1 := I.eq (e + u)
    have un : u + e < n := by have := tlen_le f n; omega
    have top := tlen_top f n (by omega)
    rw [H1] at top
    show False
    apply top
    have e2 : zx f n (e + u) = f (u + e + 1 - 1) := by unfold zx; rw [if_pos (by omega), show u + e + 1 - 1 = e + u by omega]
    rw [← e2, e1]
    show pm Q (zx h (u + 1)) (e + u) ^^^ zx R r (e + u) = 0
    rw [pm_top I.above (zx_above h (u + 1)), hz, zero_fm]
    unfold zx
    rw [if_neg (by omega)]; rfl
  above := I.above
  below := I.below
end Go.Proofs.Ythpjedoolbfjfab
