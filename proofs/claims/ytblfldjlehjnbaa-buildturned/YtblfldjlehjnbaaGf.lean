/-
  Contract of the reference: Kernel.
  Contract of the reference: Kernel.
  Words for the reference's wide: the elimination in place, of up to 65 columns.
-/
import Derived.Test.YtblfldjlehjnbaaGe
namespace Go.Proofs.Ytblfldjlehjnbaa
open Go.RowKit
/-- Column j is free. -/
def fre (p : Nat → Nat) (k j : Nat) : Bool := !pvt p k j
/-- The list of a free column f, as far as pivot i. -/
def kvp (R : Nat → Nat → Nat) (p : Nat → Nat) (f i j : Nat) : Nat := if j = f then 1 else pp p i (fun t => R t f) j
theorem kvp_zero (R : Nat → Nat → Nat) (p : Nat → Nat) (f j : Nat) : kvp R p f 0 j = if j = f then 1 else 0 := rfl
theorem kvp_step {R : Nat → Nat → Nat} {p : Nat → Nat} {k f i : Nat} (up : ∀ i t, i < t → t < k → p i < p t) (hi : i < k) (hf : p i ≠ f) (j : Nat) : (if j = p i then R i f else kvp R p f i j) = kvp R p f (i + 1) j := by
  unfold kvp
  by_cases e : j = p i
  · rw [if_pos e, if_neg (by omega)]
    have h1 : pp p (i + 1) (fun t => R t f) j = R i f := by rw [e]; exact pp_at (fun a b h1 h2 => up a b h1 (by omega)) _ (by omega)
    rw [h1]
  · rw [if_neg e]
    by_cases e2 : j = f
    · rw [if_pos e2, if_pos e2]
    · rw [if_neg e2, if_neg e2]
      show _ = pp p i (fun t => R t f) j ^^^ (if p i = j then R i f else 0)
      rw [if_neg (fun h => e h.symm), Nat.xor_zero]
theorem kvp_lt {R : Nat → Nat → Nat} (hR : El2 R) (p : Nat → Nat) (f i j : Nat) : kvp R p f i j < 256 := by
  unfold kvp
  split
  · decide
  · exact pp_el p i (fun t => hR t f) j
/-- What Kernel's loop keeps. -/
structure NuInv (w wr : World) (B br bo r c n k top j : Nat) (p : Nat → Nat) (a s : Option Addr) (d : Nat) (v : Value) (so : Option Addr) (dd : Nat) (G H : Nat → Nat) : Prop where
  va : Vr wr w.heap.size (.int .i64 (r : Int)) (.int .i64 (c : Int)) (.slice a n k)
  vz : Vr wr (w.heap.size + 1) (.int .i64 0) (.int .i64 0) (.slice none 0 0)
  vr : Vr wr br (.int .i64 (r : Int)) (.int .i64 (c : Int)) (.slice s n d)
  vo : Vr wr bo (.int .i64 ((cnt (fre p top) j : Nat) : Int)) (.int .i64 (c : Int)) (.slice so (cnt (fre p top) j * c) dd)
  data : Ob wr w.heap.size (.slice s n d) n G
  piv : Oi wr w.heap.size v top p
  out : Ob wr B (.slice so (cnt (fre p top) j * c) dd) (cnt (fre p top) j * c) H
  off : ∀ g, (Value.slice s n d).ownBlock = some g → g < B
  rows : ∀ u l, u < cnt (fre p top) j → l < c → H (u * c + l) = kv (m2 G r c) p top (nth (fre p top) c u) l
  lt : ∀ q, q < cnt (fre p top) j * c → H q < 256
  ne : br ≠ bo
  low : w.heap.size + 1 < br
  lowo : w.heap.size + 1 < bo
  hB : w.heap.size + 1 < B
  below : Below w.heap.size w wr
theorem NuInv.later {w wr w' : World} {B br bo r c n k top j d dd : Nat} {p : Nat → Nat} {a s so : Option Addr} {v : Value} {G H : Nat → Nat} (I : NuInv w wr B br bo r c n k top j p a s d v so dd G H) (hb : Below wr.heap.size wr w') : NuInv w w' B br bo r c n k top j p a s d v so dd G H :=
  ⟨I.va.later hb, I.vz.later hb, I.vr.later hb, I.vo.later hb, I.data.later hb, I.piv.later hb, I.out.later hb, I.off, I.rows, I.lt, I.ne, I.low, I.lowo, I.hB, two_below I.below hb⟩
/-- A block that none of these has is written. -/
theorem NuInv.kept {w wr w' : World} {B br bo r c n k top j d dd g : Nat} {p : Nat → Nat} {a s so : Option Addr} {v : Value} {G H : Nat → Nat} (I : NuInv w wr B br bo r c n k top j p a s d v so dd G H) (hg : wr.grownBy w' (some g)) (h1 : w.heap.size + 1 < g) (h2 : br ≠ g) (h3 : bo ≠ g) (h4 : (Value.slice s n d).ownBlock ≠ some g) (h5 : v.ownBlock ≠ some g) (h6 : (Value.slice so (cnt (fre p top) j * c) dd).ownBlock ≠ some g) : NuInv w w' B br bo r c n k top j p a s d v so dd G H :=
  ⟨I.va.kept hg (by omega), I.vz.kept hg (by omega), I.vr.kept hg h2, I.vo.kept hg h3, I.data.kept hg (.inr h4), I.piv.kept hg (.inr h5), I.out.kept hg (.inr h6), I.off, I.rows, I.lt, I.ne, I.low, I.lowo, I.hB, below_row I.below hg (by omega)⟩
theorem NuInv.skip {w wr : World} {B br bo r c n k top j d dd : Nat} {p : Nat → Nat} {a s so : Option Addr} {v : Value} {G H : Nat → Nat} (I : NuInv w wr B br bo r c n k top j p a s d v so dd G H) (h : fre p top j = false) : NuInv w wr B br bo r c n k top (j + 1) p a s d v so dd G H := by
  have e := cnt_no (P := fre p top) h
  exact ⟨I.va, I.vz, I.vr, by rw [e]; exact I.vo, I.data, I.piv, by rw [e]; exact I.out, I.off, by rw [e]; exact I.rows, by rw [e]; exact I.lt, I.ne, I.low, I.lowo, I.hB, I.below⟩
/-- The next row is put behind. -/
theorem NuInv.more {w wr w1 w2 w3 : World} {B br bo r c n k top j d dd : Nat} {p : Nat → Nat} {a s so so' : Option Addr} {dd' : Nat} {v : Value} {G H : Nat → Nat} (I : NuInv w wr B br bo r c n k top j p a s d v so dd G H) (hM : El2 (m2 G r c)) (h : fre p top j = true) (hj : j < c)
    (e1 : w1 = wr.setCell ⟨bo, 0, none⟩ (.int .i64 ((cnt (fre p top) (j + 1) : Nat) : Int))) (ho : w2.ownsRow B 5 1 (.slice so' (cnt (fre p top) j * c + c) dd') (cnt (fre p top) j * c + c) ((row (cnt (fre p top) j * c) H).toList ++ (row c (kvp (m2 G r c) p j top)).toList)) (hg : w1.grownBy w2 (Value.slice so (cnt (fre p top) j * c) dd).ownBlock)
    (e3 : w3 = w2.setCell ⟨bo, 2, none⟩ (.slice so' (cnt (fre p top) j * c + c) dd')) :
    NuInv w w3 B br bo r c n k top (j + 1) p a s d v so' dd' G (stf H (kvp (m2 G r c) p j top) (cnt (fre p top) j * c)) := by
  have ec := cnt_yes (P := fre p top) h
  have eN : cnt (fre p top) (j + 1) * c = cnt (fre p top) j * c + c := by rw [ec, Nat.add_mul, Nat.one_mul]
  have g1 : wr.grownBy w1 (some bo) := by rw [e1]; exact grown_setCell _ _ _ _
  have g3 : w2.grownBy w3 (some bo) := by rw [e3]; exact grown_setCell _ _ _ _
  rw [row_stf] at ho
  have ho2 : Ob w2 B (.slice so' (cnt (fre p top) j * c + c) dd') (cnt (fre p top) j * c + c) (stf H (kvp (m2 G r c) p j top) (cnt (fre p top) j * c)) := ho
  have n0 := ob_ne_vr I.out I.va
  have n1 := ob_ne_vr I.out I.vz
  have n2 := ob_ne_vr I.out I.vr
  have n3 := ob_ne_vr I.out I.vo
  have vo1 : Vr w1 bo (.int .i64 ((cnt (fre p top) (j + 1) : Nat) : Int)) (.int .i64 (c : Int)) (.slice so (cnt (fre p top) j * c) dd) := by rw [e1]; exact I.vo.set0 _
  have vo2 := vo1.grown hg n3
  have hlo := I.lowo
  have hlr := I.low
  have hB := I.hB
  have d1 : (Value.slice s n d).ownBlock = none ∨ (Value.slice s n d).ownBlock ≠ (Value.slice so (cnt (fre p top) j * c) dd).ownBlock := by
    cases hs : (Value.slice s n d).ownBlock with
    | none => exact .inl rfl
    | some g =>
      refine .inr (fun e => ?_)
      have h1 := I.off g hs
      have h2 := (I.out.base e.symm).1
      omega
  have d2 : v.ownBlock = none ∨ v.ownBlock ≠ (Value.slice so (cnt (fre p top) j * c) dd).ownBlock := by
    cases hs : v.ownBlock with
    | none => exact .inl rfl
    | some g => exact .inr (fun e => ob_ne_oi I.out I.piv e.symm hs)
  refine ⟨((I.va.kept g1 (by omega)).grown hg n0).kept g3 (by omega), ((I.vz.kept g1 (by omega)).grown hg n1).kept g3 (by omega), ((I.vr.kept g1 I.ne).grown hg n2).kept g3 I.ne, ?_, ((I.data.kept g1 (.inr (ob_ne_vr I.data I.vo))).kept hg d1).kept g3 (.inr (ob_ne_vr ((I.data.kept g1 (.inr (ob_ne_vr I.data I.vo))).kept hg d1) vo2)), ((I.piv.kept g1 (.inr (oi_ne_vr I.piv I.vo))).kept hg d2).kept g3 (.inr (oi_ne_vr ((I.piv.kept g1 (.inr (oi_ne_vr I.piv I.vo))).kept hg d2) vo2)), ?_, I.off, ?_, ?_, I.ne, I.low, I.lowo, I.hB, ?_⟩
  · rw [eN, e3]; exact vo2.set2 _
  · rw [eN]; exact ho2.kept g3 (.inr (ob_ne_vr ho2 vo2))
  · intro u l hu hl
    unfold stf
    by_cases e : u = cnt (fre p top) j
    · subst e
      rw [if_neg (by omega), Nat.add_sub_cancel_left, nth_cnt hj h]
      rfl
    · have hu' : u < cnt (fre p top) j := by rw [ec] at hu; omega
      have : (u + 1) * c ≤ cnt (fre p top) j * c := Nat.mul_le_mul_right c hu'
      rw [Nat.add_mul, Nat.one_mul] at this
      rw [if_pos (by omega)]
      exact I.rows u l hu' hl
  · rw [eN]
    intro q hq
    unfold stf
    split
    · exact I.lt q (by omega)
    · exact kvp_lt hM p j top _
  · have b1 : Below w.heap.size w w1 := below_row I.below g1 (by omega)
    have b2 : Below w.heap.size w w2 := by
      cases hv : (Value.slice so (cnt (fre p top) j * c) dd).ownBlock with
      | none => rw [hv] at hg; exact two_below b1 (grown_none.mp hg)
      | some g => rw [hv] at hg; exact below_row b1 hg (by have := (I.out.base hv).1; omega)
    exact below_row b2 g3 (by omega)
end Go.Proofs.Ytblfldjlehjnbaa

namespace Go.Proofs.Ytblfldjlehjnbaa
open Go.RowKit
set_option maxRecDepth 20000 in
set_option maxHeartbeats 8000000 in
theorem rker_ok (w : World) (r c n k : Nat) (a : Option Addr) (F : Nat → Nat) (ha : Mt w a n k F) (R : Rt r c n) :
    Calls Try.prog 63 #[mv r c a n k] w fun e w' => ∃ s d kr top p G H, e = .returned (.tuple #[mv (kr : Nat) c s (kr * c) d, .int .i64 0]) ∧ Ob w' w.heap.size (.slice s (kr * c) d) (kr * c) H ∧ (∀ q, q < n → G q < 256) ∧ Rdf (m2 G r c) r top p ∧ SpEq (m2 G r c) r (m2 F r c) r ∧ (∀ i, i < top → p i < c) ∧ kr = cnt (fre p top) c ∧ (∀ u l, u < kr → l < c → H (u * c + l) = kv (m2 G r c) p top (nth (fre p top) c u) l) ∧ (∀ q, q < kr * c → H q < 256) ∧ Below w.heap.size w w' := by
  obtain ⟨wb, HW, HX⟩ : ∃ wb, Hid (wb = (w.alloc (.cells #[.int .i64 (r : Int), .int .i64 (c : Int), .slice a n k] 24)).alloc (.cells #[.int .i64 0, .int .i64 0, .slice none 0 0] 24)) ∧ Hid (Box2 w wb r c n k a) := ⟨_, rfl, box2 w r c n k a⟩
  have HR : Hid (Rt r c n) := R
  have hn := R.le
  have hr := R.r64
  have hc := R.c64
  have HSa : Hid (Mt w a n k F) := ha
  have v0 := HX.out.va.c0
  have v1 := HX.out.va.c1
  have v2 := HX.out.va.c2
  have hwb : w.heap.size + 1 < wb.heap.size := HX.out.vr.lt
  clear ha R
  go_enter Try.func63, Try.ntmps63
  go_wp2_with (go_at_call 69; rw [← HW.out]; refine (rred_a wb r c n k a F (HSa.out.later HX.out.below).sl HSa.out.nil HR.out).mono ?_; rintro e w1 ⟨s, d, ps, pd, top, p, G, rfl, hd, hp, hG, hRd, hS, hPc, hb1⟩; have HB1 : Hid (Below wb.heap.size wb w1) := hb1; have HDa : Hid (Ob w1 wb.heap.size (.slice s n d) n G) := hd; have HPi : Hid (Oi w1 wb.heap.size (.slice ps top pd) top p) := hp; have HGb : Hid (∀ q, q < n → G q < 256) := hG; have HRd : Hid (Rdf (m2 G r c) r top p) := hRd; have HSp : Hid (SpEq (m2 G r c) r (m2 F r c) r) := hS; have HPc : Hid (∀ i, i < top → p i < c) := hPc; have u1 := ((HX.out.va.later hb1).later (alloc_low w1 (.cells #[.int .i64 (r : Int), .int .i64 (c : Int), .slice s n d] 24))).c1; clear hd hp hG hRd hS hPc hb1)
  obtain ⟨M, HM⟩ : ∃ M, Hid (m2 G r c = M) := ⟨_, rfl⟩
  obtain ⟨W3, HW3⟩ : ∃ W, Hid (W = (w1.alloc (.cells #[.int .i64 (r : Int), .int .i64 (c : Int), .slice s n d] 24)).alloc (.cells #[.int .i64 0, .int .i64 (c : Int), .slice none 0 0] 24)) := ⟨_, rfl⟩
  have hz1 : wb.heap.size ≤ w1.heap.size := HB1.out.size
  have HI0 : Hid (NuInv w W3 w1.heap.size w1.heap.size (w1.heap.size + 1) r c n k top 0 p a s d (.slice ps top pd) none 0 G (fun _ => 0)) := by
    show NuInv _ _ _ _ _ _ _ _ _ _ _ _ _ _ _ _ _ _ _ _
    rw [HW3.out]
    have b2 := two_below (alloc_low w1 (.cells #[.int .i64 (r : Int), .int .i64 (c : Int), .slice s n d] 24)) (alloc_low _ (.cells #[.int .i64 0, .int .i64 (c : Int), .slice none 0 0] 24))
    have e0 : cnt (fre p top) 0 = 0 := rfl
    have vo := Vr.new (w1.alloc (.cells #[.int .i64 (r : Int), .int .i64 (c : Int), .slice s n d] 24)) (.int .i64 0) (.int .i64 (c : Int)) (.slice none 0 0)
    refine ⟨(HX.out.va.later HB1.out).later b2, (HX.out.vr.later HB1.out).later b2, (Vr.new w1 _ _ _).later (alloc_low _ _), ?_, (HDa.out.mono (by omega)).later b2, (HPi.out.mono (by omega)).later b2, ?_, fun g hg => (HDa.out.base hg).2, fun u l hu => absurd hu (by rw [e0]; omega), fun q hq => absurd hq (by rw [e0]; omega), by omega, by omega, by omega, by omega, two_below (two_below HX.out.below HB1.out) b2⟩
    · rw [e0, Nat.zero_mul]; simpa using vo
    · rw [e0, Nat.zero_mul]
      exact (show Ob _ _ _ 0 _ from ⟨by simp [row_size], .inl ⟨rfl, rfl⟩⟩)
  rw [← HW3.out]
  clear HW3 HW HX HB1 HDa HPi v0 v1 v2 u1 hwb hz1
  go_loopw [8, 9] (fun sa sj wr => ∃ (j : Nat) (so : Option Addr) (dd : Nat) (H : Nat → Nat), j ≤ c ∧ sa = .int .i64 ((cnt (pvt p top) j : Nat) : Int) ∧ sj = .int .i64 (j : Int) ∧ NuInv w wr w1.heap.size w1.heap.size (w1.heap.size + 1) r c n k top j p a s d (.slice ps top pd) so dd G H) (fun _ sj _ => c - (intOf sj).toNat)
  case atStart => exact ⟨0, none, 0, fun _ => 0, by omega, rfl, rfl, HI0.out⟩
  case round =>
    clear HI0
    obtain ⟨j, so, dd, H, hjc, rfl, rfl, I⟩ := hrel
    have HI : Hid (NuInv w wr w1.heap.size w1.heap.size (w1.heap.size + 1) r c n k top j p a s d (.slice ps top pd) so dd G H) := I
    have c0 := I.va.c0
    have c1 := I.va.c1
    have c2 := I.va.c2
    obtain ⟨at', HAT⟩ : ∃ x, Hid (cnt (pvt p top) j = x) := ⟨_, rfl⟩
    rw [HAT.out]
    have hcp := (cnt_pvt HRd.out.up HPc.out)
    have htop : top ≤ 64 := by have := HRd.out.kr; omega
    by_cases hlt : j < c
    · cases hpv : pvt p top j with
      | true =>
        have hat : at' < top := by rw [← HAT.out]; have := cnt_lt hlt hpv; omega
        have hpa : p at' = j := by rw [← hcp.2 at' hat, ← HAT.out]; exact nth_cnt hlt hpv
        obtain ⟨px, po, eps, hpc⟩ := I.piv.il at' hat
        dsimp only at hpc
        rw [hpa] at hpc
        subst eps
        have hcy := cnt_yes (P := pvt p top) hpv
        clear I hpa
        go_wp2
        exact ⟨⟨j + 1, so, dd, H, by omega, by rw [hcy, HAT.out]; go_num, by go_num, HI.out.skip (by simp [fre, hpv])⟩, by simp [intOf]; omega⟩
      | false =>
        by_cases hat : at' < top
        · obtain ⟨px, po, eps, hpc⟩ := I.piv.il at' hat
          obtain ⟨pa, HPA⟩ : ∃ x, Hid (p at' = x) := ⟨_, rfl⟩
          have hne : ((pa : Int) == (j : Int)) = false := by
            have := pvt_no hpv hat
            rw [HPA.out] at this
            simp; omega
          dsimp only at hpc
          rw [HPA.out] at hpc
          clear I
          subst eps
          obtain ⟨b0, hb0, hbz0, hbz1, hbz2⟩ := info_parts info8
          have hml : c ≤ maxLen := by unfold maxLen; omega
          have k0 : w1.heap.size + 1 < wr.heap.size := HI.out.vo.lt
          go_wp2_with (at_make; refine wpList_make_full _ rfl _ _ 22 rfl wr.heap.size 5 b0 (.int .u8 0) 1 Try.underlying22 hb0 hbz0 hbz1 .i64 .i64 _ _ c rfl rfl rfl rfl (by rw [hbz2]; omega) hml (Nat.le_refl _) ?_; intro w5 hown hgrow; have HR5 : Hid (RowAt w5 wr.heap.size 5 c (fun _ => 0)) := made_at hown; have HI5 : Hid (NuInv w w5 w1.heap.size w1.heap.size (w1.heap.size + 1) r c n k top j p a s d (.slice (some ⟨px, po, none⟩) top pd) so dd G H) := HI.out.later (grown_none.mp hgrow); have hc5 := HR5.out.cell j hlt; have hf5 := HR5.out.free j; clear hown hgrow)
          obtain ⟨g, HG⟩ : ∃ g, Hid (wr.heap.size = g) := ⟨_, rfl⟩
          have N1 : Hid ((Value.slice s n d).ownBlock ≠ some g) := fun e => by have := (HI.out.data.base e).2; rw [HG.out] at this; omega
          have N2 : Hid ((Value.slice (some ⟨px, po, none⟩) top pd).ownBlock ≠ some g) := fun e => by have := (HI.out.piv.base e).2; rw [HG.out] at this; omega
          have N3 : Hid ((Value.slice so (cnt (fre p top) j * c) dd).ownBlock ≠ some g) := fun e => by have := (HI.out.out.base e).2; rw [HG.out] at this; omega
          have k1 : w1.heap.size + 1 < g := by rw [← HG.out]; exact k0
          have k2 : w.heap.size + 1 < w1.heap.size := HI.out.low
          have HR6 : Hid (RowAt (w5.setCell ⟨g, j, none⟩ (.int .u8 (1 : Int))) g 5 c (kvp M p j 0)) := by
            have h1 := HR5.out.set j 1
            rw [HG.out] at h1
            exact h1.congr (fun l _ => rfl)
          have HI6 : Hid (NuInv w (w5.setCell ⟨g, j, none⟩ (.int .u8 (1 : Int))) w1.heap.size w1.heap.size (w1.heap.size + 1) r c n k top j p a s d (.slice (some ⟨px, po, none⟩) top pd) so dd G H) := HI5.out.kept (grown_setCell _ _ _ _) (by omega) (by omega) (by omega) N1.out N2.out N3.out
          rw [HG.out]
          clear HR5 HI5 hc5 hf5 HI c0 c1 c2 k0
          go_loopw [11] (fun si wi => ∃ i : Nat, i ≤ top ∧ si = .int .i64 (i : Int) ∧ RowAt wi g 5 c (kvp M p j i) ∧ NuInv w wi w1.heap.size w1.heap.size (w1.heap.size + 1) r c n k top j p a s d (.slice (some ⟨px, po, none⟩) top pd) so dd G H) (fun si _ => top - (intOf si).toNat)
          case atStart => exact ⟨0, by omega, rfl, HR6.out, HI6.out⟩
          case round =>
            clear HR6 HI6
            obtain ⟨i, hit, rfl, hRow, I⟩ := hrel
            have HI : Hid (NuInv w wr w1.heap.size w1.heap.size (w1.heap.size + 1) r c n k top j p a s d (.slice (some ⟨px, po, none⟩) top pd) so dd G H) := I
            have HRow : Hid (RowAt wr g 5 c (kvp M p j i)) := hRow
            clear hRow
            by_cases hlt2 : i < top
            · obtain ⟨qx, qo, eps, hpc⟩ := I.piv.il i hlt2
              obtain ⟨pi, HPI⟩ : ∃ x, Hid (p i = x) := ⟨_, rfl⟩
              dsimp only at hpc
              rw [HPI.out] at hpc
              cases eps
              have hpi : pi < c := by rw [← HPI.out]; exact HPc.out i hlt2
              obtain ⟨y, HY⟩ : ∃ x, Hid (G (i * c + j) = x) := ⟨_, rfl⟩
              have hir : i < r := Nat.lt_of_lt_of_le hlt2 HRd.out.kr
              have HYm : Hid (M i j = y) := by rw [← HM.out, m2_at _ hir hlt]; exact HY
              have HAt : Hid (∀ w', Below wr.heap.size wr w' → Calls Try.prog 32 #[.agg #[.int .i64 (r : Int), .int .i64 (c : Int), .slice s n d], .int .i64 (i : Int), .int .i64 (j : Int)] w' fun e w'' => e = .returned (.int .u8 (y : Int)) ∧ Below w'.heap.size w' w'') := fun w' h' => at3_any w' _ c i j n d y s G ((HI.out.data.later h').sl HGb.out) (HR.out.at hir hlt) hn HY
              have p0 : (0 : Int) ≤ (i : Int) := by omega
              have p1 : (i : Int) < (top : Int) := by omega
              have p2 : (0 : Int) ≤ (pi : Int) := by omega
              have p3 : (pi : Int) < (c : Int) := by omega
              have HD : Hid (wr.drew.cell? ⟨w1.heap.size, 0, none⟩ = some (.int .i64 (r : Int)) ∧ wr.drew.cell? ⟨w1.heap.size, 1, none⟩ = some (.int .i64 (c : Int)) ∧ wr.drew.cell? ⟨w1.heap.size, 2, none⟩ = some (.slice s n d) ∧ wr.drew.cell? ⟨px, po + i, none⟩ = some (.int .i64 (pi : Int))) := ⟨I.vr.c0, I.vr.c1, I.vr.c2, hpc⟩
              clear I
              go_wp2
              refine wp_region_park (k := 10) (n := 10) (fun w' => w'.cell? ⟨w1.heap.size, 0, none⟩ = some (.int .i64 (r : Int)) ∧ w'.cell? ⟨w1.heap.size, 1, none⟩ = some (.int .i64 (c : Int)) ∧ w'.cell? ⟨w1.heap.size, 2, none⟩ = some (.slice s n d) ∧ w'.cell? ⟨px, po + i, none⟩ = some (.int .i64 (pi : Int))) (by kernel_rfl) (by kernel_rfl) (by decide) (by rfl) ?_
              refine wpAnyH_take (i := 0) (v := ?v0) rfl (by kernel_rfl) (by kernel_rfl) (by kernel_rfl) (fun _ _ _ h => h) (Or.inl ⟨by rfl, ?y0⟩) HD.out ?z0
              case y0 => (intro w hSw; (try dsimp only at hSw); go_simp; try with_reducible rfl)
              try simp only [List.getElem_toArray, List.getElem_cons_zero, Act.put, List.setIfInBounds_toArray, List.set_cons_zero, List.set_cons_succ]
              refine wpAnyH_take (i := 1) (v := ?v1) rfl (by kernel_rfl) (by kernel_rfl) (by kernel_rfl) (fun _ _ _ h => h) (Or.inl ⟨by rfl, ?y1⟩) HD.out ?z1
              case y1 => (intro w hSw; (try dsimp only at hSw); go_simp; try with_reducible rfl)
              try simp only [List.getElem_toArray, List.getElem_cons_succ, List.getElem_cons_zero, Act.put, List.setIfInBounds_toArray, List.set_cons_zero, List.set_cons_succ]
              refine wpAnyH_take (i := 2) (v := ?v2) rfl (by kernel_rfl) (by kernel_rfl) (by kernel_rfl) (fun _ _ _ h => h) (Or.inl ⟨by rfl, ?y2⟩) HD.out ?z2
              case y2 => (intro w hSw; (try dsimp only at hSw); go_simp; try with_reducible rfl)
              try simp only [List.getElem_toArray, List.getElem_cons_succ, List.getElem_cons_zero, Act.put, List.setIfInBounds_toArray, List.set_cons_zero, List.set_cons_succ]
              refine wpAnyH_take (i := 3) (v := ?v3) rfl (by kernel_rfl) (by kernel_rfl) (by kernel_rfl) (fun _ _ _ h => h) (Or.inl ⟨by rfl, ?y3⟩) HD.out ?z3
              case y3 => (intro w hSw; (try dsimp only at hSw); go_simp; try with_reducible rfl)
              try simp only [List.getElem_toArray, List.getElem_cons_succ, List.getElem_cons_zero, Act.put, List.setIfInBounds_toArray, List.set_cons_zero, List.set_cons_succ]
              refine wpAnyH_take (i := 4) (v := ?v4) rfl (by kernel_rfl) (by kernel_rfl) (by kernel_rfl) (fun _ _ _ h => h) (Or.inl ⟨by rfl, ?y4⟩) HD.out ?z4
              case y4 => (intro w hSw; (try dsimp only at hSw); go_simp; try with_reducible rfl)
              try simp only [List.getElem_toArray, List.getElem_cons_succ, List.getElem_cons_zero, Act.put, List.setIfInBounds_toArray, List.set_cons_zero, List.set_cons_succ]
              refine wpAnyH_take (i := 5) (v := ?v5) rfl (by kernel_rfl) (by kernel_rfl) (by kernel_rfl) (fun _ _ _ h => h) (Or.inl ⟨by rfl, ?y5⟩) HD.out ?z5
              case y5 => (intro w hSw; (try dsimp only at hSw); go_simp; try with_reducible rfl)
              try simp only [List.getElem_toArray, List.getElem_cons_succ, List.getElem_cons_zero, Act.put, List.setIfInBounds_toArray, List.set_cons_zero, List.set_cons_succ]
              refine wpAnyH_take (i := 6) (v := ?v6) rfl (by kernel_rfl) (by kernel_rfl) (by kernel_rfl) (fun _ _ _ h => h) (Or.inl ⟨by rfl, ?y6⟩) HD.out ?z6
              case y6 => (intro w hSw; (try dsimp only at hSw); go_simp; try with_reducible rfl)
              try simp only [List.getElem_toArray, List.getElem_cons_succ, List.getElem_cons_zero, Act.put, List.setIfInBounds_toArray, List.set_cons_zero, List.set_cons_succ]
              refine wpAnyH_take (i := 7) (v := ?v7) rfl (by kernel_rfl) (by kernel_rfl) (by kernel_rfl) (fun _ _ _ h => h) (Or.inl ⟨by rfl, ?y7⟩) HD.out ?z7
              case y7 => (intro w hSw; (try dsimp only at hSw); go_simp; try with_reducible rfl)
              try simp only [List.getElem_toArray, List.getElem_cons_succ, List.getElem_cons_zero, Act.put, List.setIfInBounds_toArray, List.set_cons_zero, List.set_cons_succ]
              refine wpAnyH_ready (rs := [8]) (by kernel_rfl) (by simp) ?_
              refine AllReadyH.cons rfl (fun K hK => ?_) AllReadyH.nil
              go_simp
              refine (HAt.out wr.drew (Below.refl _ _).drew).mono ?_; rintro e w8 ⟨rfl, hb8⟩; have HD8 : Hid (w8.cell? ⟨w1.heap.size, 0, none⟩ = some (.int .i64 (r : Int)) ∧ w8.cell? ⟨w1.heap.size, 1, none⟩ = some (.int .i64 (c : Int)) ∧ w8.cell? ⟨w1.heap.size, 2, none⟩ = some (.slice s n d) ∧ w8.cell? ⟨px, po + i, none⟩ = some (.int .i64 (pi : Int))) := ⟨keepc hb8 HD.out.1, keepc hb8 HD.out.2.1, keepc hb8 HD.out.2.2.1, keepc hb8 HD.out.2.2.2⟩; have HB8 : Hid (Below wr.heap.size wr w8) := two_below (Below.refl _ _).drew hb8; clear hb8
              refine hK.out _ _ HD8.out (fun _ => ?_)
              clear hK K
              try simp only [List.getElem_toArray, List.getElem_cons_succ, List.getElem_cons_zero, Act.put, List.setIfInBounds_toArray, List.set_cons_zero, List.set_cons_succ]
              refine wpAnyH_take (i := 9) (v := ?v9) rfl (by kernel_rfl) (by kernel_rfl) (by kernel_rfl) (fun _ _ _ h => h) (Or.inl ⟨by rfl, ?y9⟩) HD8.out ?z9
              case y9 => (intro w hSw; (try dsimp only at hSw); go_simp; try with_reducible rfl)
              try simp only [List.getElem_toArray, List.getElem_cons_succ, List.getElem_cons_zero, Act.put, List.setIfInBounds_toArray, List.set_cons_zero, List.set_cons_succ]
              refine wpAnyH_done (by kernel_rfl) ?_ _
              have hcl := (HRow.out.later HB8.out).cell pi hpi
              have hfl := (HRow.out.later HB8.out).free pi
              refine park_last rfl (fun K hK => ?_)
              go_simp
              refine hK.out _ _ ?_
              clear hK K
              try simp only [List.getElem_toArray, List.getElem_cons_succ, List.getElem_cons_zero, Act.put, List.setIfInBounds_toArray, List.set_cons_zero, List.set_cons_succ]
              go_wp2
              exact ⟨⟨i + 1, by omega, by go_num, ((HRow.out.later HB8.out).set pi y).congr (fun l _ => by rw [← HPI.out, ← HYm.out]; exact kvp_step HRd.out.up hlt2 (pvt_no hpv hlt2) l), (HI.out.later HB8.out).kept (grown_setCell _ _ _ _) (by omega) (by omega) (by omega) N1.out N2.out N3.out⟩, by simp [intOf]; omega⟩
            · have HIT : Hid (i = top) := Nat.le_antisymm hit (by omega)
              obtain ⟨u, HU⟩ : ∃ x, Hid (cnt (fre p top) j = x) := ⟨_, rfl⟩
              obtain ⟨N, HN⟩ : ∃ x, Hid (u * c = x) := ⟨_, rfl⟩
              have hfr : fre p top j = true := by simp [fre, hpv]
              have hu1 : u + 1 ≤ c := by rw [← HU.out]; have h1 := cnt_lt (P := fre p top) hlt hfr; have h2 := cnt_not (fre p top) c; omega
              have hN : N + c ≤ 4096 := by rw [← HN.out]; have h1 := Nat.mul_le_mul hu1 hc; rw [Nat.add_mul, Nat.one_mul] at h1; omega
              have o0 := I.vo.c0
              have o1 := I.vo.c1
              have of0 := I.vo.free 0
              rw [HU.out] at o0
              obtain ⟨W7, HW7⟩ : ∃ W, Hid (W = wr.setCell ⟨w1.heap.size + 1, 0, none⟩ (.int .i64 ((u : Int) + 1))) := ⟨_, rfl⟩
              have gW7 : wr.grownBy W7 (some (w1.heap.size + 1)) := by rw [HW7.out]; exact grown_setCell _ _ _ _
              have HV7 : Hid (Vr W7 (w1.heap.size + 1) (.int .i64 ((u : Int) + 1)) (.int .i64 (c : Int)) (.slice so N dd)) := by
                have h1 := I.vo.set0 (.int .i64 ((u : Int) + 1))
                rw [HU.out, HN.out] at h1
                rw [HW7.out]; exact h1
              have HO7 : Hid (Ob W7 w1.heap.size (.slice so N dd) N H) := by
                have h1 := I.out.kept gW7 (.inr (ob_ne_vr I.out I.vo))
                rw [HU.out, HN.out] at h1
                exact h1
              have HR7 : Hid (RowAt W7 g 5 c (kvp M p j top)) := by have h1 := HRow.out.kept gW7 (by omega); rw [HIT.out] at h1; exact h1
              have hsz7 : w1.heap.size ≤ W7.heap.size := by have := HV7.out.lt; omega
              have o2 := HV7.out.c2
              have of2 := HV7.out.free 2
              rw [HW7.out] at o2 of2
              have wu : IntKind.i64.wrap ((u : Int) + 1) = (u : Int) + 1 := by rw [IntKind.wrap_i64]; omega
              have hml3 : N + c ≤ maxLen := by unfold maxLen; omega
              have HM2 : Hid (El2 M) := by rw [← HM.out]; exact m2_el HGb.out HR.out
              have HL7 : Hid (Sl W7 (some ⟨g, 0, none⟩) c (kvp M p j top)) := HR7.out.sl (fun l _ => kvp_lt HM2.out p j top l)
              clear I gW7
              go_wp2_with (at_builtin; rw [← HW7.out]; refine wpList_append_own _ rfl _ _ 22 rfl w1.heap.size 5 b0 (.int .u8 0) 1 1 Try.underlying22 hb0 hbz0 hbz1 hbz2 rfl (by decide) _ N _ rfl HO7.out ⟨g, 0, none⟩ c c (row c (kvp M p j top)).toList rfl (by simp [row_size]) (copy_news HL7.out (Below.refl _ _)) (row_cells _ _) hml3 (by omega) hsz7 ?_; intro v' w9 hown' hgrow' _; obtain ⟨so2, dd2, e9, _, _⟩ := own_sl' hown'; subst e9; have HO9 : Hid (w9.ownsRow w1.heap.size 5 1 (.slice so2 (N + c) dd2) (N + c) ((row N H).toList ++ (row c (kvp M p j top)).toList)) := hown'; have HG9 : Hid (W7.grownBy w9 (Value.slice so N dd).ownBlock) := hgrow'; have HV9 : Hid (Vr w9 (w1.heap.size + 1) (.int .i64 ((u : Int) + 1)) (.int .i64 (c : Int)) (.slice so N dd)) := HV7.out.grown HG9.out (ob_ne_vr HO7.out HV7.out); have q2 := HV9.out.c2; have qf2 := HV9.out.free 2; clear hown' hgrow')
              have hcy := cnt_yes (P := fre p top) hfr
              have hcn := cnt_no (P := pvt p top) hpv
              have HMo : NuInv w (w9.setCell ⟨w1.heap.size + 1, 2, none⟩ (.slice so2 (N + c) dd2)) w1.heap.size w1.heap.size (w1.heap.size + 1) r c n k top (j + 1) p a s d (.slice (some ⟨px, po, none⟩) top pd) so2 dd2 G (stf H (kvp (m2 G r c) p j top) (cnt (fre p top) j * c)) := by
                refine NuInv.more HI.out (by rw [HM.out]; exact HM2.out) hfr hlt (w1 := W7) (w2 := w9) ?_ ?_ ?_ ?_
                · rw [hcy, HU.out, HW7.out]; rfl
                · rw [HU.out, HN.out, HM.out]; exact HO9.out
                · rw [HU.out, HN.out]; exact HG9.out
                · rw [HU.out, HN.out]
              exact ⟨⟨j + 1, so2, dd2, _, by omega, by rw [hcn, HAT.out], by go_num, HMo⟩, by simp [intOf]; omega⟩
        · clear I
          obtain ⟨b0, hb0, hbz0, hbz1, hbz2⟩ := info_parts info8
          have hml : c ≤ maxLen := by unfold maxLen; omega
          have k0 : w1.heap.size + 1 < wr.heap.size := HI.out.vo.lt
          go_wp2_with (at_make; refine wpList_make_full _ rfl _ _ 22 rfl wr.heap.size 5 b0 (.int .u8 0) 1 Try.underlying22 hb0 hbz0 hbz1 .i64 .i64 _ _ c rfl rfl rfl rfl (by rw [hbz2]; omega) hml (Nat.le_refl _) ?_; intro w5 hown hgrow; have HR5 : Hid (RowAt w5 wr.heap.size 5 c (fun _ => 0)) := made_at hown; have HI5 : Hid (NuInv w w5 w1.heap.size w1.heap.size (w1.heap.size + 1) r c n k top j p a s d (.slice ps top pd) so dd G H) := HI.out.later (grown_none.mp hgrow); have hc5 := HR5.out.cell j hlt; have hf5 := HR5.out.free j; clear hown hgrow)
          obtain ⟨g, HG⟩ : ∃ g, Hid (wr.heap.size = g) := ⟨_, rfl⟩
          have N1 : Hid ((Value.slice s n d).ownBlock ≠ some g) := fun e => by have := (HI.out.data.base e).2; rw [HG.out] at this; omega
          have N2 : Hid ((Value.slice ps top pd).ownBlock ≠ some g) := fun e => by have := (HI.out.piv.base e).2; rw [HG.out] at this; omega
          have N3 : Hid ((Value.slice so (cnt (fre p top) j * c) dd).ownBlock ≠ some g) := fun e => by have := (HI.out.out.base e).2; rw [HG.out] at this; omega
          have k1 : w1.heap.size + 1 < g := by rw [← HG.out]; exact k0
          have k2 : w.heap.size + 1 < w1.heap.size := HI.out.low
          have HR6 : Hid (RowAt (w5.setCell ⟨g, j, none⟩ (.int .u8 (1 : Int))) g 5 c (kvp M p j 0)) := by
            have h1 := HR5.out.set j 1
            rw [HG.out] at h1
            exact h1.congr (fun l _ => rfl)
          have HI6 : Hid (NuInv w (w5.setCell ⟨g, j, none⟩ (.int .u8 (1 : Int))) w1.heap.size w1.heap.size (w1.heap.size + 1) r c n k top j p a s d (.slice ps top pd) so dd G H) := HI5.out.kept (grown_setCell _ _ _ _) (by omega) (by omega) (by omega) N1.out N2.out N3.out
          rw [HG.out]
          clear HR5 HI5 hc5 hf5 HI c0 c1 c2 k0
          go_loopw [11] (fun si wi => ∃ i : Nat, i ≤ top ∧ si = .int .i64 (i : Int) ∧ RowAt wi g 5 c (kvp M p j i) ∧ NuInv w wi w1.heap.size w1.heap.size (w1.heap.size + 1) r c n k top j p a s d (.slice ps top pd) so dd G H) (fun si _ => top - (intOf si).toNat)
          case atStart => exact ⟨0, by omega, rfl, HR6.out, HI6.out⟩
          case round =>
            clear HR6 HI6
            obtain ⟨i, hit, rfl, hRow, I⟩ := hrel
            have HI : Hid (NuInv w wr w1.heap.size w1.heap.size (w1.heap.size + 1) r c n k top j p a s d (.slice ps top pd) so dd G H) := I
            have HRow : Hid (RowAt wr g 5 c (kvp M p j i)) := hRow
            clear hRow
            by_cases hlt2 : i < top
            · obtain ⟨qx, qo, eps, hpc⟩ := I.piv.il i hlt2
              obtain ⟨pi, HPI⟩ : ∃ x, Hid (p i = x) := ⟨_, rfl⟩
              dsimp only at hpc
              rw [HPI.out] at hpc
              cases eps
              have hpi : pi < c := by rw [← HPI.out]; exact HPc.out i hlt2
              obtain ⟨y, HY⟩ : ∃ x, Hid (G (i * c + j) = x) := ⟨_, rfl⟩
              have hir : i < r := Nat.lt_of_lt_of_le hlt2 HRd.out.kr
              have HYm : Hid (M i j = y) := by rw [← HM.out, m2_at _ hir hlt]; exact HY
              have HAt : Hid (∀ w', Below wr.heap.size wr w' → Calls Try.prog 32 #[.agg #[.int .i64 (r : Int), .int .i64 (c : Int), .slice s n d], .int .i64 (i : Int), .int .i64 (j : Int)] w' fun e w'' => e = .returned (.int .u8 (y : Int)) ∧ Below w'.heap.size w' w'') := fun w' h' => at3_any w' _ c i j n d y s G ((HI.out.data.later h').sl HGb.out) (HR.out.at hir hlt) hn HY
              have p0 : (0 : Int) ≤ (i : Int) := by omega
              have p1 : (i : Int) < (top : Int) := by omega
              have p2 : (0 : Int) ≤ (pi : Int) := by omega
              have p3 : (pi : Int) < (c : Int) := by omega
              have HD : Hid (wr.drew.cell? ⟨w1.heap.size, 0, none⟩ = some (.int .i64 (r : Int)) ∧ wr.drew.cell? ⟨w1.heap.size, 1, none⟩ = some (.int .i64 (c : Int)) ∧ wr.drew.cell? ⟨w1.heap.size, 2, none⟩ = some (.slice s n d) ∧ wr.drew.cell? ⟨qx, qo + i, none⟩ = some (.int .i64 (pi : Int))) := ⟨I.vr.c0, I.vr.c1, I.vr.c2, hpc⟩
              clear I
              go_wp2
              refine wp_region_park (k := 10) (n := 10) (fun w' => w'.cell? ⟨w1.heap.size, 0, none⟩ = some (.int .i64 (r : Int)) ∧ w'.cell? ⟨w1.heap.size, 1, none⟩ = some (.int .i64 (c : Int)) ∧ w'.cell? ⟨w1.heap.size, 2, none⟩ = some (.slice s n d) ∧ w'.cell? ⟨qx, qo + i, none⟩ = some (.int .i64 (pi : Int))) (by kernel_rfl) (by kernel_rfl) (by decide) (by rfl) ?_
              refine wpAnyH_take (i := 0) (v := ?vb0) rfl (by kernel_rfl) (by kernel_rfl) (by kernel_rfl) (fun _ _ _ h => h) (Or.inl ⟨by rfl, ?yb0⟩) HD.out ?zb0
              case yb0 => (intro w hSw; (try dsimp only at hSw); go_simp; try with_reducible rfl)
              try simp only [List.getElem_toArray, List.getElem_cons_zero, Act.put, List.setIfInBounds_toArray, List.set_cons_zero, List.set_cons_succ]
              refine wpAnyH_take (i := 1) (v := ?vb1) rfl (by kernel_rfl) (by kernel_rfl) (by kernel_rfl) (fun _ _ _ h => h) (Or.inl ⟨by rfl, ?yb1⟩) HD.out ?zb1
              case yb1 => (intro w hSw; (try dsimp only at hSw); go_simp; try with_reducible rfl)
              try simp only [List.getElem_toArray, List.getElem_cons_succ, List.getElem_cons_zero, Act.put, List.setIfInBounds_toArray, List.set_cons_zero, List.set_cons_succ]
              refine wpAnyH_take (i := 2) (v := ?vb2) rfl (by kernel_rfl) (by kernel_rfl) (by kernel_rfl) (fun _ _ _ h => h) (Or.inl ⟨by rfl, ?yb2⟩) HD.out ?zb2
              case yb2 => (intro w hSw; (try dsimp only at hSw); go_simp; try with_reducible rfl)
              try simp only [List.getElem_toArray, List.getElem_cons_succ, List.getElem_cons_zero, Act.put, List.setIfInBounds_toArray, List.set_cons_zero, List.set_cons_succ]
              refine wpAnyH_take (i := 3) (v := ?vb3) rfl (by kernel_rfl) (by kernel_rfl) (by kernel_rfl) (fun _ _ _ h => h) (Or.inl ⟨by rfl, ?yb3⟩) HD.out ?zb3
              case yb3 => (intro w hSw; (try dsimp only at hSw); go_simp; try with_reducible rfl)
              try simp only [List.getElem_toArray, List.getElem_cons_succ, List.getElem_cons_zero, Act.put, List.setIfInBounds_toArray, List.set_cons_zero, List.set_cons_succ]
              refine wpAnyH_take (i := 4) (v := ?vb4) rfl (by kernel_rfl) (by kernel_rfl) (by kernel_rfl) (fun _ _ _ h => h) (Or.inl ⟨by rfl, ?yb4⟩) HD.out ?zb4
              case yb4 => (intro w hSw; (try dsimp only at hSw); go_simp; try with_reducible rfl)
              try simp only [List.getElem_toArray, List.getElem_cons_succ, List.getElem_cons_zero, Act.put, List.setIfInBounds_toArray, List.set_cons_zero, List.set_cons_succ]
              refine wpAnyH_take (i := 5) (v := ?vb5) rfl (by kernel_rfl) (by kernel_rfl) (by kernel_rfl) (fun _ _ _ h => h) (Or.inl ⟨by rfl, ?yb5⟩) HD.out ?zb5
              case yb5 => (intro w hSw; (try dsimp only at hSw); go_simp; try with_reducible rfl)
              try simp only [List.getElem_toArray, List.getElem_cons_succ, List.getElem_cons_zero, Act.put, List.setIfInBounds_toArray, List.set_cons_zero, List.set_cons_succ]
              refine wpAnyH_take (i := 6) (v := ?vb6) rfl (by kernel_rfl) (by kernel_rfl) (by kernel_rfl) (fun _ _ _ h => h) (Or.inl ⟨by rfl, ?yb6⟩) HD.out ?zb6
              case yb6 => (intro w hSw; (try dsimp only at hSw); go_simp; try with_reducible rfl)
              try simp only [List.getElem_toArray, List.getElem_cons_succ, List.getElem_cons_zero, Act.put, List.setIfInBounds_toArray, List.set_cons_zero, List.set_cons_succ]
              refine wpAnyH_take (i := 7) (v := ?vb7) rfl (by kernel_rfl) (by kernel_rfl) (by kernel_rfl) (fun _ _ _ h => h) (Or.inl ⟨by rfl, ?yb7⟩) HD.out ?zb7
              case yb7 => (intro w hSw; (try dsimp only at hSw); go_simp; try with_reducible rfl)
              try simp only [List.getElem_toArray, List.getElem_cons_succ, List.getElem_cons_zero, Act.put, List.setIfInBounds_toArray, List.set_cons_zero, List.set_cons_succ]
              refine wpAnyH_ready (rs := [8]) (by kernel_rfl) (by simp) ?_
              refine AllReadyH.cons rfl (fun K hK => ?_) AllReadyH.nil
              go_simp
              refine (HAt.out wr.drew (Below.refl _ _).drew).mono ?_; rintro e w8 ⟨rfl, hb8⟩; have HD8 : Hid (w8.cell? ⟨w1.heap.size, 0, none⟩ = some (.int .i64 (r : Int)) ∧ w8.cell? ⟨w1.heap.size, 1, none⟩ = some (.int .i64 (c : Int)) ∧ w8.cell? ⟨w1.heap.size, 2, none⟩ = some (.slice s n d) ∧ w8.cell? ⟨qx, qo + i, none⟩ = some (.int .i64 (pi : Int))) := ⟨keepc hb8 HD.out.1, keepc hb8 HD.out.2.1, keepc hb8 HD.out.2.2.1, keepc hb8 HD.out.2.2.2⟩; have HB8 : Hid (Below wr.heap.size wr w8) := two_below (Below.refl _ _).drew hb8; clear hb8
              refine hK.out _ _ HD8.out (fun _ => ?_)
              clear hK K
              try simp only [List.getElem_toArray, List.getElem_cons_succ, List.getElem_cons_zero, Act.put, List.setIfInBounds_toArray, List.set_cons_zero, List.set_cons_succ]
              refine wpAnyH_take (i := 9) (v := ?vb9) rfl (by kernel_rfl) (by kernel_rfl) (by kernel_rfl) (fun _ _ _ h => h) (Or.inl ⟨by rfl, ?yb9⟩) HD8.out ?zb9
              case yb9 => (intro w hSw; (try dsimp only at hSw); go_simp; try with_reducible rfl)
              try simp only [List.getElem_toArray, List.getElem_cons_succ, List.getElem_cons_zero, Act.put, List.setIfInBounds_toArray, List.set_cons_zero, List.set_cons_succ]
              refine wpAnyH_done (by kernel_rfl) ?_ _
              have hcl := (HRow.out.later HB8.out).cell pi hpi
              have hfl := (HRow.out.later HB8.out).free pi
              refine park_last rfl (fun K hK => ?_)
              go_simp
              refine hK.out _ _ ?_
              clear hK K
              try simp only [List.getElem_toArray, List.getElem_cons_succ, List.getElem_cons_zero, Act.put, List.setIfInBounds_toArray, List.set_cons_zero, List.set_cons_succ]
              go_wp2
              exact ⟨⟨i + 1, by omega, by go_num, ((HRow.out.later HB8.out).set pi y).congr (fun l _ => by rw [← HPI.out, ← HYm.out]; exact kvp_step HRd.out.up hlt2 (pvt_no hpv hlt2) l), (HI.out.later HB8.out).kept (grown_setCell _ _ _ _) (by omega) (by omega) (by omega) N1.out N2.out N3.out⟩, by simp [intOf]; omega⟩
            · have HIT : Hid (i = top) := Nat.le_antisymm hit (by omega)
              obtain ⟨u, HU⟩ : ∃ x, Hid (cnt (fre p top) j = x) := ⟨_, rfl⟩
              obtain ⟨N, HN⟩ : ∃ x, Hid (u * c = x) := ⟨_, rfl⟩
              have hfr : fre p top j = true := by simp [fre, hpv]
              have hu1 : u + 1 ≤ c := by rw [← HU.out]; have h1 := cnt_lt (P := fre p top) hlt hfr; have h2 := cnt_not (fre p top) c; omega
              have hN : N + c ≤ 4096 := by rw [← HN.out]; have h1 := Nat.mul_le_mul hu1 hc; rw [Nat.add_mul, Nat.one_mul] at h1; omega
              have o0 := I.vo.c0
              have o1 := I.vo.c1
              have of0 := I.vo.free 0
              rw [HU.out] at o0
              obtain ⟨W7, HW7⟩ : ∃ W, Hid (W = wr.setCell ⟨w1.heap.size + 1, 0, none⟩ (.int .i64 ((u : Int) + 1))) := ⟨_, rfl⟩
              have gW7 : wr.grownBy W7 (some (w1.heap.size + 1)) := by rw [HW7.out]; exact grown_setCell _ _ _ _
              have HV7 : Hid (Vr W7 (w1.heap.size + 1) (.int .i64 ((u : Int) + 1)) (.int .i64 (c : Int)) (.slice so N dd)) := by
                have h1 := I.vo.set0 (.int .i64 ((u : Int) + 1))
                rw [HU.out, HN.out] at h1
                rw [HW7.out]; exact h1
              have HO7 : Hid (Ob W7 w1.heap.size (.slice so N dd) N H) := by
                have h1 := I.out.kept gW7 (.inr (ob_ne_vr I.out I.vo))
                rw [HU.out, HN.out] at h1
                exact h1
              have HR7 : Hid (RowAt W7 g 5 c (kvp M p j top)) := by have h1 := HRow.out.kept gW7 (by omega); rw [HIT.out] at h1; exact h1
              have hsz7 : w1.heap.size ≤ W7.heap.size := by have := HV7.out.lt; omega
              have o2 := HV7.out.c2
              have of2 := HV7.out.free 2
              rw [HW7.out] at o2 of2
              have wu : IntKind.i64.wrap ((u : Int) + 1) = (u : Int) + 1 := by rw [IntKind.wrap_i64]; omega
              have hml3 : N + c ≤ maxLen := by unfold maxLen; omega
              have HM2 : Hid (El2 M) := by rw [← HM.out]; exact m2_el HGb.out HR.out
              have HL7 : Hid (Sl W7 (some ⟨g, 0, none⟩) c (kvp M p j top)) := HR7.out.sl (fun l _ => kvp_lt HM2.out p j top l)
              clear I gW7
              go_wp2_with (at_builtin; rw [← HW7.out]; refine wpList_append_own _ rfl _ _ 22 rfl w1.heap.size 5 b0 (.int .u8 0) 1 1 Try.underlying22 hb0 hbz0 hbz1 hbz2 rfl (by decide) _ N _ rfl HO7.out ⟨g, 0, none⟩ c c (row c (kvp M p j top)).toList rfl (by simp [row_size]) (copy_news HL7.out (Below.refl _ _)) (row_cells _ _) hml3 (by omega) hsz7 ?_; intro v' w9 hown' hgrow' _; obtain ⟨so2, dd2, e9, _, _⟩ := own_sl' hown'; subst e9; have HO9 : Hid (w9.ownsRow w1.heap.size 5 1 (.slice so2 (N + c) dd2) (N + c) ((row N H).toList ++ (row c (kvp M p j top)).toList)) := hown'; have HG9 : Hid (W7.grownBy w9 (Value.slice so N dd).ownBlock) := hgrow'; have HV9 : Hid (Vr w9 (w1.heap.size + 1) (.int .i64 ((u : Int) + 1)) (.int .i64 (c : Int)) (.slice so N dd)) := HV7.out.grown HG9.out (ob_ne_vr HO7.out HV7.out); have q2 := HV9.out.c2; have qf2 := HV9.out.free 2; clear hown' hgrow')
              have hcy := cnt_yes (P := fre p top) hfr
              have hcn := cnt_no (P := pvt p top) hpv
              have HMo : NuInv w (w9.setCell ⟨w1.heap.size + 1, 2, none⟩ (.slice so2 (N + c) dd2)) w1.heap.size w1.heap.size (w1.heap.size + 1) r c n k top (j + 1) p a s d (.slice ps top pd) so2 dd2 G (stf H (kvp (m2 G r c) p j top) (cnt (fre p top) j * c)) := by
                refine NuInv.more HI.out (by rw [HM.out]; exact HM2.out) hfr hlt (w1 := W7) (w2 := w9) ?_ ?_ ?_ ?_
                · rw [hcy, HU.out, HW7.out]; rfl
                · rw [HU.out, HN.out, HM.out]; exact HO9.out
                · rw [HU.out, HN.out]; exact HG9.out
                · rw [HU.out, HN.out]
              exact ⟨⟨j + 1, so2, dd2, _, by omega, by rw [hcn, HAT.out], by go_num, HMo⟩, by simp [intOf]; omega⟩
    · have HJC : Hid (j = c) := Nat.le_antisymm hjc (by omega)
      have HVz : Hid (Vr wr (w.heap.size + 1) (.int .i64 0) (.int .i64 0) (.slice none 0 0)) := I.vz
      obtain ⟨u, HU⟩ : ∃ x, Hid (cnt (fre p top) j = x) := ⟨_, rfl⟩
      obtain ⟨N, HN⟩ : ∃ x, Hid (u * c = x) := ⟨_, rfl⟩
      have o0 := I.vo.c0
      have o1 := I.vo.c1
      have o2 := I.vo.c2
      rw [HU.out] at o0 o2
      rw [HN.out] at o2
      clear I
      go_wp2_with (refine wpList_store_var rfl _ _ rfl (w.heap.size + 1) _ _ _ (.int .i64 (u : Int)) (.int .i64 (c : Int)) (.slice so N dd) rfl rfl HVz.out rfl rfl rfl ?_; intro w4 HV4 HG4)
      have d0 := HV4.out.c0
      have d1 := HV4.out.c1
      have d2 := HV4.out.c2
      refine bodyPost_ret (v := .tuple #[mv u c so N dd, .int .i64 0]) (by simp [results, Try.results63, go_sem, d0, d1, d2, mv]) rfl ?_
      have J := HI.out
      have ej := HJC.out
      subst ej
      have ho := J.out.kept HG4.out (.inr (ob_ne_vr J.out J.vz))
      rw [HU.out] at ho
      have hB := J.hB
      refine ⟨so, dd, u, top, p, G, H, by rw [HN.out], ho.mono (by omega), HGb.out, HRd.out, HSp.out, HPc.out, HU.out.symm, fun v l hv hl => J.rows v l (by rw [HU.out]; exact hv) hl, fun q hq => J.lt q (by rw [HU.out]; exact hq), below_row J.below HG4.out (by omega)⟩
end Go.Proofs.Ytblfldjlehjnbaa

namespace Go.Proofs.Ytblfldjlehjnbaa
open Go.RowKit
theorem grown_new {w wr w' : World} {row row' : Option Nat} (h : w.grownBy wr row) (h2 : wr.grownBy w' row') (hb : ∀ b, row' = some b → row = some b ∨ w.heap.size ≤ b) : w.grownBy w' row :=
  ⟨h2.os.trans h.os, h2.tape.trans h.tape, h2.output.trans h.output, Nat.le_trans h.size h2.size, fun k hk hne => by
    rw [h2.block k (Nat.lt_of_lt_of_le hk h.size) (fun e => by
      rcases hb k e.symm with h' | h'
      · exact hne h'.symm
      · omega), h.block k hk hne]⟩
theorem grown_later {w wr w' : World} {row : Option Nat} (h : w.grownBy wr row) (hb : Below wr.heap.size wr w') : w.grownBy w' row := grown_new h (grown_none.mpr hb) (fun b e => by cases e)
/-- A matrix of up to 64 rows and 65 columns. -/
structure Wt (r c n : Nat) : Prop where
  r64 : r ≤ 64
  c65 : c ≤ 65
  len : r * c = n
theorem Wt.le {r c n : Nat} (h : Wt r c n) : n ≤ 4160 := by rw [← h.len]; exact Nat.mul_le_mul h.r64 h.c65
theorem Wt.at {r c n i j : Nat} (h : Wt r c n) (hi : i < r) (hj : j < c) : i * c + j < n := by
  rw [← h.len]
  have : (i + 1) * c ≤ r * c := Nat.mul_le_mul_right c hi
  rw [Nat.add_mul, Nat.one_mul] at this
  omega
theorem m2_elw {F : Nat → Nat} {r c n : Nat} (hF : ∀ p, p < n → F p < 256) (R : Wt r c n) : El2 (m2 F r c) := fun i j => by
  unfold m2
  split
  · rename_i h; exact hF _ (R.at h.1 h.2)
  · decide
set_option maxHeartbeats 400000 in
theorem at3_big (w : World) (r : Int) (c i j n k v : Nat) (a : Option Addr) (f : Nat → Nat) (h : Sl w a n f) (hi : i * c + j < n) (hn : n ≤ 4160) (HV : Hid (f (i * c + j) = v)) :
    Calls Try.prog 32 #[mv r c a n k, .int .i64 (i : Int), .int .i64 (j : Int)] w fun e w' => e = .returned (.int .u8 (v : Int)) ∧ Below w.heap.size w w' := by
  obtain ⟨b, o, ea, hcl⟩ := h.2 _ hi
  rw [HV.out] at hcl
  have hlt := cell_lt hcl
  obtain ⟨p, HP⟩ : ∃ p, Hid (i * c + j = p) := ⟨_, rfl⟩
  rw [HP.out] at hcl hi
  have hb : i * c ≤ p := by rw [← HP.out]; omega
  have e1 : ((i : Int) * (c : Int)) = ((i * c : Nat) : Int) := by simp
  have w1 : IntKind.i64.wrap ((i : Int) * (c : Int)) = (i : Int) * (c : Int) := by rw [e1, IntKind.wrap_i64]; omega
  have w2 : IntKind.i64.wrap ((i : Int) * (c : Int) + (j : Int)) = (p : Int) := by rw [e1, IntKind.wrap_i64]; have := HP.out; omega
  have hcl2 : (w.alloc (.cells #[.int .i64 r, .int .i64 (c : Int), .slice (some ⟨b, o, none⟩) n k] 24)).cell? ⟨b, o + p, none⟩ = some (.int .u8 (v : Int)) := by rw [(alloc_low w _).cell (p := ⟨b, o + p, none⟩) hlt]; exact hcl
  have hcl2 : (w.alloc (.cells #[.int .i64 r, .int .i64 (c : Int), .slice (some ⟨b, o, none⟩) n k] 24)).cell? ⟨b, o + p, none⟩ = some (.int .u8 (v : Int)) := by rw [(alloc_low w _).cell (p := ⟨b, o + p, none⟩) hlt]; exact hcl
  clear h hcl e1
  subst ea
  go_enter Try.func32, Try.ntmps32
  go_wp2
  go_ret
  exact ⟨rfl, alloc_low _ _⟩
/-- Rows top and i, as far as column L: exchanged, the one that comes up divided. -/
def swf (F : Nat → Nat) (d c top i L p : Nat) : Nat := if p / c = top ∧ p % c < L then fm d (F (i * c + p % c)) else if p / c = i ∧ p % c < L then F (top * c + p % c) else F p
theorem swf_zero (F : Nat → Nat) (d c top i p : Nat) : swf F d c top i 0 p = F p := by unfold swf; rw [if_neg (by omega), if_neg (by omega)]
theorem swf_old (F : Nat → Nat) {d c top i L t : Nat} (hL : L < c) : swf F d c top i L (t * c + L) = F (t * c + L) := by
  unfold swf
  rw [dm2 hL, if_neg (by omega), if_neg (by omega)]
/-- One column more: first the row below, then the upper one. -/
theorem swf_step (F : Nat → Nat) {d c top i L : Nat} (hL : L < c) (p : Nat) : (if p = top * c + L then fm d (F (i * c + L)) else if p = i * c + L then F (top * c + L) else swf F d c top i L p) = swf F d c top i (L + 1) p := by
  have hc : 0 < c := by omega
  have key : ∀ t, p = t * c + L ↔ p / c = t ∧ p % c = L := fun t => by
    constructor
    · rintro rfl; exact ⟨dm1 hL, dm2 hL⟩
    · rintro ⟨rfl, rfl⟩
      have := Nat.div_add_mod p c
      rw [Nat.mul_comm] at this
      exact this.symm
  unfold swf
  by_cases h1 : p = top * c + L
  · rw [if_pos h1]
    obtain ⟨e1, e2⟩ := (key top).1 h1
    rw [if_pos ⟨e1, by omega⟩, e2]
  · rw [if_neg h1]
    by_cases h2 : p = i * c + L
    · rw [if_pos h2]
      obtain ⟨e1, e2⟩ := (key i).1 h2
      rw [if_neg (fun h => h1 ((key top).2 ⟨h.1, e2⟩)), if_pos ⟨e1, by omega⟩, e2]
    · rw [if_neg h2]
      have n1 : ¬ (p / c = top ∧ p % c = L) := fun h => h1 ((key top).2 h)
      have n2 : ¬ (p / c = i ∧ p % c = L) := fun h => h2 ((key i).2 h)
      have a1 : (p / c = top ∧ p % c < L) ↔ (p / c = top ∧ p % c < L + 1) := by omega
      have a2 : (p / c = i ∧ p % c < L) ↔ (p / c = i ∧ p % c < L + 1) := by omega
      simp only [a1, a2]
theorem m2_swf (F : Nat → Nat) {r c top i d : Nat} (ht : top < r) (hi : i < r) : ∀ t l, t < r → m2 (swf F d c top i c) r c t l = rw1 (swp (m2 F r c) top i) top (fun l => fm d (swp (m2 F r c) top i top l)) t l := by
  intro t l htr
  unfold rw1 swp
  by_cases hl : l < c
  · rw [m2_at _ htr hl]
    unfold swf
    rw [dm1 hl, dm2 hl]
    by_cases e : t = top
    · rw [if_pos ⟨e, hl⟩, if_pos e]
      show _ = fm d (if top = top then m2 F r c i l else _)
      rw [if_pos rfl, m2_at _ hi hl]
    · rw [if_neg (fun h => e h.1), if_neg e, if_neg e]
      by_cases e2 : t = i
      · rw [if_pos ⟨e2, hl⟩, if_pos e2, m2_at _ ht hl]
      · rw [if_neg (fun h => e2 h.1), if_neg e2, m2_at _ htr hl]
  · rw [m2_cut _ (by omega)]
    by_cases e : t = top
    · rw [if_pos e]
      show 0 = fm d (if top = top then m2 F r c i l else _)
      rw [if_pos rfl, m2_cut _ (by omega), fm_zero]
    · rw [if_neg e, if_neg e, m2_cut _ (by omega), m2_cut _ (by omega)]
      split <;> rfl
/-- A round of wide with a pivot in row i. -/
theorem wide_round {F h : Nat → Nat} {r c n top i j d : Nat} {p : Nat → Nat} {M : Nat → Nat → Nat} (hF : ∀ p, p < n → F p < 256) (R : Wt r c n) (E : Elm (m2 F r c) r top j p) (S : SpEq (m2 F r c) r M r) (hi : top ≤ i) (hir : i < r) (hj : j < c) (hne : F (i * c + j) ≠ 0)
    (hd : d = finv (F (i * c + j))) (hh : ∀ l, l < c → h l = swf F d c top i c (top * c + l)) :
    Elm (m2 (elf (swf F d c top i c) h c top j (r * c)) r c) r (top + 1) (j + 1) (fun t => if t = top then j else p t) ∧ SpEq (m2 (elf (swf F d c top i c) h c top j (r * c)) r c) r M r := by
  have htr : top < r := by omega
  have hd2 : d < 256 := by rw [hd]; exact finv_lt _
  have hE0 := m2_elw hF R
  obtain ⟨N1, eN1⟩ : ∃ N, N = swp (m2 F r c) top i := ⟨_, rfl⟩
  have hN1 : El2 N1 := by rw [eN1]; exact swp_el hE0 _ _
  have E1 : Elm N1 r top j p := by rw [eN1]; exact E.swp (by omega) hi htr hir
  have S1 : SpEq N1 r M r := by rw [eN1]; exact (spEq_swp hE0 htr hir).trans S
  have v1 : N1 top j = F (i * c + j) := by
    rw [eN1]; unfold swp; rw [if_pos rfl, m2_at _ hir hj]
  obtain ⟨N2, eN2⟩ : ∃ N, N = rw1 N1 top (fun l => fm d (N1 top l)) := ⟨_, rfl⟩
  have hN2 : El2 N2 := by rw [eN2]; exact rw1_el hN1 (fun l => fm_lt _ _ hd2) _
  have hd0 : d ≠ 0 := fun e => by
    have := fm_finv _ (hF _ (R.at hir hj)) hne
    rw [← hd, e, fm_zero] at this
    cases this
  have E2 : Elm N2 r top j p := by rw [eN2]; exact E1.scale (by omega) htr
  have S2 : SpEq N2 r M r := by rw [eN2]; exact (spEq_scale hN1 htr hd2 hd0).trans S1
  have v2 : N2 top j = 1 := by
    rw [eN2, rw1_at, v1, hd, fm_comm _ _ (finv_lt _) (hF _ (R.at hir hj)), fm_finv _ (hF _ (R.at hir hj)) hne]
  have E3 := E2.step hN2 htr v2
  have S3 := (spEq_clr hN2 htr j).trans S2
  have key : ∀ t l, t < r → m2 (elf (swf F d c top i c) h c top j (r * c)) r c t l = clr N2 top j t l := by
    intro t l ht
    rw [m2_elf _ h hh htr hj t l ht]
    refine clr_congr htr (fun t l ht => ?_) t l ht
    rw [m2_swf F htr hir t l ht, eN2, eN1]
  exact ⟨E3.rows key, S3.rows key⟩
theorem swf_lt {F : Nat → Nat} {d r c n top i L : Nat} (hF : ∀ t, t < n → F t < 256) (hd : d < 256) (R : Wt r c n) (ht : top < r) (hc : 0 < c) : ∀ t, t < n → swf F d c top i L t < 256 := by
  intro t htn
  unfold swf
  split
  · exact fm_lt _ _ hd
  · split
    · exact hF _ (R.at ht (Nat.mod_lt t hc))
    · exact hF t htn
theorem elf_ltw {G h : Nat → Nat} {r c n top col : Nat} (hG : ∀ t, t < n → G t < 256) (R : Wt r c n) (hcol : col < c) (q : Nat) : ∀ t, t < n → elf G h c top col q t < 256 := by
  intro t ht
  unfold elf
  split
  · have hl := R.len
    have : t / c < r := (Nat.div_lt_iff_lt_mul (by omega)).2 (by rw [hl]; exact ht)
    exact xor_lt _ _ (hG t ht) (fm_lt _ _ (hG _ (R.at this hcol)))
  · exact hG t ht
/-- What wide's loops keep: the matrix's variable, the answer's, the pivots; of what was there before only the list itself has changed. -/
structure WInv (w wr : World) (B r c n top : Nat) (p : Nat → Nat) (s : Option Addr) (d : Nat) (v : Value) (G : Nat → Nat) : Prop where
  vm : Vr wr w.heap.size (.int .i64 (r : Int)) (.int .i64 (c : Int)) (.slice s n d)
  vo : Vr wr (w.heap.size + 1) (.int .i64 0) (.int .i64 0) (.slice none 0 0)
  data : Ob wr B (.slice s n d) n G
  piv : Oi wr w.heap.size v top p
  grown : w.grownBy wr (Value.slice s n d).ownBlock
theorem WInv.later {w wr w' : World} {B r c n top d : Nat} {p : Nat → Nat} {s : Option Addr} {v : Value} {G : Nat → Nat} (h : WInv w wr B r c n top p s d v G) (hb : Below wr.heap.size wr w') : WInv w w' B r c n top p s d v G :=
  ⟨h.vm.later hb, h.vo.later hb, h.data.later hb, h.piv.later hb, grown_later h.grown hb⟩
theorem WInv.congr {w wr : World} {B r c n top d : Nat} {p : Nat → Nat} {s : Option Addr} {v : Value} {G G' : Nat → Nat} (h : WInv w wr B r c n top p s d v G) (e : ∀ q, q < n → G q = G' q) : WInv w wr B r c n top p s d v G' :=
  ⟨h.vm, h.vo, h.data.congr e, h.piv, h.grown⟩
theorem WInv.set {w wr : World} {B r c n top d g q x : Nat} {p : Nat → Nat} {v : Value} {G : Nat → Nat} (I : WInv w wr B r c n top p (some ⟨g, 0, none⟩) d v G) : WInv w (wr.setCell ⟨g, q, none⟩ (.int .u8 (x : Int))) B r c n top p (some ⟨g, 0, none⟩) d v (fun i => if i = q then x else G i) := by
  have hg := grown_setCell wr g q (.int .u8 (x : Int))
  have hb : (Value.slice (some ⟨g, 0, none⟩) n d).ownBlock = some g := rfl
  exact ⟨I.vm.kept hg (fun e => ob_ne_vr I.data I.vm (by rw [hb, e])), I.vo.kept hg (fun e => ob_ne_vr I.data I.vo (by rw [hb, e])), I.data.set q x, I.piv.kept hg (.inr (ob_ne_oi I.data I.piv hb)), grown_new I.grown hg (fun b e => .inl (by rw [hb, e]))⟩
theorem WInv.more {w wr w3 : World} {B r c n top d j : Nat} {p : Nat → Nat} {s : Option Addr} {v v' : Value} {G : Nat → Nat} (o : Obj) (I : WInv w wr B r c n top p s d v G) (hown : w3.ownsRow w.heap.size 3 1 v' (top + 1) ((irow top p).toList ++ [.int .i64 (j : Int)])) (hg : (wr.alloc o).grownBy w3 v.ownBlock) :
    WInv w w3 B r c n (top + 1) (fun t => if t = top then j else p t) s d v' G := by
  have A := I.later (alloc_low wr o)
  rw [irow_push] at hown
  refine ⟨A.vm.grown hg (oi_ne_vr A.piv A.vm), A.vo.grown hg (oi_ne_vr A.piv A.vo), A.data.kept hg ?_, hown, grown_new A.grown hg (fun b e => .inr (A.piv.base e).1)⟩
  cases hs : (Value.slice s n d).ownBlock with
  | none => exact .inl rfl
  | some g => exact .inr (fun e => ob_ne_oi A.data A.piv hs e.symm)
end Go.Proofs.Ytblfldjlehjnbaa
