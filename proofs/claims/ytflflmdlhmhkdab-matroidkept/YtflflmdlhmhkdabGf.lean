/-
  Contract of the reference: Kernel.
  Contract of the reference: Kernel.
  Words for the reference's wide: the elimination in place, of up to 65 columns.
  Contract of the reference: wide.
  Words for the reference's Solve.
  Contract of the reference: Solve.
  Contracts of the reference: Kernel's and Solve's errors; Solve where there is something, and where there is nothing; words for Combine.
  Contract of the reference: Combine.
  Contract of the reference: Inverse.
  Contracts of the reference: Inverse's and Combine's errors; the laws' ints.
-/
import Derived.Test.YtflflmdlhmhkdabGe
namespace Go.Proofs.Ytflflmdlhmhkdab
open Go.RowKit
/-- Column j is free. -/
def fre (p : Nat → Nat) (k j : Nat) : Bool := !pvt p k j
/-- The list of a free column f, as far as pivot i. -/
def kvp (R : Nat → Nat → Nat) (p : Nat → Nat) (f i j : Nat) : Nat := if j = f then 1 else pp p i (fun t => R t f) j
theorem kvp_zero (R : Nat → Nat → Nat) (p : Nat → Nat) (f j : Nat) : kvp R p f 0 j = if j = f then 1 else 0 := rfl
theorem kvp_step {R : Nat → Nat → Nat} {p : Nat → Nat} {k f i : Nat} (up : ∀ i t, i < t → t < k → p i < p t) (hi : i < k) (hf : p i ≠ f) (j : Nat) : (if j = p i then R i f else kvp R p f i j) = kvp R p f (i + 1) j := by
  unfold kvp
  by_cases e : j = p i
  · rw [if_pos e, if_neg (by omega)]
    have h1 : pp p (i + 1) (fun t => R t f) j = R i f := by rw [e]; exact pp_at (fun a b h1 h2 => up a b h1 (by omega)) _ (by omega)
    rw [h1]
  · rw [if_neg e]
    by_cases e2 : j = f
    · rw [if_pos e2, if_pos e2]
    · rw [if_neg e2, if_neg e2]
      show _ = pp p i (fun t => R t f) j ^^^ (if p i = j then R i f else 0)
      rw [if_neg (fun h => e h.symm), Nat.xor_zero]
theorem kvp_lt {R : Nat → Nat → Nat} (hR : El2 R) (p : Nat → Nat) (f i j : Nat) : kvp R p f i j < 256 := by
  unfold kvp
  split
  · decide
  · exact pp_el p i (fun t => hR t f) j
/-- What Kernel's loop keeps. -/
structure NuInv (w wr : World) (B br bo r c n k top j : Nat) (p : Nat → Nat) (a s : Option Addr) (d : Nat) (v : Value) (so : Option Addr) (dd : Nat) (G H : Nat → Nat) : Prop where
  va : Vr wr w.heap.size (.int .i64 (r : Int)) (.int .i64 (c : Int)) (.slice a n k)
  vz : Vr wr (w.heap.size + 1) (.int .i64 0) (.int .i64 0) (.slice none 0 0)
  vr : Vr wr br (.int .i64 (r : Int)) (.int .i64 (c : Int)) (.slice s n d)
  vo : Vr wr bo (.int .i64 ((cnt (fre p top) j : Nat) : Int)) (.int .i64 (c : Int)) (.slice so (cnt (fre p top) j * c) dd)
  data : Ob wr w.heap.size (.slice s n d) n G
  piv : Oi wr w.heap.size v top p
  out : Ob wr B (.slice so (cnt (fre p top) j * c) dd) (cnt (fre p top) j * c) H
  off : ∀ g, (Value.slice s n d).ownBlock = some g → g < B
  rows : ∀ u l, u < cnt (fre p top) j → l < c → H (u * c + l) = kv (m2 G r c) p top (nth (fre p top) c u) l
  lt : ∀ q, q < cnt (fre p top) j * c → H q < 256
  ne : br ≠ bo
  low : w.heap.size + 1 < br
  lowo : w.heap.size + 1 < bo
  hB : w.heap.size + 1 < B
  below : Below w.heap.size w wr
theorem NuInv.later {w wr w' : World} {B br bo r c n k top j d dd : Nat} {p : Nat → Nat} {a s so : Option Addr} {v : Value} {G H : Nat → Nat} (I : NuInv w wr B br bo r c n k top j p a s d v so dd G H) (hb : Below wr.heap.size wr w') : NuInv w w' B br bo r c n k top j p a s d v so dd G H :=
  ⟨I.va.later hb, I.vz.later hb, I.vr.later hb, I.vo.later hb, I.data.later hb, I.piv.later hb, I.out.later hb, I.off, I.rows, I.lt, I.ne, I.low, I.lowo, I.hB, two_below I.below hb⟩
/-- A block that none of these has is written. -/
theorem NuInv.kept {w wr w' : World} {B br bo r c n k top j d dd g : Nat} {p : Nat → Nat} {a s so : Option Addr} {v : Value} {G H : Nat → Nat} (I : NuInv w wr B br bo r c n k top j p a s d v so dd G H) (hg : wr.grownBy w' (some g)) (h1 : w.heap.size + 1 < g) (h2 : br ≠ g) (h3 : bo ≠ g) (h4 : (Value.slice s n d).ownBlock ≠ some g) (h5 : v.ownBlock ≠ some g) (h6 : (Value.slice so (cnt (fre p top) j * c) dd).ownBlock ≠ some g) : NuInv w w' B br bo r c n k top j p a s d v so dd G H :=
  ⟨I.va.kept hg (by omega), I.vz.kept hg (by omega), I.vr.kept hg h2, I.vo.kept hg h3, I.data.kept hg (.inr h4), I.piv.kept hg (.inr h5), I.out.kept hg (.inr h6), I.off, I.rows, I.lt, I.ne, I.low, I.lowo, I.hB, below_row I.below hg (by omega)⟩
theorem NuInv.skip {w wr : World} {B br bo r c n k top j d dd : Nat} {p : Nat → Nat} {a s so : Option Addr} {v : Value} {G H : Nat → Nat} (I : NuInv w wr B br bo r c n k top j p a s d v so dd G H) (h : fre p top j = false) : NuInv w wr B br bo r c n k top (j + 1) p a s d v so dd G H := by
  have e := cnt_no (P := fre p top) h
  exact ⟨I.va, I.vz, I.vr, by rw [e]; exact I.vo, I.data, I.piv, by rw [e]; exact I.out, I.off, by rw [e]; exact I.rows, by rw [e]; exact I.lt, I.ne, I.low, I.lowo, I.hB, I.below⟩
/-- The next row is put behind. -/
theorem NuInv.more {w wr w1 w2 w3 : World} {B br bo r c n k top j d dd : Nat} {p : Nat → Nat} {a s so so' : Option Addr} {dd' : Nat} {v : Value} {G H : Nat → Nat} (I : NuInv w wr B br bo r c n k top j p a s d v so dd G H) (hM : El2 (m2 G r c)) (h : fre p top j = true) (hj : j < c)
    (e1 : w1 = wr.setCell ⟨bo, 0, none⟩ (.int .i64 ((cnt (fre p top) (j + 1) : Nat) : Int))) (ho : w2.ownsRow B 5 1 (.slice so' (cnt (fre p top) j * c + c) dd') (cnt (fre p top) j * c + c) ((row (cnt (fre p top) j * c) H).toList ++ (row c (kvp (m2 G r c) p j top)).toList)) (hg : w1.grownBy w2 (Value.slice so (cnt (fre p top) j * c) dd).ownBlock)
    (e3 : w3 = w2.setCell ⟨bo, 2, none⟩ (.slice so' (cnt (fre p top) j * c + c) dd')) :
    NuInv w w3 B br bo r c n k top (j + 1) p a s d v so' dd' G (stf H (kvp (m2 G r c) p j top) (cnt (fre p top) j * c)) := by
  have ec := cnt_yes (P := fre p top) h
  have eN : cnt (fre p top) (j + 1) * c = cnt (fre p top) j * c + c := by rw [ec, Nat.add_mul, Nat.one_mul]
  have g1 : wr.grownBy w1 (some bo) := by rw [e1]; exact grown_setCell _ _ _ _
  have g3 : w2.grownBy w3 (some bo) := by rw [e3]; exact grown_setCell _ _ _ _
  rw [row_stf] at ho
  have ho2 : Ob w2 B (.slice so' (cnt (fre p top) j * c + c) dd') (cnt (fre p top) j * c + c) (stf H (kvp (m2 G r c) p j top) (cnt (fre p top) j * c)) := ho
  have n0 := ob_ne_vr I.out I.va
  have n1 := ob_ne_vr I.out I.vz
  have n2 := ob_ne_vr I.out I.vr
  have n3 := ob_ne_vr I.out I.vo
  have vo1 : Vr w1 bo (.int .i64 ((cnt (fre p top) (j + 1) : Nat) : Int)) (.int .i64 (c : Int)) (.slice so (cnt (fre p top) j * c) dd) := by rw [e1]; exact I.vo.set0 _
  have vo2 := vo1.grown hg n3
  have hlo := I.lowo
  have hlr := I.low
  have hB := I.hB
  have d1 : (Value.slice s n d).ownBlock = none ∨ (Value.slice s n d).ownBlock ≠ (Value.slice so (cnt (fre p top) j * c) dd).ownBlock := by
    cases hs : (Value.slice s n d).ownBlock with
    | none => exact .inl rfl
    | some g =>
      refine .inr (fun e => ?_)
      have h1 := I.off g hs
      have h2 := (I.out.base e.symm).1
      omega
  have d2 : v.ownBlock = none ∨ v.ownBlock ≠ (Value.slice so (cnt (fre p top) j * c) dd).ownBlock := by
    cases hs : v.ownBlock with
    | none => exact .inl rfl
    | some g => exact .inr (fun e => ob_ne_oi I.out I.piv e.symm hs)
  refine ⟨((I.va.kept g1 (by omega)).grown hg n0).kept g3 (by omega), ((I.vz.kept g1 (by omega)).grown hg n1).kept g3 (by omega), ((I.vr.kept g1 I.ne).grown hg n2).kept g3 I.ne, ?_, ((I.data.kept g1 (.inr (ob_ne_vr I.data I.vo))).kept hg d1).kept g3 (.inr (ob_ne_vr ((I.data.kept g1 (.inr (ob_ne_vr I.data I.vo))).kept hg d1) vo2)), ((I.piv.kept g1 (.inr (oi_ne_vr I.piv I.vo))).kept hg d2).kept g3 (.inr (oi_ne_vr ((I.piv.kept g1 (.inr (oi_ne_vr I.piv I.vo))).kept hg d2) vo2)), ?_, I.off, ?_, ?_, I.ne, I.low, I.lowo, I.hB, ?_⟩
  · rw [eN, e3]; exact vo2.set2 _
  · rw [eN]; exact ho2.kept g3 (.inr (ob_ne_vr ho2 vo2))
  · intro u l hu hl
    unfold stf
    by_cases e : u = cnt (fre p top) j
    · subst e
      rw [if_neg (by omega), Nat.add_sub_cancel_left, nth_cnt hj h]
      rfl
    · have hu' : u < cnt (fre p top) j := by rw [ec] at hu; omega
      have : (u + 1) * c ≤ cnt (fre p top) j * c := Nat.mul_le_mul_right c hu'
      rw [Nat.add_mul, Nat.one_mul] at this
      rw [if_pos (by omega)]
      exact I.rows u l hu' hl
  · rw [eN]
    intro q hq
    unfold stf
    split
    · exact I.lt q (by omega)
    · exact kvp_lt hM p j top _
  · have b1 : Below w.heap.size w w1 := below_row I.below g1 (by omega)
    have b2 : Below w.heap.size w w2 := by
      cases hv : (Value.slice so (cnt (fre p top) j * c) dd).ownBlock with
      | none => rw [hv] at hg; exact two_below b1 (grown_none.mp hg)
      | some g => rw [hv] at hg; exact below_row b1 hg (by have := (I.out.base hv).1; omega)
    exact below_row b2 g3 (by omega)
end Go.Proofs.Ytflflmdlhmhkdab

namespace Go.Proofs.Ytflflmdlhmhkdab
open Go.RowKit
theorem grown_new {w wr w' : World} {row row' : Option Nat} (h : w.grownBy wr row) (h2 : wr.grownBy w' row') (hb : ∀ b, row' = some b → row = some b ∨ w.heap.size ≤ b) : w.grownBy w' row :=
  ⟨h2.os.trans h.os, h2.tape.trans h.tape, h2.output.trans h.output, Nat.le_trans h.size h2.size, fun k hk hne => by
    rw [h2.block k (Nat.lt_of_lt_of_le hk h.size) (fun e => by
      rcases hb k e.symm with h' | h'
      · exact hne h'.symm
      · omega), h.block k hk hne]⟩
theorem grown_later {w wr w' : World} {row : Option Nat} (h : w.grownBy wr row) (hb : Below wr.heap.size wr w') : w.grownBy w' row := grown_new h (grown_none.mpr hb) (fun b e => by cases e)
/-- A matrix of up to 64 rows and 65 columns. -/
structure Wt (r c n : Nat) : Prop where
  r64 : r ≤ 64
  c65 : c ≤ 65
  len : r * c = n
theorem Wt.le {r c n : Nat} (h : Wt r c n) : n ≤ 4160 := by rw [← h.len]; exact Nat.mul_le_mul h.r64 h.c65
theorem Wt.at {r c n i j : Nat} (h : Wt r c n) (hi : i < r) (hj : j < c) : i * c + j < n := by
  rw [← h.len]
  have : (i + 1) * c ≤ r * c := Nat.mul_le_mul_right c hi
  rw [Nat.add_mul, Nat.one_mul] at this
  omega
theorem m2_elw {F : Nat → Nat} {r c n : Nat} (hF : ∀ p, p < n → F p < 256) (R : Wt r c n) : El2 (m2 F r c) := fun i j => by
  unfold m2
  split
  · rename_i h; exact hF _ (R.at h.1 h.2)
  · decide
set_option maxHeartbeats 400000 in
theorem at3_big (w : World) (r : Int) (c i j n k v : Nat) (a : Option Addr) (f : Nat → Nat) (h : Sl w a n f) (hi : i * c + j < n) (hn : n ≤ 4160) (HV : Hid (f (i * c + j) = v)) :
    Calls Try.prog 75 #[mv r c a n k, .int .i64 (i : Int), .int .i64 (j : Int)] w fun e w' => e = .returned (.int .u8 (v : Int)) ∧ Below w.heap.size w w' := by
  obtain ⟨b, o, ea, hcl⟩ := h.2 _ hi
  rw [HV.out] at hcl
  have hlt := cell_lt hcl
  obtain ⟨p, HP⟩ : ∃ p, Hid (i * c + j = p) := ⟨_, rfl⟩
  rw [HP.out] at hcl hi
  have hb : i * c ≤ p := by rw [← HP.out]; omega
  have e1 : ((i : Int) * (c : Int)) = ((i * c : Nat) : Int) := by simp
  have w1 : IntKind.i64.wrap ((i : Int) * (c : Int)) = (i : Int) * (c : Int) := by rw [e1, IntKind.wrap_i64]; omega
  have w2 : IntKind.i64.wrap ((i : Int) * (c : Int) + (j : Int)) = (p : Int) := by rw [e1, IntKind.wrap_i64]; have := HP.out; omega
  have hcl2 : (w.alloc (.cells #[.int .i64 r, .int .i64 (c : Int), .slice (some ⟨b, o, none⟩) n k] 24)).cell? ⟨b, o + p, none⟩ = some (.int .u8 (v : Int)) := by rw [(alloc_low w _).cell (p := ⟨b, o + p, none⟩) hlt]; exact hcl
  have hcl2 : (w.alloc (.cells #[.int .i64 r, .int .i64 (c : Int), .slice (some ⟨b, o, none⟩) n k] 24)).cell? ⟨b, o + p, none⟩ = some (.int .u8 (v : Int)) := by rw [(alloc_low w _).cell (p := ⟨b, o + p, none⟩) hlt]; exact hcl
  clear h hcl e1
  subst ea
  go_enter Try.func75, Try.ntmps75
  go_wp2
  go_ret
  exact ⟨rfl, alloc_low _ _⟩
/-- Rows top and i, as far as column L: exchanged, the one that comes up divided. -/
def swf (F : Nat → Nat) (d c top i L p : Nat) : Nat := if p / c = top ∧ p % c < L then fm d (F (i * c + p % c)) else if p / c = i ∧ p % c < L then F (top * c + p % c) else F p
theorem swf_zero (F : Nat → Nat) (d c top i p : Nat) : swf F d c top i 0 p = F p := by unfold swf; rw [if_neg (by omega), if_neg (by omega)]
theorem swf_old (F : Nat → Nat) {d c top i L t : Nat} (hL : L < c) : swf F d c top i L (t * c + L) = F (t * c + L) := by
  unfold swf
  rw [dm2 hL, if_neg (by omega), if_neg (by omega)]
/-- One column more: first the row below, then the upper one. -/
theorem swf_step (F : Nat → Nat) {d c top i L : Nat} (hL : L < c) (p : Nat) : (if p = top * c + L then fm d (F (i * c + L)) else if p = i * c + L then F (top * c + L) else swf F d c top i L p) = swf F d c top i (L + 1) p := by
  have hc : 0 < c := by omega
  have key : ∀ t, p = t * c + L ↔ p / c = t ∧ p % c = L := fun t => by
    constructor
    · rintro rfl; exact ⟨dm1 hL, dm2 hL⟩
    · rintro ⟨rfl, rfl⟩
      have := Nat.div_add_mod p c
      rw [Nat.mul_comm] at this
      exact this.symm
  unfold swf
  by_cases h1 : p = top * c + L
  · rw [if_pos h1]
    obtain ⟨e1, e2⟩ := (key top).1 h1
    rw [if_pos ⟨e1, by omega⟩, e2]
  · rw [if_neg h1]
    by_cases h2 : p = i * c + L
    · rw [if_pos h2]
      obtain ⟨e1, e2⟩ := (key i).1 h2
      rw [if_neg (fun h => h1 ((key top).2 ⟨h.1, e2⟩)), if_pos ⟨e1, by omega⟩, e2]
    · rw [if_neg h2]
      have n1 : ¬ (p / c = top ∧ p % c = L) := fun h => h1 ((key top).2 h)
      have n2 : ¬ (p / c = i ∧ p % c = L) := fun h => h2 ((key i).2 h)
      have a1 : (p / c = top ∧ p % c < L) ↔ (p / c = top ∧ p % c < L + 1) := by omega
      have a2 : (p / c = i ∧ p % c < L) ↔ (p / c = i ∧ p % c < L + 1) := by omega
      simp only [a1, a2]
theorem m2_swf (F : Nat → Nat) {r c top i d : Nat} (ht : top < r) (hi : i < r) : ∀ t l, t < r → m2 (swf F d c top i c) r c t l = rw1 (swp (m2 F r c) top i) top (fun l => fm d (swp (m2 F r c) top i top l)) t l := by
  intro t l htr
  unfold rw1 swp
  by_cases hl : l < c
  · rw [m2_at _ htr hl]
    unfold swf
    rw [dm1 hl, dm2 hl]
    by_cases e : t = top
    · rw [if_pos ⟨e, hl⟩, if_pos e]
      show _ = fm d (if top = top then m2 F r c i l else _)
      rw [if_pos rfl, m2_at _ hi hl]
    · rw [if_neg (fun h => e h.1), if_neg e, if_neg e]
      by_cases e2 : t = i
      · rw [if_pos ⟨e2, hl⟩, if_pos e2, m2_at _ ht hl]
      · rw [if_neg (fun h => e2 h.1), if_neg e2, m2_at _ htr hl]
  · rw [m2_cut _ (by omega)]
    by_cases e : t = top
    · rw [if_pos e]
      show 0 = fm d (if top = top then m2 F r c i l else _)
      rw [if_pos rfl, m2_cut _ (by omega), fm_zero]
    · rw [if_neg e, if_neg e, m2_cut _ (by omega), m2_cut _ (by omega)]
      split <;> rfl
/-- A round of wide with a pivot in row i. -/
theorem wide_round {F h : Nat → Nat} {r c n top i j d : Nat} {p : Nat → Nat} {M : Nat → Nat → Nat} (hF : ∀ p, p < n → F p < 256) (R : Wt r c n) (E : Elm (m2 F r c) r top j p) (S : SpEq (m2 F r c) r M r) (hi : top ≤ i) (hir : i < r) (hj : j < c) (hne : F (i * c + j) ≠ 0)
    (hd : d = finv (F (i * c + j))) (hh : ∀ l, l < c → h l = swf F d c top i c (top * c + l)) :
    Elm (m2 (elf (swf F d c top i c) h c top j (r * c)) r c) r (top + 1) (j + 1) (fun t => if t = top then j else p t) ∧ SpEq (m2 (elf (swf F d c top i c) h c top j (r * c)) r c) r M r := by
  have htr : top < r := by omega
  have hd2 : d < 256 := by rw [hd]; exact finv_lt _
  have hE0 := m2_elw hF R
  obtain ⟨N1, eN1⟩ : ∃ N, N = swp (m2 F r c) top i := ⟨_, rfl⟩
  have hN1 : El2 N1 := by rw [eN1]; exact swp_el hE0 _ _
  have E1 : Elm N1 r top j p := by rw [eN1]; exact E.swp (by omega) hi htr hir
  have S1 : SpEq N1 r M r := by rw [eN1]; exact (spEq_swp hE0 htr hir).trans S
  have v1 : N1 top j = F (i * c + j) := by
    rw [eN1]; unfold swp; rw [if_pos rfl, m2_at _ hir hj]
  obtain ⟨N2, eN2⟩ : ∃ N, N = rw1 N1 top (fun l => fm d (N1 top l)) := ⟨_, rfl⟩
  have hN2 : El2 N2 := by rw [eN2]; exact rw1_el hN1 (fun l => fm_lt _ _ hd2) _
  have hd0 : d ≠ 0 := fun e => by
    have := fm_finv _ (hF _ (R.at hir hj)) hne
    rw [← hd, e, fm_zero] at this
    cases this
  have E2 : Elm N2 r top j p := by rw [eN2]; exact E1.scale (by omega) htr
  have S2 : SpEq N2 r M r := by rw [eN2]; exact (spEq_scale hN1 htr hd2 hd0).trans S1
  have v2 : N2 top j = 1 := by
    rw [eN2, rw1_at, v1, hd, fm_comm _ _ (finv_lt _) (hF _ (R.at hir hj)), fm_finv _ (hF _ (R.at hir hj)) hne]
  have E3 := E2.step hN2 htr v2
  have S3 := (spEq_clr hN2 htr j).trans S2
  have key : ∀ t l, t < r → m2 (elf (swf F d c top i c) h c top j (r * c)) r c t l = clr N2 top j t l := by
    intro t l ht
    rw [m2_elf _ h hh htr hj t l ht]
    refine clr_congr htr (fun t l ht => ?_) t l ht
    rw [m2_swf F htr hir t l ht, eN2, eN1]
  exact ⟨E3.rows key, S3.rows key⟩
theorem swf_lt {F : Nat → Nat} {d r c n top i L : Nat} (hF : ∀ t, t < n → F t < 256) (hd : d < 256) (R : Wt r c n) (ht : top < r) (hc : 0 < c) : ∀ t, t < n → swf F d c top i L t < 256 := by
  intro t htn
  unfold swf
  split
  · exact fm_lt _ _ hd
  · split
    · exact hF _ (R.at ht (Nat.mod_lt t hc))
    · exact hF t htn
theorem elf_ltw {G h : Nat → Nat} {r c n top col : Nat} (hG : ∀ t, t < n → G t < 256) (R : Wt r c n) (hcol : col < c) (q : Nat) : ∀ t, t < n → elf G h c top col q t < 256 := by
  intro t ht
  unfold elf
  split
  · have hl := R.len
    have : t / c < r := (Nat.div_lt_iff_lt_mul (by omega)).2 (by rw [hl]; exact ht)
    exact xor_lt _ _ (hG t ht) (fm_lt _ _ (hG _ (R.at this hcol)))
  · exact hG t ht
/-- What wide's loops keep: the matrix's variable, the answer's, the pivots; of what was there before only the list itself has changed. -/
structure WInv (w wr : World) (B r c n top : Nat) (p : Nat → Nat) (s : Option Addr) (d : Nat) (v : Value) (G : Nat → Nat) : Prop where
  vm : Vr wr w.heap.size (.int .i64 (r : Int)) (.int .i64 (c : Int)) (.slice s n d)
  vo : Vr wr (w.heap.size + 1) (.int .i64 0) (.int .i64 0) (.slice none 0 0)
  data : Ob wr B (.slice s n d) n G
  piv : Oi wr w.heap.size v top p
  grown : w.grownBy wr (Value.slice s n d).ownBlock
theorem WInv.later {w wr w' : World} {B r c n top d : Nat} {p : Nat → Nat} {s : Option Addr} {v : Value} {G : Nat → Nat} (h : WInv w wr B r c n top p s d v G) (hb : Below wr.heap.size wr w') : WInv w w' B r c n top p s d v G :=
  ⟨h.vm.later hb, h.vo.later hb, h.data.later hb, h.piv.later hb, grown_later h.grown hb⟩
theorem WInv.congr {w wr : World} {B r c n top d : Nat} {p : Nat → Nat} {s : Option Addr} {v : Value} {G G' : Nat → Nat} (h : WInv w wr B r c n top p s d v G) (e : ∀ q, q < n → G q = G' q) : WInv w wr B r c n top p s d v G' :=
  ⟨h.vm, h.vo, h.data.congr e, h.piv, h.grown⟩
theorem WInv.set {w wr : World} {B r c n top d g q x : Nat} {p : Nat → Nat} {v : Value} {G : Nat → Nat} (I : WInv w wr B r c n top p (some ⟨g, 0, none⟩) d v G) : WInv w (wr.setCell ⟨g, q, none⟩ (.int .u8 (x : Int))) B r c n top p (some ⟨g, 0, none⟩) d v (fun i => if i = q then x else G i) := by
  have hg := grown_setCell wr g q (.int .u8 (x : Int))
  have hb : (Value.slice (some ⟨g, 0, none⟩) n d).ownBlock = some g := rfl
  exact ⟨I.vm.kept hg (fun e => ob_ne_vr I.data I.vm (by rw [hb, e])), I.vo.kept hg (fun e => ob_ne_vr I.data I.vo (by rw [hb, e])), I.data.set q x, I.piv.kept hg (.inr (ob_ne_oi I.data I.piv hb)), grown_new I.grown hg (fun b e => .inl (by rw [hb, e]))⟩
theorem WInv.more {w wr w3 : World} {B r c n top d j : Nat} {p : Nat → Nat} {s : Option Addr} {v v' : Value} {G : Nat → Nat} (o : Obj) (I : WInv w wr B r c n top p s d v G) (hown : w3.ownsRow w.heap.size 3 1 v' (top + 1) ((irow top p).toList ++ [.int .i64 (j : Int)])) (hg : (wr.alloc o).grownBy w3 v.ownBlock) :
    WInv w w3 B r c n (top + 1) (fun t => if t = top then j else p t) s d v' G := by
  have A := I.later (alloc_low wr o)
  rw [irow_push] at hown
  refine ⟨A.vm.grown hg (oi_ne_vr A.piv A.vm), A.vo.grown hg (oi_ne_vr A.piv A.vo), A.data.kept hg ?_, hown, grown_new A.grown hg (fun b e => .inr (A.piv.base e).1)⟩
  cases hs : (Value.slice s n d).ownBlock with
  | none => exact .inl rfl
  | some g => exact .inr (fun e => ob_ne_oi A.data A.piv hs e.symm)
end Go.Proofs.Ytflflmdlhmhkdab

namespace Go.Proofs.Ytflflmdlhmhkdab
open Go.RowKit
theorem elf_top (F R : Nat → Nat) {c top col q l : Nat} (hl : l < c) : elf F R c top col q (top * c + l) = F (top * c + l) := by
  unfold elf
  rw [dm1 hl, if_neg (fun h => h.2 rfl)]
end Go.Proofs.Ytflflmdlhmhkdab

namespace Go.Proofs.Ytflflmdlhmhkdab
open Go.RowKit
/-- The list of the matrix with a further column. -/
def auf (F X : Nat → Nat) (c p : Nat) : Nat := if p % (c + 1) = c then X (p / (c + 1)) else F (p / (c + 1) * c + p % (c + 1))
theorem auf_at (F X : Nat → Nat) {c i j : Nat} (hj : j < c) : auf F X c (i * (c + 1) + j) = F (i * c + j) := by
  unfold auf
  rw [dm1 (by omega), dm2 (by omega), if_neg (by omega)]
theorem auf_last (F X : Nat → Nat) (c i : Nat) : auf F X c (i * (c + 1) + c) = X i := by
  unfold auf
  rw [dm1 (by omega), dm2 (by omega), if_pos rfl]
def ext0 (X : Nat → Nat) (r i : Nat) : Nat := if i < r then X i else 0
theorem ext0_el {X : Nat → Nat} {r : Nat} (h : ∀ i, i < r → X i < 256) : El (ext0 X r) := fun i => by unfold ext0; split; exact h _ (by assumption); decide
theorem m2_auf (F X : Nat → Nat) (r c : Nat) : ∀ i j, i < r → m2 (auf F X c) r (c + 1) i j = aug (m2 F r c) c (ext0 X r) i j := by
  intro i j hi
  unfold aug
  by_cases e : j = c
  · subst e
    rw [m2_at _ hi (by omega), auf_last, if_pos rfl]
    unfold ext0
    rw [if_pos hi]
  · rw [if_neg e]
    by_cases hj : j < c
    · rw [m2_at _ hi (by omega), auf_at _ _ hj, m2_at _ hi hj]
    · rw [m2_cut _ (by omega), m2_cut _ (by omega)]
theorem auf_lt {F X : Nat → Nat} {r c n : Nat} (hF : ∀ i, i < n → F i < 256) (hX : ∀ i, i < r → X i < 256) (R : Rt r c n) : ∀ q, q < r * (c + 1) → auf F X c q < 256 := by
  intro q hq
  have h1 : q / (c + 1) < r := (Nat.div_lt_iff_lt_mul (by omega)).2 hq
  have h2 : q % (c + 1) < c + 1 := Nat.mod_lt _ (by omega)
  unfold auf
  split
  · exact hX _ h1
  · exact hF _ (R.at h1 (by omega))
/-- What Solve answers: what is sent to b, with 0 at the free columns. -/
def SolA (F X : Nat → Nat) (r c : Nat) (x : Nat → Nat) : Prop := El x ∧ Sol (m2 F r c) r c (ext0 X r) x ∧ ∃ R k p, El2 R ∧ Rdf R r k p ∧ SpEq R r (m2 F r c) r ∧ (∀ i, i < k → p i < c) ∧ ∀ j, j < c → pvt p k j = false → x j = 0
theorem sol_yes {F X G : Nat → Nat} {r c n top : Nat} {p : Nat → Nat} (hF : ∀ i, i < n → F i < 256) (hX : ∀ i, i < r → X i < 256) (R : Rt r c n) (hG : ∀ q, q < r * (c + 1) → G q < 256) (hR : Rdf (m2 G r (c + 1)) r top p) (hS : SpEq (m2 G r (c + 1)) r (m2 (auf F X c) r (c + 1)) r) (hp : ∀ i, i < top → p i < c) :
    SolA F X r c (pp p top (fun t => m2 G r (c + 1) t c)) := by
  have W : Wt r (c + 1) (r * (c + 1)) := ⟨R.r64, by have := R.c64; omega, rfl⟩
  have hE := m2_elw hG W
  have hM := m2_el hF R
  have hXe := ext0_el hX
  have hv : El (fun t => m2 G r (c + 1) t c) := fun t => hE t c
  -- the first columns
  have hN : ∀ i j, i < r → (fun i j => if j < c then m2 G r (c + 1) i j else 0) i j = if j < c then m2 G r (c + 1) i j else 0 := fun _ _ _ => rfl
  have hNE : El2 (fun i j => if j < c then m2 G r (c + 1) i j else 0) := fun i j => ite_lt _ _ (hE i j)
  have hRd : Rdf (fun i j => if j < c then m2 G r (c + 1) i j else 0) r top p := hR.first hp hN
  have hMa : ∀ i j, i < r → m2 F r c i j = if j < c then m2 (auf F X c) r (c + 1) i j else 0 := fun i j hi => by
    by_cases hj : j < c
    · rw [if_pos hj, m2_auf F X r c i j hi, aug_lt _ _ _ hj]
    · rw [if_neg hj, m2_cut _ (by omega)]
  have hSp : SpEq (fun i j => if j < c then m2 G r (c + 1) i j else 0) r (m2 F r c) r :=
    ⟨fun i hi => (hS.1 i hi).first hMa (fun j => rfl), fun i hi => (hS.2 i hi).first hN (fun j => hMa i j hi)⟩
  refine ⟨pp_el p top hv, ?_, _, top, p, hNE, hRd, hSp, hp, fun j _ hf => pp_free _ hf⟩
  have s1 : Sol (fun i j => if j < c then m2 G r (c + 1) i j else 0) r c (fun t => m2 G r (c + 1) t c) (pp p top (fun t => m2 G r (c + 1) t c)) := hRd.sends hNE hp hv (fun i h1 h2 => hR.nul i c h1 h2)
  refine sol_span hNE hv hXe ?_ s1
  have e2 : ∀ i j, i < r → m2 G r (c + 1) i j = aug (fun i j => if j < c then m2 G r (c + 1) i j else 0) c (fun t => m2 G r (c + 1) t c) i j := fun i j _ => by
    unfold aug
    by_cases e : j = c
    · rw [if_pos e, e]
    · rw [if_neg e]
      show _ = if j < c then m2 G r (c + 1) i j else 0
      by_cases hj : j < c
      · rw [if_pos hj]
      · rw [if_neg hj, m2_cut _ (by omega)]
  exact (hS.2.rows (fun i j hi => (m2_auf F X r c i j hi).symm)).rows2 e2
theorem sol_no {F X G : Nat → Nat} {r c n top i : Nat} {p : Nat → Nat} (hF : ∀ i, i < n → F i < 256) (hX : ∀ i, i < r → X i < 256) (R : Rt r c n) (hR : Rdf (m2 G r (c + 1)) r top p) (hS : SpEq (m2 G r (c + 1)) r (m2 (auf F X c) r (c + 1)) r) (hi : i < top) (hp : p i = c) (x : Nat → Nat) : ¬ Sol (m2 F r c) r c (ext0 X r) x :=
  no_sol (m2_el hF R) (ext0_el hX) hR (hS.1.rows2 (m2_auf F X r c)) hi hp x
theorem pp_step {p : Nat → Nat} {k i : Nat} (up : ∀ i t, i < t → t < k → p i < p t) (hi : i < k) (v : Nat → Nat) (j : Nat) : (if j = p i then v i else pp p i v j) = pp p (i + 1) v j := by
  by_cases e : j = p i
  · rw [if_pos e, e]
    exact (pp_at (fun a b h1 h2 => up a b h1 (by omega)) _ (by omega)).symm
  · rw [if_neg e]
    show _ = pp p i v j ^^^ (if p i = j then v i else 0)
    rw [if_neg (fun h => e h.symm), Nat.xor_zero]
/-- What Solve's first loop keeps. -/
structure SInv (w wr : World) (ba r c n k i : Nat) (a so : Option Addr) (dd : Nat) (H : Nat → Nat) : Prop where
  va : Vr wr w.heap.size (.int .i64 (r : Int)) (.int .i64 (c : Int)) (.slice a n k)
  vb : Vr wr ba (.int .i64 (r : Int)) (.int .i64 ((c : Int) + 1)) (.slice so (i * (c + 1)) dd)
  out : Ob wr (w.heap.size + 1) (.slice so (i * (c + 1)) dd) (i * (c + 1)) H
  low : w.heap.size < ba
  below : Below w.heap.size w wr
theorem SInv.later {w wr w' : World} {ba r c n k i dd : Nat} {a so : Option Addr} {H : Nat → Nat} (I : SInv w wr ba r c n k i a so dd H) (hb : Below wr.heap.size wr w') : SInv w w' ba r c n k i a so dd H :=
  ⟨I.va.later hb, I.vb.later hb, I.out.later hb, I.low, two_below I.below hb⟩
theorem row_auf (F X : Nat → Nat) (c i : Nat) : (row (i * (c + 1)) (auf F X c)).toList ++ (row c (fun j => F (i * c + j))).toList ++ (row 1 (fun _ => X i)).toList = (row ((i + 1) * (c + 1)) (auf F X c)).toList := by
  have e : (i + 1) * (c + 1) = i * (c + 1) + c + 1 := by rw [Nat.add_mul, Nat.one_mul]; omega
  rw [row_stf, row_stf, e]
  congr 1
  refine row_congr _ _ _ (fun q hq => ?_)
  unfold stf
  by_cases h1 : q < i * (c + 1) + c
  · rw [if_pos h1]
    by_cases h2 : q < i * (c + 1)
    · rw [if_pos h2]
    · rw [if_neg h2]
      obtain ⟨j, rfl⟩ : ∃ j, q = i * (c + 1) + j := ⟨q - i * (c + 1), by omega⟩
      rw [Nat.add_sub_cancel_left, auf_at _ _ (by omega)]
  · rw [if_neg h1]
    obtain rfl : q = i * (c + 1) + c := by omega
    rw [auf_last]
end Go.Proofs.Ytflflmdlhmhkdab

namespace Go.Proofs.Ytflflmdlhmhkdab
open Go.RowKit
theorem own_ne_vr {w : World} {B n b : Nat} {v x y z : Value} {ls : List Value} (h : w.ownsRow B 5 1 v n ls) (hv : Vr w b x y z) : v.ownBlock ≠ some b := by
  rcases h.2 with ⟨e, _⟩ | ⟨g, cap, cur, e, _, hg, _⟩
  · rw [e]; simp [Value.ownBlock]
  · rw [e]
    intro he
    have : g = b := by simpa [Value.ownBlock] using he
    subst this
    unfold Vr at hv
    rw [hg] at hv
    have := Option.some.inj hv
    injection this with _ h2
    exact absurd h2 (by decide)
theorem one_sl (w : World) (x : Nat) (hx : x < 256) : Sl (w.alloc (.cells #[.int .u8 (x : Int)] 5)) (some ⟨w.heap.size, 0, none⟩) 1 (fun _ => x) := by
  refine ⟨fun _ _ => hx, fun i hi => ⟨w.heap.size, 0, rfl, ?_⟩⟩
  obtain rfl : i = 0 := by omega
  have := one_new w 5 x 0 _ rfl
  rw [Nat.zero_add]
  exact this
theorem one_kept {x0 x1 x2 : World} {B N dd x : Nat} {so : Option Addr} {H : Nat → Nat} (h : Sl x1 (some ⟨x0.heap.size, 0, none⟩) 1 (fun _ => x)) (hg : x1.grownBy x2 (Value.slice so N dd).ownBlock) (ho : Ob x0 B (.slice so N dd) N H) : Sl x2 (some ⟨x0.heap.size, 0, none⟩) 1 (fun _ => x) := by
  refine ⟨h.1, fun i hi => ?_⟩
  obtain ⟨b, o, e, hc⟩ := h.2 i hi
  refine ⟨b, o, e, hg.cell hc (fun e2 => ?_)⟩
  have eb : b = x0.heap.size := by
    have := congrArg (Option.map Addr.block) e
    simpa using this.symm
  have := (ho.base e2.symm).2
  have : b < x0.heap.size := this
  omega
/-- What Solve's second loop keeps. -/
structure S2Inv (w wr : World) (br r c n k N dd top : Nat) (p : Nat → Nat) (a so : Option Addr) (v : Value) (G : Nat → Nat) : Prop where
  va : Vr wr w.heap.size (.int .i64 (r : Int)) (.int .i64 (c : Int)) (.slice a n k)
  vr : Vr wr br (.int .i64 (r : Int)) (.int .i64 ((c : Int) + 1)) (.slice so N dd)
  data : Ob wr w.heap.size (.slice so N dd) N G
  piv : Oi wr w.heap.size v top p
  low : w.heap.size < br
  below : Below w.heap.size w wr
theorem S2Inv.later {w wr w' : World} {br r c n k N dd top : Nat} {p : Nat → Nat} {a so : Option Addr} {v : Value} {G : Nat → Nat} (I : S2Inv w wr br r c n k N dd top p a so v G) (hb : Below wr.heap.size wr w') : S2Inv w w' br r c n k N dd top p a so v G :=
  ⟨I.va.later hb, I.vr.later hb, I.data.later hb, I.piv.later hb, I.low, two_below I.below hb⟩
theorem S2Inv.kept {w wr w' : World} {br r c n k N dd top g : Nat} {p : Nat → Nat} {a so : Option Addr} {v : Value} {G : Nat → Nat} (I : S2Inv w wr br r c n k N dd top p a so v G) (hg : wr.grownBy w' (some g)) (h1 : w.heap.size < g) (h2 : br ≠ g) (h3 : (Value.slice so N dd).ownBlock ≠ some g) (h4 : v.ownBlock ≠ some g) : S2Inv w w' br r c n k N dd top p a so v G :=
  ⟨I.va.kept hg (by omega), I.vr.kept hg h2, I.data.kept hg (.inr h3), I.piv.kept hg (.inr h4), I.low, below_row I.below hg (by omega)⟩
theorem s2_begin {w wr w5 : World} {r c n k N dd top : Nat} {p : Nat → Nat} {a so : Option Addr} {v : Value} {G H : Nat → Nat} (va : Vr wr w.heap.size (.int .i64 (r : Int)) (.int .i64 (c : Int)) (.slice a n k)) (ho : Ob wr (w.heap.size + 1) (.slice so N dd) N H) (ho5 : Ob w5 (w.heap.size + 1) (.slice so N dd) N G) (hp5 : Oi w5 wr.heap.size v top p) (hb : Below w.heap.size w wr) (hg5 : wr.grownBy w5 (Value.slice so N dd).ownBlock) :
    S2Inv w (w5.alloc (.cells #[.int .i64 (r : Int), .int .i64 ((c : Int) + 1), .slice so N dd] 24)) w5.heap.size r c n k N dd top p a so v G := by
  have h1 := va.grown hg5 (ob_ne_vr ho va)
  have h2 : Below w.heap.size w w5 := by
    cases hv : (Value.slice so N dd).ownBlock with
    | none => rw [hv] at hg5; exact two_below hb (grown_none.mp hg5)
    | some g => rw [hv] at hg5; exact below_row hb hg5 (by have := (ho.base hv).1; omega)
  have := hb.size
  exact ⟨h1.later (alloc_low _ _), Vr.new w5 _ _ _, (ho5.mono (by omega)).later (alloc_low _ _), (hp5.mono (by omega)).later (alloc_low _ _), h1.lt, two_below h2 (alloc_low _ _)⟩
theorem row_ob {w : World} {B g n : Nat} {f : Nat → Nat} (h : RowAt w g 5 n f) (hn : n ≤ 140737488351232) (hB : B ≤ g) : Ob w B (.slice (some ⟨g, 0, none⟩) n n) n f :=
  ⟨by simp [row_size], .inr ⟨g, n, row n f, rfl, hB, h, Nat.le_refl _, by unfold maxLen; omega, by simp [row_size], List.take_of_length_le (by simp [row_size])⟩⟩
end Go.Proofs.Ytflflmdlhmhkdab

namespace Go.Proofs.Ytflflmdlhmhkdab
open Go.RowKit
/-- Factors at the places of a rising list. -/
theorem lc_pp {M : Nat → Nat → Nat} (hM : El2 M) {q : Nat → Nat} {t r : Nat} (hq : ∀ u, u < t → q u < r) {x : Nat → Nat} (hx : El x) (j : Nat) : lc (pp q t x) M r j = xs (fun u => fm (M (q u) j) (x u)) t := by
  rw [← dt_pp (fun i => hM i j) hq x]
  exact xs_congr (fun i _ => fm_comm _ _ (pp_el q t hx i) (hM i j))
theorem m2_trf_pkf (F : Nat → Nat) {q : Nat → Nat} {r c t : Nat} (hq : ∀ u, u < t → q u < r) (j u : Nat) (hj : j < c) (hu : u < t) : m2 (trf (pkf F q c) t c) c t j u = m2 F r c (q u) j := by
  rw [m2_at _ hj hu, trf_at _ t c u j hu, pkf_at _ _ _ _ _ hj, m2_at _ (hq u hu) hj]
/-- What is sent by the picked rows, turned over, is put together of them. -/
theorem sol_comb {F Y x : Nat → Nat} {r c t n : Nat} {q : Nat → Nat} (hF : ∀ i, i < n → F i < 256) (R : Rt r c n) (hq : ∀ u, u < t → q u < r) (hx : El x) : Sol (m2 (trf (pkf F q c) t c) c t) c t (ext0 Y c) x ↔ ∀ j, ext0 Y c j = lc (pp q t x) (m2 F r c) r j := by
  have hM := m2_el hF R
  have key : ∀ j, j < c → dt (m2 (trf (pkf F q c) t c) c t j) x t = lc (pp q t x) (m2 F r c) r j := fun j hj => by
    rw [lc_pp hM hq hx]
    exact xs_congr (fun u hu => by rw [m2_trf_pkf F hq j u hj hu])
  constructor
  · intro h j
    by_cases hj : j < c
    · rw [← key j hj]; exact (h j hj).symm
    · have e1 : ext0 Y c j = 0 := if_neg hj
      rw [e1]
      exact (xs_zero (fun i _ => by rw [m2_cut _ (by omega), fm_zero])).symm
  · intro h j hj
    rw [key j hj]; exact (h j).symm
theorem comb_onf {M : Nat → Nat → Nat} {r t : Nat} {q : Nat → Nat} (L : FstL M r t q) {x : Nat → Nat} (hx : El x) : OnF M r (pp q t x) := by
  refine ⟨pp_el q t hx, fun i _ hne => ?_⟩
  cases hv : pvt q t i with
  | false => exact absurd (pp_free x hv) hne
  | true =>
    obtain ⟨u, hu, e⟩ := (pvt_iff q t i).1 hv
    rw [← e]; exact L.is u hu
theorem comb_ex {F Y : Nat → Nat} {r c t n : Nat} {q : Nat → Nat} (hF : ∀ i, i < n → F i < 256) (R : Rt r c n) (L : FstL (m2 F r c) r t q) (h : Spn (m2 F r c) r (ext0 Y c)) : ∃ x, Sol (m2 (trf (pkf F q c) t c) c t) c t (ext0 Y c) x := by
  obtain ⟨a, ha, e⟩ := fst_ex r _ h
  have hx : El (fun u => a (q u)) := fun u => ha.1 (q u)
  refine ⟨fun u => a (q u), (sol_comb hF R L.lt hx).2 (fun j => ?_)⟩
  rw [e j]
  refine lc_congr (fun i hi => ?_) (fun _ _ => rfl)
  cases hv : pvt q t i with
  | true =>
    obtain ⟨u, hu, e2⟩ := (pvt_iff q t i).1 hv
    rw [← e2]
    exact (pp_at L.up (fun u => a (q u)) hu).symm
  | false =>
    rw [pp_free _ hv]
    apply Classical.byContradiction
    intro hne
    obtain ⟨u, hu, e2⟩ := L.all i hi (ha.2 i hi hne)
    exact pvt_no hv hu e2
theorem comb_no {F Y : Nat → Nat} {r c t n : Nat} {q : Nat → Nat} (hF : ∀ i, i < n → F i < 256) (R : Rt r c n) (L : FstL (m2 F r c) r t q) (h : ¬ Spn (m2 F r c) r (ext0 Y c)) {x : Nat → Nat} (hx : El x) : ¬ Sol (m2 (trf (pkf F q c) t c) c t) c t (ext0 Y c) x := fun hs =>
  h ⟨pp q t x, pp_el q t hx, (sol_comb hF R L.lt hx).1 hs⟩
/-- What Combine answers. -/
def CmbA (F Y : Nat → Nat) (r c : Nat) (x : Nat → Nat) : Prop := OnF (m2 F r c) r x ∧ ∀ j, ext0 Y c j = lc x (m2 F r c) r j
end Go.Proofs.Ytflflmdlhmhkdab

namespace Go.Proofs.Ytflflmdlhmhkdab
open Go.RowKit
theorem own_mt4 {w : World} {base n d : Nat} {s : Option Addr} {f : Nat → Nat} (h : w.ownsRow base 5 1 (.slice s n d) n (row n f).toList) (hf : ∀ i, i < n → f i < 256) : Mt w s n d f := by
  refine ⟨own_sl2 h hf, ?_, own_none h⟩
  rcases h.2 with ⟨e, h0⟩ | ⟨g, cap, cur, e, _, _, hc, _⟩
  · cases e; omega
  · cases e; omega
theorem trf_all4 {F : Nat → Nat} {r c n : Nat} (hF : ∀ i, i < n → F i < 256) (R : Rt r c n) : ∀ p, p < n → trf F r c p < 256 := by
  intro p hp
  have hl := R.len
  have hr : 0 < r := by
    rcases Nat.eq_zero_or_pos r with rfl | h
    · omega
    · exact h
  unfold trf
  exact hF _ (R.at (Nat.mod_lt p hr) ((Nat.div_lt_iff_lt_mul hr).2 (by rw [Nat.mul_comm, hl]; exact hp)))
end Go.Proofs.Ytflflmdlhmhkdab

namespace Go.Proofs.Ytflflmdlhmhkdab
open Go.RowKit
/-- As many rows as the rank: they are independent. -/
theorem Rk.ind {M : Nat → Nat → Nat} (hM : El2 M) {r : Nat} (h : Rk M r r) : Ind M r := by
  intro a ha hz i hi
  apply Classical.byContradiction
  intro hne
  obtain ⟨r, rfl⟩ : ∃ r', r = r' + 1 := ⟨r - 1, by omega⟩
  have hle : Le M (r + 1) (fun u => M (sk i u)) r := by
    have hE : El2 (fun u => M (sk i u)) := fun u j => hM _ j
    intro t ht
    by_cases e : t = i
    · subst e
      have hv := finv_lt (a t)
      refine (spn_mul hv ⟨fun u => a (sk t u), fun u => ha _, fun _ => rfl⟩ : Spn (fun u => M (sk t u)) r (fun j => fm (finv (a t)) (lc (fun u => a (sk t u)) (fun u => M (sk t u)) r j))).congr (fun j => ?_)
      have e1 := hz j
      rw [lc_skip (k := t) _ _ (by omega)] at e1
      have e2 := xor_eq e1
      rw [← e2, ← fm_assoc _ _ _ hv (ha t), fm_comm _ _ hv (ha t), fm_finv _ (ha t) hne, one_fm _ (hM t j)]
    · obtain ⟨u, hu, e2⟩ : ∃ u, u < r ∧ sk i u = t := by
        by_cases h1 : t < i
        · exact ⟨t, by omega, by unfold sk; rw [if_pos h1]⟩
        · exact ⟨t - 1, by omega, by unfold sk; rw [if_neg (by omega)]; omega⟩
      rw [← e2]
      exact spn_row hE hu
  have := h.le hle
  omega
/-- A matrix of full rank has an inverse. -/
theorem inv_ex {M : Nat → Nat → Nat} (hM : El2 M) {r : Nat} (hc : ∀ i j, i < r → r ≤ j → M i j = 0) (h : Rk M r r) : ∃ A, El2 A ∧ (∀ i j, i < r → j < r → pr A M r i j = dl i j) ∧ ∀ i j, i < r → j < r → pr M A r i j = dl i j := by
  have hI := h.ind hM
  -- each unit row is a combination
  have hu : ∀ i, i < r → Spn M r (dl i) := by
    intro i hi
    apply Classical.byContradiction
    intro hno
    -- M with dl i behind it
    have hE : El2 (fun t => if t < r then M t else dl i) := fun t j => by
      show (if t < r then M t else dl i) j < 256
      split
      · exact hM t j
      · exact dl_el i j
    have h1 : Rk (fun t => if t < r then M t else dl i) r r := h.at (fun t j ht => by show (if t < r then M t else dl i) j = _; rw [if_pos ht])
    have h2 := h1.more hE (fun hs => hno (by
      rw [if_neg (Nat.lt_irrefl r)] at hs
      exact hs.rows (fun t j ht => by show (if t < r then M t else dl i) j = _; rw [if_pos ht])))
    have hD : El2 dl := fun t j => dl_el t j
    have hle : Le (fun t => if t < r then M t else dl i) (r + 1) dl r := by
      intro t _
      have key : ∀ y : Nat → Nat, El y → (∀ j, r ≤ j → y j = 0) → Spn dl r y := fun y hy hz => ⟨y, hy, fun j => by
        unfold lc
        by_cases hj : j < r
        · rw [xs_one hj (fun t _ hne => by rw [dl_ne (Ne.symm hne), fm_zero]), dl_self, fm_one _ (hy j)]
        · rw [hz j (by omega)]
          exact (xs_zero (fun t ht => by rw [dl_ne (by omega), fm_zero])).symm⟩
      by_cases ht : t < r
      · have e : (fun t => if t < r then M t else dl i) t = M t := if_pos ht
        rw [e]
        exact key (M t) (hM t) (fun j hj => hc t j ht hj)
      · have e : (fun t => if t < r then M t else dl i) t = dl i := if_neg ht
        rw [e]
        exact key (dl i) (dl_el i) (fun j hj => dl_ne (by omega))
    have := h2.le hle
    omega
  obtain ⟨A, hA, eA⟩ := (show Le dl r M r from hu).factors
  have hL : ∀ i j, i < r → pr A M r i j = dl i j := fun i j hi => (eA i hi j).symm
  refine ⟨A, hA, fun i j hi _ => hL i j hi, fun i j hi hj => ?_⟩
  -- (M A - I) M = 0
  have hd : El (fun t => pr M A r i t ^^^ dl i t) := fun t => xor_lt _ _ (pr_el hM A r i t) (dl_el i t)
  have hz : ∀ l, lc (fun t => pr M A r i t ^^^ dl i t) M r l = 0 := fun l => by
    rw [lc_add (pr_el hM A r i) (dl_el i), lc_dl hM hi]
    have e1 : lc (pr M A r i) M r l = lc (M i) (fun t j => lc (A t) M r j) r l := (lc_lc (hM i) hA M r r l).symm
    have e2 : lc (M i) (fun t j => lc (A t) M r j) r l = M i l := by
      have : lc (M i) (fun t j => lc (A t) M r j) r l = xs (fun t => fm (M i t) (dl t l)) r := xs_congr (fun t ht => by
        show fm (M i t) (pr A M r t l) = _
        rw [hL t l ht])
      rw [this]
      by_cases hl : l < r
      · rw [xs_one hl (fun t _ hne => by rw [dl_ne (Ne.symm hne), fm_zero]), dl_self, fm_one _ (hM i l)]
      · rw [hc i l hi (by omega)]
        exact xs_zero (fun t ht => by rw [dl_ne (by omega), fm_zero])
    rw [e1, e2, Nat.xor_self]
  exact xor_eq (hI _ hd hz j hj)
def uj (j l : Nat) : Nat := if l = j then 1 else 0
theorem uj_lt (j l : Nat) : uj j l < 256 := by unfold uj; split <;> decide
/-- What the solutions make. -/
structure ColA (F O : Nat → Nat) (r j : Nat) : Prop where
  el : ∀ q, q < r * r → O q < 256
  col : ∀ u, u < j → Sol (m2 F r r) r r (ext0 (uj u) r) (fun t => ext0 (fun t => O (t * r + u)) r t)
theorem cola_end {F O : Nat → Nat} {r : Nat} (h : ColA F O r r) : ∀ i j, i < r → j < r → pr (m2 F r r) (m2 O r r) r i j = dl i j := by
  intro i j hi hj
  have h1 := h.col j hj i hi
  have e1 : pr (m2 F r r) (m2 O r r) r i j = dt (m2 F r r i) (fun t => ext0 (fun t => O (t * r + j)) r t) r := xs_congr (fun t ht => by
    show _ = fm (m2 F r r i t) (if t < r then O (t * r + j) else 0)
    rw [if_pos ht, m2_at _ ht hj])
  rw [e1, h1]
  unfold ext0 uj dl
  rw [if_pos hi]
  by_cases e : i = j
  · rw [if_pos e, if_pos e.symm]
  · rw [if_neg e, if_neg (fun h => e h.symm)]
theorem sol_col {F x : Nat → Nat} {r j : Nat} {O : Nat → Nat} (h : Sol (m2 F r r) r r (ext0 (uj j) r) x) (e : ∀ t, t < r → O (t * r + j) = x t) : Sol (m2 F r r) r r (ext0 (uj j) r) (fun t => ext0 (fun t => O (t * r + j)) r t) := fun i hi => by
  rw [← h i hi]
  exact dt_congr2 (fun t ht => by unfold ext0; rw [if_pos ht]; exact e t ht)
theorem sol_same {F : Nat → Nat} {r u : Nat} {O O' : Nat → Nat} (h : Sol (m2 F r r) r r (ext0 (uj u) r) (fun t => ext0 (fun t => O (t * r + u)) r t)) (e : ∀ t, t < r → O' (t * r + u) = O (t * r + u)) : Sol (m2 F r r) r r (ext0 (uj u) r) (fun t => ext0 (fun t => O' (t * r + u)) r t) := fun i hi => by
  rw [← h i hi]
  exact dt_congr2 (fun t ht => by unfold ext0; rw [if_pos ht, if_pos ht]; exact e t ht)
theorem place_ne {t i u j r : Nat} (hu : u < r) (hj : j < r) (hne : ¬ (t = i ∧ u = j)) : t * r + u ≠ i * r + j := fun e => hne (by
  have h1 := congrArg (· / r) e
  have h2 := congrArg (· % r) e
  simp only [dm1 hu, dm1 hj, dm2 hu, dm2 hj] at h1 h2
  exact ⟨h1, h2⟩)
/-- What Inverse's loops keep. -/
structure VInv (w wr : World) (bo r n k g : Nat) (a : Option Addr) (O : Nat → Nat) : Prop where
  va : Vr wr w.heap.size (.int .i64 (r : Int)) (.int .i64 (r : Int)) (.slice a n k)
  vz : Vr wr (w.heap.size + 1) (.int .i64 0) (.int .i64 0) (.slice none 0 0)
  vo : Vr wr bo (.int .i64 (r : Int)) (.int .i64 (r : Int)) (.slice (some ⟨g, 0, none⟩) n n)
  row : RowAt wr g 5 n O
  low : w.heap.size + 1 < bo
  lowg : w.heap.size + 1 < g
  ne : bo ≠ g
  below : Below w.heap.size w wr
theorem VInv.later {w wr w' : World} {bo r n k g : Nat} {a : Option Addr} {O : Nat → Nat} (I : VInv w wr bo r n k g a O) (hb : Below wr.heap.size wr w') : VInv w w' bo r n k g a O :=
  ⟨I.va.later hb, I.vz.later hb, I.vo.later hb, I.row.later hb, I.low, I.lowg, I.ne, two_below I.below hb⟩
theorem VInv.kept {w wr w' : World} {bo r n k g x : Nat} {a : Option Addr} {O : Nat → Nat} (I : VInv w wr bo r n k g a O) (hg : wr.grownBy w' (some x)) (h1 : w.heap.size + 1 < x) (h2 : bo ≠ x) (h3 : g ≠ x) : VInv w w' bo r n k g a O :=
  ⟨I.va.kept hg (by omega), I.vz.kept hg (by omega), I.vo.kept hg h2, I.row.kept hg h3, I.low, I.lowg, I.ne, below_row I.below hg (by omega)⟩
theorem VInv.set {w wr : World} {bo r n k g q x : Nat} {a : Option Addr} {O : Nat → Nat} (I : VInv w wr bo r n k g a O) : VInv w (wr.setCell ⟨g, q, none⟩ (.int .u8 (x : Int))) bo r n k g a (fun t => if t = q then x else O t) := by
  have hg := grown_setCell wr g q (.int .u8 (x : Int))
  have h1 := I.lowg
  exact ⟨I.va.kept hg (by omega), I.vz.kept hg (by omega), I.vo.kept hg I.ne, I.row.set q x, I.low, I.lowg, I.ne, below_row I.below hg (by omega)⟩
end Go.Proofs.Ytflflmdlhmhkdab
