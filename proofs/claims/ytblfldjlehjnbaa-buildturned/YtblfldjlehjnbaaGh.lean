/-
  Words for the reference's Solve.
  Contract of the reference: Solve.
  Contracts of the reference: Kernel's and Solve's errors; Solve where there is something, and where there is nothing; words for Combine.
-/
import Derived.Test.YtblfldjlehjnbaaGg
namespace Go.Proofs.Ytblfldjlehjnbaa
open Go.RowKit
/-- The list of the matrix with a further column. -/
def auf (F X : Nat → Nat) (c p : Nat) : Nat := if p % (c + 1) = c then X (p / (c + 1)) else F (p / (c + 1) * c + p % (c + 1))
theorem auf_at (F X : Nat → Nat) {c i j : Nat} (hj : j < c) : auf F X c (i * (c + 1) + j) = F (i * c + j) := by
  unfold auf
  rw [dm1 (by omega), dm2 (by omega), if_neg (by omega)]
theorem auf_last (F X : Nat → Nat) (c i : Nat) : auf F X c (i * (c + 1) + c) = X i := by
  unfold auf
  rw [dm1 (by omega), dm2 (by omega), if_pos rfl]
def ext0 (X : Nat → Nat) (r i : Nat) : Nat := if i < r then X i else 0
theorem ext0_el {X : Nat → Nat} {r : Nat} (h : ∀ i, i < r → X i < 256) : El (ext0 X r) := fun i => by unfold ext0; split; exact h _ (by assumption); decide
theorem m2_auf (F X : Nat → Nat) (r c : Nat) : ∀ i j, i < r → m2 (auf F X c) r (c + 1) i j = aug (m2 F r c) c (ext0 X r) i j := by
  intro i j hi
  unfold aug
  by_cases e : j = c
  · subst e
    rw [m2_at _ hi (by omega), auf_last, if_pos rfl]
    unfold ext0
    rw [if_pos hi]
  · rw [if_neg e]
    by_cases hj : j < c
    · rw [m2_at _ hi (by omega), auf_at _ _ hj, m2_at _ hi hj]
    · rw [m2_cut _ (by omega), m2_cut _ (by omega)]
theorem auf_lt {F X : Nat → Nat} {r c n : Nat} (hF : ∀ i, i < n → F i < 256) (hX : ∀ i, i < r → X i < 256) (R : Rt r c n) : ∀ q, q < r * (c + 1) → auf F X c q < 256 := by
  intro q hq
  have h1 : q / (c + 1) < r := (Nat.div_lt_iff_lt_mul (by omega)).2 hq
  have h2 : q % (c + 1) < c + 1 := Nat.mod_lt _ (by omega)
  unfold auf
  split
  · exact hX _ h1
  · exact hF _ (R.at h1 (by omega))
/-- What Solve answers: what is sent to b, with 0 at the free columns. -/
def SolA (F X : Nat → Nat) (r c : Nat) (x : Nat → Nat) : Prop := El x ∧ Sol (m2 F r c) r c (ext0 X r) x ∧ ∃ R k p, El2 R ∧ Rdf R r k p ∧ SpEq R r (m2 F r c) r ∧ (∀ i, i < k → p i < c) ∧ ∀ j, j < c → pvt p k j = false → x j = 0
theorem sol_yes {F X G : Nat → Nat} {r c n top : Nat} {p : Nat → Nat} (hF : ∀ i, i < n → F i < 256) (hX : ∀ i, i < r → X i < 256) (R : Rt r c n) (hG : ∀ q, q < r * (c + 1) → G q < 256) (hR : Rdf (m2 G r (c + 1)) r top p) (hS : SpEq (m2 G r (c + 1)) r (m2 (auf F X c) r (c + 1)) r) (hp : ∀ i, i < top → p i < c) :
    SolA F X r c (pp p top (fun t => m2 G r (c + 1) t c)) := by
  have W : Wt r (c + 1) (r * (c + 1)) := ⟨R.r64, by have := R.c64; omega, rfl⟩
  have hE := m2_elw hG W
  have hM := m2_el hF R
  have hXe := ext0_el hX
  have hv : El (fun t => m2 G r (c + 1) t c) := fun t => hE t c
  -- the first columns
  have hN : ∀ i j, i < r → (fun i j => if j < c then m2 G r (c + 1) i j else 0) i j = if j < c then m2 G r (c + 1) i j else 0 := fun _ _ _ => rfl
  have hNE : El2 (fun i j => if j < c then m2 G r (c + 1) i j else 0) := fun i j => ite_lt _ _ (hE i j)
  have hRd : Rdf (fun i j => if j < c then m2 G r (c + 1) i j else 0) r top p := hR.first hp hN
  have hMa : ∀ i j, i < r → m2 F r c i j = if j < c then m2 (auf F X c) r (c + 1) i j else 0 := fun i j hi => by
    by_cases hj : j < c
    · rw [if_pos hj, m2_auf F X r c i j hi, aug_lt _ _ _ hj]
    · rw [if_neg hj, m2_cut _ (by omega)]
  have hSp : SpEq (fun i j => if j < c then m2 G r (c + 1) i j else 0) r (m2 F r c) r :=
    ⟨fun i hi => (hS.1 i hi).first hMa (fun j => rfl), fun i hi => (hS.2 i hi).first hN (fun j => hMa i j hi)⟩
  refine ⟨pp_el p top hv, ?_, _, top, p, hNE, hRd, hSp, hp, fun j _ hf => pp_free _ hf⟩
  have s1 : Sol (fun i j => if j < c then m2 G r (c + 1) i j else 0) r c (fun t => m2 G r (c + 1) t c) (pp p top (fun t => m2 G r (c + 1) t c)) := hRd.sends hNE hp hv (fun i h1 h2 => hR.nul i c h1 h2)
  refine sol_span hNE hv hXe ?_ s1
  have e2 : ∀ i j, i < r → m2 G r (c + 1) i j = aug (fun i j => if j < c then m2 G r (c + 1) i j else 0) c (fun t => m2 G r (c + 1) t c) i j := fun i j _ => by
    unfold aug
    by_cases e : j = c
    · rw [if_pos e, e]
    · rw [if_neg e]
      show _ = if j < c then m2 G r (c + 1) i j else 0
      by_cases hj : j < c
      · rw [if_pos hj]
      · rw [if_neg hj, m2_cut _ (by omega)]
  exact (hS.2.rows (fun i j hi => (m2_auf F X r c i j hi).symm)).rows2 e2
theorem sol_no {F X G : Nat → Nat} {r c n top i : Nat} {p : Nat → Nat} (hF : ∀ i, i < n → F i < 256) (hX : ∀ i, i < r → X i < 256) (R : Rt r c n) (hR : Rdf (m2 G r (c + 1)) r top p) (hS : SpEq (m2 G r (c + 1)) r (m2 (auf F X c) r (c + 1)) r) (hi : i < top) (hp : p i = c) (x : Nat → Nat) : ¬ Sol (m2 F r c) r c (ext0 X r) x :=
  no_sol (m2_el hF R) (ext0_el hX) hR (hS.1.rows2 (m2_auf F X r c)) hi hp x
theorem pp_step {p : Nat → Nat} {k i : Nat} (up : ∀ i t, i < t → t < k → p i < p t) (hi : i < k) (v : Nat → Nat) (j : Nat) : (if j = p i then v i else pp p i v j) = pp p (i + 1) v j := by
  by_cases e : j = p i
  · rw [if_pos e, e]
    exact (pp_at (fun a b h1 h2 => up a b h1 (by omega)) _ (by omega)).symm
  · rw [if_neg e]
    show _ = pp p i v j ^^^ (if p i = j then v i else 0)
    rw [if_neg (fun h => e h.symm), Nat.xor_zero]
/-- What Solve's first loop keeps. -/
structure SInv (w wr : World) (ba r c n k i : Nat) (a so : Option Addr) (dd : Nat) (H : Nat → Nat) : Prop where
  va : Vr wr w.heap.size (.int .i64 (r : Int)) (.int .i64 (c : Int)) (.slice a n k)
  vb : Vr wr ba (.int .i64 (r : Int)) (.int .i64 ((c : Int) + 1)) (.slice so (i * (c + 1)) dd)
  out : Ob wr (w.heap.size + 1) (.slice so (i * (c + 1)) dd) (i * (c + 1)) H
  low : w.heap.size < ba
  below : Below w.heap.size w wr
theorem SInv.later {w wr w' : World} {ba r c n k i dd : Nat} {a so : Option Addr} {H : Nat → Nat} (I : SInv w wr ba r c n k i a so dd H) (hb : Below wr.heap.size wr w') : SInv w w' ba r c n k i a so dd H :=
  ⟨I.va.later hb, I.vb.later hb, I.out.later hb, I.low, two_below I.below hb⟩
theorem row_auf (F X : Nat → Nat) (c i : Nat) : (row (i * (c + 1)) (auf F X c)).toList ++ (row c (fun j => F (i * c + j))).toList ++ (row 1 (fun _ => X i)).toList = (row ((i + 1) * (c + 1)) (auf F X c)).toList := by
  have e : (i + 1) * (c + 1) = i * (c + 1) + c + 1 := by rw [Nat.add_mul, Nat.one_mul]; omega
  rw [row_stf, row_stf, e]
  congr 1
  refine row_congr _ _ _ (fun q hq => ?_)
  unfold stf
  by_cases h1 : q < i * (c + 1) + c
  · rw [if_pos h1]
    by_cases h2 : q < i * (c + 1)
    · rw [if_pos h2]
    · rw [if_neg h2]
      obtain ⟨j, rfl⟩ : ∃ j, q = i * (c + 1) + j := ⟨q - i * (c + 1), by omega⟩
      rw [Nat.add_sub_cancel_left, auf_at _ _ (by omega)]
  · rw [if_neg h1]
    obtain rfl : q = i * (c + 1) + c := by omega
    rw [auf_last]
end Go.Proofs.Ytblfldjlehjnbaa

namespace Go.Proofs.Ytblfldjlehjnbaa
open Go.RowKit
theorem own_ne_vr {w : World} {B n b : Nat} {v x y z : Value} {ls : List Value} (h : w.ownsRow B 5 1 v n ls) (hv : Vr w b x y z) : v.ownBlock ≠ some b := by
  rcases h.2 with ⟨e, _⟩ | ⟨g, cap, cur, e, _, hg, _⟩
  · rw [e]; simp [Value.ownBlock]
  · rw [e]
    intro he
    have : g = b := by simpa [Value.ownBlock] using he
    subst this
    unfold Vr at hv
    rw [hg] at hv
    have := Option.some.inj hv
    injection this with _ h2
    exact absurd h2 (by decide)
theorem one_sl (w : World) (x : Nat) (hx : x < 256) : Sl (w.alloc (.cells #[.int .u8 (x : Int)] 5)) (some ⟨w.heap.size, 0, none⟩) 1 (fun _ => x) := by
  refine ⟨fun _ _ => hx, fun i hi => ⟨w.heap.size, 0, rfl, ?_⟩⟩
  obtain rfl : i = 0 := by omega
  have := one_new w 5 x 0 _ rfl
  rw [Nat.zero_add]
  exact this
theorem one_kept {x0 x1 x2 : World} {B N dd x : Nat} {so : Option Addr} {H : Nat → Nat} (h : Sl x1 (some ⟨x0.heap.size, 0, none⟩) 1 (fun _ => x)) (hg : x1.grownBy x2 (Value.slice so N dd).ownBlock) (ho : Ob x0 B (.slice so N dd) N H) : Sl x2 (some ⟨x0.heap.size, 0, none⟩) 1 (fun _ => x) := by
  refine ⟨h.1, fun i hi => ?_⟩
  obtain ⟨b, o, e, hc⟩ := h.2 i hi
  refine ⟨b, o, e, hg.cell hc (fun e2 => ?_)⟩
  have eb : b = x0.heap.size := by
    have := congrArg (Option.map Addr.block) e
    simpa using this.symm
  have := (ho.base e2.symm).2
  have : b < x0.heap.size := this
  omega
/-- What Solve's second loop keeps. -/
structure S2Inv (w wr : World) (br r c n k N dd top : Nat) (p : Nat → Nat) (a so : Option Addr) (v : Value) (G : Nat → Nat) : Prop where
  va : Vr wr w.heap.size (.int .i64 (r : Int)) (.int .i64 (c : Int)) (.slice a n k)
  vr : Vr wr br (.int .i64 (r : Int)) (.int .i64 ((c : Int) + 1)) (.slice so N dd)
  data : Ob wr w.heap.size (.slice so N dd) N G
  piv : Oi wr w.heap.size v top p
  low : w.heap.size < br
  below : Below w.heap.size w wr
theorem S2Inv.later {w wr w' : World} {br r c n k N dd top : Nat} {p : Nat → Nat} {a so : Option Addr} {v : Value} {G : Nat → Nat} (I : S2Inv w wr br r c n k N dd top p a so v G) (hb : Below wr.heap.size wr w') : S2Inv w w' br r c n k N dd top p a so v G :=
  ⟨I.va.later hb, I.vr.later hb, I.data.later hb, I.piv.later hb, I.low, two_below I.below hb⟩
theorem S2Inv.kept {w wr w' : World} {br r c n k N dd top g : Nat} {p : Nat → Nat} {a so : Option Addr} {v : Value} {G : Nat → Nat} (I : S2Inv w wr br r c n k N dd top p a so v G) (hg : wr.grownBy w' (some g)) (h1 : w.heap.size < g) (h2 : br ≠ g) (h3 : (Value.slice so N dd).ownBlock ≠ some g) (h4 : v.ownBlock ≠ some g) : S2Inv w w' br r c n k N dd top p a so v G :=
  ⟨I.va.kept hg (by omega), I.vr.kept hg h2, I.data.kept hg (.inr h3), I.piv.kept hg (.inr h4), I.low, below_row I.below hg (by omega)⟩
theorem s2_begin {w wr w5 : World} {r c n k N dd top : Nat} {p : Nat → Nat} {a so : Option Addr} {v : Value} {G H : Nat → Nat} (va : Vr wr w.heap.size (.int .i64 (r : Int)) (.int .i64 (c : Int)) (.slice a n k)) (ho : Ob wr (w.heap.size + 1) (.slice so N dd) N H) (ho5 : Ob w5 (w.heap.size + 1) (.slice so N dd) N G) (hp5 : Oi w5 wr.heap.size v top p) (hb : Below w.heap.size w wr) (hg5 : wr.grownBy w5 (Value.slice so N dd).ownBlock) :
    S2Inv w (w5.alloc (.cells #[.int .i64 (r : Int), .int .i64 ((c : Int) + 1), .slice so N dd] 24)) w5.heap.size r c n k N dd top p a so v G := by
  have h1 := va.grown hg5 (ob_ne_vr ho va)
  have h2 : Below w.heap.size w w5 := by
    cases hv : (Value.slice so N dd).ownBlock with
    | none => rw [hv] at hg5; exact two_below hb (grown_none.mp hg5)
    | some g => rw [hv] at hg5; exact below_row hb hg5 (by have := (ho.base hv).1; omega)
  have := hb.size
  exact ⟨h1.later (alloc_low _ _), Vr.new w5 _ _ _, (ho5.mono (by omega)).later (alloc_low _ _), (hp5.mono (by omega)).later (alloc_low _ _), h1.lt, two_below h2 (alloc_low _ _)⟩
theorem row_ob {w : World} {B g n : Nat} {f : Nat → Nat} (h : RowAt w g 5 n f) (hn : n ≤ 140737488351232) (hB : B ≤ g) : Ob w B (.slice (some ⟨g, 0, none⟩) n n) n f :=
  ⟨by simp [row_size], .inr ⟨g, n, row n f, rfl, hB, h, Nat.le_refl _, by unfold maxLen; omega, by simp [row_size], List.take_of_length_le (by simp [row_size])⟩⟩
set_option maxRecDepth 20000 in
set_option maxHeartbeats 8000000 in
theorem rsolve_ok (w : World) (r c n k kb : Nat) (a b : Option Addr) (F X : Nat → Nat) (ha : Mt w a n k F) (R : Rt r c n) (hb : Sl w b r X) :
    Calls Try.prog 71 #[mv r c a n k, .slice b r kb] w fun e w' => (∃ s d x, e = .returned (.tuple #[.slice s c d, .bool true, .int .i64 0]) ∧ Ob w' w.heap.size (.slice s c d) c x ∧ SolA F X r c x ∧ Below w.heap.size w w') ∨ (e = .returned (.tuple #[.slice none 0 0, .bool false, .int .i64 0]) ∧ (∀ x, ¬ Sol (m2 F r c) r c (ext0 X r) x) ∧ Below w.heap.size w w') := by
  have HR : Hid (Rt r c n) := R
  have HSa : Hid (Mt w a n k F) := ha
  have HSb : Hid (Sl w b r X) := hb
  have hn := R.le
  have hr := R.r64
  have hc := R.c64
  obtain ⟨wb, HW⟩ : ∃ wb, Hid (wb = w.alloc (.cells #[.int .i64 (r : Int), .int .i64 (c : Int), .slice a n k] 24)) := ⟨_, rfl⟩
  have HVa : Hid (Vr wb w.heap.size (.int .i64 (r : Int)) (.int .i64 (c : Int)) (.slice a n k)) := by show Vr _ _ _ _ _; rw [HW.out]; exact Vr.new _ _ _ _
  have HB0 : Hid (Below w.heap.size w wb) := by rw [HW.out]; exact alloc_low _ _
  have v0 := HVa.out.c0
  have v1 := HVa.out.c1
  have v2 := HVa.out.c2
  have wc : IntKind.i64.wrap ((c : Int) + 1) = (c : Int) + 1 := by rw [IntKind.wrap_i64]; omega
  obtain ⟨i0, hi0, hz0, hz1, hz2⟩ := info_parts info8
  clear ha R hb
  go_enter Try.func71, Try.ntmps71
  go_wp2_with (go_at_call 30; rw [← HW.out]; refine (right_yes _ _ _ _ _ _ HR.out.p).mono ?_; rintro e w1 ⟨rfl, hb1⟩; have HVa1 : Hid (Vr w1 w.heap.size (.int .i64 (r : Int)) (.int .i64 (c : Int)) (.slice a n k)) := HVa.out.later hb1; have HB1 : Hid (Below w.heap.size w w1) := two_below HB0.out hb1; have u0 := HVa1.out.c0; have u1 := HVa1.out.c1; have u2 := HVa1.out.c2; clear hb1)
  obtain ⟨W2, HW2⟩ : ∃ W, Hid (W = w1.alloc (.cells #[.int .i64 (r : Int), .int .i64 ((c : Int) + 1), .slice none 0 0] 24)) := ⟨_, rfl⟩
  have hlow : w.heap.size < w1.heap.size := HVa1.out.lt
  have HI0 : Hid (SInv w W2 w1.heap.size r c n k 0 a none 0 (auf F X c)) := by
    show SInv _ _ _ _ _ _ _ _ _ _ _ _
    rw [HW2.out]
    refine ⟨HVa1.out.later (alloc_low _ _), ?_, ?_, hlow, two_below HB1.out (alloc_low _ _)⟩
    · rw [Nat.zero_mul]; exact Vr.new w1 _ _ _
    · rw [Nat.zero_mul]; exact (show Ob _ _ _ 0 _ from ⟨by simp [row_size], .inl ⟨rfl, rfl⟩⟩)
  rw [← HW2.out]
  clear HW HW2 HVa HB0 HVa1 HB1 v0 v1 v2 u0 u1 u2
  go_loopw [8] (fun si wr => ∃ (i : Nat) (so : Option Addr) (dd : Nat), i ≤ r ∧ si = .int .i64 (i : Int) ∧ SInv w wr w1.heap.size r c n k i a so dd (auf F X c)) (fun si _ => r - (intOf si).toNat)
  case atStart => exact ⟨0, none, 0, by omega, rfl, HI0.out⟩
  case round =>
    clear HI0
    obtain ⟨i, so, dd, hir, rfl, I⟩ := hrel
    have HI : Hid (SInv w wr w1.heap.size r c n k i a so dd (auf F X c)) := I
    have c0 := I.va.c0
    have c1 := I.va.c1
    have c2 := I.va.c2
    clear I
    obtain ⟨N, HN⟩ : ∃ x, Hid (i * (c + 1) = x) := ⟨_, rfl⟩
    have hN : N ≤ 4160 := by rw [← HN.out]; exact Nat.mul_le_mul (by omega : i ≤ 64) (by omega : c + 1 ≤ 65)
    by_cases hlt : i < r
    · obtain ⟨bx, bo, eb, hcb⟩ := HSb.out.2 i hlt
      subst eb
      obtain ⟨xi, HXi⟩ : ∃ x, Hid (X i = x) := ⟨_, rfl⟩
      rw [HXi.out] at hcb
      have hxi : xi < 256 := by rw [← HXi.out]; exact HSb.out.1 i hlt
      have hbx : bx < w.heap.size := cell_lt hcb
      have HX0 : Hid (w.cell? ⟨bx, bo + i, none⟩ = some (.int .u8 (xi : Int))) := hcb
      have p0 : (0 : Int) ≤ (i : Int) := by omega
      have p1 : (i : Int) < (r : Int) := by omega
      clear hcb
      go_wp2_with (go_at_call 68; refine (rrow_ok _ r c n k i a F (HSa.out.later HI.out.below).sl HR.out hlt).mono ?_; rintro e w9 ⟨v9, rfl, ho9, hb9⟩; obtain ⟨s9, d9, e9, _, _⟩ := own_sl' ho9; subst e9; have HS9 : Hid (Sl w9 s9 c (fun j => F (i * c + j))) := own_sl2 ho9 (fun l hl => HSa.out.sl.1 _ (HR.out.at hlt hl)); have HN9 : Hid (s9 = none → c = 0 ∧ d9 = 0) := own_none ho9; have HI9 : Hid (SInv w w9 w1.heap.size r c n k i a so dd (auf F X c)) := HI.out.later hb9; clear ho9 hb9)
      obtain ⟨x0, HWD⟩ : ∃ x, Hid (x = w9.drew) := ⟨_, rfl⟩
      have bd : Below w9.heap.size w9 x0 := by rw [HWD.out]; exact (Below.refl _ _).drew
      have HVa_x0 : Hid (Vr x0 w.heap.size (.int .i64 (r : Int)) (.int .i64 (c : Int)) (.slice a n k)) := HI9.out.va.later bd
      have HVb_x0 : Hid (Vr x0 w1.heap.size (.int .i64 (r : Int)) (.int .i64 ((c : Int) + 1)) (.slice so N dd)) := by have h1 := HI9.out.vb.later bd; rw [HN.out] at h1; exact h1
      have HO_x0 : Hid (Ob x0 (w.heap.size + 1) (.slice so N dd) N (auf F X c)) := by have h1 := HI9.out.out.later bd; rw [HN.out] at h1; exact h1
      have HS_x0 : Hid (Sl x0 s9 c (fun j => F (i * c + j))) := HS9.out.later bd
      have HB_x0 : Hid (Below w.heap.size w x0) := two_below HI9.out.below bd
      have HX_x0 : Hid (x0.cell? ⟨bx, bo + i, none⟩ = some (.int .u8 (xi : Int))) := keepc HB_x0.out HX0.out
      have HD : Hid (x0.cell? ⟨w1.heap.size, 2, none⟩ = some (.slice so N dd) ∧ x0.cell? ⟨bx, bo + i, none⟩ = some (.int .u8 (xi : Int))) := ⟨HVb_x0.out.c2, HX_x0.out⟩
      clear bd
      refine wp_region_park (k := 11) (n := 11) (fun w' => w'.cell? ⟨w1.heap.size, 2, none⟩ = some (.slice so N dd) ∧ w'.cell? ⟨bx, bo + i, none⟩ = some (.int .u8 (xi : Int))) (by kernel_rfl) (by kernel_rfl) (by decide) (by rfl) ?_
      rw [← HWD.out]
      refine wpAnyH_take (i := 0) (v := ?va0) rfl (by kernel_rfl) (by kernel_rfl) (by kernel_rfl) (fun _ _ _ h => h) (Or.inl ⟨by rfl, ?ya0⟩) HD.out ?za0
      case ya0 => (intro w hSw; (try dsimp only at hSw); go_simp; try with_reducible rfl)
      try simp only [List.getElem_toArray, List.getElem_cons_zero, Act.put, List.setIfInBounds_toArray, List.set_cons_zero, List.set_cons_succ]
      refine wpAnyH_take (i := 1) (v := ?va1) rfl (by kernel_rfl) (by kernel_rfl) (by kernel_rfl) (fun _ _ _ h => h) (Or.inl ⟨by rfl, ?ya1⟩) HD.out ?za1
      case ya1 => (intro w hSw; (try dsimp only at hSw); go_simp; try with_reducible rfl)
      try simp only [List.getElem_toArray, List.getElem_cons_succ, List.getElem_cons_zero, Act.put, List.setIfInBounds_toArray, List.set_cons_zero, List.set_cons_succ]
      refine wpAnyH_take (i := 2) (v := ?va2) rfl (by kernel_rfl) (by kernel_rfl) (by kernel_rfl) (fun _ _ _ h => h) (Or.inl ⟨by rfl, ?ya2⟩) HD.out ?za2
      case ya2 => (intro w hSw; (try dsimp only at hSw); go_simp; try with_reducible rfl)
      try simp only [List.getElem_toArray, List.getElem_cons_succ, List.getElem_cons_zero, Act.put, List.setIfInBounds_toArray, List.set_cons_zero, List.set_cons_succ]
      refine wpAnyH_take (i := 4) (v := ?va4) rfl (by kernel_rfl) (by kernel_rfl) (by kernel_rfl) (fun _ _ _ h => h) (Or.inl ⟨by rfl, ?ya4⟩) HD.out ?za4
      case ya4 => (intro w hSw; (try dsimp only at hSw); go_simp; try with_reducible rfl)
      try simp only [List.getElem_toArray, List.getElem_cons_succ, List.getElem_cons_zero, Act.put, List.setIfInBounds_toArray, List.set_cons_zero, List.set_cons_succ]
      refine wpAnyH_take (i := 5) (v := ?va5) rfl (by kernel_rfl) (by kernel_rfl) (by kernel_rfl) (fun _ _ _ h => h) (Or.inl ⟨by rfl, ?ya5⟩) HD.out ?za5
      case ya5 => (intro w hSw; (try dsimp only at hSw); go_simp; try with_reducible rfl)
      try simp only [List.getElem_toArray, List.getElem_cons_succ, List.getElem_cons_zero, Act.put, List.setIfInBounds_toArray, List.set_cons_zero, List.set_cons_succ]
      refine wpAnyH_take (i := 6) (v := ?va6) rfl (by kernel_rfl) (by kernel_rfl) (by kernel_rfl) (fun _ _ _ h => h) (Or.inl ⟨by rfl, ?ya6⟩) HD.out ?za6
      case ya6 => (intro w hSw; (try dsimp only at hSw); go_simp; try with_reducible rfl)
      try simp only [List.getElem_toArray, List.getElem_cons_succ, List.getElem_cons_zero, Act.put, List.setIfInBounds_toArray, List.set_cons_zero, List.set_cons_succ]
      refine wpAnyH_take (i := 7) (v := ?va7) rfl (by kernel_rfl) (by kernel_rfl) (by kernel_rfl) (fun _ _ _ h => h) (Or.inl ⟨by rfl, ?ya7⟩) HD.out ?za7
      case ya7 => (intro w hSw; (try dsimp only at hSw); go_simp; try with_reducible rfl)
      try simp only [List.getElem_toArray, List.getElem_cons_succ, List.getElem_cons_zero, Act.put, List.setIfInBounds_toArray, List.set_cons_zero, List.set_cons_succ]
      refine wpAnyH_ready (rs := [3, 8]) (by kernel_rfl) (by simp) ?_
      refine AllReadyH.cons rfl (fun K hK => ?_) (AllReadyH.cons rfl (fun K hK => ?_) AllReadyH.nil)
      · refine step_append_list rfl _ _ rfl (w.heap.size + 1) N (.slice so N dd) (row N (auf F X c)).toList rfl HO_x0.out s9 c d9 (fun j => F (i * c + j)) rfl HS_x0.out HN9.out (by omega) (by have := HVb_x0.out.lt; omega) ?_
        intro v1 x1 hown hgrow
        obtain ⟨so1, dd1, ev1, _, _⟩ := own_sl' hown
        subst ev1
        have HO1_x1 : Hid (x1.ownsRow (w.heap.size + 1) 5 1 (.slice so1 (N + c) dd1) (N + c) ((row N (auf F X c)).toList ++ (row c (fun j => F (i * c + j))).toList)) := hown
        have HX_x1 : Hid (x1.cell? ⟨bx, bo + i, none⟩ = some (.int .u8 (xi : Int))) := keepg hgrow HX_x0.out (fun e => by have := own_base HO_x0.out _ e; omega)
        have HB_x1 : Hid (Below w.heap.size w x1) := by
          cases hv : (Value.slice so N dd).ownBlock with
          | none => rw [hv] at hgrow; exact two_below HB_x0.out (grown_none.mp hgrow)
          | some g => rw [hv] at hgrow; exact below_row HB_x0.out hgrow (by have := own_base HO_x0.out _ hv; omega)
        have HVa_x1 : Hid (Vr x1 w.heap.size (.int .i64 (r : Int)) (.int .i64 (c : Int)) (.slice a n k)) := HVa_x0.out.grown hgrow (ob_ne_vr HO_x0.out HVa_x0.out)
        have HVb_x1 : Hid (Vr x1 w1.heap.size (.int .i64 (r : Int)) (.int .i64 ((c : Int) + 1)) (.slice so N dd)) := HVb_x0.out.grown hgrow (ob_ne_vr HO_x0.out HVb_x0.out)
        have HD_x1 : Hid (x1.cell? ⟨w1.heap.size, 2, none⟩ = some (.slice so N dd) ∧ x1.cell? ⟨bx, bo + i, none⟩ = some (.int .u8 (xi : Int))) := ⟨HVb_x1.out.c2, HX_x1.out⟩
        refine hK.out _ _ HD_x1.out (fun _ => ?_)
        clear hK K
        try simp only [List.getElem_toArray, List.getElem_cons_succ, List.getElem_cons_zero, Act.put, List.setIfInBounds_toArray, List.set_cons_zero, List.set_cons_succ]
        refine wpAnyH_ready (rs := [8]) (by kernel_rfl) (by simp) ?_
        refine AllReadyH.cons rfl (fun K hK => ?_) AllReadyH.nil
        go_simp
        obtain ⟨x2, hwx2⟩ : ∃ x, Hid (x = x1.alloc (.cells #[.int .u8 (xi : Int)] 5)) := ⟨_, rfl⟩
        rw [← hwx2.out]
        have hbx2 : Below x1.heap.size x1 x2 := by rw [hwx2.out]; exact alloc_low _ _
        have HC_x2 : Hid (Sl x2 (some ⟨x1.heap.size, 0, none⟩) 1 (fun _ => xi)) := by rw [hwx2.out]; exact one_sl x1 xi hxi
        have HX_x2 : Hid (x2.cell? ⟨bx, bo + i, none⟩ = some (.int .u8 (xi : Int))) := keepc hbx2 HX_x1.out
        have HB_x2 : Hid (Below w.heap.size w x2) := two_below HB_x1.out hbx2
        have HVa_x2 : Hid (Vr x2 w.heap.size (.int .i64 (r : Int)) (.int .i64 (c : Int)) (.slice a n k)) := HVa_x1.out.later hbx2
        have HVb_x2 : Hid (Vr x2 w1.heap.size (.int .i64 (r : Int)) (.int .i64 ((c : Int) + 1)) (.slice so N dd)) := HVb_x1.out.later hbx2
        have HO1_x2 : Hid (x2.ownsRow (w.heap.size + 1) 5 1 (.slice so1 (N + c) dd1) (N + c) ((row N (auf F X c)).toList ++ (row c (fun j => F (i * c + j))).toList)) := World.ownsRow.kept HO1_x1.out (grown_none.mpr hbx2) (by cases hv : (Value.slice so1 (N + c) dd1).ownBlock <;> simp)
        have HD_x2 : Hid (x2.cell? ⟨w1.heap.size, 2, none⟩ = some (.slice so N dd) ∧ x2.cell? ⟨bx, bo + i, none⟩ = some (.int .u8 (xi : Int))) := ⟨HVb_x2.out.c2, HX_x2.out⟩
        refine hK.out _ _ HD_x2.out (fun _ => ?_)
        clear hK K
        try simp only [List.getElem_toArray, List.getElem_cons_succ, List.getElem_cons_zero, Act.put, List.setIfInBounds_toArray, List.set_cons_zero, List.set_cons_succ]
        refine wpAnyH_ready (rs := [9]) (by kernel_rfl) (by simp) ?_
        refine AllReadyH.cons rfl (fun K hK => ?_) AllReadyH.nil
        refine step_append_list rfl _ _ rfl (w.heap.size + 1) (N + c) (.slice so1 (N + c) dd1) _ rfl HO1_x2.out (some ⟨x1.heap.size, 0, none⟩) 1 1 (fun _ => xi) rfl HC_x2.out (fun e => by cases e) (by omega) (by have := HVb_x2.out.lt; omega) ?_
        intro v2 x3 hown2 hgrow2
        obtain ⟨so2, dd2, ev2, _, _⟩ := own_sl' hown2
        subst ev2
        have HO2 : Hid (x3.ownsRow (w.heap.size + 1) 5 1 (.slice so2 (N + c + 1) dd2) (N + c + 1) ((row N (auf F X c)).toList ++ (row c (fun j => F (i * c + j))).toList ++ (row 1 (fun _ => xi)).toList)) := hown2
        have HX_x3 : Hid (x3.cell? ⟨bx, bo + i, none⟩ = some (.int .u8 (xi : Int))) := keepg hgrow2 HX_x2.out (fun e => by have := own_base HO1_x2.out _ e; omega)
        have HB_x3 : Hid (Below w.heap.size w x3) := by
          cases hv : (Value.slice so1 (N + c) dd1).ownBlock with
          | none => rw [hv] at hgrow2; exact two_below HB_x2.out (grown_none.mp hgrow2)
          | some g => rw [hv] at hgrow2; exact below_row HB_x2.out hgrow2 (by have := own_base HO1_x2.out _ hv; omega)
        have HVa_x3 : Hid (Vr x3 w.heap.size (.int .i64 (r : Int)) (.int .i64 (c : Int)) (.slice a n k)) := HVa_x2.out.grown hgrow2 (own_ne_vr HO1_x2.out HVa_x2.out)
        have HVb_x3 : Hid (Vr x3 w1.heap.size (.int .i64 (r : Int)) (.int .i64 ((c : Int) + 1)) (.slice so N dd)) := HVb_x2.out.grown hgrow2 (own_ne_vr HO1_x2.out HVb_x2.out)
        have HD_x3 : Hid (x3.cell? ⟨w1.heap.size, 2, none⟩ = some (.slice so N dd) ∧ x3.cell? ⟨bx, bo + i, none⟩ = some (.int .u8 (xi : Int))) := ⟨HVb_x3.out.c2, HX_x3.out⟩
        refine hK.out _ _ HD_x3.out (fun _ => ?_)
        clear hK K
        try simp only [List.getElem_toArray, List.getElem_cons_succ, List.getElem_cons_zero, Act.put, List.setIfInBounds_toArray, List.set_cons_zero, List.set_cons_succ]
        refine wpAnyH_take (i := 10) (v := ?vb10) rfl (by kernel_rfl) (by kernel_rfl) (by kernel_rfl) (fun _ _ _ h => h) (Or.inl ⟨by rfl, ?yb10⟩) HD_x3.out ?zb10
        case yb10 => (intro w hSw; (try dsimp only at hSw); go_simp; try with_reducible rfl)
        try simp only [List.getElem_toArray, List.getElem_cons_succ, List.getElem_cons_zero, Act.put, List.setIfInBounds_toArray, List.set_cons_zero, List.set_cons_succ]
        have f2 := HVb_x3.out.c2
        have ff2 := HVb_x3.out.free 2
        refine wpAnyH_done (by kernel_rfl) ?_ _
        refine park_last rfl (fun K hK => ?_)
        go_simp
        refine hK.out _ _ ?_
        clear hK K
        try simp only [List.getElem_toArray, List.getElem_cons_succ, List.getElem_cons_zero, Act.put, List.setIfInBounds_toArray, List.set_cons_zero, List.set_cons_succ]
        go_wp2
        have HFin : SInv w (x3.setCell ⟨w1.heap.size, 2, none⟩ (.slice so2 (N + c + 1) dd2)) w1.heap.size r c n k (i + 1) a so2 dd2 (auf F X c) := by
          have gs := grown_setCell x3 w1.heap.size 2 (.slice so2 (N + c + 1) dd2)
          have eN : (i + 1) * (c + 1) = N + c + 1 := by rw [← HN.out, Nat.add_mul, Nat.one_mul]; omega
          have ho : Ob x3 (w.heap.size + 1) (.slice so2 (N + c + 1) dd2) (N + c + 1) (auf F X c) := by
            have h1 := HO2.out
            rw [← HN.out, ← HXi.out, row_auf] at h1
            rw [← HN.out] at *
            have e2 : (i + 1) * (c + 1) = i * (c + 1) + c + 1 := by rw [Nat.add_mul, Nat.one_mul]; omega
            rw [e2] at h1
            exact h1
          refine ⟨HVa_x3.out.kept gs (by omega), ?_, ?_, hlow, below_row HB_x3.out gs (by omega)⟩
          · rw [eN]; exact HVb_x3.out.set2 _
          · rw [eN]; exact ho.kept gs (.inr (ob_ne_vr ho HVb_x3.out))
        exact ⟨⟨i + 1, so2, dd2, by omega, by go_num, HFin⟩, by simp [intOf]; omega⟩
      · go_simp
        obtain ⟨x1, hwx1⟩ : ∃ x, Hid (x = x0.alloc (.cells #[.int .u8 (xi : Int)] 5)) := ⟨_, rfl⟩
        rw [← hwx1.out]
        have hbx1 : Below x0.heap.size x0 x1 := by rw [hwx1.out]; exact alloc_low _ _
        have HC_x1 : Hid (Sl x1 (some ⟨x0.heap.size, 0, none⟩) 1 (fun _ => xi)) := by rw [hwx1.out]; exact one_sl x0 xi hxi
        have HX_x1 : Hid (x1.cell? ⟨bx, bo + i, none⟩ = some (.int .u8 (xi : Int))) := keepc hbx1 HX_x0.out
        have HB_x1 : Hid (Below w.heap.size w x1) := two_below HB_x0.out hbx1
        have HVa_x1 : Hid (Vr x1 w.heap.size (.int .i64 (r : Int)) (.int .i64 (c : Int)) (.slice a n k)) := HVa_x0.out.later hbx1
        have HVb_x1 : Hid (Vr x1 w1.heap.size (.int .i64 (r : Int)) (.int .i64 ((c : Int) + 1)) (.slice so N dd)) := HVb_x0.out.later hbx1
        have HO_x1 : Hid (Ob x1 (w.heap.size + 1) (.slice so N dd) N (auf F X c)) := HO_x0.out.later hbx1
        have HS_x1 : Hid (Sl x1 s9 c (fun j => F (i * c + j))) := HS_x0.out.later hbx1
        have HD_x1 : Hid (x1.cell? ⟨w1.heap.size, 2, none⟩ = some (.slice so N dd) ∧ x1.cell? ⟨bx, bo + i, none⟩ = some (.int .u8 (xi : Int))) := ⟨HVb_x1.out.c2, HX_x1.out⟩
        refine hK.out _ _ HD_x1.out (fun _ => ?_)
        clear hK K
        try simp only [List.getElem_toArray, List.getElem_cons_succ, List.getElem_cons_zero, Act.put, List.setIfInBounds_toArray, List.set_cons_zero, List.set_cons_succ]
        refine wpAnyH_ready (rs := [3]) (by kernel_rfl) (by simp) ?_
        refine AllReadyH.cons rfl (fun K hK => ?_) AllReadyH.nil
        refine step_append_list rfl _ _ rfl (w.heap.size + 1) N (.slice so N dd) (row N (auf F X c)).toList rfl HO_x1.out s9 c d9 (fun j => F (i * c + j)) rfl HS_x1.out HN9.out (by omega) (by have := HVb_x1.out.lt; omega) ?_
        intro v1 x2 hown hgrow
        obtain ⟨so1, dd1, ev1, _, _⟩ := own_sl' hown
        subst ev1
        have HO1_x2 : Hid (x2.ownsRow (w.heap.size + 1) 5 1 (.slice so1 (N + c) dd1) (N + c) ((row N (auf F X c)).toList ++ (row c (fun j => F (i * c + j))).toList)) := hown
        have HX_x2 : Hid (x2.cell? ⟨bx, bo + i, none⟩ = some (.int .u8 (xi : Int))) := keepg hgrow HX_x1.out (fun e => by have := own_base HO_x1.out _ e; omega)
        have HB_x2 : Hid (Below w.heap.size w x2) := by
          cases hv : (Value.slice so N dd).ownBlock with
          | none => rw [hv] at hgrow; exact two_below HB_x1.out (grown_none.mp hgrow)
          | some g => rw [hv] at hgrow; exact below_row HB_x1.out hgrow (by have := own_base HO_x1.out _ hv; omega)
        have HVa_x2 : Hid (Vr x2 w.heap.size (.int .i64 (r : Int)) (.int .i64 (c : Int)) (.slice a n k)) := HVa_x1.out.grown hgrow (ob_ne_vr HO_x1.out HVa_x1.out)
        have HVb_x2 : Hid (Vr x2 w1.heap.size (.int .i64 (r : Int)) (.int .i64 ((c : Int) + 1)) (.slice so N dd)) := HVb_x1.out.grown hgrow (ob_ne_vr HO_x1.out HVb_x1.out)
        have HC_x2 : Hid (Sl x2 (some ⟨x0.heap.size, 0, none⟩) 1 (fun _ => xi)) := one_kept HC_x1.out hgrow HO_x0.out
        have HD_x2 : Hid (x2.cell? ⟨w1.heap.size, 2, none⟩ = some (.slice so N dd) ∧ x2.cell? ⟨bx, bo + i, none⟩ = some (.int .u8 (xi : Int))) := ⟨HVb_x2.out.c2, HX_x2.out⟩
        refine hK.out _ _ HD_x2.out (fun _ => ?_)
        clear hK K
        try simp only [List.getElem_toArray, List.getElem_cons_succ, List.getElem_cons_zero, Act.put, List.setIfInBounds_toArray, List.set_cons_zero, List.set_cons_succ]
        refine wpAnyH_ready (rs := [9]) (by kernel_rfl) (by simp) ?_
        refine AllReadyH.cons rfl (fun K hK => ?_) AllReadyH.nil
        refine step_append_list rfl _ _ rfl (w.heap.size + 1) (N + c) (.slice so1 (N + c) dd1) _ rfl HO1_x2.out (some ⟨x0.heap.size, 0, none⟩) 1 1 (fun _ => xi) rfl HC_x2.out (fun e => by cases e) (by omega) (by have := HVb_x2.out.lt; omega) ?_
        intro v2 x3 hown2 hgrow2
        obtain ⟨so2, dd2, ev2, _, _⟩ := own_sl' hown2
        subst ev2
        have HO2 : Hid (x3.ownsRow (w.heap.size + 1) 5 1 (.slice so2 (N + c + 1) dd2) (N + c + 1) ((row N (auf F X c)).toList ++ (row c (fun j => F (i * c + j))).toList ++ (row 1 (fun _ => xi)).toList)) := hown2
        have HX_x3 : Hid (x3.cell? ⟨bx, bo + i, none⟩ = some (.int .u8 (xi : Int))) := keepg hgrow2 HX_x2.out (fun e => by have := own_base HO1_x2.out _ e; omega)
        have HB_x3 : Hid (Below w.heap.size w x3) := by
          cases hv : (Value.slice so1 (N + c) dd1).ownBlock with
          | none => rw [hv] at hgrow2; exact two_below HB_x2.out (grown_none.mp hgrow2)
          | some g => rw [hv] at hgrow2; exact below_row HB_x2.out hgrow2 (by have := own_base HO1_x2.out _ hv; omega)
        have HVa_x3 : Hid (Vr x3 w.heap.size (.int .i64 (r : Int)) (.int .i64 (c : Int)) (.slice a n k)) := HVa_x2.out.grown hgrow2 (own_ne_vr HO1_x2.out HVa_x2.out)
        have HVb_x3 : Hid (Vr x3 w1.heap.size (.int .i64 (r : Int)) (.int .i64 ((c : Int) + 1)) (.slice so N dd)) := HVb_x2.out.grown hgrow2 (own_ne_vr HO1_x2.out HVb_x2.out)
        have HD_x3 : Hid (x3.cell? ⟨w1.heap.size, 2, none⟩ = some (.slice so N dd) ∧ x3.cell? ⟨bx, bo + i, none⟩ = some (.int .u8 (xi : Int))) := ⟨HVb_x3.out.c2, HX_x3.out⟩
        refine hK.out _ _ HD_x3.out (fun _ => ?_)
        clear hK K
        try simp only [List.getElem_toArray, List.getElem_cons_succ, List.getElem_cons_zero, Act.put, List.setIfInBounds_toArray, List.set_cons_zero, List.set_cons_succ]
        refine wpAnyH_take (i := 10) (v := ?vc10) rfl (by kernel_rfl) (by kernel_rfl) (by kernel_rfl) (fun _ _ _ h => h) (Or.inl ⟨by rfl, ?yc10⟩) HD_x3.out ?zc10
        case yc10 => (intro w hSw; (try dsimp only at hSw); go_simp; try with_reducible rfl)
        try simp only [List.getElem_toArray, List.getElem_cons_succ, List.getElem_cons_zero, Act.put, List.setIfInBounds_toArray, List.set_cons_zero, List.set_cons_succ]
        have f2 := HVb_x3.out.c2
        have ff2 := HVb_x3.out.free 2
        refine wpAnyH_done (by kernel_rfl) ?_ _
        refine park_last rfl (fun K hK => ?_)
        go_simp
        refine hK.out _ _ ?_
        clear hK K
        try simp only [List.getElem_toArray, List.getElem_cons_succ, List.getElem_cons_zero, Act.put, List.setIfInBounds_toArray, List.set_cons_zero, List.set_cons_succ]
        go_wp2
        have HFin : SInv w (x3.setCell ⟨w1.heap.size, 2, none⟩ (.slice so2 (N + c + 1) dd2)) w1.heap.size r c n k (i + 1) a so2 dd2 (auf F X c) := by
          have gs := grown_setCell x3 w1.heap.size 2 (.slice so2 (N + c + 1) dd2)
          have eN : (i + 1) * (c + 1) = N + c + 1 := by rw [← HN.out, Nat.add_mul, Nat.one_mul]; omega
          have ho : Ob x3 (w.heap.size + 1) (.slice so2 (N + c + 1) dd2) (N + c + 1) (auf F X c) := by
            have h1 := HO2.out
            rw [← HN.out, ← HXi.out, row_auf] at h1
            rw [← HN.out] at *
            have e2 : (i + 1) * (c + 1) = i * (c + 1) + c + 1 := by rw [Nat.add_mul, Nat.one_mul]; omega
            rw [e2] at h1
            exact h1
          refine ⟨HVa_x3.out.kept gs (by omega), ?_, ?_, hlow, below_row HB_x3.out gs (by omega)⟩
          · rw [eN]; exact HVb_x3.out.set2 _
          · rw [eN]; exact ho.kept gs (.inr (ob_ne_vr ho HVb_x3.out))
        exact ⟨⟨i + 1, so2, dd2, by omega, by go_num, HFin⟩, by simp [intOf]; omega⟩
    · have HRI : Hid (i = r) := Nat.le_antisymm hir (by omega)
      have W : Wt r (c + 1) N := ⟨hr, by omega, by rw [← HN.out, HRI.out]⟩
      have HWt : Hid (Wt r (c + 1) N) := W
      have HVb : Hid (Vr wr w1.heap.size (.int .i64 (r : Int)) (.int .i64 ((c : Int) + 1)) (.slice so N dd)) := by have h1 := HI.out.vb; rw [HN.out] at h1; exact h1
      have HO : Hid (Ob wr (w.heap.size + 1) (.slice so N dd) N (auf F X c)) := by have h1 := HI.out.out; rw [HN.out] at h1; exact h1
      have HAl : Hid (∀ q, q < N → auf F X c q < 256) := fun q hq => auf_lt HSa.out.sl.1 HSb.out.1 HR.out q (by rw [W.len]; exact hq)
      have b0 := HVb.out.c0
      have b1 := HVb.out.c1
      have b2 := HVb.out.c2
      have hml : c ≤ maxLen := by unfold maxLen; omega
      clear W
      go_wp2_with (first
        | (go_at_call 97; refine (rwide_ok _ (w.heap.size + 1) r (c + 1) N dd so (auf F X c) HO.out HAl.out HWt.out).mono ?_; rintro e w5 ⟨v5, top, p, G, rfl, ho5, hp5, hG5, hR5, hS5, hc5, hg5⟩; obtain ⟨ps, pd, ev5, _⟩ := hp5.form; subst ev5; have HS5 : Hid (S2Inv w (w5.alloc (.cells #[.int .i64 (r : Int), .int .i64 ((c : Int) + 1), .slice so N dd] 24)) w5.heap.size r c n k N dd top p a so (.slice ps top pd) G) := s2_begin HI.out.va HO.out ho5 hp5 HI.out.below hg5; have HG5 : Hid (∀ q, q < N → G q < 256) := hG5; have HRd : Hid (Rdf (m2 G r (c + 1)) r top p) := hR5; have HSp : Hid (SpEq (m2 G r (c + 1)) r (m2 (auf F X c) r (c + 1)) r) := hS5; have HPc : Hid (∀ i, i < top → p i < c + 1) := hc5; have y1 := HS5.out.va.c1; clear ho5 hp5 hG5 hR5 hS5 hc5 hg5)
        | (at_make; refine wpList_make_full _ rfl _ _ 22 rfl (w5.heap.size + 1) 5 i0 (.int .u8 0) 1 Try.underlying22 hi0 hz0 hz1 .i64 .i64 _ _ c rfl rfl rfl rfl (by rw [hz2]; omega) hml (by simp) ?_; intro w6 hown hgrow; have HR6 : Hid (RowAt w6 (w5.heap.size + 1) 5 c (fun _ => 0)) := by { show RowAt _ _ _ _ _; have := made_at hown; simpa using this }; have HS6 : Hid (S2Inv w w6 w5.heap.size r c n k N dd top p a so (.slice ps top pd) G) := HS5.out.later (grown_none.mp hgrow); clear hown hgrow))
      have N1 : Hid ((Value.slice so N dd).ownBlock ≠ some (w5.heap.size + 1)) := fun e => by have := (HS5.out.data.base e).2; simp at this
      have N2 : Hid ((Value.slice ps top pd).ownBlock ≠ some (w5.heap.size + 1)) := fun e => by have := (HS5.out.piv.base e).2; simp at this
      have k1 : w.heap.size < w5.heap.size := HS5.out.low
      have htop : top ≤ 64 := by have := HRd.out.kr; omega
      obtain ⟨vv, HVV⟩ : ∃ f, Hid ((fun t => m2 G r (c + 1) t c) = f) := ⟨_, rfl⟩
      clear HI HS5 HVb HO b0 b1 b2 c0 c1 c2 y1
      go_loopw [14] (fun si wi => ∃ i : Nat, i ≤ top ∧ si = .int .i64 (i : Int) ∧ RowAt wi (w5.heap.size + 1) 5 c (pp p i vv) ∧ Hid (∀ t, t < i → p t < c) ∧ S2Inv w wi w5.heap.size r c n k N dd top p a so (.slice ps top pd) G) (fun si _ => top - (intOf si).toNat)
      case atStart => exact ⟨0, by omega, rfl, HR6.out.congr (fun l _ => rfl), fun t ht => by omega, HS6.out⟩
      case round =>
        clear HR6 HS6
        obtain ⟨i, hit, rfl, hRow, HLt, I⟩ := hrel
        have HI : Hid (S2Inv w wr w5.heap.size r c n k N dd top p a so (.slice ps top pd) G) := I
        have HRow : Hid (RowAt wr (w5.heap.size + 1) 5 c (pp p i vv)) := hRow
        clear hRow
        by_cases hlt2 : i < top
        · obtain ⟨px, po, eps, hpc⟩ := I.piv.il i hlt2
          obtain ⟨pi, HPI⟩ : ∃ x, Hid (p i = x) := ⟨_, rfl⟩
          dsimp only at hpc
          rw [HPI.out] at hpc
          subst eps
          have hd1 := I.va.c1
          have p0 : (0 : Int) ≤ (i : Int) := by omega
          have p1 : (i : Int) < (top : Int) := by omega
          have HD : Hid (wr.drew.cell? ⟨w.heap.size, 1, none⟩ = some (.int .i64 (c : Int)) ∧ wr.drew.cell? ⟨px, po + i, none⟩ = some (.int .i64 (pi : Int))) := ⟨hd1, hpc⟩
          have HD2 : Hid (wr.drew.drew.cell? ⟨w.heap.size, 1, none⟩ = some (.int .i64 (c : Int)) ∧ wr.drew.drew.cell? ⟨px, po + i, none⟩ = some (.int .i64 (pi : Int)) ∧ wr.drew.drew.cell? ⟨w5.heap.size, 0, none⟩ = some (.int .i64 (r : Int)) ∧ wr.drew.drew.cell? ⟨w5.heap.size, 1, none⟩ = some (.int .i64 ((c : Int) + 1)) ∧ wr.drew.drew.cell? ⟨w5.heap.size, 2, none⟩ = some (.slice so N dd)) := ⟨hd1, hpc, I.vr.c0, I.vr.c1, I.vr.c2⟩
          have hpic1 := HPc.out i hlt2
          rw [HPI.out] at hpic1
          clear I
          by_cases hpic : pi = c
          · have g1 : ((pi : Int) == (c : Int)) = true := by rw [hpic]; simp
            have HPC : Hid (p i = c) := by rw [HPI.out]; exact hpic
            clear hpic hd1 hpc
            go_wp2
            refine wp_region_held (S := fun w' => w'.cell? ⟨w.heap.size, 1, none⟩ = some (.int .i64 (c : Int)) ∧ w'.cell? ⟨px, po + i, none⟩ = some (.int .i64 (pi : Int))) (by kernel_rfl) ?_
            refine wpAnyH_take (i := 0) (v := ?vp0) rfl (by kernel_rfl) (by kernel_rfl) (by kernel_rfl) (fun _ _ _ h => h) (Or.inl ⟨by rfl, ?yp0⟩) HD.out ?zp0
            case yp0 => (intro w hSw; (try dsimp only at hSw); go_simp; try with_reducible rfl)
            try simp only [List.getElem_toArray, List.getElem_cons_zero, Act.put, List.setIfInBounds_toArray, List.set_cons_zero, List.set_cons_succ]
            refine wpAnyH_take (i := 1) (v := ?vp1) rfl (by kernel_rfl) (by kernel_rfl) (by kernel_rfl) (fun _ _ _ h => h) (Or.inl ⟨by rfl, ?yp1⟩) HD.out ?zp1
            case yp1 => (intro w hSw; (try dsimp only at hSw); go_simp; try with_reducible rfl)
            try simp only [List.getElem_toArray, List.getElem_cons_succ, List.getElem_cons_zero, Act.put, List.setIfInBounds_toArray, List.set_cons_zero, List.set_cons_succ]
            refine wpAnyH_take (i := 2) (v := ?vp2) rfl (by kernel_rfl) (by kernel_rfl) (by kernel_rfl) (fun _ _ _ h => h) (Or.inl ⟨by rfl, ?yp2⟩) HD.out ?zp2
            case yp2 => (intro w hSw; (try dsimp only at hSw); go_simp; try with_reducible rfl)
            try simp only [List.getElem_toArray, List.getElem_cons_succ, List.getElem_cons_zero, Act.put, List.setIfInBounds_toArray, List.set_cons_zero, List.set_cons_succ]
            refine wpAnyH_take (i := 3) (v := ?vp3) rfl (by kernel_rfl) (by kernel_rfl) (by kernel_rfl) (fun _ _ _ h => h) (Or.inl ⟨by rfl, ?yp3⟩) HD.out ?zp3
            case yp3 => (intro w hSw; (try dsimp only at hSw); go_simp; try with_reducible rfl)
            try simp only [List.getElem_toArray, List.getElem_cons_succ, List.getElem_cons_zero, Act.put, List.setIfInBounds_toArray, List.set_cons_zero, List.set_cons_succ]
            refine wpAnyH_take (i := 4) (v := ?vp4) rfl (by kernel_rfl) (by kernel_rfl) (by kernel_rfl) (fun _ _ _ h => h) (Or.inl ⟨by rfl, ?yp4⟩) HD.out ?zp4
            case yp4 => (intro w hSw; (try dsimp only at hSw); go_simp; try with_reducible rfl)
            try simp only [List.getElem_toArray, List.getElem_cons_succ, List.getElem_cons_zero, Act.put, List.setIfInBounds_toArray, List.set_cons_zero, List.set_cons_succ]
            refine wpAnyH_take (i := 5) (v := ?vp5) rfl (by kernel_rfl) (by kernel_rfl) (by kernel_rfl) (fun _ _ _ h => h) (Or.inl ⟨by rfl, ?yp5⟩) HD.out ?zp5
            case yp5 => (intro w hSw; (try dsimp only at hSw); go_simp; try with_reducible rfl)
            try simp only [List.getElem_toArray, List.getElem_cons_succ, List.getElem_cons_zero, Act.put, List.setIfInBounds_toArray, List.set_cons_zero, List.set_cons_succ]
            refine wpAnyH_take (i := 6) (v := ?vp6) rfl (by kernel_rfl) (by kernel_rfl) (by kernel_rfl) (fun _ _ _ h => h) (Or.inl ⟨by rfl, ?yp6⟩) HD.out ?zp6
            case yp6 => (intro w hSw; (try dsimp only at hSw); go_simp; try with_reducible rfl)
            try simp only [List.getElem_toArray, List.getElem_cons_succ, List.getElem_cons_zero, Act.put, List.setIfInBounds_toArray, List.set_cons_zero, List.set_cons_succ]
            refine wpAnyH_done (by kernel_rfl) ?_ _
            go_wp2
            go_ret3
            exact .inr ⟨rfl, sol_no HSa.out.sl.1 HSb.out.1 HR.out HRd.out HSp.out hlt2 HPC.out, two_below HI.out.below (Below.refl _ _).drew⟩
          · have g1 : ((pi : Int) == (c : Int)) = false := by simp; omega
            have hpi : pi < c := by omega
            clear hpic hd1 hpc
            have hirr : i < r := Nat.lt_of_lt_of_le hlt2 HRd.out.kr
            obtain ⟨y, HY⟩ : ∃ x, Hid (G (i * (c + 1) + c) = x) := ⟨_, rfl⟩
            have HYv : Hid (vv i = y) := by rw [← HVV.out]; show m2 G r (c + 1) i c = y; rw [m2_at _ hirr (by omega)]; exact HY.out
            have HAt : Hid (∀ w', Below wr.heap.size wr w' → Calls Try.prog 32 #[.agg #[.int .i64 (r : Int), .int .i64 ((c : Int) + 1), .slice so N dd], .int .i64 (i : Int), .int .i64 (c : Int)] w' fun e w'' => e = .returned (.int .u8 (y : Int)) ∧ Below w'.heap.size w' w'') := fun w' h' => at3_big w' _ (c + 1) i c N dd y so G ((HI.out.data.later h').sl HG5.out) (HWt.out.at hirr (by omega)) hN HY
            have p2 : (0 : Int) ≤ (pi : Int) := by omega
            have p3 : (pi : Int) < (c : Int) := by omega
            go_wp2
            refine wp_region_held (S := fun w' => w'.cell? ⟨w.heap.size, 1, none⟩ = some (.int .i64 (c : Int)) ∧ w'.cell? ⟨px, po + i, none⟩ = some (.int .i64 (pi : Int))) (by kernel_rfl) ?_
            refine wpAnyH_take (i := 0) (v := ?vh0) rfl (by kernel_rfl) (by kernel_rfl) (by kernel_rfl) (fun _ _ _ h => h) (Or.inl ⟨by rfl, ?yh0⟩) HD.out ?zh0
            case yh0 => (intro w hSw; (try dsimp only at hSw); go_simp; try with_reducible rfl)
            try simp only [List.getElem_toArray, List.getElem_cons_zero, Act.put, List.setIfInBounds_toArray, List.set_cons_zero, List.set_cons_succ]
            refine wpAnyH_take (i := 1) (v := ?vh1) rfl (by kernel_rfl) (by kernel_rfl) (by kernel_rfl) (fun _ _ _ h => h) (Or.inl ⟨by rfl, ?yh1⟩) HD.out ?zh1
            case yh1 => (intro w hSw; (try dsimp only at hSw); go_simp; try with_reducible rfl)
            try simp only [List.getElem_toArray, List.getElem_cons_succ, List.getElem_cons_zero, Act.put, List.setIfInBounds_toArray, List.set_cons_zero, List.set_cons_succ]
            refine wpAnyH_take (i := 2) (v := ?vh2) rfl (by kernel_rfl) (by kernel_rfl) (by kernel_rfl) (fun _ _ _ h => h) (Or.inl ⟨by rfl, ?yh2⟩) HD.out ?zh2
            case yh2 => (intro w hSw; (try dsimp only at hSw); go_simp; try with_reducible rfl)
            try simp only [List.getElem_toArray, List.getElem_cons_succ, List.getElem_cons_zero, Act.put, List.setIfInBounds_toArray, List.set_cons_zero, List.set_cons_succ]
            refine wpAnyH_take (i := 3) (v := ?vh3) rfl (by kernel_rfl) (by kernel_rfl) (by kernel_rfl) (fun _ _ _ h => h) (Or.inl ⟨by rfl, ?yh3⟩) HD.out ?zh3
            case yh3 => (intro w hSw; (try dsimp only at hSw); go_simp; try with_reducible rfl)
            try simp only [List.getElem_toArray, List.getElem_cons_succ, List.getElem_cons_zero, Act.put, List.setIfInBounds_toArray, List.set_cons_zero, List.set_cons_succ]
            refine wpAnyH_take (i := 4) (v := ?vh4) rfl (by kernel_rfl) (by kernel_rfl) (by kernel_rfl) (fun _ _ _ h => h) (Or.inl ⟨by rfl, ?yh4⟩) HD.out ?zh4
            case yh4 => (intro w hSw; (try dsimp only at hSw); go_simp; try with_reducible rfl)
            try simp only [List.getElem_toArray, List.getElem_cons_succ, List.getElem_cons_zero, Act.put, List.setIfInBounds_toArray, List.set_cons_zero, List.set_cons_succ]
            refine wpAnyH_take (i := 5) (v := ?vh5) rfl (by kernel_rfl) (by kernel_rfl) (by kernel_rfl) (fun _ _ _ h => h) (Or.inl ⟨by rfl, ?yh5⟩) HD.out ?zh5
            case yh5 => (intro w hSw; (try dsimp only at hSw); go_simp; try with_reducible rfl)
            try simp only [List.getElem_toArray, List.getElem_cons_succ, List.getElem_cons_zero, Act.put, List.setIfInBounds_toArray, List.set_cons_zero, List.set_cons_succ]
            refine wpAnyH_take (i := 6) (v := ?vh6) rfl (by kernel_rfl) (by kernel_rfl) (by kernel_rfl) (fun _ _ _ h => h) (Or.inl ⟨by rfl, ?yh6⟩) HD.out ?zh6
            case yh6 => (intro w hSw; (try dsimp only at hSw); go_simp; try with_reducible rfl)
            try simp only [List.getElem_toArray, List.getElem_cons_succ, List.getElem_cons_zero, Act.put, List.setIfInBounds_toArray, List.set_cons_zero, List.set_cons_succ]
            refine wpAnyH_done (by kernel_rfl) ?_ _
            go_wp2
            refine wp_region_park (k := 11) (n := 11) (fun w' => w'.cell? ⟨w.heap.size, 1, none⟩ = some (.int .i64 (c : Int)) ∧ w'.cell? ⟨px, po + i, none⟩ = some (.int .i64 (pi : Int)) ∧ w'.cell? ⟨w5.heap.size, 0, none⟩ = some (.int .i64 (r : Int)) ∧ w'.cell? ⟨w5.heap.size, 1, none⟩ = some (.int .i64 ((c : Int) + 1)) ∧ w'.cell? ⟨w5.heap.size, 2, none⟩ = some (.slice so N dd)) (by kernel_rfl) (by kernel_rfl) (by decide) (by rfl) ?_
            refine wpAnyH_take (i := 0) (v := ?vk0) rfl (by kernel_rfl) (by kernel_rfl) (by kernel_rfl) (fun _ _ _ h => h) (Or.inl ⟨by rfl, ?yk0⟩) HD2.out ?zk0
            case yk0 => (intro w hSw; (try dsimp only at hSw); go_simp; try with_reducible rfl)
            try simp only [List.getElem_toArray, List.getElem_cons_zero, Act.put, List.setIfInBounds_toArray, List.set_cons_zero, List.set_cons_succ]
            refine wpAnyH_take (i := 1) (v := ?vk1) rfl (by kernel_rfl) (by kernel_rfl) (by kernel_rfl) (fun _ _ _ h => h) (Or.inl ⟨by rfl, ?yk1⟩) HD2.out ?zk1
            case yk1 => (intro w hSw; (try dsimp only at hSw); go_simp; try with_reducible rfl)
            try simp only [List.getElem_toArray, List.getElem_cons_succ, List.getElem_cons_zero, Act.put, List.setIfInBounds_toArray, List.set_cons_zero, List.set_cons_succ]
            refine wpAnyH_take (i := 2) (v := ?vk2) rfl (by kernel_rfl) (by kernel_rfl) (by kernel_rfl) (fun _ _ _ h => h) (Or.inl ⟨by rfl, ?yk2⟩) HD2.out ?zk2
            case yk2 => (intro w hSw; (try dsimp only at hSw); go_simp; try with_reducible rfl)
            try simp only [List.getElem_toArray, List.getElem_cons_succ, List.getElem_cons_zero, Act.put, List.setIfInBounds_toArray, List.set_cons_zero, List.set_cons_succ]
            refine wpAnyH_take (i := 3) (v := ?vk3) rfl (by kernel_rfl) (by kernel_rfl) (by kernel_rfl) (fun _ _ _ h => h) (Or.inl ⟨by rfl, ?yk3⟩) HD2.out ?zk3
            case yk3 => (intro w hSw; (try dsimp only at hSw); go_simp; try with_reducible rfl)
            try simp only [List.getElem_toArray, List.getElem_cons_succ, List.getElem_cons_zero, Act.put, List.setIfInBounds_toArray, List.set_cons_zero, List.set_cons_succ]
            refine wpAnyH_take (i := 4) (v := ?vk4) rfl (by kernel_rfl) (by kernel_rfl) (by kernel_rfl) (fun _ _ _ h => h) (Or.inl ⟨by rfl, ?yk4⟩) HD2.out ?zk4
            case yk4 => (intro w hSw; (try dsimp only at hSw); go_simp; try with_reducible rfl)
            try simp only [List.getElem_toArray, List.getElem_cons_succ, List.getElem_cons_zero, Act.put, List.setIfInBounds_toArray, List.set_cons_zero, List.set_cons_succ]
            refine wpAnyH_take (i := 5) (v := ?vk5) rfl (by kernel_rfl) (by kernel_rfl) (by kernel_rfl) (fun _ _ _ h => h) (Or.inl ⟨by rfl, ?yk5⟩) HD2.out ?zk5
            case yk5 => (intro w hSw; (try dsimp only at hSw); go_simp; try with_reducible rfl)
            try simp only [List.getElem_toArray, List.getElem_cons_succ, List.getElem_cons_zero, Act.put, List.setIfInBounds_toArray, List.set_cons_zero, List.set_cons_succ]
            refine wpAnyH_take (i := 6) (v := ?vk6) rfl (by kernel_rfl) (by kernel_rfl) (by kernel_rfl) (fun _ _ _ h => h) (Or.inl ⟨by rfl, ?yk6⟩) HD2.out ?zk6
            case yk6 => (intro w hSw; (try dsimp only at hSw); go_simp; try with_reducible rfl)
            try simp only [List.getElem_toArray, List.getElem_cons_succ, List.getElem_cons_zero, Act.put, List.setIfInBounds_toArray, List.set_cons_zero, List.set_cons_succ]
            refine wpAnyH_take (i := 7) (v := ?vk7) rfl (by kernel_rfl) (by kernel_rfl) (by kernel_rfl) (fun _ _ _ h => h) (Or.inl ⟨by rfl, ?yk7⟩) HD2.out ?zk7
            case yk7 => (intro w hSw; (try dsimp only at hSw); go_simp; try with_reducible rfl)
            try simp only [List.getElem_toArray, List.getElem_cons_succ, List.getElem_cons_zero, Act.put, List.setIfInBounds_toArray, List.set_cons_zero, List.set_cons_succ]
            refine wpAnyH_take (i := 8) (v := ?vk8) rfl (by kernel_rfl) (by kernel_rfl) (by kernel_rfl) (fun _ _ _ h => h) (Or.inl ⟨by rfl, ?yk8⟩) HD2.out ?zk8
            case yk8 => (intro w hSw; (try dsimp only at hSw); go_simp; try with_reducible rfl)
            try simp only [List.getElem_toArray, List.getElem_cons_succ, List.getElem_cons_zero, Act.put, List.setIfInBounds_toArray, List.set_cons_zero, List.set_cons_succ]
            refine wpAnyH_ready (rs := [9]) (by kernel_rfl) (by simp) ?_
            refine AllReadyH.cons rfl (fun K hK => ?_) AllReadyH.nil
            go_simp
            refine (HAt.out _ (two_below (Below.refl _ _).drew (Below.refl _ _).drew)).mono ?_; rintro e w8 ⟨rfl, hb8⟩; have HD8 : Hid (w8.cell? ⟨w.heap.size, 1, none⟩ = some (.int .i64 (c : Int)) ∧ w8.cell? ⟨px, po + i, none⟩ = some (.int .i64 (pi : Int)) ∧ w8.cell? ⟨w5.heap.size, 0, none⟩ = some (.int .i64 (r : Int)) ∧ w8.cell? ⟨w5.heap.size, 1, none⟩ = some (.int .i64 ((c : Int) + 1)) ∧ w8.cell? ⟨w5.heap.size, 2, none⟩ = some (.slice so N dd)) := ⟨keepc hb8 HD2.out.1, keepc hb8 HD2.out.2.1, keepc hb8 HD2.out.2.2.1, keepc hb8 HD2.out.2.2.2.1, keepc hb8 HD2.out.2.2.2.2⟩; have HB8 : Hid (Below wr.heap.size wr w8) := two_below (two_below (Below.refl _ _).drew (Below.refl _ _).drew) hb8; clear hb8
            refine hK.out _ _ HD8.out (fun _ => ?_)
            clear hK K
            try simp only [List.getElem_toArray, List.getElem_cons_succ, List.getElem_cons_zero, Act.put, List.setIfInBounds_toArray, List.set_cons_zero, List.set_cons_succ]
            refine wpAnyH_take (i := 10) (v := ?vk10) rfl (by kernel_rfl) (by kernel_rfl) (by kernel_rfl) (fun _ _ _ h => h) (Or.inl ⟨by rfl, ?yk10⟩) HD8.out ?zk10
            case yk10 => (intro w hSw; (try dsimp only at hSw); go_simp; try with_reducible rfl)
            try simp only [List.getElem_toArray, List.getElem_cons_succ, List.getElem_cons_zero, Act.put, List.setIfInBounds_toArray, List.set_cons_zero, List.set_cons_succ]
            refine wpAnyH_done (by kernel_rfl) ?_ _
            have hcl := (HRow.out.later HB8.out).cell pi hpi
            have hfl := (HRow.out.later HB8.out).free pi
            refine park_last rfl (fun K hK => ?_)
            go_simp
            refine hK.out _ _ ?_
            clear hK K
            try simp only [List.getElem_toArray, List.getElem_cons_succ, List.getElem_cons_zero, Act.put, List.setIfInBounds_toArray, List.set_cons_zero, List.set_cons_succ]
            go_wp2
            exact ⟨⟨i + 1, by omega, by go_num, ((HRow.out.later HB8.out).set pi y).congr (fun l _ => by rw [← HPI.out, ← HYv.out]; exact pp_step HRd.out.up hlt2 vv l), fun t ht => by
              by_cases e : t = i
              · rw [e, HPI.out]; exact hpi
              · exact HLt.out t (by omega), (HI.out.later HB8.out).kept (grown_setCell _ _ _ _) (by omega) (by omega) N1.out N2.out⟩, by simp [intOf]; omega⟩
        · have HIT : Hid (i = top) := Nat.le_antisymm hit (by omega)
          clear I
          go_wp2
          go_ret3
          have hx : SolA F X r c (pp p top vv) := by
            rw [← HVV.out]
            exact sol_yes HSa.out.sl.1 HSb.out.1 HR.out (by rw [HWt.out.len]; exact HG5.out) HRd.out HSp.out (fun t ht => HLt.out t (by rw [HIT.out]; exact ht))
          have ho := row_ob (B := w.heap.size) HRow.out (by omega) (by omega)
          rw [HIT.out] at ho
          exact .inl ⟨_, _, _, rfl, ho, hx, HI.out.below⟩
end Go.Proofs.Ytblfldjlehjnbaa

namespace Go.Proofs.Ytblfldjlehjnbaa
open Go.RowKit
theorem rsolve_yes (w : World) (r c n k kb : Nat) (a b : Option Addr) (F X : Nat → Nat) (ha : Mt w a n k F) (R : Rt r c n) (hb : Sl w b r X) (hx : ∃ x, Sol (m2 F r c) r c (ext0 X r) x) :
    Calls Try.prog 71 #[mv r c a n k, .slice b r kb] w fun e w' => ∃ s d x, e = .returned (.tuple #[.slice s c d, .bool true, .int .i64 0]) ∧ Ob w' w.heap.size (.slice s c d) c x ∧ SolA F X r c x ∧ Below w.heap.size w w' :=
  (rsolve_ok w r c n k kb a b F X ha R hb).mono fun _ _ h => by
    rcases h with h | ⟨_, hno, _⟩
    · exact h
    · obtain ⟨x, hx⟩ := hx
      exact absurd hx (hno x)
end Go.Proofs.Ytblfldjlehjnbaa
