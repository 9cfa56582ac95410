/-
  Words for the reference's Solve.
  Contract of the reference: Solve.
  Contracts of the reference: Kernel's and Solve's errors; Solve where there is something, and where there is nothing; words for Combine.
-/
import Derived.Test.YtfplhaelpbocjabGg
namespace Go.Proofs.Ytfplhaelpbocjab
open Go.RowKit
/-- The list of the matrix with a further column. -/
def auf (F X : Nat → Nat) (c p : Nat) : Nat := if p % (c + 1) = c then X (p / (c + 1)) else F (p / (c + 1) * c + p % (c + 1))
theorem auf_at (F X : Nat → Nat) {c i j : Nat} (hj : j < c) : auf F X c (i * (c + 1) + j) = F (i * c + j) := by
  unfold auf
  rw [dm1 (by omega), dm2 (by omega), if_neg (by omega)]
theorem auf_last (F X : Nat → Nat) (c i : Nat) : auf F X c (i * (c + 1) + c) = X i := by
  unfold auf
  rw [dm1 (by omega), dm2 (by omega), if_pos rfl]
def ext0 (X : Nat → Nat) (r i : Nat) : Nat := if i < r then X i else 0
theorem ext0_el {X : Nat → Nat} {r : Nat} (h : ∀ i, i < r → X i < 256) : El (ext0 X r) := fun i => by unfold ext0; split; exact h _ (by assumption); decide
theorem m2_auf (F X : Nat → Nat) (r c : Nat) : ∀ i j, i < r → m2 (auf F X c) r (c + 1) i j = aug (m2 F r c) c (ext0 X r) i j := by
  intro i j hi
  unfold aug
  by_cases e : j = c
  · subst e
    rw [m2_at _ hi (by omega), auf_last, if_pos rfl]
    unfold ext0
    rw [if_pos hi]
  · rw [if_neg e]
    by_cases hj : j < c
    · rw [m2_at _ hi (by omega), auf_at _ _ hj, m2_at _ hi hj]
    · rw [m2_cut _ (by omega), m2_cut _ (by omega)]
theorem auf_lt {F X : Nat → Nat} {r c n : Nat} (hF : ∀ i, i < n → F i < 256) (hX : ∀ i, i < r → X i < 256) (R : Rt r c n) : ∀ q, q < r * (c + 1) → auf F X c q < 256 := by
  intro q hq
  have h1 : q / (c + 1) < r := (Nat.div_lt_iff_lt_mul (by omega)).2 hq
  have h2 : q % (c + 1) < c + 1 := Nat.mod_lt _ (by omega)
  unfold auf
  split
  · exact hX _ h1
  · exact hF _ (R.at h1 (by omega))
/-- What Solve answers: what is sent to b, with 0 at the free columns. -/
def SolA (F X : Nat → Nat) (r c : Nat) (x : Nat → Nat) : Prop := El x ∧ Sol (m2 F r c) r c (ext0 X r) x ∧ ∃ R k p, El2 R ∧ Rdf R r k p ∧ SpEq R r (m2 F r c) r ∧ (∀ i, i < k → p i < c) ∧ ∀ j, j < c → pvt p k j = false → x j = 0
theorem sol_yes {F X G : Nat → Nat} {r c n top : Nat} {p : Nat → Nat} (hF : ∀ i, i < n → F i < 256) (hX : ∀ i, i < r → X i < 256) (R : Rt r c n) (hG : ∀ q, q < r * (c + 1) → G q < 256) (hR : Rdf (m2 G r (c + 1)) r top p) (hS : SpEq (m2 G r (c + 1)) r (m2 (auf F X c) r (c + 1)) r) (hp : ∀ i, i < top → p i < c) :
    SolA F X r c (pp p top (fun t => m2 G r (c + 1) t c)) := by
  have W : Wt r (c + 1) (r * (c + 1)) := ⟨R.r64, by have := R.c64; omega, rfl⟩
  have hE := m2_elw hG W
  have hM := m2_el hF R
  have hXe := ext0_el hX
  have hv : El (fun t => m2 G r (c + 1) t c) := fun t => hE t c
  -- the first columns
  have hN : ∀ i j, i < r → (fun i j => if j < c then m2 G r (c + 1) i j else 0) i j = if j < c then m2 G r (c + 1) i j else 0 := fun _ _ _ => rfl
  have hNE : El2 (fun i j => if j < c then m2 G r (c + 1) i j else 0) := fun i j => ite_lt _ _ (hE i j)
  have hRd : Rdf (fun i j => if j < c then m2 G r (c + 1) i j else 0) r top p := hR.first hp hN
  have hMa : ∀ i j, i < r → m2 F r c i j = if j < c then m2 (auf F X c) r (c + 1) i j else 0 := fun i j hi => by
    by_cases hj : j < c
    · rw [if_pos hj, m2_auf F X r c i j hi, aug_lt _ _ _ hj]
    · rw [if_neg hj, m2_cut _ (by omega)]
  have hSp : SpEq (fun i j => if j < c then m2 G r (c + 1) i j else 0) r (m2 F r c) r :=
    ⟨fun i hi => (hS.1 i hi).first hMa (fun j => rfl), fun i hi => (hS.2 i hi).first hN (fun j => hMa i j hi)⟩
  refine ⟨pp_el p top hv, ?_, _, top, p, hNE, hRd, hSp, hp, fun j _ hf => pp_free _ hf⟩
  have s1 : Sol (fun i j => if j < c then m2 G r (c + 1) i j else 0) r c (fun t => m2 G r (c + 1) t c) (pp p top (fun t => m2 G r (c + 1) t c)) := hRd.sends hNE hp hv (fun i h1 h2 => hR.nul i c h1 h2)
  refine sol_span hNE hv hXe ?_ s1
  have e2 : ∀ i j, i < r → m2 G r (c + 1) i j = aug (fun i j => if j < c then m2 G r (c + 1) i j else 0) c (fun t => m2 G r (c + 1) t c) i j := fun i j _ => by
    unfold aug
    by_cases e : j = c
    · rw [if_pos e, e]
    · rw [if_neg e]
      show _ = if j < c then m2 G r (c + 1) i j else 0
      by_cases hj : j < c
      · rw [if_pos hj]
      · rw [if_neg hj, m2_cut _ (by omega)]
  exact (hS.2.rows (fun i j hi => (m2_auf F X r c i j hi).symm)).rows2 e2
theorem sol_no {F X G : Nat → Nat} {r c n top i : Nat} {p : Nat → Nat} (hF : ∀ i, i < n → F i < 256) (hX : ∀ i, i < r → X i < 256) (R : Rt r c n) (hR : Rdf (m2 G r (c + 1)) r top p) (hS : SpEq (m2 G r (c + 1)) r (m2 (auf F X c) r (c + 1)) r) (hi : i < top) (hp : p i = c) (x : Nat → Nat) : ¬ Sol (m2 F r c) r c (ext0 X r) x :=
  no_sol (m2_el hF R) (ext0_el hX) hR (hS.1.rows2 (m2_auf F X r c)) hi hp x
theorem pp_step {p : Nat → Nat} {k i : Nat} (up : ∀ i t, i < t → t < k → p i < p t) (hi : i < k) (v : Nat → Nat) (j : Nat) : (if j = p i then v i else pp p i v j) = pp p (i + 1) v j := by
  by_cases e : j = p i
  · rw [if_pos e, e]
    exact (pp_at (fun a b h1 h2 => up a b h1 (by omega)) _ (by omega)).symm
  · rw [if_neg e]
    show _ = pp p i v j ^^^ (if p i = j then v i else 0)
    rw [if_neg (fun h => e h.symm), Nat.xor_zero]
/-- What Solve's first loop keeps. -/
structure SInv (w wr : World) (ba r c n k i : Nat) (a so : Option Addr) (dd : Nat) (H : Nat → Nat) : Prop where
  va : Vr wr w.heap.size (.int .i64 (r : Int)) (.int .i64 (c : Int)) (.slice a n k)
  vb : Vr wr ba (.int .i64 (r : Int)) (.int .i64 ((c : Int) + 1)) (.slice so (i * (c + 1)) dd)
  out : Ob wr (w.heap.size + 1) (.slice so (i * (c + 1)) dd) (i * (c + 1)) H
  low : w.heap.size < ba
  below : Below w.heap.size w wr
theorem SInv.later {w wr w' : World} {ba r c n k i dd : Nat} {a so : Option Addr} {H : Nat → Nat} (I : SInv w wr ba r c n k i a so dd H) (hb : Below wr.heap.size wr w') : SInv w w' ba r c n k i a so dd H :=
  ⟨I.va.later hb, I.vb.later hb, I.out.later hb, I.low, two_below I.below hb⟩
theorem row_auf (F X : Nat → Nat) (c i : Nat) : (row (i * (c + 1)) (auf F X c)).toList ++ (row c (fun j => F (i * c + j))).toList ++ (row 1 (fun _ => X i)).toList = (row ((i + 1) * (c + 1)) (auf F X c)).toList := by
  have e : (i + 1) * (c + 1) = i * (c + 1) + c + 1 := by rw [Nat.add_mul, Nat.one_mul]; omega
  rw [row_stf, row_stf, e]
  congr 1
  refine row_congr _ _ _ (fun q hq => ?_)
  unfold stf
  by_cases h1 : q < i * (c + 1) + c
  · rw [if_pos h1]
    by_cases h2 : q < i * (c + 1)
    · rw [if_pos h2]
    · rw [if_neg h2]
      obtain ⟨j, rfl⟩ : ∃ j, q = i * (c + 1) + j := ⟨q - i * (c + 1), by omega⟩
      rw [Nat.add_sub_cancel_left, auf_at _ _ (by omega)]
  · rw [if_neg h1]
    obtain rfl : q = i * (c + 1) + c := by omega
    rw [auf_last]
end Go.Proofs.Ytfplhaelpbocjab

namespace Go.Proofs.Ytfplhaelpbocjab
open Go.RowKit
theorem own_ne_vr {w : World} {B n b : Nat} {v x y z : Value} {ls : List Value} (h : w.ownsRow B 5 1 v n ls) (hv : Vr w b x y z) : v.ownBlock ≠ some b := by
  rcases h.2 with ⟨e, _⟩ | ⟨g, cap, cur, e, _, hg, _⟩
  · rw [e]; simp [Value.ownBlock]
  · rw [e]
    intro he
    have : g = b := by simpa [Value.ownBlock] using he
    subst this
    unfold Vr at hv
    rw [hg] at hv
    have := Option.some.inj hv
    injection this with _ h2
    exact absurd h2 (by decide)
theorem one_sl (w : World) (x : Nat) (hx : x < 256) : Sl (w.alloc (.cells #[.int .u8 (x : Int)] 5)) (some ⟨w.heap.size, 0, none⟩) 1 (fun _ => x) := by
  refine ⟨fun _ _ => hx, fun i hi => ⟨w.heap.size, 0, rfl, ?_⟩⟩
  obtain rfl : i = 0 := by omega
  have := one_new w 5 x 0 _ rfl
  rw [Nat.zero_add]
  exact this
theorem one_kept {x0 x1 x2 : World} {B N dd x : Nat} {so : Option Addr} {H : Nat → Nat} (h : Sl x1 (some ⟨x0.heap.size, 0, none⟩) 1 (fun _ => x)) (hg : x1.grownBy x2 (Value.slice so N dd).ownBlock) (ho : Ob x0 B (.slice so N dd) N H) : Sl x2 (some ⟨x0.heap.size, 0, none⟩) 1 (fun _ => x) := by
  refine ⟨h.1, fun i hi => ?_⟩
  obtain ⟨b, o, e, hc⟩ := h.2 i hi
  refine ⟨b, o, e, hg.cell hc (fun e2 => ?_)⟩
  have eb : b = x0.heap.size := by
    have := congrArg (Option.map Addr.block) e
    simpa using this.symm
  have := (ho.base e2.symm).2
  have : b < x0.heap.size := this
  omega
/-- What Solve's second loop keeps. -/
structure S2Inv (w wr : World) (br r c n k N dd top : Nat) (p : Nat → Nat) (a so : Option Addr) (v : Value) (G : Nat → Nat) : Prop where
  va : Vr wr w.heap.size (.int .i64 (r : Int)) (.int .i64 (c : Int)) (.slice a n k)
  vr : Vr wr br (.int .i64 (r : Int)) (.int .i64 ((c : Int) + 1)) (.slice so N dd)
  data : Ob wr w.heap.size (.slice so N dd) N G
  piv : Oi wr w.heap.size v top p
  low : w.heap.size < br
  below : Below w.heap.size w wr
theorem S2Inv.later {w wr w' : World} {br r c n k N dd top : Nat} {p : Nat → Nat} {a so : Option Addr} {v : Value} {G : Nat → Nat} (I : S2Inv w wr br r c n k N dd top p a so v G) (hb : Below wr.heap.size wr w') : S2Inv w w' br r c n k N dd top p a so v G :=
  ⟨I.va.later hb, I.vr.later hb, I.data.later hb, I.piv.later hb, I.low, two_below I.below hb⟩
theorem S2Inv.kept {w wr w' : World} {br r c n k N dd top g : Nat} {p : Nat → Nat} {a so : Option Addr} {v : Value} {G : Nat → Nat} (I : S2Inv w wr br r c n k N dd top p a so v G) (hg : wr.grownBy w' (some g)) (h1 : w.heap.size < g) (h2 : br ≠ g) (h3 : (Value.slice so N dd).ownBlock ≠ some g) (h4 : v.ownBlock ≠ some g) : S2Inv w w' br r c n k N dd top p a so v G :=
  ⟨I.va.kept hg (by omega), I.vr.kept hg h2, I.data.kept hg (.inr h3), I.piv.kept hg (.inr h4), I.low, below_row I.below hg (by omega)⟩
theorem s2_begin {w wr w5 : World} {r c n k N dd top : Nat} {p : Nat → Nat} {a so : Option Addr} {v : Value} {G H : Nat → Nat} (va : Vr wr w.heap.size (.int .i64 (r : Int)) (.int .i64 (c : Int)) (.slice a n k)) (ho : Ob wr (w.heap.size + 1) (.slice so N dd) N H) (ho5 : Ob w5 (w.heap.size + 1) (.slice so N dd) N G) (hp5 : Oi w5 wr.heap.size v top p) (hb : Below w.heap.size w wr) (hg5 : wr.grownBy w5 (Value.slice so N dd).ownBlock) :
    S2Inv w (w5.alloc (.cells #[.int .i64 (r : Int), .int .i64 ((c : Int) + 1), .slice so N dd] 24)) w5.heap.size r c n k N dd top p a so v G := by
  have h1 := va.grown hg5 (ob_ne_vr ho va)
  have h2 : Below w.heap.size w w5 := by
    cases hv : (Value.slice so N dd).ownBlock with
    | none => rw [hv] at hg5; exact two_below hb (grown_none.mp hg5)
    | some g => rw [hv] at hg5; exact below_row hb hg5 (by have := (ho.base hv).1; omega)
  have := hb.size
  exact ⟨h1.later (alloc_low _ _), Vr.new w5 _ _ _, (ho5.mono (by omega)).later (alloc_low _ _), (hp5.mono (by omega)).later (alloc_low _ _), h1.lt, two_below h2 (alloc_low _ _)⟩
theorem row_ob {w : World} {B g n : Nat} {f : Nat → Nat} (h : RowAt w g 5 n f) (hn : n ≤ 140737488351232) (hB : B ≤ g) : Ob w B (.slice (some ⟨g, 0, none⟩) n n) n f :=
  ⟨by simp [row_size], .inr ⟨g, n, row n f, rfl, hB, h, Nat.le_refl _, by unfold maxLen; omega, by simp [row_size], List.take_of_length_le (by simp [row_size])⟩⟩
end Go.Proofs.Ytfplhaelpbocjab

namespace Go.Proofs.Ytfplhaelpbocjab
open Go.RowKit
/-- Factors at the places of a rising list. -/
theorem lc_pp {M : Nat → Nat → Nat} (hM : El2 M) {q : Nat → Nat} {t r : Nat} (hq : ∀ u, u < t → q u < r) {x : Nat → Nat} (hx : El x) (j : Nat) : lc (pp q t x) M r j = xs (fun u => fm (M (q u) j) (x u)) t := by
  rw [← dt_pp (fun i => hM i j) hq x]
  exact xs_congr (fun i _ => fm_comm _ _ (pp_el q t hx i) (hM i j))
theorem m2_trf_pkf (F : Nat → Nat) {q : Nat → Nat} {r c t : Nat} (hq : ∀ u, u < t → q u < r) (j u : Nat) (hj : j < c) (hu : u < t) : m2 (trf (pkf F q c) t c) c t j u = m2 F r c (q u) j := by
  rw [m2_at _ hj hu, trf_at _ t c u j hu, pkf_at _ _ _ _ _ hj, m2_at _ (hq u hu) hj]
/-- What is sent by the picked rows, turned over, is put together of them. -/
theorem sol_comb {F Y x : Nat → Nat} {r c t n : Nat} {q : Nat → Nat} (hF : ∀ i, i < n → F i < 256) (R : Rt r c n) (hq : ∀ u, u < t → q u < r) (hx : El x) : Sol (m2 (trf (pkf F q c) t c) c t) c t (ext0 Y c) x ↔ ∀ j, ext0 Y c j = lc (pp q t x) (m2 F r c) r j := by
  have hM := m2_el hF R
  have key : ∀ j, j < c → dt (m2 (trf (pkf F q c) t c) c t j) x t = lc (pp q t x) (m2 F r c) r j := fun j hj => by
    rw [lc_pp hM hq hx]
    exact xs_congr (fun u hu => by rw [m2_trf_pkf F hq j u hj hu])
  constructor
  · intro h j
    by_cases hj : j < c
    · rw [← key j hj]; exact (h j hj).symm
    · have e1 : ext0 Y c j = 0 := if_neg hj
      rw [e1]
      exact (xs_zero (fun i _ => by rw [m2_cut _ (by omega), fm_zero])).symm
  · intro h j hj
    rw [key j hj]; exact (h j).symm
theorem comb_onf {M : Nat → Nat → Nat} {r t : Nat} {q : Nat → Nat} (L : FstL M r t q) {x : Nat → Nat} (hx : El x) : OnF M r (pp q t x) := by
  refine ⟨pp_el q t hx, fun i _ hne => ?_⟩
  cases hv : pvt q t i with
  | false => exact absurd (pp_free x hv) hne
  | true =>
    obtain ⟨u, hu, e⟩ := (pvt_iff q t i).1 hv
    rw [← e]; exact L.is u hu
theorem comb_ex {F Y : Nat → Nat} {r c t n : Nat} {q : Nat → Nat} (hF : ∀ i, i < n → F i < 256) (R : Rt r c n) (L : FstL (m2 F r c) r t q) (h : Spn (m2 F r c) r (ext0 Y c)) : ∃ x, Sol (m2 (trf (pkf F q c) t c) c t) c t (ext0 Y c) x := by
  obtain ⟨a, ha, e⟩ := fst_ex r _ h
  have hx : El (fun u => a (q u)) := fun u => ha.1 (q u)
  refine ⟨fun u => a (q u), (sol_comb hF R L.lt hx).2 (fun j => ?_)⟩
  rw [e j]
  refine lc_congr (fun i hi => ?_) (fun _ _ => rfl)
  cases hv : pvt q t i with
  | true =>
    obtain ⟨u, hu, e2⟩ := (pvt_iff q t i).1 hv
    rw [← e2]
    exact (pp_at L.up (fun u => a (q u)) hu).symm
  | false =>
    rw [pp_free _ hv]
    apply Classical.byContradiction
    intro hne
    obtain ⟨u, hu, e2⟩ := L.all i hi (ha.2 i hi hne)
    exact pvt_no hv hu e2
theorem comb_no {F Y : Nat → Nat} {r c t n : Nat} {q : Nat → Nat} (hF : ∀ i, i < n → F i < 256) (R : Rt r c n) (L : FstL (m2 F r c) r t q) (h : ¬ Spn (m2 F r c) r (ext0 Y c)) {x : Nat → Nat} (hx : El x) : ¬ Sol (m2 (trf (pkf F q c) t c) c t) c t (ext0 Y c) x := fun hs =>
  h ⟨pp q t x, pp_el q t hx, (sol_comb hF R L.lt hx).1 hs⟩
/-- What Combine answers. -/
def CmbA (F Y : Nat → Nat) (r c : Nat) (x : Nat → Nat) : Prop := OnF (m2 F r c) r x ∧ ∀ j, ext0 Y c j = lc x (m2 F r c) r j
end Go.Proofs.Ytfplhaelpbocjab
