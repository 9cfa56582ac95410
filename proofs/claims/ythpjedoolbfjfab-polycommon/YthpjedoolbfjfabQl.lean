/-
  The reference's answers in the words of the program's: DivMod, GCD, Interpolate, Roots, FromRoots.
-/
import Derived.Test.YthpjedoolbfjfabQi
import Derived.Test.YthpjedoolbfjfabQk
namespace Go.Proofs.Ythpjedoolbfjfab
open Go.RowKit
theorem tlen_zx (f : Nat → Nat) (n m : Nat) (h : n ≤ m) : tlen (zx f n) m = tlen f n := by
  rw [tlen_ext (zx_above f n) h]
  exact tlen_congr (fun i hi => if_pos hi)
theorem zx_eq {f h : Nat → Nat} {n m N : Nat} (hn : tlen f n = n) (hm : tlen h m = m) (h1 : n ≤ N) (h2 : m ≤ N) (e : ∀ i, zx f n i = zx h m i) : n = m := by
  have := tlen_zx f n N h1
  rw [show zx f n = zx h m from funext e, tlen_zx h m N h2] at this
  omega
theorem zx_at {f h : Nat → Nat} {n : Nat} (e : ∀ i, zx f n i = zx h n i) (i : Nat) (hi : i < n) : f i = h i := by
  have := e i
  unfold zx at this
  rw [if_pos hi, if_pos hi] at this
  exact this
theorem div_same {P q Q R Q' R' : Nat → Nat} {u r r' nq : Nat} (hq : El q) (aq : Above (u + 1) q) (q0 : q u ≠ 0) (h : DivOk P q Q R (u + 1) r) (h' : DivOk P q Q' R' (u + 1) r') (top : tlen Q nq = nq) (ab : Above nq Q) (hu : u + 1 ≤ 512) (hnq : nq ≤ 512) :
    (∀ i, Q' i = Q i) ∧ tlen Q' 512 = nq ∧ r' = r ∧ ∀ i, i < r → R' i = R i := by
  have a1 : Above u (zx R r) := (zx_above R r).mono (by have := h.less; omega)
  have a2 : Above u (zx R' r') := (zx_above R' r').mono (by have := h'.less; omega)
  have D := div_unique h'.el h.el hq h'.above h.above aq q0 a2 a1 (fun i => by rw [← h'.eq i, h.eq i])
  have er : r' = r := zx_eq h'.trimmed h.trimmed (N := 512) (by have := h'.less; omega) (by have := h.less; omega) D.2
  subst er
  exact ⟨D.1, by rw [show Q' = Q from funext D.1, tlen_ext ab hnq, top], rfl, fun i hi => zx_at D.2 i hi⟩
theorem top_len {f : Nat → Nat} {n : Nat} (h : tlen f n = n) (hn : 0 < n) : f (n - 1) ≠ 0 := by
  have := tlen_top f n (by omega)
  rwa [h] at this
theorem pq_le {w w' : World} {P q Q R : Nat → Nat} {t r nq k1 k2 : Nat} {s1 s2 : Option Addr} (h : PDiv w w' P q Q R t r nq k1 k2 s1 s2) : nq ≤ 512 := by
  by_cases e : nq ≤ 512
  · exact e
  · exact absurd (h.ok.above (nq - 1) (by omega)) (top_len h.top (by omega))
theorem gcd_zero {P Q D D' : Nat → Nat} {g g' : Nat} (h : GcdOk P Q D g) (h' : GcdOk P Q D' g') (h0 : g = 0) : g' = 0 := by
  by_cases e : g' = 0
  · exact e
  · exfalso
    obtain ⟨zp, zq⟩ := h.zero h0
    have z0 : El (fun _ : Nat => 0) := fun _ => (by decide : 0 < 256)
    obtain ⟨q, _, hq⟩ := h'.most _ z0 ((Dv.zero _).congr (fun _ => rfl) (fun i => (zp i).symm)) ((Dv.zero _).congr (fun _ => rfl) (fun i => (zq i).symm))
    have t := h'.top (by omega)
    rw [hq (g' - 1), show pm (fun _ => 0) q (g' - 1) = 0 from xs_zero (fun _ _ => zero_fm _)] at t
    omega
theorem gcd_same {P Q D D' : Nat → Nat} {g g' : Nat} (h : GcdOk P Q D g) (h' : GcdOk P Q D' g') : g' = g ∧ ∀ i, D' i = D i := by
  by_cases h0 : g = 0
  · have h1 := gcd_zero h h' h0
    refine ⟨by omega, fun i => ?_⟩
    rw [h.above i (by omega), h'.above i (by omega)]
  · have h1 : g' ≠ 0 := fun e => h0 (gcd_zero h' h e)
    have t := h.top (by omega)
    have t' := h'.top (by omega)
    have e := monic_same (n := g' - 1) (m := g - 1) h'.el h.el (by rw [show g' - 1 + 1 = g' by omega]; exact h'.above) (by rw [show g - 1 + 1 = g by omega]; exact h.above) t' t (h.most _ h'.el h'.left h'.right) (h'.most _ h.el h.left h.right)
    refine ⟨?_, e⟩
    by_cases a1 : g' ≤ g - 1
    · rw [← e, h'.above _ a1] at t; omega
    · by_cases a2 : g ≤ g' - 1
      · rw [e, h.above _ a2] at t'; omega
      · omega
theorem pinter_inj (w : World) (a b : Option Addr) (n c d : Nat) (f h : Nat → Nat) (ha : Lk w a n c f) (hb : Lk w b n d h) (hi : Inj f n) :
    Calls Try.prog 21 #[.slice a n c, .slice b n d] w fun e w' => ∃ F T s k, e = .returned (.tuple #[.slice s T k, .int .i64 0]) ∧ POk w w' f h F n T k s :=
  (pinter_any w a b n c d f h ha hb).mono fun _ _ h => h.elim (fun h => absurd hi h.2.1) id
theorem pinter_no (w : World) (a b : Option Addr) (n c d : Nat) (f h : Nat → Nat) (ha : Lk w a n c f) (hb : Lk w b n d h) (hi : ¬ Inj f n) :
    Calls Try.prog 21 #[.slice a n c, .slice b n d] w fun e w' => e = .returned (.tuple #[.slice none 0 0, .int .i64 2]) ∧ Below w.heap.size w w' :=
  (pinter_any w a b n c d f h ha hb).mono fun _ _ h => h.elim (fun h => ⟨h.1, h.2.2⟩) (fun ⟨_, _, _, _, _, h⟩ => absurd h.inj hi)
theorem proots_sl (w : World) (a : Option Addr) (n c t L : Nat) (f : Nat → Nat) (ha : Lk w a n c f) (HT : Hid (tlen f n = t)) (h0 : t ≠ 0) (HL : Hid ((rootsTo f n 256).length = L)) :
    Calls Try.prog 18 #[.slice a n c] w fun e w' => ∃ s k, e = .returned (.slice s L k) ∧ Sl w' s L (fun i => (rootsTo f n 256).getD i 0) ∧ Below w.heap.size w w' := by
  refine (proots_any w a n c t f ha HT h0).mono ?_
  rintro e w' ⟨v, rfl, ho, hb⟩
  obtain ⟨s, k, rfl, hl, _⟩ := lk_list ho (rootsTo_lt f n 256) (by have := rootsTo_len f n 256; omega)
  rw [HL.out] at hl
  exact ⟨s, k, by rw [HL.out], hl.1, hb⟩
end Go.Proofs.Ythpjedoolbfjfab
