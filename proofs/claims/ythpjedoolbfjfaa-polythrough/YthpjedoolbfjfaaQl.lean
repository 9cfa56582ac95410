/-
  The reference's answers in the words of the program's: DivMod, GCD, Interpolate, Roots, FromRoots.
-/
import Derived.Test.YthpjedoolbfjfaaQi
import Derived.Test.YthpjedoolbfjfaaQk
namespace Go.Proofs.Ythpjedoolbfjfaa
open Go.RowKit
theorem tlen_zx (f : Nat → Nat) (n m : Nat) (h : n ≤ m) : tlen (zx f n) m = tlen f n := by
  rw [tlen_ext (zx_above f n) h]
  exact tlen_congr (fun i hi => if_pos hi)
theorem zx_eq {f h : Nat → Nat} {n m N : Nat} (hn : tlen f n = n) (hm : tlen h m = m) (h1 : n ≤ N) (h2 : m ≤ N) (e : ∀ i, zx f n i = zx h m i) : n = m := by
  have := tlen_zx f n N h1
  rw [show zx f n = zx h m from funext e, tlen_zx h m N h2] at this
  omega
theorem zx_at {f h : Nat → Nat} {n : Nat} (e : ∀ i, zx f n i = zx h n i) (i : Nat) (hi : i < n) : f i = h i := by
  have := e i
  unfold zx at this
  rw [if_pos hi, if_pos hi] at this
  exact this
theorem div_same {P q Q R Q' R' : Nat → Nat} {u r r' nq : Nat} (hq : El q) (aq : Above (u + 1) q) (q0 : q u ≠ 0) (h : DivOk P q Q R (u + 1) r) (h' : DivOk P q Q' R' (u + 1) r') (top : tlen Q nq = nq) (ab : Above nq Q) (hu : u + 1 ≤ 512) (hnq : nq ≤ 512) :
    (∀ i, Q' i = Q i) ∧ tlen Q' 512 = nq ∧ r' = r ∧ ∀ i, i < r → R' i = R i := by
  have a1 : Above u (zx R r) := (zx_above R r).mono (by have := h.less; omega)
  have a2 : Above u (zx R' r') := (zx_above R' r').mono (by have := h'.less; omega)
  have D := div_unique h'.el h.el hq h'.above h.above aq q0 a2 a1 (fun i => by rw [← h'.eq i, h.eq i])
  have er : r' = r := zx_eq h'.trimmed h.trimmed (N := 512) (by have := h'.less; omega) (by have := h.less; omega) D.2
  subst er
  exact ⟨D.1, by rw [show Q' = Q from funext D.1, tlen_ext ab hnq, top], rfl, fun i hi => zx_at D.2 i hi⟩
theorem top_len {f : Nat → Nat} {n : Nat} (h : tlen f n = n) (hn : 0 < n) : f (n - 1) ≠ 0 := by
  have := tlen_top f n (by omega)
  rwa [h] at this
theorem pq_le {w w' : World} {P q Q R : Nat → Nat} {t r nq k1 k2 : Nat} {s1 s2 : Option Addr} (h : PDiv w w' P q Q R t r nq k1 k2 s1 s2) : nq ≤ 512 := by
  by_cases e : nq ≤ 512
  · exact e
  · exact absurd (h.ok.above (nq - 1) (by omega)) (top_len h.top (by omega))
theorem rdivmod_same (w : World) (a b : Option Addr) (n m c d t1 u r nq : Nat) (f h Q R : Nat → Nat) (ha : Lk w a n c f) (hb : Lk w b m d h) (H1 : Hid (tlen f n = t1)) (H2 : Hid (tlen h m = u + 1)) (hl1 : t1 ≤ 512) (hl2 : u + 1 ≤ 512) (hd : DivOk (zx f n) (zx h m) Q R (u + 1) r) (top : tlen Q nq = nq) (ab : Above nq Q) (hnq : nq ≤ 512) :
    Calls Try.prog 20 #[.slice a n c, .slice b m d] w fun e w' => ∃ s1 k1 s2 k2, e = .returned (.tuple #[.slice s1 nq k1, .slice s2 r k2, .int .i64 0]) ∧ Sl w' s1 nq Q ∧ Sl w' s2 r R ∧ Below w.heap.size w w' := by
  refine (rdivmod_any w a b n m c d t1 u f h ha hb H1 H2 hl1 hl2).mono ?_
  rintro e w' ⟨Q', R', r', s1, k1, s2, k2, rfl, l1, l2, ok, hbb⟩
  have aq : Above (u + 1) (zx h m) := fun i hi => by rw [← zx_tlen, H2.out]; exact if_neg (by omega)
  have um : u < m := by have := tlen_le h m; have := H2.out; omega
  have q0 : zx h m u ≠ 0 := by
    have := tlen_top h m (by rw [H2.out]; omega)
    rw [H2.out] at this
    unfold zx
    rw [if_pos um]; exact this
  obtain ⟨e1, e2, rfl, e4⟩ := div_same (zx_el hb.1.1) aq q0 hd ok top ab hl2 hnq
  rw [e2] at l1
  refine ⟨s1, k1, s2, k2, by rw [e2], l1.1.congr (fun i _ => e1 i), l2.1.congr e4, hbb⟩
theorem gcd_zero {P Q D D' : Nat → Nat} {g g' : Nat} (h : GcdOk P Q D g) (h' : GcdOk P Q D' g') (h0 : g = 0) : g' = 0 := by
  by_cases e : g' = 0
  · exact e
  · exfalso
    obtain ⟨zp, zq⟩ := h.zero h0
    have z0 : El (fun _ : Nat => 0) := fun _ => (by decide : 0 < 256)
    obtain ⟨q, _, hq⟩ := h'.most _ z0 ((Dv.zero _).congr (fun _ => rfl) (fun i => (zp i).symm)) ((Dv.zero _).congr (fun _ => rfl) (fun i => (zq i).symm))
    have t := h'.top (by omega)
    rw [hq (g' - 1), show pm (fun _ => 0) q (g' - 1) = 0 from xs_zero (fun _ _ => zero_fm _)] at t
    omega
theorem gcd_same {P Q D D' : Nat → Nat} {g g' : Nat} (h : GcdOk P Q D g) (h' : GcdOk P Q D' g') : g' = g ∧ ∀ i, D' i = D i := by
  by_cases h0 : g = 0
  · have h1 := gcd_zero h h' h0
    refine ⟨by omega, fun i => ?_⟩
    rw [h.above i (by omega), h'.above i (by omega)]
  · have h1 : g' ≠ 0 := fun e => h0 (gcd_zero h' h e)
    have t := h.top (by omega)
    have t' := h'.top (by omega)
    have e := monic_same (n := g' - 1) (m := g - 1) h'.el h.el (by rw [show g' - 1 + 1 = g' by omega]; exact h'.above) (by rw [show g - 1 + 1 = g by omega]; exact h.above) t' t (h.most _ h'.el h'.left h'.right) (h'.most _ h.el h.left h.right)
    refine ⟨?_, e⟩
    by_cases a1 : g' ≤ g - 1
    · rw [← e, h'.above _ a1] at t; omega
    · by_cases a2 : g ≤ g' - 1
      · rw [e, h.above _ a2] at t'; omega
      · omega
theorem rgcd_same (w : World) (a b : Option Addr) (n m c d t1 t2 g : Nat) (f h D : Nat → Nat) (ha : Lk w a n c f) (hb : Lk w b m d h) (H1 : Hid (tlen f n = t1)) (H2 : Hid (tlen h m = t2)) (hl1 : t1 ≤ 512) (hl2 : t2 ≤ 512) (ok : GcdOk (zx f n) (zx h m) (zx D g) g) :
    Calls Try.prog 22 #[.slice a n c, .slice b m d] w fun e w' => ∃ s k, e = .returned (.tuple #[.slice s g k, .int .i64 0]) ∧ Sl w' s g D ∧ Below w.heap.size w w' := by
  refine (rgcd_any w a b n m c d t1 t2 f h ha hb H1 H2 hl1 hl2).mono ?_
  rintro e w' ⟨D', g', s, k, rfl, l, ok', hbb⟩
  obtain ⟨rfl, e2⟩ := gcd_same ok ok'
  exact ⟨s, k, rfl, l.1.congr (fun i hi => zx_at e2 i hi), hbb⟩
set_option maxRecDepth 20000 in
set_option maxHeartbeats 400000 in
theorem rgcd_long (w : World) (a b : Option Addr) (n m c d : Nat) (f h : Nat → Nat) (ha : Lk w a n c f) (hb : Lk w b m d h) (hl : 512 < tlen f n ∨ 512 < tlen h m) :
    Calls Try.prog 22 #[.slice a n c, .slice b m d] w fun e w' => e = .returned (.tuple #[.slice none 0 0, .int .i64 4]) ∧ Below w.heap.size w w' := by
  by_cases h1 : 512 < tlen f n
  · have L1 : Hid (512 < tlen f n) := h1
    clear h1 hl
    go_enter Try.func22, Try.ntmps22
    go_wp2_with (go_at_call 38; refine (long_true _ _ _ _ f ha L1).mono ?_; rintro e w1 ⟨rfl, hb1⟩)
    go_ret2
    exact ⟨rfl, hb1⟩
  · have L1 : Hid (tlen f n ≤ 512) := by show _ ≤ _; omega
    have L2 : Hid (512 < tlen h m) := by show _ < _; omega
    clear h1 hl
    go_enter Try.func22, Try.ntmps22
    go_wp2_with (first
      | (go_at_call 38; have _x := hb1; refine (long_true _ _ _ _ h hb L2).mono ?_; rintro e w2 ⟨rfl, hb2⟩; have hw := two_below hb1 hb2)
      | (go_at_call 38; refine (long_false _ _ _ _ f ha L1).mono ?_; rintro e w1 ⟨rfl, hb1⟩; replace hb := hb.later hb1))
    go_ret2
    exact ⟨rfl, hw⟩
theorem pinter_inj (w : World) (a b : Option Addr) (n c d : Nat) (f h : Nat → Nat) (ha : Lk w a n c f) (hb : Lk w b n d h) (hi : Inj f n) :
    Calls Try.prog 27 #[.slice a n c, .slice b n d] w fun e w' => ∃ F T s k, e = .returned (.tuple #[.slice s T k, .int .i64 0]) ∧ POk w w' f h F n T k s :=
  (pinter_any w a b n c d f h ha hb).mono fun _ _ h => h.elim (fun h => absurd hi h.2.1) id
theorem pinter_no (w : World) (a b : Option Addr) (n c d : Nat) (f h : Nat → Nat) (ha : Lk w a n c f) (hb : Lk w b n d h) (hi : ¬ Inj f n) :
    Calls Try.prog 27 #[.slice a n c, .slice b n d] w fun e w' => e = .returned (.tuple #[.slice none 0 0, .int .i64 2]) ∧ Below w.heap.size w w' :=
  (pinter_any w a b n c d f h ha hb).mono fun _ _ h => h.elim (fun h => ⟨h.1, h.2.2⟩) (fun ⟨_, _, _, _, _, h⟩ => absurd h.inj hi)
theorem rinter_same (w : World) (a b : Option Addr) (n c d T : Nat) (f h F : Nat → Nat) (ha : Lk w a n c f) (hb : Lk w b n d h) (hi : Inj f n) (len : tlen F n = T) (bytes : ∀ i, i < n → F i < 256) (pts : ∀ j, j < n → ev F n (f j) = h j) :
    Calls Try.prog 28 #[.slice a n c, .slice b n d] w fun e w' => ∃ s k, e = .returned (.tuple #[.slice s T k, .int .i64 0]) ∧ Sl w' s T F ∧ Below w.heap.size w w' := by
  refine (rinter_any w a b n c d f h ha hb hi _ rfl).mono ?_
  rintro e w' ⟨s, T', k, rfl, tr, hbb⟩
  have n256 : n ≤ 256 := pigeon 256 n f (fun i hi => ha.1.1 i hi) hi
  have e := same_points (p := zx F n) (q := lg_sum f h n n) (zx_el bytes) (lsum_el f h n n) (zx_above F n) (lsum_above f h n n (Nat.le_refl _)) ha.1.1 hi (fun j hj => by
    rw [lsum_ev f h n j ha.1.1 hb.1.1 hi hj n (Nat.le_refl _), if_pos hj, ← pts j hj]
    exact ev_congr (fun i hi => if_pos hi) _)
  have eT : T' = T := by rw [← tr.len, ← funext e, tlen_zx F n 512 (by omega), len]
  subst eT
  have hTn : T' ≤ n := by rw [← len]; exact tlen_le _ _
  exact ⟨s, k, rfl, tr.lk.1.congr (fun i hi => by rw [← e i]; exact if_pos (by omega)), hbb⟩
theorem rinter_no (w : World) (a b : Option Addr) (n c d : Nat) (f : Nat → Nat) (ha : Lk w a n c f) (hi : ¬ Inj f n) :
    Calls Try.prog 28 #[.slice a n c, .slice b n d] w fun e w' => e = .returned (.tuple #[.slice none 0 0, .int .i64 2]) ∧ Below w.heap.size w w' := rinter_twice w a b n c d f ha hi _ rfl
theorem rinter_sh (w : World) (a b : Option Addr) (n m c d : Nat) (hn : n ≠ m) :
    Calls Try.prog 28 #[.slice a n c, .slice b m d] w fun e w' => e = .returned (.tuple #[.slice none 0 0, .int .i64 3]) ∧ w = w' := (rinter_shape w a b n m c d hn).mono fun _ _ h => ⟨h.1, h.2.symm⟩
theorem proots_sl (w : World) (a : Option Addr) (n c t L : Nat) (f : Nat → Nat) (ha : Lk w a n c f) (HT : Hid (tlen f n = t)) (h0 : t ≠ 0) (HL : Hid ((rootsTo f n 256).length = L)) :
    Calls Try.prog 25 #[.slice a n c] w fun e w' => ∃ s k, e = .returned (.slice s L k) ∧ Sl w' s L (fun i => (rootsTo f n 256).getD i 0) ∧ Below w.heap.size w w' := by
  refine (proots_any w a n c t f ha HT h0).mono ?_
  rintro e w' ⟨v, rfl, ho, hb⟩
  obtain ⟨s, k, rfl, hl, _⟩ := lk_list ho (rootsTo_lt f n 256) (by have := rootsTo_len f n 256; omega)
  rw [HL.out] at hl
  exact ⟨s, k, by rw [HL.out], hl.1, hb⟩
theorem rroots_sl (w : World) (a : Option Addr) (n c t L : Nat) (f : Nat → Nat) (ha : Lk w a n c f) (HT : Hid (tlen f n = t)) (h0 : t ≠ 0) (HL : Hid ((rootsTo f n 256).length = L)) :
    Calls Try.prog 26 #[.slice a n c] w fun e w' => ∃ s k, e = .returned (.slice s L k) ∧ Sl w' s L (fun i => (rootsTo f n 256).getD i 0) ∧ Below w.heap.size w w' := by
  refine (rroots_any w a n c t f ha HT h0).mono ?_
  rintro e w' ⟨s, k, rfl, hl, hb, _⟩
  rw [HL.out] at hl
  exact ⟨s, k, by rw [HL.out], hl.1, hb⟩
theorem rfromroots_sl (w : World) (a : Option Addr) (n c : Nat) (f : Nat → Nat) (ha : Lk w a n c f) (hn : n ≤ 511) :
    Calls Try.prog 24 #[.slice a n c] w fun e w' => ∃ s k, e = .returned (.tuple #[.slice s (n + 1) k, .int .i64 0]) ∧ Sl w' s (n + 1) (fr f n) ∧ Below w.heap.size w w' :=
  (rfromroots_any w a n c f ha hn).mono fun _ _ ⟨s, k, e, l, b⟩ => ⟨s, k, e, l.1, b⟩
theorem rfromroots_no (w : World) (a : Option Addr) (n c : Nat) (hn : 511 < n) :
    Calls Try.prog 24 #[.slice a n c] w fun e w' => e = .returned (.tuple #[.slice none 0 0, .int .i64 4]) ∧ w = w' := (rfromroots_long w a n c hn).mono fun _ _ h => ⟨h.1, h.2.symm⟩
end Go.Proofs.Ythpjedoolbfjfaa
