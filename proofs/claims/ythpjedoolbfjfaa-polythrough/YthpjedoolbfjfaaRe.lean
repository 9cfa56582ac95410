/-
  Contract of the polynomials' reference: DivMod.
-/
import Derived.Test.YthpjedoolbfjfaaRd
import Derived.Test.YthpjedoolbfjfaaWg
namespace Go.Proofs.Ythpjedoolbfjfaa
open Go.RowKit
theorem rscale_lk (w : World) (a : Option Addr) (n c ca : Nat) (h : Nat → Nat) (hc : c < 256) (ha : Lk w a n ca h) :
    Calls Try.prog 43 #[.int .u8 (c : Int), .slice a n ca] w fun e w' => ∃ s k, e = .returned (.slice s n k) ∧ Lk w' s n k (fun i => fm c (h i)) ∧ Below w.heap.size w w' :=
  (rscale_any w a n c ca h hc ha.1 ha.2.2.2).mono fun _ _ ⟨v, he, ho, hb⟩ => by
    obtain ⟨s, k, rfl, hs, _⟩ := own_lk ho (fun _ _ => fm_lt _ _ hc) ha.2.2.2
    exact ⟨s, k, he, hs, hb⟩
/-- What a division answers: quotient Q, remainder R of r coefficients. -/
structure DivOk (P q Q R : Nat → Nat) (t r : Nat) : Prop where
  el : El Q
  above : Above 512 Q
  trimmed : tlen R r = r
  less : r < t
  bytes : ∀ i, i < r → R i < 256
  eq : ∀ i, P i = pa (pm Q q) (zx R r) i
theorem own_set {w : World} {base g n cp j v : Nat} {f : Nat → Nat} (h : w.ownsRow base 5 1 (.slice (some ⟨g, 0, none⟩) n cp) n (row n f).toList) :
    (w.setCell ⟨g, j, none⟩ (.int .u8 (v : Int))).ownsRow base 5 1 (.slice (some ⟨g, 0, none⟩) n cp) n (row n (fun i => if i = j then v else f i)).toList := by
  have := (h.stored j (.int .u8 (v : Int))).1
  rw [← row_set, Array.toList_setIfInBounds]
  exact this
theorem own_cong {w : World} {base n : Nat} {v : Value} {f f' : Nat → Nat} (h : w.ownsRow base 5 1 v n (row n f).toList) (e : ∀ i, i < n → f i = f' i) : w.ownsRow base 5 1 v n (row n f').toList := by
  rw [← row_congr n f f' e]; exact h
theorem own_byte {w : World} {base g n cp j : Nat} {f : Nat → Nat} (h : w.ownsRow base 5 1 (.slice (some ⟨g, 0, none⟩) n cp) n (row n f).toList) (hj : j < n) : w.cell? ⟨g, j, none⟩ = some (.int .u8 (f j : Nat)) := by
  rw [h.cellAt j (by omega), Array.getElem?_toList, row_get n f j hj]
theorem own_block {w : World} {base g n cp : Nat} {xs : List Value} (h : w.ownsRow base 5 1 (.slice (some ⟨g, 0, none⟩) n cp) n xs) : base ≤ g ∧ g < w.heap.size := by
  rcases h.2 with ⟨h', _⟩ | ⟨g', cap', cur, h', hb, hg, _⟩
  · simp at h'
  · simp only [Value.slice.injEq, Option.some.injEq, Addr.mk.injEq, and_true, true_and] at h'
    obtain ⟨rfl, rfl⟩ := h'
    exact ⟨hb, lt_of_block hg⟩
theorem own_kept {w w' : World} {base n g : Nat} {v : Value} {xs : List Value} (h : w.ownsRow base 5 1 v n xs) (hg : w.grownBy w' (some g)) (hne : v.ownBlock ≠ some g) : w'.ownsRow base 5 1 v n xs :=
  h.kept hg (.inr hne)
theorem sl_setCell {w : World} {a : Option Addr} {n g j : Nat} {v : Value} {f : Nat → Nat} (h : Sl w a n f) (ho : Off g a) : Sl (w.setCell ⟨g, j, none⟩ v) a n f := h.kept (grown_setCell w g j v) ho
/-- What the loop of a division keeps. -/
structure DivInv (w wr : World) (B gq : Nat) (v : Value) (sq : Option Addr) (P h Q R : Nat → Nat) (t r k : Nat) (s : Option Addr) : Prop where
  val : v = .slice s r k
  own : wr.ownsRow B 5 1 (.slice s r k) r (row r R).toList
  quo : RowAt wr gq 5 512 Q
  den : Sl wr sq t h
  below : Below w.heap.size w wr
  ne : (Value.slice s r k).ownBlock ≠ some gq
  el : El Q
  above : Above 512 Q
  trimmed : tlen R r = r
  bytes : ∀ i, i < r → R i < 256
  eq : ∀ i, P i = pa (pm Q (zx h t)) (zx R r) i
  low : ∀ i, i + t ≤ r → Q i = 0
  le : r ≤ 512
def vlen : Value → Nat
  | .slice _ n _ => n
  | _ => 0
theorem own_mono {w : World} {B B' n : Nat} {v : Value} {xs : List Value} (h : w.ownsRow B 5 1 v n xs) (hB : B' ≤ B) : w.ownsRow B' 5 1 v n xs := by
  refine ⟨h.1, ?_⟩
  rcases h.2 with h' | ⟨g, cap, cur, e, hb, r⟩
  · exact .inl h'
  · exact .inr ⟨g, cap, cur, e, by omega, r⟩
theorem own_lt {w : World} {B n : Nat} {v : Value} {xs : List Value} (h : w.ownsRow B 5 1 v n xs) : v.ownBlock ≠ some w.heap.size := by
  rcases h.2 with ⟨rfl, _⟩ | ⟨g, cap, cur, rfl, hb, hg, _⟩
  · simp [Value.ownBlock]
  · have := lt_of_block hg
    simp [Value.ownBlock]; omega
theorem own_ge {w : World} {B n g : Nat} {v : Value} {xs : List Value} (h : w.ownsRow B 5 1 v n xs) (hg : g < B) : v.ownBlock ≠ some g := fun e => by have := own_base h g e; omega
theorem row_lk {w : World} {g n : Nat} {f : Nat → Nat} (h : RowAt w g 5 n f) (hf : ∀ i, i < n → f i < 256) (hn : n ≤ 140737488351232) : Lk w (some ⟨g, 0, none⟩) n n f :=
  ⟨h.sl hf, Nat.le_refl _, fun e => (by cases e), hn⟩
/-- The loop's beginning. -/
theorem div_begin {w w4 w5 : World} {B t1 k4 u n : Nat} {s4 sq : Option Addr} {f h : Nat → Nat} (ho : w4.ownsRow B 5 1 (.slice s4 t1 k4) t1 (row t1 f).toList) (hw : Below w.heap.size w w4) (hs : Sl w4 sq (u + 1) h) (hg : w4.grownBy w5 none) (hq : RowAt w5 w4.heap.size 5 512 (fun _ => 0)) (h1 : tlen f n = t1) (hf : ∀ i, i < n → f i < 256) (hl : t1 ≤ 512) :
    DivInv w w5 B w4.heap.size (.slice s4 t1 k4) sq (zx f n) h (fun _ => 0) f (u + 1) t1 k4 s4 where
  val := rfl
  own := ho.kept hg (by cases hv : (Value.slice s4 t1 k4).ownBlock <;> simp)
  quo := hq
  den := hs.later (grown_none.mp hg)
  below := two_below hw (grown_none.mp hg)
  ne := own_lt ho
  el := fun _ => (by decide : 0 < 256)
  above := fun _ _ => rfl
  trimmed := by rw [← h1, tlen_idem]
  bytes := fun i hi => hf i (by have := tlen_le f n; omega)
  eq := fun i => by
    show zx f n i = pm (fun _ => 0) _ i ^^^ zx f t1 i
    rw [show pm (fun _ => 0) (zx h (u + 1)) i = 0 from xs_zero (fun _ _ => zero_fm _), Nat.zero_xor, ← h1, zx_tlen]
  low := fun _ _ => rfl
  le := hl
/-- The inner loop's invariant. -/
structure DivIn (w wi : World) (B gq g : Nat) (sq : Option Addr) (h Q R : Nat → Nat) (u dd kr z k : Nat) : Prop where
  own : wi.ownsRow B 5 1 (.slice (some ⟨g, 0, none⟩) (u + dd + 1) kr) (u + dd + 1) (row (u + dd + 1) (rs R h z dd k)).toList
  quo : RowAt wi gq 5 512 (qs Q z dd)
  den : Sl wi sq (u + 1) h
  below : Below w.heap.size w wi
theorem divin_begin {w wr : World} {B gq g : Nat} {v : Value} {sq : Option Addr} {P h Q R : Nat → Nat} {u dd kr z : Nat} (I : DivInv w wr B gq v sq P h Q R (u + 1) (u + dd + 1) kr (some ⟨g, 0, none⟩)) (hg : w.heap.size ≤ gq) (ho : Off gq sq) :
    DivIn w (wr.setCell ⟨gq, dd, none⟩ (.int .u8 (z : Int))) B gq g sq h Q R u dd kr z 0 where
  own := own_cong (own_kept I.own (grown_setCell _ _ _ _) I.ne) (fun i _ => (rs_zero R h z dd i).symm)
  quo := I.quo.set dd z
  den := sl_setCell I.den ho
  below := I.below.setCell hg _
theorem divin_step {w wi : World} {B gq g : Nat} {sq : Option Addr} {h Q R : Nat → Nat} {u dd kr z k v : Nat} (I : DivIn w wi B gq g sq h Q R u dd kr z k) (hv : v = R (dd + k) ^^^ fm z (h k)) (hB : w.heap.size ≤ B) (hne : gq ≠ g) (ho : Off g sq) :
    DivIn w (wi.setCell ⟨g, dd + k, none⟩ (.int .u8 (v : Int))) B gq g sq h Q R u dd kr z (k + 1) where
  own := own_cong (own_set I.own) (fun i _ => by rw [rs_step, hv])
  quo := I.quo.other _ _ hne
  den := sl_setCell I.den ho
  below := I.below.setCell (by have := (own_block I.own).1; show w.heap.size ≤ g; omega) _
theorem DivIn.drew {w wi : World} {B gq g : Nat} {sq : Option Addr} {h Q R : Nat → Nat} {u dd kr z k : Nat} (I : DivIn w wi B gq g sq h Q R u dd kr z k) : DivIn w wi.drew B gq g sq h Q R u dd kr z k := ⟨I.own, I.quo, I.den, I.below.drew⟩
/-- Behind the inner loop, and Trim. -/
theorem div_next {w wr wi w7 : World} {B gq g : Nat} {v : Value} {sq s7 : Option Addr} {P h Q R : Nat → Nat} {u dd kr k7 z r7 : Nat} (I : DivInv w wr B gq v sq P h Q R (u + 1) (u + dd + 1) kr (some ⟨g, 0, none⟩)) (N : DivIn w wi B gq g sq h Q R u dd kr z (u + 1))
    (hz : z = fm (R (u + dd)) (finv (h u))) (hh : h u < 256) (h0 : h u ≠ 0) (hr : tlen (rs R h z dd (u + 1)) (u + dd + 1) = r7)
    (ho : w7.ownsRow wi.heap.size 5 1 (.slice s7 r7 k7) r7 (row r7 (rs R h z dd (u + 1))).toList) (hb : Below wi.heap.size wi w7) (hBi : B ≤ wi.heap.size) :
    DivInv w w7 B gq (.slice s7 r7 k7) sq P h (qs Q z dd) (rs R h z dd (u + 1)) (u + 1) r7 k7 s7 ∧ r7 < u + dd + 1 := by
  have hR := I.bytes (u + dd) (by omega)
  have hzl : z < 256 := by rw [hz]; exact fm_lt _ _ hR
  have tg : rs R h z dd (u + 1) (u + dd + 1 - 1) = 0 := by
    have := top_gone (R := R) (h := h) (d := dd) (t := u + 1) (by omega) (by rw [show dd + (u + 1) - 1 = u + dd by omega]; exact hR) (by simpa using hh) (by simpa using h0)
    rw [show dd + (u + 1) - 1 = u + dd by omega, show u + 1 - 1 = u by omega, ← hz] at this
    exact this
  have lt7 : r7 < u + dd + 1 := by rw [← hr]; exact tlen_gone (by omega) tg
  have dle := I.le
  refine ⟨{ val := rfl, own := own_mono ho hBi, quo := N.quo.later hb, den := N.den.later hb, below := two_below N.below hb, ne := own_ge ho N.quo.lt, el := ?_, above := ?_, trimmed := by rw [← hr, tlen_idem], bytes := ?_, eq := ?_, low := ?_, le := by omega }, lt7⟩
  · intro i; unfold qs; split
    · exact hzl
    · exact I.el i
  · intro i hi; unfold qs; rw [if_neg (by omega)]; exact I.above i hi
  · intro i hi; exact rs_lt I.bytes hzl i (by omega)
  · have q0 : Q dd = 0 := I.low dd (by omega)
    have e := I.eq
    rw [show u + dd + 1 = dd + (u + 1) by omega] at e
    have := div_step (q := zx h (u + 1)) I.el hzl (fun _ => rfl) q0 e
    intro i
    rw [this i]
    show _ ^^^ zx (rs R h z dd (u + 1)) (dd + (u + 1)) i = _ ^^^ zx (rs R h z dd (u + 1)) r7 i
    rw [← hr, zx_tlen, show u + dd + 1 = dd + (u + 1) by omega]
  · intro i hi; unfold qs; rw [if_neg (by omega)]; exact I.low i (by omega)
set_option maxRecDepth 20000 in
set_option maxHeartbeats 4000000 in
theorem rdivmod_any (w : World) (a b : Option Addr) (n m c d t1 u : Nat) (f h : Nat → Nat) (ha : Lk w a n c f) (hb : Lk w b m d h) (H1 : Hid (tlen f n = t1)) (H2 : Hid (tlen h m = u + 1)) (hl1 : t1 ≤ 512) (hl2 : u + 1 ≤ 512) :
    Calls Try.prog 20 #[.slice a n c, .slice b m d] w fun e w' => ∃ Q R r s1 k1 s2 k2, e = .returned (.tuple #[.slice s1 (tlen Q 512) k1, .slice s2 r k2, .int .i64 0]) ∧ Lk w' s1 (tlen Q 512) k1 Q ∧ Lk w' s2 r k2 R ∧ DivOk (zx f n) (zx h m) Q R (u + 1) r ∧ Below w.heap.size w w' := by
  obtain ⟨i0, hi, hz0, hz1, hz2⟩ := info_parts info8
  have L1 : Hid (tlen f n ≤ 512) := by show _ ≤ _; rw [H1.out]; exact hl1
  have L2 : Hid (tlen h m ≤ 512) := by show _ ≤ _; rw [H2.out]; exact hl2
  have HI1 : Hid (tlen f t1 = t1) := by show _ = _; rw [← H1.out, tlen_idem]
  obtain ⟨y, HY⟩ : ∃ y, Hid (h u = y) := ⟨_, rfl⟩
  have hy0 : Hid (y ≠ 0) := by
    have := tlen_top h m (by rw [H2.out]; omega)
    rw [H2.out] at this
    rw [← HY.out]; exact this
  have hm : u + 1 ≤ m := by have := tlen_le h m; have := H2.out; omega
  have hy : y < 256 := by rw [← HY.out]; exact hb.1.1 u (by omega)
  obtain ⟨iy, HIY⟩ : ∃ iy, Hid (finv y = iy) := ⟨_, rfl⟩
  have hiy : iy < 256 := by rw [← HIY.out]; exact finv_lt y
  have HInv : Hid (∀ w, Calls Try.prog 41 #[.int .u8 (y : Int)] w fun e w' => e = .returned (.tuple #[.int .u8 (iy : Int), .int .i64 0]) ∧ w = w') := by
    intro w
    have := rinv_any y w hy
    rw [HIY.out, show ive y = 0 from if_neg hy0.out] at this
    exact this.mono fun _ _ h => ⟨h.1, h.2.symm⟩
  have HPf : Hid (∀ i, i < n → f i < 256) := ha.1.1
  have HPh : Hid (∀ i, i < m → h i < 256) := hb.1.1
  go_enter Try.func20, Try.ntmps20
  go_wp2_with (first
    | (go_at_call 38; have _x := hb1; refine (long_false _ _ _ _ h hb L2).mono ?_; rintro e w2 ⟨rfl, hb2⟩; replace ha := ha.later hb2; replace hb := hb.later hb2; have hw := two_below hb1 hb2)
    | (go_at_call 38; refine (long_false _ _ _ _ f ha L1).mono ?_; rintro e w1 ⟨rfl, hb1⟩; replace ha := ha.later hb1; replace hb := hb.later hb1)
    | (go_at_call 11; have _x := hb3; refine (rtrim_fat _ _ _ _ _ f ha H1).mono ?_; rintro e w4 ⟨s4, k4, rfl, hs4, hb4, hf4, ho4⟩; replace hsq := hsq.later hb4; replace hw := two_below hw hb4)
    | (go_at_call 11; refine (rtrim_fat _ _ _ _ _ h hb H2).mono ?_; rintro e w3 ⟨sq, kq, rfl, hsq, hb3, hf3, ho3⟩; replace ha := ha.later hb3; replace hw := two_below hw hb3; have l3 := hw.size; obtain ⟨bq, oq, eq1, hcq⟩ := hsq.1.2 u (by omega); rw [HY.out] at hcq; subst eq1; have lbq := cell_lt hcq)
    | (go_at_call 41; refine (HInv.out _).mono ?_; rintro e w' ⟨rfl, rfl⟩)
    | (at_make; refine wpList_make_full _ rfl _ _ 22 rfl w4.heap.size 5 i0 (.int .u8 0) 1 Try.underlying22 hi hz0 hz1 .i64 .i64 _ _ 512 rfl rfl rfl rfl (by rw [hz2]; omega) (by unfold maxLen; omega) (Nat.le_refl _) ?_; intro w5 hown5 hgrow5))
  have HBeg : Hid (DivInv w w5 w3.heap.size w4.heap.size (.slice s4 t1 k4) (some ⟨bq, oq, none⟩) (zx f n) h (fun _ => 0) f (u + 1) t1 k4 s4) := div_begin ho4 hw hsq.1 hgrow5 (made_at hown5) H1.out HPf.out hl1
  have l34 := hb4.size
  have ls3 : w3.heap.size ≤ w4.heap.size := l34
  clear ha hb hb1 hb2 hb3 hb4 hw hf3 ho3 hf4 ho4 hs4 hsq hown5 hgrow5 _x hcq HInv
  go_loopw [9] (fun v wr => ∃ Q R r k s, DivInv w wr w3.heap.size w4.heap.size v (some ⟨bq, oq, none⟩) (zx f n) h Q R (u + 1) r k s) (fun v _ => vlen v)
  case atStart => exact ⟨_, _, _, _, _, HBeg.out⟩
  case round =>
    clear HBeg
    obtain ⟨Q, R, r, k, s, I⟩ := hrel
    obtain rfl := I.val
    have hr512 := I.le
    by_cases hge : u + 1 ≤ r
    · obtain ⟨dd, rfl⟩ : ∃ dd, r = u + dd + 1 := ⟨r - (u + 1), by omega⟩
      obtain ⟨g, rfl⟩ := own_addr I.own (by omega)
      have hob := own_block I.own
      have hcr := own_byte I.own (j := u + dd) (by omega)
      have hcq := I.quo.cell dd (by omega)
      have hfq := I.quo.free dd
      obtain ⟨x, HX⟩ : ∃ x, Hid (R (u + dd) = x) := ⟨_, rfl⟩
      rw [HX.out] at hcr
      have hx : x < 256 := by rw [← HX.out]; exact I.bytes _ (by omega)
      obtain ⟨z, HZ⟩ : ∃ z, Hid (fm x iy = z) := ⟨_, rfl⟩
      have HMul : Hid (∀ w, Calls Try.prog 35 #[.int .u8 (x : Int), .int .u8 (iy : Int)] w fun e w' => e = .returned (.int .u8 (z : Int)) ∧ w = w') := by rw [← HZ.out]; exact fun w => rmul_at x iy w hx hiy
      have hne : w4.heap.size ≠ g := by have := I.ne; simp [Value.ownBlock] at this; omega
      have HN0 := divin_begin (z := z) I (by omega) (fun x hx => by cases hx; show bq ≠ _; omega)
      have HI : Hid (DivInv w wr w3.heap.size w4.heap.size (.slice (some ⟨g, 0, none⟩) (u + dd + 1) k) (some ⟨bq, oq, none⟩) (zx f n) h Q R (u + 1) (u + dd + 1) k (some ⟨g, 0, none⟩)) := I
      have HN : Hid (DivIn w (wr.setCell ⟨w4.heap.size, dd, none⟩ (.int .u8 (z : Int))) w3.heap.size w4.heap.size g (some ⟨bq, oq, none⟩) h Q R u dd k z 0) := HN0
      clear I HN0
      have hdd : ((u : Int) + (dd : Int) + 1 - ((u : Int) + 1)) = (dd : Int) := by omega
      go_wp2_with (go_at_call 35; refine (HMul.out _).mono ?_; rintro e w' ⟨rfl, rfl⟩)
      go_loopw [13] (fun i wi => ∃ j : Nat, j ≤ u + 1 ∧ i = .int .i64 (j : Int) ∧ DivIn w wi w3.heap.size w4.heap.size g (some ⟨bq, oq, none⟩) h Q R u dd k z j) (fun i _ => u + 1 - (intOf i).toNat)
      case atStart => exact ⟨0, by omega, rfl, HN.out⟩
      case round =>
        clear HN
        obtain ⟨j, hj, rfl, N⟩ := hrel
        by_cases hlj : j < u + 1
        · have hc1 := own_byte N.own (j := dd + j) (by omega)
          rw [rs_here] at hc1
          obtain ⟨x2, HX2⟩ : ∃ x, Hid (R (dd + j) = x) := ⟨_, rfl⟩
          rw [HX2.out] at hc1
          have hx2 : x2 < 256 := by rw [← HX2.out]; exact HI.out.bytes _ (by omega)
          obtain ⟨bq', oq', eqq, hc2⟩ := N.den.2 j hlj
          cases eqq
          obtain ⟨y2, HY2⟩ : ∃ y, Hid (h j = y) := ⟨_, rfl⟩
          have hy2 : y2 < 256 := by rw [← HY2.out]; exact N.den.1 j hlj
          rw [HY2.out] at hc2
          obtain ⟨z2, HZ2⟩ : ∃ zz, Hid (fm z y2 = zz) := ⟨_, rfl⟩
          have hzl : z < 256 := by rw [← HZ.out]; exact fm_lt _ _ hx
          have hz2 : z2 < 256 := by rw [← HZ2.out]; exact fm_lt _ _ hzl
          have hxo : bits .xor .u8 (x2 : Int) (z2 : Int) = ((x2 ^^^ z2 : Nat) : Int) := u8_xor_nat _ _ hx2 hz2
          have hf2 := N.own.frozenAt (dd + j)
          have HMu2 : Hid (∀ w, Calls Try.prog 35 #[.int .u8 (z : Int), .int .u8 (y2 : Int)] w fun e w' => e = .returned (.int .u8 (z2 : Int)) ∧ w = w') := by rw [← HZ2.out]; exact fun w => rmul_at z y2 w hzl hy2
          have HN1 : Hid (DivIn w (wr.setCell ⟨g, dd + j, none⟩ (.int .u8 (x2 ^^^ z2 : Nat))) w3.heap.size w4.heap.size g (some ⟨bq, oq, none⟩) h Q R u dd k z (j + 1)) := divin_step N (by rw [← HX2.out, ← HZ2.out, ← HY2.out]) (by omega) hne (fun x hx => by cases hx; show bq ≠ g; omega)
          have i1 : (0 : Int) ≤ (dd : Int) + (j : Int) := by omega
          have i2 : (dd : Int) + (j : Int) < (u : Int) + (dd : Int) + 1 := by omega
          have i5 : dd + j < u + dd + 1 := by omega
          have i3 : (0 : Int) ≤ (j : Int) := by omega
          have htn : ((dd : Int) + (j : Int)).toNat = dd + j := by omega
          have hwr : IntKind.i64.wrap ((dd : Int) + (j : Int)) = (dd : Int) + (j : Int) := by rw [IntKind.wrap_i64]; omega
          have i4 : (j : Int) < (u : Int) + 1 := by omega
          clear N HMul
          go_wp2
          go_region_with (go_at_call 35; refine (HMu2.out _).mono ?_; rintro e w' ⟨rfl, rfl⟩)
          all_goals go_wp2
          all_goals exact ⟨⟨j + 1, by omega, by go_num, HN1.out.drew⟩, by simp [intOf]; omega⟩
        · obtain rfl : j = u + 1 := by omega
          obtain ⟨r7, HR7⟩ : ∃ r7, Hid (tlen (rs R h z dd (u + 1)) (u + dd + 1) = r7) := ⟨_, rfl⟩
          have hzl : z < 256 := by rw [← HZ.out]; exact fm_lt _ _ hx
          obtain ⟨s6, k6, e6, hs6, _⟩ := own_lk N.own (rs_lt HI.out.bytes hzl) (by omega)
          cases e6
          have hBi : w3.heap.size ≤ wr.heap.size := by have := (own_block N.own); omega
          have HNN : Hid (DivIn w wr w3.heap.size w4.heap.size g (some ⟨bq, oq, none⟩) h Q R u dd k z (u + 1)) := N
          clear N HMul
          go_wp2_with (go_at_call 11; refine (rtrim_fat _ _ _ _ _ _ hs6 HR7).mono ?_; rintro e w7 ⟨s7, k7, rfl, hs7, hb7, hf7, ho7⟩)
          have fin := div_next HI.out HNN.out (by rw [← HZ.out, ← HX.out, ← HIY.out, ← HY.out]) (by rw [HY.out]; exact hy) (by rw [HY.out]; exact hy0.out) HR7.out ho7 hb7 hBi
          exact ⟨⟨_, _, _, _, _, fin.1⟩, by simp only [vlen]; exact fin.2⟩
    · obtain ⟨tq, HTQ⟩ : ∃ t, Hid (tlen Q 512 = t) := ⟨_, rfl⟩
      have hq : Lk wr (some ⟨w4.heap.size, 0, none⟩) 512 512 Q := row_lk I.quo (fun i _ => I.el i) (by omega)
      obtain ⟨s6, k6, e6, hs6, _⟩ := own_lk I.own I.bytes (by omega)
      cases e6
      have HI : Hid (DivInv w wr w3.heap.size w4.heap.size (.slice s r k) (some ⟨bq, oq, none⟩) (zx f n) h Q R (u + 1) r k s) := I
      clear I
      go_wp2_with (go_at_call 11; refine (rtrim_at _ _ _ _ _ Q hq HTQ).mono ?_; rintro e w7 ⟨s7, k7, rfl, hs7, hb7, hf7⟩)
      go_ret3
      have I := HI.out
      refine ⟨Q, R, r, s7, k7, s, k, by rw [HTQ.out]; rfl, by rw [HTQ.out]; exact hs7, hs6.later hb7, ⟨I.el, I.above, I.trimmed, by omega, I.bytes, fun i => ?_⟩, two_below I.below hb7⟩
      rw [I.eq i]
      show pm Q (zx h (u + 1)) i ^^^ _ = pm Q (zx h m) i ^^^ _
      rw [pm_congr (fun _ => rfl) (fun i => by rw [← H2.out, zx_tlen])]
end Go.Proofs.Ythpjedoolbfjfaa
