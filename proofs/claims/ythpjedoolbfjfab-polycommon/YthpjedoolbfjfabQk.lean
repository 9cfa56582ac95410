/-
  Contract of the program's polynomials: Interpolate.
-/
import Derived.Test.YthpjedoolbfjfabQj
import Derived.Deep.AppendLies
namespace Go.Proofs.Ythpjedoolbfjfab
open Go.RowKit
theorem fr_ev (f : Nat → Nat) (k x : Nat) (hf : f k < 256) (hx : x < 256) : ev (fr f (k + 1)) (k + 1 + 1) x = fm (ev (fr f k) (k + 1) x) (f k ^^^ x) := by
  have ok := fr_ok f k
  have ok1 := fr_ok f (k + 1)
  rw [← ev_ext ok1.2.1 (show k + 1 + 1 ≤ k + 1 + 2 by omega) x]
  show ev (pm (fr f k) (lin (f k))) (k + 1 + 2) x = _
  rw [ev_pm ok.1 (lin_el hf) ok.2.1 (lin_above (f k)), ev_lin _ _ hf hx]
theorem ev_uno (x : Nat) : ev uno 1 x = 1 := by
  show 0 ^^^ fm (uno 0) (fpow x 0) = 1
  rw [Nat.zero_xor]
  exact one_fm 1 (by decide)
theorem fr_zero (f : Nat → Nat) (x : Nat) (hx : x < 256) : ∀ k, (∀ i, i < k → f i < 256) → (ev (fr f k) (k + 1) x = 0 ↔ ∃ j, j < k ∧ f j = x) := by
  intro k
  induction k with
  | zero =>
    intro _
    constructor
    · intro h
      have : ev uno 1 x = 0 := h
      rw [ev_uno] at this
      omega
    · rintro ⟨j, hj, _⟩; omega
  | succ k ih =>
    intro hf
    have ok := fr_ok f k
    rw [fr_ev f k x (hf k (by omega)) hx, fm_eq_zero _ _ (ev_lt ok.1 _ _) (xor_lt _ _ (hf k (by omega)) hx), ih (fun i hi => hf i (by omega)), xor_eq_zero_iff]
    constructor
    · rintro (⟨j, hj, e⟩ | e)
      · exact ⟨j, by omega, e⟩
      · exact ⟨k, by omega, e⟩
    · rintro ⟨j, hj, e⟩
      by_cases h : j = k
      · subst h; exact .inr e
      · exact .inl ⟨j, by omega, e⟩
theorem ev_addmul {p q : Nat → Nat} {c n x : Nat} (hp : El p) (hq : El q) (hc : c < 256) : ev (fun j => p j ^^^ fm c (q j)) n x = ev p n x ^^^ fm c (ev q n x) := by
  have h := ev_pa (p := p) (q := fun j => fm c (q j)) hp (fun j => fm_lt _ _ hc) n x
  refine h.trans ?_
  congr 1
  unfold ev
  rw [xs_mul_l]
  exact xs_congr (fun i _ => fm_assoc _ _ _ hc (hq i))
/-- The polynomial through one point more. -/
def nw (F N : Nat → Nat) (k c j : Nat) : Nat := zx F k j ^^^ fm c (N j)
theorem nw_ev {F f : Nat → Nat} {k c x : Nat} (hF : ∀ i, i < k → F i < 256) (hc : c < 256) : ev (nw F (fr f k) k c) (k + 1) x = ev F k x ^^^ fm c (ev (fr f k) (k + 1) x) := by
  show ev (fun j => zx F k j ^^^ fm c (fr f k j)) (k + 1) x = _
  rw [ev_addmul (zx_el hF) (fr_ok f k).1 hc, ev_ext (zx_above F k) (by omega) x]
  rw [ev_congr (p := zx F k) (q := F) (n := k) (fun i hi => if_pos hi) x]
/-- What the loop of Interpolate keeps. -/
structure NInv (w wr : World) (vt vn : Value) (f h F : Nat → Nat) (k : Nat) (st sn : Option Addr) (kt kn : Nat) : Prop where
  vt : vt = .slice st k kt
  vn : vn = .slice sn (k + 1) kn
  ot : Ow wr w.heap.size st k kt F
  on : Ow wr w.heap.size sn (k + 1) kn (fr f k)
  ne : (Value.slice st k kt).ownBlock ≠ (Value.slice sn (k + 1) kn).ownBlock
  bt : ∀ i, i < k → F i < 256
  pts : ∀ j, j < k → ev F k (f j) = h j
  inj : Inj f k
  below : Below w.heap.size w wr
theorem ninv_begin (w : World) (f h : Nat → Nat) : NInv w (w.alloc (.cells #[.int .u8 1] 5)) (.slice none 0 0) (.slice (some ⟨w.heap.size, 0, none⟩) 1 1) f h (fun _ => 0) 0 none (some ⟨w.heap.size, 0, none⟩) 0 1 :=
  ⟨rfl, rfl, Ow.nil _ _ _, RowAt.ow (f := uno) (by unfold RowAt; rw [new_at]; kernel_rfl) (Nat.le_refl _) (by omega), by simp [Value.ownBlock], fun i hi => by omega, fun j hj => by omega, fun a b ha => by omega, alloc_below _ _⟩
theorem back_again {m v : Nat} (hm : m < 256) (hv : v < 256) (h0 : v ≠ 0) : fm (fm m (finv v)) v = m := by
  rw [fm_assoc _ _ _ hm (finv_lt v), fm_comm _ _ (finv_lt v) hv, fm_finv v hv h0, fm_one m hm]
theorem nw_pts {f h F : Nat → Nat} {n k v c : Nat} (hf : ∀ i, i < n → f i < 256) (hh : ∀ i, i < n → h i < 256) (hk : k < n) (hF : ∀ i, i < k → F i < 256) (pts : ∀ j, j < k → ev F k (f j) = h j) (hv : ev (fr f k) (k + 1) (f k) = v) (h0 : v ≠ 0) (hc : c = fm (h k ^^^ ev F k (f k)) (finv v)) :
    ∀ j, j < k + 1 → ev (nw F (fr f k) k c) (k + 1) (f j) = h j := by
  have hE : ev F k (f k) < 256 := xs_lt (fun i hi => fm_lt _ _ (hF i hi))
  have hvl : v < 256 := by rw [← hv]; exact ev_lt (fr_ok f k).1 _ _
  have hm := xor_lt _ _ (hh k hk) hE
  have hcl : c < 256 := by rw [hc]; exact fm_lt _ _ hm
  intro j hj
  rw [nw_ev hF hcl]
  by_cases e : j = k
  · subst e
    rw [hv, hc, back_again hm hvl h0, Nat.xor_comm (h j), ← Nat.xor_assoc, Nat.xor_self, Nat.zero_xor]
  · rw [pts j (by omega), (fr_zero f (f j) (hf j (by omega)) k (fun i hi => hf i (by omega))).2 ⟨j, by omega, rfl⟩, fm_zero, Nat.xor_zero]
theorem inj_more {f : Nat → Nat} {n k v : Nat} (hf : ∀ i, i < n → f i < 256) (hk : k < n) (h : Inj f k) (hv : ev (fr f k) (k + 1) (f k) = v) (h0 : v ≠ 0) : Inj f (k + 1) := by
  have no : ∀ j, j < k → f j ≠ f k := fun j hj e => h0 (by rw [← hv]; exact (fr_zero f (f k) (hf k hk) k (fun i hi => hf i (by omega))).2 ⟨j, hj, e⟩)
  intro a b ha hb e
  by_cases h1 : a = k
  · by_cases h2 : b = k
    · omega
    · subst h1; exact absurd e.symm (no b (by omega))
  · by_cases h2 : b = k
    · subst h2; exact absurd e (no a (by omega))
    · exact h a b (by omega) (by omega) e
theorem row_cut_snoc (F : Nat → Nat) (k : Nat) : (row k F).toList ++ [.int .u8 0] = (row (k + 1) (zx F k)).toList := by
  rw [← row_snoc k (zx F k), show zx F k k = 0 from if_neg (by omega), row_congr k (zx F k) F (fun i hi => if_pos hi)]
  rfl
theorem nw_row {F N : Nat → Nat} {k c i : Nat} (hi : i < k + 1) : rs (zx F k) N c 0 (k + 1) i = nw F N k c i := by
  unfold rs nw
  rw [if_pos (by omega), Nat.sub_zero]
theorem ninv_app {w wr w2 w3 : World} {vt vn : Value} {f h F : Nat → Nat} {k g kt kn : Nat} {st sn : Option Addr} {o : Obj} (I : NInv w wr vt vn f h F k st sn kt kn) (hb : Below wr.heap.size wr w2) (hg : (w2.alloc o).grownBy w3 (Value.slice st k kt).ownBlock) (hat : (Value.slice st k kt).ownBlock = some g ∨ g = w2.heap.size + 1) :
    Ow w3 w.heap.size sn (k + 1) kn (fr f k) ∧ (Value.slice sn (k + 1) kn).ownBlock ≠ some g ∧ Below w.heap.size w w3 := by
  have o2 := (I.on.later hb).later (alloc_below w2 o)
  refine ⟨o2.kept hg (.inr (Ne.symm I.ne)), ?_, grow_step (two_below I.below hb) (I.ot.later hb) hg rfl⟩
  rcases hat with h' | h'
  · rw [← h']; exact Ne.symm I.ne
  · have := own_lt o2
    simp at this
    rw [h']; exact this
theorem ninv_next {w wr w2 w3 w4 w5 : World} {vt vn : Value} {f h F : Nat → Nat} {n k g cap kt kn c v : Nat} {st sn : Option Addr} {o : Obj} (I : NInv w wr vt vn f h F k st sn kt kn) (hb : Below wr.heap.size wr w2) (hg : (w2.alloc o).grownBy w3 (Value.slice st k kt).ownBlock) (hat : (Value.slice st k kt).ownBlock = some g ∨ g = w2.heap.size + 1)
    (ho4 : Ow w4 w.heap.size (some ⟨g, 0, none⟩) (k + 1) cap (rs (zx F k) (fr f k) c 0 (k + 1))) (hg4 : w3.grownBy w4 (some g)) (ho5 : Ow w5 w4.heap.size (some ⟨w4.heap.size, 0, none⟩) (k + 1 + 1) (k + 1 + 1) (fr f (k + 1))) (hb5 : Below w4.heap.size w4 w5)
    (hf : ∀ i, i < n → f i < 256) (hh : ∀ i, i < n → h i < 256) (hk : k < n) (hv : ev (fr f k) (k + 1) (f k) = v) (h0 : v ≠ 0) (hc : c = fm (h k ^^^ ev F k (f k)) (finv v)) :
    NInv w w5 (.slice (some ⟨g, 0, none⟩) (k + 1) cap) (.slice (some ⟨w4.heap.size, 0, none⟩) (k + 1 + 1) (k + 1 + 1)) f h (nw F (fr f k) k c) (k + 1) (some ⟨g, 0, none⟩) (some ⟨w4.heap.size, 0, none⟩) cap (k + 1 + 1) := by
  have A := ninv_app I hb hg hat
  have gb := own_block ho4
  have hE : ev F k (f k) < 256 := xs_lt (fun i hi => fm_lt _ _ (I.bt i hi))
  have hcl : c < 256 := by rw [hc]; exact fm_lt _ _ (xor_lt _ _ (hh k hk) hE)
  have b4 : Below w.heap.size w w4 := below_row A.2.2 hg4 gb.1
  refine ⟨rfl, rfl, (ho4.cong (fun i hi => nw_row hi)).later hb5, own_mono ho5 b4.size, ?_, ?_, nw_pts hf hh hk I.bt I.pts hv h0 hc, inj_more hf hk I.inj hv h0, two_below b4 hb5⟩
  · simp [Value.ownBlock]; omega
  · intro i _
    exact xor_lt _ _ (zx_el I.bt i) (fm_lt _ _ hcl)
set_option maxHeartbeats 400000 in
theorem pinter_shape (w : World) (a b : Option Addr) (n m c d : Nat) (hn : n ≠ m) :
    Calls Try.prog 21 #[.slice a n c, .slice b m d] w fun e w' => e = .returned (.tuple #[.slice none 0 0, .int .i64 3]) ∧ w = w' := by
  have t : ((n : Int) != (m : Int)) = true := by simp; omega
  go_enter Try.func21, Try.ntmps21
  go_wp2
  go_ret2
  exact ⟨rfl, rfl⟩
/-- What Interpolate answers for lists of one length. -/
structure POk (w w' : World) (f h F : Nat → Nat) (n T k : Nat) (s : Option Addr) : Prop where
  own : Ow w' w.heap.size s T k F
  len : tlen F n = T
  bytes : ∀ i, i < n → F i < 256
  pts : ∀ j, j < n → ev F n (f j) = h j
  inj : Inj f n
  below : Below w.heap.size w w'
set_option maxRecDepth 20000 in
set_option maxHeartbeats 4000000 in
theorem pinter_any (w : World) (a b : Option Addr) (n c d : Nat) (f h : Nat → Nat) (ha : Lk w a n c f) (hb : Lk w b n d h) :
    Calls Try.prog 21 #[.slice a n c, .slice b n d] w fun e w' => (e = .returned (.tuple #[.slice none 0 0, .int .i64 2]) ∧ ¬ Inj f n ∧ Below w.heap.size w w') ∨ ∃ F T s k, e = .returned (.tuple #[.slice s T k, .int .i64 0]) ∧ POk w w' f h F n T k s := by
  obtain ⟨i0, hi, hz0, hz1, hz2⟩ := info_parts info8
  have HA : Hid (Sl w a n f) := ha.1
  have HB : Hid (Sl w b n h) := hb.1
  have HVf : Hid (∀ i, i < n → f i < 256) := ha.1.1
  have HVh : Hid (∀ i, i < n → h i < 256) := hb.1.1
  have hn := ha.2.2.2
  have HBeg : Hid (NInv w (w.alloc (.cells #[.int .u8 1] 5)) (.slice none 0 0) (.slice (some ⟨w.heap.size, 0, none⟩) 1 1) f h (fun _ => 0) 0 none (some ⟨w.heap.size, 0, none⟩) 0 1) := ninv_begin w f h
  clear ha hb
  go_enter Try.func21, Try.ntmps21
  go_wp2
  go_loopw [6, 7, 21] (fun vt vn i wr => ∃ k F st sn kt kn, k ≤ n ∧ i = .int .i64 (k : Int) ∧ NInv w wr vt vn f h F k st sn kt kn) (fun _ _ i _ => n - (intOf i).toNat)
  case atStart => exact ⟨0, _, _, _, _, _, by omega, rfl, HBeg.out⟩
  case round =>
    clear HBeg
    obtain ⟨k, F, st, sn, kt, kn, hk, rfl, I⟩ := hrel
    obtain rfl := I.vt
    obtain rfl := I.vn
    have k256 : k ≤ 256 := pigeon 256 k f (fun i hi => HVf.out i (by omega)) I.inj
    have HI : Hid (NInv w wr (.slice st k kt) (.slice sn (k + 1) kn) f h F k st sn kt kn) := I
    clear I
    by_cases hlt : k < n
    · obtain ⟨ba, oa, ea, hca⟩ := (HA.out.later HI.out.below).2 k hlt
      obtain ⟨bb, ob, eb, hcb⟩ := (HB.out.later HI.out.below).2 k hlt
      obtain ⟨x, HX⟩ : ∃ x, Hid (f k = x) := ⟨_, rfl⟩
      obtain ⟨y, HY⟩ : ∃ y, Hid (h k = y) := ⟨_, rfl⟩
      rw [HX.out] at hca
      rw [HY.out] at hcb
      have hx : x < 256 := by rw [← HX.out]; exact HVf.out k hlt
      have hy : y < 256 := by rw [← HY.out]; exact HVh.out k hlt
      obtain ⟨ef, HEf⟩ : ∃ e, Hid (ev F k x = e) := ⟨_, rfl⟩
      have hef : ef < 256 := by rw [← HEf.out]; exact xs_lt (fun i hi => fm_lt _ _ (HI.out.bt i hi))
      obtain ⟨mi, HMi⟩ : ∃ m, Hid (y ^^^ ef = m) := ⟨_, rfl⟩
      have hmi : mi < 256 := by rw [← HMi.out]; exact xor_lt _ _ hy hef
      obtain ⟨nv, HNv⟩ : ∃ v, Hid (ev (fr f k) (k + 1) x = v) := ⟨_, rfl⟩
      have hnv : nv < 256 := by rw [← HNv.out]; exact ev_lt (fr_ok f k).1 _ _
      obtain ⟨q, HQ⟩ : ∃ q, Hid (fm mi (finv nv) = q) := ⟨_, rfl⟩
      have hq : q < 256 := by rw [← HQ.out]; exact fm_lt _ _ hmi
      have HEt : Hid (∀ w', Sl w' st k F → Calls Try.prog 10 #[.slice st k kt, .int .u8 (x : Int)] w' fun e w'' => e = .returned (.int .u8 (ef : Int)) ∧ ∃ m, w'' = w'.drewN m) := by rw [← HEf.out]; exact fun w' hs => eval_any w' st k kt x F hs (by omega) hx
      have HAd : Hid (∀ w', Calls Try.prog 28 #[.int .u8 (y : Int), .int .u8 (ef : Int)] w' fun e w'' => e = .returned (.int .u8 (mi : Int)) ∧ w'' = w') := by rw [← HMi.out]; exact fun w' => add_at y ef w' hy hef
      have HSt : Hid (Sl wr st k F) := HI.out.ot.sl HI.out.bt
      have HSn : Hid (Lk wr sn (k + 1) kn (fr f k)) := HI.out.on.lk (fun i _ => (fr_ok f k).1 i) (by omega)
      have hfk : ∀ i, i < k + 1 → fr f k i < 256 := fun i _ => (fr_ok f k).1 i
      have HFk : Hid (∀ i, i < k + 1 → fr f k i < 256) := hfk
      have k0 : (0 : Int) ≤ (k : Int) := by omega
      have k1 : (k : Int) < (n : Int) := by omega
      clear hfk
      subst ea eb
      go_wp2
      go_quiet (first
        | (go_at_call 10; exact Calls.quiet_of (HEt.out _ (by exact HSt.out)))
        | (go_at_call 28; exact Calls.quiet_of_same (HAd.out _)))
      obtain ⟨v, HW⟩ : ∃ v, Hid (v = wr.drewN nq) := ⟨_, rfl⟩
      rw [← HW.out]
      have HBv : Hid (Below wr.heap.size wr v) := by rw [HW.out]; exact below_drewN (Below.refl _ _) _
      clear HW hca hcb HEt HAd
      by_cases h0 : nv = 0
      · have HNo : Hid (¬ Inj f n) := by
          intro hj
          obtain ⟨j, hjk, e⟩ := (fr_zero f x hx k (fun i hi => HVf.out i (by omega))).1 (by rw [HNv.out]; exact h0)
          have := hj j k (by omega) hlt (by rw [e, HX.out])
          omega
        have HDiv : Hid (∀ w', Calls Try.prog 34 #[.int .u8 (mi : Int), .int .u8 (nv : Int)] w' fun e w'' => e = .returned (.tuple #[.int .u8 (q : Int), .int .i64 5]) ∧ Below w'.heap.size w' w'') := by
          intro w'
          have := div_any mi nv w' hmi hnv
          rw [HQ.out, show ive nv = 5 from if_pos h0] at this
          exact this
        clear h0
        go_wp2_with (first
          | (go_at_call 10; refine (eval_one _ _ _ _ x nv (fr f k) (HSn.out.1.later HBv.out) (by omega) hx HNv).mono ?_; rintro e w1 ⟨rfl, hb1⟩; have HB1 : Hid (Below v.heap.size v w1) := hb1; clear hb1)
          | (go_at_call 34; refine (HDiv.out _).mono ?_; rintro e w2 ⟨rfl, hb2⟩; have HB2 : Hid (Below wr.heap.size wr w2) := two_below HBv.out (two_below HB1.out hb2); clear hb2))
        go_ret2
        exact .inl ⟨rfl, HNo.out, two_below HI.out.below HB2.out⟩
      · have HNZ : Hid (nv ≠ 0) := h0
        have HDiv : Hid (∀ w', Calls Try.prog 34 #[.int .u8 (mi : Int), .int .u8 (nv : Int)] w' fun e w'' => e = .returned (.tuple #[.int .u8 (q : Int), .int .i64 0]) ∧ Below w'.heap.size w' w'') := by
          intro w'
          have := div_any mi nv w' hmi hnv
          rw [HQ.out, show ive nv = 0 from if_neg h0] at this
          exact this
        have H4 : Hid (∀ i, i < k + 1 + 1 → pm (zx (fr f k) (k + 1)) (lin x) i = fr f (k + 1) i) := fun i _ => by
          show _ = pm (fr f k) (lin (f k)) i
          rw [HX.out]
          exact pm_congr (zx_self (fr_ok f k).2.1) (fun _ => rfl) i
        have hml : k + 1 ≤ maxLen := by unfold maxLen; omega
        have hwr := HI.out.below.size
        clear h0
        go_wp2_with (first
          | (go_at_call 10; refine (eval_one _ _ _ _ x nv (fr f k) (HSn.out.1.later HBv.out) (by omega) hx HNv).mono ?_; rintro e w1 ⟨rfl, hb1⟩; have HB1 : Hid (Below v.heap.size v w1) := hb1; clear hb1)
          | (go_at_call 34; refine (HDiv.out _).mono ?_; rintro e w2 ⟨rfl, hb2⟩; have HB2 : Hid (Below wr.heap.size wr w2) := two_below HBv.out (two_below HB1.out hb2); have HO2 : Hid (Ow w2 w.heap.size st k kt F) := HI.out.ot.later HB2.out; have hw2 := HB2.out.size; clear hb2)
          | (at_builtin; refine wpList_append_lies _ rfl _ _ 22 rfl w.heap.size 5 i0 (.int .u8 0) 1 1 Try.underlying22 hi hz0 hz1 hz2 rfl (by decide) _ k (row k F).toList rfl (HO2.out.alloc _) ⟨w2.heap.size, 0, none⟩ 1 1 [.int .u8 0] rfl rfl (one_new _ _ 0) (one_one 0) (by omega) hml (by omega) (by simp; omega) (w2.heap.size + 1) (by simp) ?_; intro gg cap w3 hown3 hgrow3 hat3 hlt3; rw [row_cut_snoc] at hown3; have HO3 : Hid (Ow w3 w.heap.size (some ⟨gg, 0, none⟩) (k + 1) cap (zx F k)) := hown3; have HG3 : Hid ((w2.alloc (.cells #[.int .u8 0] 5)).grownBy w3 (Value.slice st k kt).ownBlock) := hgrow3; have HAT : Hid ((Value.slice st k kt).ownBlock = some gg ∨ gg = w2.heap.size + 1) := hat3; have HA3 : Hid (Ow w3 w.heap.size sn (k + 1) kn (fr f k) ∧ (Value.slice sn (k + 1) kn).ownBlock ≠ some gg ∧ Below w.heap.size w w3) := ninv_app HI.out HB2.out hgrow3 hat3; clear hown3 hgrow3 hat3)
          | (go_at_call 27; refine (addm_own _ w.heap.size gg 0 (k + 1) (k + 1) cap _ q _ sn (zx F k) (fr f k) hq HO3.out (by omega) (fun i _ => zx_el HI.out.bt i) (HA3.out.1.sl HFk.out) (by omega)).mono ?_; rintro e w4 ⟨rfl, ho4, hg4⟩; have HO4 : Hid (Ow w4 w.heap.size (some ⟨gg, 0, none⟩) (k + 1) cap (rs (zx F k) (fr f k) q 0 (k + 1))) := ho4; have HG4 : Hid (w3.grownBy w4 (some gg)) := hg4; have HL4 : Hid (Lk w4 sn (k + 1) kn (fr f k)) := Ow.lk (own_kept HA3.out.1 hg4 HA3.out.2.1) HFk.out (by omega); clear ho4 hg4)
          | (go_at_call 31; refine (withroot_any _ _ (k + 1) _ x _ (fr f (k + 1)) HL4.out hx (by omega) H4).mono ?_; rintro e w5 ⟨rfl, ho5, hb5⟩; have HO5 : Hid (Ow w5 w4.heap.size (some ⟨w4.heap.size, 0, none⟩) (k + 1 + 1) (k + 1 + 1) (fr f (k + 1))) := ho5; have HB5 : Hid (Below w4.heap.size w4 w5) := hb5; clear ho5 hb5))
        exact ⟨⟨k + 1, _, _, _, _, _, by omega, by go_num, ninv_next HI.out HB2.out HG3.out HAT.out HO4.out HG4.out HO5.out HB5.out HVf.out HVh.out hlt (by rw [HX.out]; exact HNv.out) HNZ.out (by rw [HX.out, HY.out, HEf.out, HMi.out, HQ.out])⟩, by simp [intOf]; omega⟩
    · obtain rfl : k = n := by omega
      obtain ⟨T, HT⟩ : ∃ T, Hid (tlen F k = T) := ⟨_, rfl⟩
      have HLt : Hid (Lk wr st k kt F) := HI.out.ot.lk HI.out.bt (by omega)
      go_wp2_with (go_at_call 25; refine (trimmed_any _ _ _ _ T F HLt.out HT).mono ?_; rintro e w' ⟨rfl, rfl⟩)
      go_ret2
      exact .inr ⟨F, T, st, kt, rfl, HI.out.ot.cut (by rw [← HT.out]; exact tlen_le _ _), HT.out, HI.out.bt, HI.out.pts, HI.out.inj, HI.out.below⟩
end Go.Proofs.Ythpjedoolbfjfab
