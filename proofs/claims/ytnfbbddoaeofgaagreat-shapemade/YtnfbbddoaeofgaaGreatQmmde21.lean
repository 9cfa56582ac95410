/-
  Contracts of the reference: Kernel's and Solve's errors; Solve where there is something, and where there is nothing; words for Combine.
  Contract of the reference: Combine.
  Contract of the reference: Inverse.
  Contracts of the reference: Inverse's and Combine's errors; the laws' ints.
-/
import Derived.Test.YtnfbbddoaeofgaaGreatQmmde00
import Derived.Test.YtnfbbddoaeofgaaGreatQmmde20
set_option maxRecDepth 100000
set_option maxHeartbeats 16000000
namespace Go.Proofs.YtnfbbddoaeofgaaGreat
open Go.RowKit
theorem qiy (w : World) (r c n k kb : Nat) (a b : Option Addr) (F X : Nat → Nat) (ha : Mt w a n k F) (R : Rt r c n) (hb : Sl w b r X) (hx : ∃ x, Sol (m2 F r c) r c (ext0 X r) x) :
  Calls Tryz.prog 150 #[mv r c a n k, .slice b r kb] w fun e w' => ∃ s d x, e = .returned (.tuple #[.slice s c d, .bool true, .int .i64 0]) ∧ Ob w' w.heap.size (.slice s c d) c x ∧ SolA F X r c x ∧ Below w.heap.size w w' :=
 (qkd w r c n k kb a b F X ha R hb).mono fun _ _ h => by
  rcases h with h | ⟨_, hno, _⟩
  ·exact h
  ·obtain ⟨x, hx⟩ := hx
   exact absurd hx (hno x)
open Go.RowKit
theorem qef {w : World} {base n d : Nat} {s : Option Addr} {f : Nat → Nat} (h : w.ownsRow base 5 1 (.slice s n d) n (row n f).toList) (hf : ∀ i, i < n → f i < 256) : Mt w s n d f := by
 refine ⟨qc7 h hf, ?_, qbi h⟩
 rcases h.2 with ⟨e, h0⟩ | ⟨g, cap, cur, e, _, _, hc, _⟩
 ·cases e; omega
 ·cases e; omega
open Go.RowKit
/-- As many rows as the rank: they are independent. -/
theorem Rk.ind {M : Nat → Nat → Nat} (hM : El2 M) {r : Nat} (h : Rk M r r) : Ind M r := by
 intro a ha hz i hi
 apply Classical.byContradiction
 intro hne
 obtain ⟨r, rfl⟩ : ∃ r', r = r' + 1 := ⟨r - 1, by omega⟩
 have hle : Le M (r + 1) (fun u => M (sk i u)) r := by
  have hE : El2 (fun u => M (sk i u)) := fun u j => hM _ j
  intro t ht
  by_cases e : t = i
  ·subst e
   have hv := qae (a t)
   refine (qbs hv ⟨fun u => a (sk t u), fun u => ha _, fun _ => rfl⟩ : Spn (fun u => M (sk t u)) r (fun j => fm (finv (a t)) (lc (fun u => a (sk t u)) (fun u => M (sk t u)) r j))).congr (fun j => ?_)
   have e1 := hz j
   rw [qjj (k := t) _ _ (by omega)] at e1
   have e2 := qh2 e1
   rw [← e2, ← qai _ _ _ hv (ha t), qan _ _ hv (ha t), qay _ (ha t) hne, qb5 _ (hM t j)]
  ·obtain ⟨u, hu, e2⟩ : ∃ u, u < r ∧ sk i u = t := by
    by_cases h1 : t < i
    ·exact ⟨t, by omega, by unfold sk; rw [if_pos h1]⟩
    ·exact ⟨t - 1, by omega, by unfold sk; rw [if_neg (by omega)]; omega⟩
   rw [← e2]
   exact qab hE hu
 have := h.le hle
 omega
/-- A matrix of full rank has an inverse. -/
theorem qke {M : Nat → Nat → Nat} (hM : El2 M) {r : Nat} (hc : ∀ i j, i < r → r ≤ j → M i j = 0) (h : Rk M r r) : ∃ A, El2 A ∧ (∀ i j, i < r → j < r → pr A M r i j = dl i j) ∧ ∀ i j, i < r → j < r → pr M A r i j = dl i j := by
 have hI := h.ind hM
 -- each unit row is a combination
 have hu : ∀ i, i < r → Spn M r (dl i) := by
  intro i hi
  apply Classical.byContradiction
  intro hno
  -- M with dl i behind it
  have hE : El2 (fun t => if t < r then M t else dl i) := fun t j => by
   show (if t < r then M t else dl i) j < 256
   split
   ·exact hM t j
   ·exact qgb i j
  have h1 : Rk (fun t => if t < r then M t else dl i) r r := h.at (fun t j ht => by show (if t < r then M t else dl i) j = _; rw [if_pos ht])
  have h2 := h1.more hE (fun hs => hno (by
   rw [if_neg (Nat.lt_irrefl r)] at hs
   exact hs.rows (fun t j ht => by show (if t < r then M t else dl i) j = _; rw [if_pos ht])))
  have hD : El2 dl := fun t j => qgb t j
  have hle : Le (fun t => if t < r then M t else dl i) (r + 1) dl r := by
   intro t _
   have key : ∀ y : Nat → Nat, El y → (∀ j, r ≤ j → y j = 0) → Spn dl r y := fun y hy hz => ⟨y, hy, fun j => by
    unfold lc
    by_cases hj : j < r
    ·rw [qb6 hj (fun t _ hne => by rw [qe2 (Ne.symm hne), qaa]), qbr, qax _ (hy j)]
    ·rw [hz j (by omega)]
     exact (qao (fun t ht => by rw [qe2 (by omega), qaa])).symm⟩
   by_cases ht : t < r
   ·have e : (fun t => if t < r then M t else dl i) t = M t := if_pos ht
    rw [e]
    exact key (M t) (hM t) (fun j hj => hc t j ht hj)
   ·have e : (fun t => if t < r then M t else dl i) t = dl i := if_neg ht
    rw [e]
    exact key (dl i) (qgb i) (fun j hj => qe2 (by omega))
  have := h2.le hle
  omega
 obtain ⟨A, hA, eA⟩ := (show Le dl r M r from hu).factors
 have hL : ∀ i j, i < r → pr A M r i j = dl i j := fun i j hi => (eA i hi j).symm
 refine ⟨A, hA, fun i j hi _ => hL i j hi, fun i j hi hj => ?_⟩
 -- (M A - I) M = 0
 have hd : El (fun t => pr M A r i t ^^^ dl i t) := fun t => qb1 _ _ (pr_el hM A r i t) (qgb i t)
 have hz : ∀ l, lc (fun t => pr M A r i t ^^^ dl i t) M r l = 0 := fun l => by
  rw [lc_add (pr_el hM A r i) (qgb i), lc_dl hM hi]
  have e1 : lc (pr M A r i) M r l = lc (M i) (fun t j => lc (A t) M r j) r l := (lc_lc (hM i) hA M r r l).symm
  have e2 : lc (M i) (fun t j => lc (A t) M r j) r l = M i l := by
   have : lc (M i) (fun t j => lc (A t) M r j) r l = xs (fun t => fm (M i t) (dl t l)) r := qa8 (fun t ht => by
    show fm (M i t) (pr A M r t l) = _
    rw [hL t l ht])
   rw [this]
   by_cases hl : l < r
   ·rw [qb6 hl (fun t _ hne => by rw [qe2 (Ne.symm hne), qaa]), qbr, qax _ (hM i l)]
   ·rw [hc i l hi (by omega)]
    exact qao (fun t ht => by rw [qe2 (by omega), qaa])
  rw [e1, e2, Nat.xor_self]
 exact qh2 (hI _ hd hz j hj)
def uj (j l : Nat) : Nat := if l = j then 1 else 0
theorem uj_lt (j l : Nat) : uj j l < 256 := by unfold uj; split <;> decide
/-- What the solutions make. -/
structure ColA (F O : Nat → Nat) (r j : Nat) : Prop where
 el : ∀ q, q < r * r → O q < 256
 col : ∀ u, u < j → Sol (m2 F r r) r r (ext0 (uj u) r) (fun t => ext0 (fun t => O (t * r + u)) r t)
theorem cola_end {F O : Nat → Nat} {r : Nat} (h : ColA F O r r) : ∀ i j, i < r → j < r → pr (m2 F r r) (m2 O r r) r i j = dl i j := by
 intro i j hi hj
 have h1 := h.col j hj i hi
 have e1 : pr (m2 F r r) (m2 O r r) r i j = dt (m2 F r r i) (fun t => ext0 (fun t => O (t * r + j)) r t) r := qa8 (fun t ht => by
  show _ = fm (m2 F r r i t) (if t < r then O (t * r + j) else 0)
  rw [if_pos ht, qaw _ ht hj])
 rw [e1, h1]
 unfold ext0 uj dl
 rw [if_pos hi]
 by_cases e : i = j
 ·rw [if_pos e, if_pos e.symm]
 ·rw [if_neg e, if_neg (fun h => e h.symm)]
theorem sol_col {F x : Nat → Nat} {r j : Nat} {O : Nat → Nat} (h : Sol (m2 F r r) r r (ext0 (uj j) r) x) (e : ∀ t, t < r → O (t * r + j) = x t) : Sol (m2 F r r) r r (ext0 (uj j) r) (fun t => ext0 (fun t => O (t * r + j)) r t) := fun i hi => by
 rw [← h i hi]
 exact qe4 (fun t ht => by unfold ext0; rw [if_pos ht]; exact e t ht)
theorem sol_same {F : Nat → Nat} {r u : Nat} {O O' : Nat → Nat} (h : Sol (m2 F r r) r r (ext0 (uj u) r) (fun t => ext0 (fun t => O (t * r + u)) r t)) (e : ∀ t, t < r → O' (t * r + u) = O (t * r + u)) : Sol (m2 F r r) r r (ext0 (uj u) r) (fun t => ext0 (fun t => O' (t * r + u)) r t) := fun i hi => by
 rw [← h i hi]
 exact qe4 (fun t ht => by unfold ext0; rw [if_pos ht, if_pos ht]; exact e t ht)
theorem qhp {t i u j r : Nat} (hu : u < r) (hj : j < r) (hne : ¬ (t = i ∧ u = j)) : t * r + u ≠ i * r + j := fun e => hne (by
 have h1 := congrArg (· / r) e
 have h2 := congrArg (· % r) e
 simp only [dm1 hu, dm1 hj, dm2 hu, dm2 hj] at h1 h2
 exact ⟨h1, h2⟩)
/-- What Inverse's loops keep. -/
structure VInv (w wr : World) (bo r n k g : Nat) (a : Option Addr) (O : Nat → Nat) : Prop where
 va : Vr wr w.heap.size (.int .i64 (r : Int)) (.int .i64 (r : Int)) (.slice a n k)
 vz : Vr wr (w.heap.size + 1) (.int .i64 0) (.int .i64 0) (.slice none 0 0)
 vo : Vr wr bo (.int .i64 (r : Int)) (.int .i64 (r : Int)) (.slice (some ⟨g, 0, none⟩) n n)
 row : RowAt wr g 5 n O
 low : w.heap.size + 1 < bo
 lowg : w.heap.size + 1 < g
 ne : bo ≠ g
 below : Below w.heap.size w wr
theorem VInv.later {w wr w' : World} {bo r n k g : Nat} {a : Option Addr} {O : Nat → Nat} (I : VInv w wr bo r n k g a O) (hb : Below wr.heap.size wr w') : VInv w w' bo r n k g a O :=
 ⟨I.va.later hb, I.vz.later hb, I.vo.later hb, I.row.later hb, I.low, I.lowg, I.ne, qa1 I.below hb⟩
theorem VInv.kept {w wr w' : World} {bo r n k g x : Nat} {a : Option Addr} {O : Nat → Nat} (I : VInv w wr bo r n k g a O) (hg : wr.grownBy w' (some x)) (h1 : w.heap.size + 1 < x) (h2 : bo ≠ x) (h3 : g ≠ x) : VInv w w' bo r n k g a O :=
 ⟨I.va.kept hg (by omega), I.vz.kept hg (by omega), I.vo.kept hg h2, I.row.kept hg h3, I.low, I.lowg, I.ne, qa2 I.below hg (by omega)⟩
theorem VInv.set {w wr : World} {bo r n k g q x : Nat} {a : Option Addr} {O : Nat → Nat} (I : VInv w wr bo r n k g a O) : VInv w (wr.setCell ⟨g, q, none⟩ (.int .u8 (x : Int))) bo r n k g a (fun t => if t = q then x else O t) := by
 have hg := qa3 wr g q (.int .u8 (x : Int))
 have h1 := I.lowg
 exact ⟨I.va.kept hg (by omega), I.vz.kept hg (by omega), I.vo.kept hg I.ne, I.row.set q x, I.low, I.lowg, I.ne, qa2 I.below hg (by omega)⟩
theorem rinvm_ok (w : World) (r n k : Nat) (a : Option Addr) (F : Nat → Nat) (ha : Mt w a n k F) (R : Rt r r n) (hk : Rk (m2 F r r) r r) :
  Calls Tryz.prog 117 #[mv r r a n k] w fun e w' => ∃ g O, e = .returned (.tuple #[mv r r (some ⟨g, 0, none⟩) n n, .int .i64 0]) ∧ RowAt w' g 5 n O ∧ w.heap.size ≤ g ∧ (∀ q, q < n → O q < 256) ∧ (∀ i j, i < r → j < r → pr (m2 F r r) (m2 O r r) r i j = dl i j) ∧ Below w.heap.size w w' := by
 obtain ⟨wb, HW, HX⟩ : ∃ wb, Hid (wb = (w.alloc (.cells #[.int .i64 (r : Int), .int .i64 (r : Int), .slice a n k] 24)).alloc (.cells #[.int .i64 0, .int .i64 0, .slice none 0 0] 24)) ∧ Hid (Box2 w wb r r n k a) := ⟨_, rfl, box2 w r r n k a⟩
 have HR : Hid (Rt r r n) := R
 have HSa : Hid (Mt w a n k F) := ha
 have HK : Hid (Rk (m2 F r r) r r) := hk
 have HEl : Hid (El2 (m2 F r r)) := qbu ha.sl.1 R
 have hn := R.le
 have hr := R.r64
 have v0 := HX.out.va.c0
 have v1 := HX.out.va.c1
 have v2 := HX.out.va.c2
 have hwb : w.heap.size + 1 < wb.heap.size := HX.out.vr.lt
 obtain ⟨i0, hi0, hz0, hz1, hz2⟩ := info_parts qcp
 have hml : r ≤ maxLen := by unfold maxLen; omega
 -- there is something that is sent to each unit list
 have HEx : Hid (∀ j, j < r → ∃ x, Sol (m2 F r r) r r (ext0 (uj j) r) x) := fun j hj => by
  obtain ⟨A, _, _, hA⟩ := qke HEl.out (fun i j _ h => qar F h) hk
  refine ⟨fun t => A t j, fun i hi => ?_⟩
  have := hA i j hi hj
  have e1 : dt (m2 F r r i) (fun t => A t j) r = pr (m2 F r r) A r i j := rfl
  rw [e1, this]
  unfold ext0 uj dl
  rw [if_pos hi]
  by_cases e : i = j
  ·rw [if_pos e, if_pos e.symm]
  ·rw [if_neg e, if_neg (fun h => e h.symm)]
 clear ha R hk
 go_enter Tryz.func117, Tryz.ntmps117
 go_wp2_with (first
  | (go_at_call 69; rw [← HW.out]; refine (qau _ _ _ _ _ _ HR.out.p).mono ?_; rintro e w1 ⟨rfl, hb1⟩; have HB1 : Hid (Below wb.heap.size wb w1) := hb1; have u0 := (HX.out.va.later hb1).c0; have u1 := (HX.out.va.later hb1).c1; have u2 := (HX.out.va.later hb1).c2; clear hb1)
  | (go_at_call 140; refine (rrank_ok _ r r n k a F (HSa.out.later (qa1 HX.out.below HB1.out)).sl HSa.out.nil HR.out).mono ?_; rintro e w2 ⟨t, rfl, hk2, hb2⟩; have et := (hk2.unique HK.out (SpEq.refl HEl.out _)).symm; subst et; have HB2 : Hid (Below wb.heap.size wb w2) := qa1 HB1.out hb2; have y0 := (HX.out.va.later HB2.out).c0; clear hk2 hb2)
  | (go_at_call 58; refine (qdi _ r r n hr hr HR.out.len).mono ?_; rintro e w3 ⟨g, rfl, hrow3, hg3, hb3⟩; have HB3 : Hid (Below wb.heap.size wb w3) := qa1 HB2.out hb3; have HRow3 : Hid (RowAt w3 g 5 n (fun _ => 0)) := hrow3; have HG3 : Hid (w2.heap.size ≤ g) := hg3; clear hrow3 hb3 hg3))
 have HV0 : Hid (VInv w (w3.alloc (.cells #[.int .i64 (r : Int), .int .i64 (r : Int), .slice (some ⟨g, 0, none⟩) n n] 24)) w3.heap.size r n k g a (fun _ => 0)) := by
  have h1 := HB2.out.size
  have h2 := HB3.out.size
  have h3 := HRow3.out.lt
  have h4 := HG3.out
  exact ⟨(HX.out.va.later HB3.out).later (qa0 _ _), (HX.out.vr.later HB3.out).later (qa0 _ _), Vr.new w3 _ _ _, HRow3.out.later (qa0 _ _), by omega, by omega, by omega, qa1 (qa1 HX.out.below HB3.out) (qa0 _ _)⟩
 have hg3 : g < w3.heap.size := HRow3.out.lt
 clear HW HX HB1 HB2 HB3 HRow3 HG3 v0 v1 v2 u0 u1 u2 y0 hwb
 go_loopw [7] (fun sj wr => ∃ (j : Nat) (O : Nat → Nat), j ≤ r ∧ sj = .int .i64 (j : Int) ∧ ColA F O r j ∧ VInv w wr w3.heap.size r n k g a O) (fun sj _ => r - (intOf sj).toNat)
 case atStart => exact ⟨0, fun _ => 0, by omega, rfl, ⟨fun _ _ => Nat.zero_lt_succ 255, fun u hu => by omega⟩, HV0.out⟩
 case round =>
  clear HV0
  obtain ⟨j, O, hjr, rfl, hC, I⟩ := hrel
  have HI : Hid (VInv w wr w3.heap.size r n k g a O) := I
  have HC : Hid (ColA F O r j) := hC
  have c0 := I.va.c0
  have c1 := I.va.c1
  have c2 := I.va.c2
  have kk : w3.heap.size < wr.heap.size := I.vo.lt
  have kl := I.low
  clear I hC
  by_cases hlt : j < r
  ·go_wp2_with (first
    | (at_make; refine wpList_make_full _ rfl _ _ 22 rfl wr.heap.size 5 i0 (.int .u8 0) 1 Tryz.underlying22 hi0 hz0 hz1 .i64 .i64 _ _ r rfl rfl rfl rfl (by rw [hz2]; omega) hml (Nat.le_refl _) ?_; intro w7 hown hgrow; have HR7 : Hid (RowAt w7 wr.heap.size 5 r (fun _ => 0)) := qcq hown; have HI7 : Hid (VInv w w7 w3.heap.size r n k g a O) := HI.out.later (qa6.mp hgrow); have hc7 := HR7.out.cell j hlt; have hf7 := HR7.out.free j; obtain ⟨W8, HW8⟩ : ∃ W, Hid (W = w7.setCell ⟨wr.heap.size, j, none⟩ (.int .u8 (1 : Int))) := ⟨_, rfl⟩; have HS8 : Hid (Sl W8 (some ⟨wr.heap.size, 0, none⟩) r (uj j)) := (by rw [HW8.out]; exact ((HR7.out.set j 1).congr (f' := uj j) (fun l _ => rfl)).sl (fun l _ => uj_lt j l)); have HI8 : Hid (VInv w W8 w3.heap.size r n k g a O) := (by rw [HW8.out]; exact HI7.out.kept (qa3 _ _ _ _) (by omega) (by omega) (by omega)); have q0 := HI8.out.va.c0; have q1 := HI8.out.va.c1; have q2 := HI8.out.va.c2; rw [HW8.out] at q0 q1 q2; clear hown hgrow)
    | (go_at_call 150; rw [← HW8.out]; refine (qiy _ r r n k r a _ F (uj j) (HSa.out.later HI8.out.below) HR.out HS8.out (HEx.out j hlt)).mono ?_; rintro e w9 ⟨s9, d9, x, rfl, ho9, hs9, hb9⟩; have HO9 : Hid (Ob w9 W8.heap.size (.slice s9 r d9) r x) := ho9; have HSol : Hid (SolA F (uj j) r r x) := hs9; have HI9 : Hid (VInv w w9 w3.heap.size r n k g a O) := HI8.out.later hb9; clear ho9 hs9 hb9))
   have N1 : Hid ((Value.slice s9 r d9).ownBlock ≠ some g) := fun e => by have h1 := (HO9.out.base e).1; have h2 := HI8.out.vo.lt; omega
   go_loopw [12] (fun si wi => ∃ (i : Nat) (O' : Nat → Nat), i ≤ r ∧ si = .int .i64 (i : Int) ∧ Hid (∀ t, t < i → O' (t * r + j) = x t) ∧ ColA F O' r j ∧ VInv w wi w3.heap.size r n k g a O' ∧ Ob wi W8.heap.size (.slice s9 r d9) r x) (fun si _ => r - (intOf si).toNat)
   case atStart => exact ⟨0, O, by omega, rfl, fun t ht => by omega, HC.out, HI9.out, HO9.out⟩
   case round =>
    clear HI9 HO9 HI8 HI7 HR7 HS8 HW8 HI HC q0 q1 q2 c0 c1 c2 hc7 hf7
    obtain ⟨i, O', hir, rfl, HT, hC, I, hO⟩ := hrel
    have HI : Hid (VInv w wr w3.heap.size r n k g a O') := I
    have HC : Hid (ColA F O' r j) := hC
    have HO : Hid (Ob wr W8.heap.size (.slice s9 r d9) r x) := hO
    have c0 := I.va.c0
    by_cases hlt2 : i < r
    ·obtain ⟨g9, eg⟩ := hO.some (by omega)
     subst eg
     have hxc := hO.cell hlt2
     obtain ⟨xi, HXI⟩ : ∃ z, Hid (x i = z) := ⟨_, rfl⟩
     rw [HXI.out] at hxc
     have hxi : xi < 256 := by rw [← HXI.out]; exact HSol.out.1 i
     obtain ⟨P, HP⟩ : ∃ z, Hid (i * r + j = z) := ⟨_, rfl⟩
     have hpn : P < n := by rw [← HP.out]; exact HR.out.at hlt2 hlt
     have HRow : Hid (RowAt wr g 5 n O') := I.row
     have e1 : ((i : Int) * (r : Int)) = ((i * r : Nat) : Int) := by simp
     have hmp : i * r ≤ P := by rw [← HP.out]; omega
     have w1' : IntKind.i64.wrap ((i : Int) * (r : Int)) = (i : Int) * (r : Int) := by rw [e1, IntKind.wrap_i64]; omega
     have w2' : IntKind.i64.wrap ((i : Int) * (r : Int) + (j : Int)) = (P : Int) := by rw [e1, IntKind.wrap_i64]; have := HP.out; omega
     have p0 : (0 : Int) ≤ (P : Int) := by omega
     have p1 : (P : Int) < (n : Int) := by omega
     have p2 : (0 : Int) ≤ (i : Int) := by omega
     have p3 : (i : Int) < (r : Int) := by omega
     have HD : Hid (wr.drew.cell? ⟨w.heap.size, 0, none⟩ = some (.int .i64 (r : Int)) ∧ wr.drew.cell? ⟨w3.heap.size, 2, none⟩ = some (.slice (some ⟨g, 0, none⟩) n n) ∧ wr.drew.cell? ⟨g9, i, none⟩ = some (.int .u8 (xi : Int))) := ⟨c0, I.vo.c2, hxc⟩
     clear I hO hC e1 hxc
     go_wp2
     refine qac (k := 13) (n := 13) (fun w' => w'.cell? ⟨w.heap.size, 0, none⟩ = some (.int .i64 (r : Int)) ∧ w'.cell? ⟨w3.heap.size, 2, none⟩ = some (.slice (some ⟨g, 0, none⟩) n n) ∧ w'.cell? ⟨g9, i, none⟩ = some (.int .u8 (xi : Int))) (by kernel_rfl) (by kernel_rfl) (by decide) (by rfl) ?_
     refine wtkq 0 ?v0 rfl (by kernel_rfl) (fun _ _ _ h => h) (by rfl) ?y0 HD.out ?z0
     case y0 => (intro w hSw; (try dsimp only at hSw); go_simp; try with_reducible rfl)
     try simp only [mz1, mz3, Act.put, mz4, mz5, mz6]
     refine wtkq 1 ?v1 rfl (by kernel_rfl) (fun _ _ _ h => h) (by rfl) ?y1 HD.out ?z1
     case y1 => (intro w hSw; (try dsimp only at hSw); go_simp; try with_reducible rfl)
     try simp only [mz1, mz2, mz3, Act.put, mz4, mz5, mz6]
     refine wtkq 2 ?v2 rfl (by kernel_rfl) (fun _ _ _ h => h) (by rfl) ?y2 HD.out ?z2
     case y2 => (intro w hSw; (try dsimp only at hSw); go_simp; try with_reducible rfl)
     try simp only [mz1, mz2, mz3, Act.put, mz4, mz5, mz6]
     refine wtkq 3 ?v3 rfl (by kernel_rfl) (fun _ _ _ h => h) (by rfl) ?y3 HD.out ?z3
     case y3 => (intro w hSw; (try dsimp only at hSw); go_simp; try with_reducible rfl)
     try simp only [mz1, mz2, mz3, Act.put, mz4, mz5, mz6]
     refine wtkq 4 ?v4 rfl (by kernel_rfl) (fun _ _ _ h => h) (by rfl) ?y4 HD.out ?z4
     case y4 => (intro w hSw; (try dsimp only at hSw); go_simp; try with_reducible rfl)
     try simp only [mz1, mz2, mz3, Act.put, mz4, mz5, mz6]
     refine wtkq 5 ?v5 rfl (by kernel_rfl) (fun _ _ _ h => h) (by rfl) ?y5 HD.out ?z5
     case y5 => (intro w hSw; (try dsimp only at hSw); go_simp; try with_reducible rfl)
     try simp only [mz1, mz2, mz3, Act.put, mz4, mz5, mz6]
     refine wtkq 6 ?v6 rfl (by kernel_rfl) (fun _ _ _ h => h) (by rfl) ?y6 HD.out ?z6
     case y6 => (intro w hSw; (try dsimp only at hSw); go_simp; try with_reducible rfl)
     try simp only [mz1, mz2, mz3, Act.put, mz4, mz5, mz6]
     refine wtkq 7 ?v7 rfl (by kernel_rfl) (fun _ _ _ h => h) (by rfl) ?y7 HD.out ?z7
     case y7 => (intro w hSw; (try dsimp only at hSw); go_simp; try with_reducible rfl)
     try simp only [mz1, mz2, mz3, Act.put, mz4, mz5, mz6]
     refine wtkq 8 ?v8 rfl (by kernel_rfl) (fun _ _ _ h => h) (by rfl) ?y8 HD.out ?z8
     case y8 => (intro w hSw; (try dsimp only at hSw); go_simp; try with_reducible rfl)
     try simp only [mz1, mz2, mz3, Act.put, mz4, mz5, mz6]
     refine wtkq 9 ?v9 rfl (by kernel_rfl) (fun _ _ _ h => h) (by rfl) ?y9 HD.out ?z9
     case y9 => (intro w hSw; (try dsimp only at hSw); go_simp; try with_reducible rfl)
     try simp only [mz1, mz2, mz3, Act.put, mz4, mz5, mz6]
     refine wtkq 10 ?v10 rfl (by kernel_rfl) (fun _ _ _ h => h) (by rfl) ?y10 HD.out ?z10
     case y10 => (intro w hSw; (try dsimp only at hSw); go_simp; try with_reducible rfl)
     try simp only [mz1, mz2, mz3, Act.put, mz4, mz5, mz6]
     refine wtkq 11 ?v11 rfl (by kernel_rfl) (fun _ _ _ h => h) (by rfl) ?y11 HD.out ?z11
     case y11 => (intro w hSw; (try dsimp only at hSw); go_simp; try with_reducible rfl)
     try simp only [mz1, mz2, mz3, Act.put, mz4, mz5, mz6]
     refine wtkq 12 ?v12 rfl (by kernel_rfl) (fun _ _ _ h => h) (by rfl) ?y12 HD.out ?z12
     case y12 => (intro w hSw; (try dsimp only at hSw); go_simp; try with_reducible rfl)
     try simp only [mz1, mz2, mz3, Act.put, mz4, mz5, mz6]
     refine wpAnyH_done (by kernel_rfl) ?_ _
     have hcl : wr.drew.cell? ⟨g, P, none⟩ = some (.int .u8 ((O' P : Nat) : Int)) := HRow.out.cell P hpn
     have hfl : wr.drew.frozen? ⟨g, P, none⟩ = false := HRow.out.free P
     refine qav rfl (fun K hK => ?_)
     go_simp
     refine hK.out _ _ ?_
     clear hK K
     try simp only [mz1, mz2, mz3, Act.put, mz4, mz5, mz6]
     go_wp2
     refine ⟨⟨i + 1, fun t => if t = P then xi else O' t, by omega, by go_num, fun t ht => ?_, ⟨fun q hq => ?_, fun u hu => sol_same (O' := fun t => if t = P then xi else O' t) (HC.out.col u hu) (fun t ht => ?_)⟩, (HI.out.later (Below.refl _ _).drew).set, (HO.out.later (Below.refl _ _).drew).kept (qa3 _ _ _ _) (.inr N1.out)⟩, by simp [intOf]; omega⟩
     ·show (if t * r + j = P then xi else O' (t * r + j)) = x t
      by_cases e : t = i
      ·rw [e, if_pos HP.out, HXI.out]
      ·rw [if_neg (by rw [← HP.out]; exact qhp hlt hlt (fun h => e h.1))]
       exact HT.out t (by omega)
     ·show (if q = P then xi else O' q) < 256
      split
      ·exact hxi
      ·exact HC.out.el q hq
     ·show (if t * r + u = P then xi else O' (t * r + u)) = _
      rw [if_neg (by rw [← HP.out]; exact qhp (by omega) hlt (fun h => by omega))]
    ·have HIT : Hid (i = r) := Nat.le_antisymm hir (by omega)
     clear I hO hC
     go_wp2
     refine ⟨⟨j + 1, O', by omega, by go_num, ⟨HC.out.el, fun u hu => ?_⟩, HI.out⟩, by simp [intOf]; omega⟩
     by_cases e : u = j
     ·subst e
      exact sol_col HSol.out.2.1 (fun t ht => HT.out t (by rw [HIT.out]; exact ht))
     ·exact HC.out.col u (by omega)
  ·have HJR : Hid (j = r) := Nat.le_antisymm hjr (by omega)
   have HVz : Hid (Vr wr (w.heap.size + 1) (.int .i64 0) (.int .i64 0) (.slice none 0 0)) := HI.out.vz
   have o0 := HI.out.vo.c0
   have o1 := HI.out.vo.c1
   have o2 := HI.out.vo.c2
   go_wp2_with (refine qa5 rfl _ _ rfl (w.heap.size + 1) _ _ _ (.int .i64 (r : Int)) (.int .i64 (r : Int)) (.slice (some ⟨g, 0, none⟩) n n) rfl rfl HVz.out rfl rfl rfl ?_; intro w4 HV4 HG4)
   have d0 := HV4.out.c0
   have d1 := HV4.out.c1
   have d2 := HV4.out.c2
   refine bodyPost_ret (v := .tuple #[mv r r (some ⟨g, 0, none⟩) n n, .int .i64 0]) (by simp [results, Tryz.results117, go_sem, d0, d1, d2, mv]) rfl ?_
   have J := HI.out
   have hC := HC.out
   rw [HJR.out] at hC
   have hlg := J.lowg
   exact ⟨g, O, rfl, J.row.kept HG4.out (by omega), by omega, fun q hq => hC.el q (by rw [HR.out.len]; exact hq), cola_end hC, qa2 J.below HG4.out (by omega)⟩
end Go.Proofs.YtnfbbddoaeofgaaGreat
