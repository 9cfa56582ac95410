/-
  The reference's Next: what its loop knows; of.
  Sets of a matrix's rows, each as a number whose bits say which rows it has: what they span, their ranks, bases and circuits. No Go in sight.
  Contracts of the rows' reference: bad, rank, Rank, Free, Covers.
  Contracts of the rows' reference: Rank, Free, Covers.
  Contracts of the rows' reference: Span, Basis, Needed.
  Contract of the rows' reference: Circuit.
  What the program's matroid rests on: spans told by kernels, rows of noughts, factors of combinations. No Go in sight.
  Groups that hang together: allNought, hang.
-/
import Derived.Test.YtnfbbddoaeofgaaGreatQssms00
import Derived.Test.YtnfbbddoaeofgaaGreatQssms25
import Derived.Test.YtnfbbddoaeofgaaGreatQssms15
import Derived.Test.YtnfbbddoaeofgaaGreatQssms24
import Derived.Test.YtnfbbddoaeofgaaGreatQssms18
import Derived.Test.YtnfbbddoaeofgaaGreatQssms09
import Derived.Test.YtnfbbddoaeofgaaGreatQssms28
import Derived.Test.YtnfbbddoaeofgaaGreatQssms35
import Derived.Test.YtnfbbddoaeofgaaGreatQssms22
import Derived.Test.YtnfbbddoaeofgaaGreatQssms47
import Derived.Test.YtnfbbddoaeofgaaGreatQssms37
import Derived.Test.YtnfbbddoaeofgaaGreatQssms13
import Derived.Test.YtnfbbddoaeofgaaGreatQssms12
set_option maxRecDepth 100000
set_option maxHeartbeats 16000000
namespace Go.Proofs.YtnfbbddoaeofgaaGreat
theorem qdy (s i : Nat) : bt s i = 1 ↔ s.testBit i = true := by
 rw [Nat.testBit_eq_decide_div_mod_eq]
 simp [bt]
theorem bt_and (s t i : Nat) : bt (s &&& t) i = 1 ↔ bt s i = 1 ∧ bt t i = 1 := by
 rw [qdy, qdy, qdy, Nat.testBit_and]
 simp
theorem bt_pow (i j : Nat) : bt (2 ^ i) j = 1 ↔ j = i := by
 rw [qdy, Nat.testBit_two_pow]
 simp [eq_comm]
theorem bt_big {s n i : Nat} (h : s < 2 ^ n) (hi : n ≤ i) : bt s i = 0 := by
 unfold bt
 rw [Nat.div_eq_of_lt (Nat.lt_of_lt_of_le h (Nat.pow_le_pow_right (by decide) hi))]
theorem bt_diff {s t : Nat} (hs : s < 2 ^ 64) (ht : t < 2 ^ 64) (i : Nat) : bt (s &&& (18446744073709551615 - t)) i = 1 ↔ bt s i = 1 ∧ ¬ bt t i = 1 := by
 rw [bt_and]
 by_cases hi : i < 64
 ·have e : (18446744073709551615 : Nat) - t = 2 ^ 64 - (t + 1) := by omega
  rw [e, qdy (2 ^ 64 - (t + 1)), Nat.testBit_two_pow_sub_succ ht, qdy t]
  simp [hi]
 ·have h1 := bt_big hs (show 64 ≤ i by omega)
  constructor
  ·rintro ⟨h, _⟩; omega
  ·rintro ⟨h, _⟩; omega
theorem lf_cn {s R i : Nat} (hi : i < R) (h : bt s i = 1) : cn s i < cn s R ∧ lf s R (cn s i) = i := by
 have h1 := qaz i s
 have h2 := qbn (s := s) (show i + 1 ≤ R by omega)
 have h3 : cn s i < cn s R := by omega
 obtain ⟨a, b, c⟩ := qb1 h3
 refine ⟨h3, ?_⟩
 rcases Nat.lt_trichotomy (lf s R (cn s i)) i with h4 | h4 | h4
 ·have h5 := qaz (lf s R (cn s i)) s
  have h6 := qbn (s := s) (show lf s R (cn s i) + 1 ≤ i by omega)
  omega
 ·exact h4
 ·have h6 := qbn (s := s) (show i + 1 ≤ lf s R (cn s i) by omega)
  omega
/-- The rows of a set, the others noughts. -/
def mk (M : Nat → Nat → Nat) (s i j : Nat) : Nat := if bt s i = 1 then M i j else 0
theorem mk_el {M : Nat → Nat → Nat} (hM : El2 M) (s : Nat) : El2 (mk M s) := fun i j => by unfold mk; split; exact hM i j; decide
theorem mk_in {M : Nat → Nat → Nat} {s i : Nat} (h : bt s i = 1) : mk M s i = M i := funext fun _ => if_pos h
theorem mk_out {M : Nat → Nat → Nat} {s i : Nat} (h : ¬ bt s i = 1) : mk M s i = fun _ => 0 := funext fun _ => if_neg h
/-- A combination of the rows of a set. -/
def SS (M : Nat → Nat → Nat) (R s : Nat) (y : Nat → Nat) : Prop := Spn (mk M s) R y
theorem qgm {M : Nat → Nat → Nat} (hM : El2 M) {R s i : Nat} (hi : i < R) (h : bt s i = 1) : SS M R s (M i) := by
 have h1 := qae (mk_el hM s) hi
 rw [mk_in h] at h1
 exact h1
theorem ss_le {M N : Nat → Nat → Nat} {R s r : Nat} (h : ∀ i, i < R → bt s i = 1 → Spn N r (M i)) : Le (mk M s) R N r := fun i hi => by
 by_cases hb : bt s i = 1
 ·rw [mk_in hb]; exact h i hi hb
 ·rw [mk_out hb]; exact qcp N r
theorem ss_sub {M : Nat → Nat → Nat} (hM : El2 M) {R s t : Nat} (h : ∀ i, i < R → bt s i = 1 → bt t i = 1) : Le (mk M s) R (mk M t) R := ss_le (fun i hi hb => qgm hM hi (h i hi hb))
theorem SS.sub {M : Nat → Nat → Nat} (hM : El2 M) {R s t : Nat} {y : Nat → Nat} (hy : SS M R s y) (h : ∀ i, i < R → bt s i = 1 → bt t i = 1) : SS M R t y := Spn.trans hy (ss_sub hM h)
theorem SS.congr {M : Nat → Nat → Nat} (hM : El2 M) {R s t : Nat} {y : Nat → Nat} (h : SS M R s y) (e : ∀ i, i < R → (bt s i = 1 ↔ bt t i = 1)) : SS M R t y := h.sub hM (fun i hi hb => (e i hi).1 hb)
/-- A set without one number. -/
def rem (s i : Nat) : Nat := s &&& (2 ^ 64 - 1 - 2 ^ i)
theorem bt_rem {s i : Nat} (hs : s < 2 ^ 64) (hi : i < 64) (j : Nat) : bt (rem s i) j = 1 ↔ bt s j = 1 ∧ j ≠ i := by
 have h1 : 2 ^ i < 2 ^ 64 := Nat.pow_lt_pow_right (by decide) hi
 have h2 := bt_diff hs h1 j
 rw [bt_pow] at h2
 exact h2
open Go.RowKit
theorem dt_comm7 {x y : Nat → Nat} (hx : El x) (hy : El y) (c : Nat) : dt x y c = dt y x c := qa6 (fun l _ => qac _ _ (hx l) (hy l))
theorem qjj {G PF : Nat → Nat} {K c : Nat} (hS : SpEq (m2 G K c) K (m2 PF K c) K) : El2 (m2 G K c) := fun i j => by
 by_cases hi : i < K
 ·exact (hS.1 i hi).el j
 ·rw [m2_low _ (by omega)]; decide
/-- A list is a combination of some rows just if its Dots with the kernel's lists are 0. -/
theorem ker_dots {PF G H p : Nat → Nat} {K c kr top : Nat} (hR : Rdf (m2 G K c) K top p) (hS : SpEq (m2 G K c) K (m2 PF K c) K) (hc : ∀ i, i < top → p i < c) (ek : kr = cnt (fre p top) c)
  (eH : ∀ u l, u < kr → l < c → H (u * c + l) = kv (m2 G K c) p top (nth (fre p top) c u) l) {y : Nat → Nat} (hy : El y) (h0 : ∀ j, c ≤ j → y j = 0) :
  Spn (m2 PF K c) K y ↔ ∀ u, u < kr → xs (fun l => fm (y l) (H (u * c + l))) c = 0 := by
 have hG := qjj hS
 have key : ∀ u, u < kr → xs (fun l => fm (y l) (H (u * c + l))) c = dt (kv (m2 G K c) p top (nth (fre p top) c u)) y c := fun u hu => by
  rw [dt_comm7 (qhp hG p top _) hy]
  exact qa6 (fun l hl => by rw [eH u l hu hl])
 constructor
 ·intro h u hu
  rw [key u hu]
  obtain ⟨a, b, _⟩ := qbc (fre p top) c u (by omega)
  exact qie hG hR hc (Spn.trans h hS.2) a (by simpa [fre] using b)
 ·intro h
  refine Spn.trans (chk_span hG hR hc (fun i j _ hj => qc9 _ hj) hy h0 (fun f hf hp => ?_)) hS.1
  have hfr : fre p top f = true := by simp [fre, hp]
  have h1 := cnt_lt hf hfr
  have h2 := h (cnt (fre p top) f) (by omega)
  rw [key _ (by omega), qfa hf hfr] at h2
  exact h2
/-- Column j of the kernel has noughts alone just if the rows' span has the list that is 1 there and 0 elsewhere. -/
theorem qjk {PF G H p : Nat → Nat} {K c kr top : Nat} (hR : Rdf (m2 G K c) K top p) (hS : SpEq (m2 G K c) K (m2 PF K c) K) (hc : ∀ i, i < top → p i < c) (ek : kr = cnt (fre p top) c)
  (eH : ∀ u l, u < kr → l < c → H (u * c + l) = kv (m2 G K c) p top (nth (fre p top) c u) l) {j : Nat} (hj : j < c) :
  Spn (m2 PF K c) K (dl j) ↔ ∀ u, u < kr → H (u * c + j) = 0 := by
 rw [ker_dots hR hS hc ek eH (dl_el j) (fun l hl => qdi (by omega))]
 have hG := qjj hS
 have key : ∀ u, u < kr → xs (fun l => fm (dl j l) (H (u * c + l))) c = H (u * c + j) := fun u hu => by
  rw [qas hj (fun l _ hne => by rw [qdi hne, qa9]), qb6, eH u j hu hj, qao _ (qhp hG p top _ j)]
 exact ⟨fun h u hu => by rw [← key u hu]; exact h u hu, fun h u hu => by rw [key u hu]; exact h u hu⟩
/-- A combination that comes to noughts, in which the row i of s has a factor that is not 0: the row is a combination of the others. -/
theorem dep_ss {M : Nat → Nat → Nat} (hM : El2 M) {R s i : Nat} (hR : R ≤ 64) (hs : s < 2 ^ R) (hi : i < R) (hb : bt s i = 1) {x : Nat → Nat} (hx : El x) (h0 : ∀ j, lc x (fun t => M (lf s R t)) (cn s R) j = 0) (hne : x (cn s i) ≠ 0) : SS M R (rem s i) (M i) := by
 have hs64 := lt_64 hR hs
 obtain ⟨hK, hlf⟩ := lf_cn hi hb
 have h1 : Spn (mk M (rem s i)) R (lc (fun t => if t = cn s i then 0 else x t) (fun t => M (lf s R t)) (cn s R)) := qfb (fun t => by show (if t = cn s i then 0 else x t) < 256; split; decide; exact hx t) (fun t ht hnz => by
  by_cases e : t = cn s i
  ·rw [if_pos e] at hnz; exact absurd rfl hnz
  ·obtain ⟨a, b, c⟩ := qb1 ht
   exact qgm hM a ((bt_rem hs64 (by omega) _).2 ⟨b, fun e2 => e (by rw [← c, e2])⟩))
 have h2 : ∀ j, lc (fun t => if t = cn s i then 0 else x t) (fun t => M (lf s R t)) (cn s R) j = fm (x (cn s i)) (M i j) := fun j => by
  have e1 : lc x (fun t => M (lf s R t)) (cn s R) j = lc (fun t => (if t = cn s i then x (cn s i) else 0) ^^^ (if t = cn s i then 0 else x t)) (fun t => M (lf s R t)) (cn s R) j := qav (fun t _ => by
   by_cases e : t = cn s i
   ·rw [if_pos e, if_pos e, Nat.xor_zero, e]
   ·rw [if_neg e, if_neg e, Nat.zero_xor]) (fun _ _ => rfl)
  have e2 := h0 j
  rw [e1, lc_add (fun t => by show (if t = cn s i then x (cn s i) else 0) < 256; split; exact hx _; decide) (fun t => by show (if t = cn s i then 0 else x t) < 256; split; decide; exact hx t)] at e2
  rw [← qhl e2]
  unfold lc
  rw [qas hK (fun k _ hk => by show fm (if k = cn s i then x (cn s i) else 0) _ = 0; rw [if_neg hk, qa9])]
  show fm (if cn s i = cn s i then x (cn s i) else 0) (M (lf s R (cn s i)) j) = _
  rw [if_pos rfl, hlf]
 refine (qbb (qal (x (cn s i))) h1).congr (fun j => ?_)
 rw [h2 j, ← qaf _ _ _ (qal _) (hx _), qac _ _ (qal _) (hx _), qba _ (hx _) hne, qao _ (hM i j)]
/-- A row is needed just if its factors in the combinations that come to noughts are 0. -/
theorem qgn {F G H p : Nat → Nat} {r c n s i kr top : Nat} (hF : ∀ i, i < n → F i < 256) (R : Rt r c n) (hs : s < 2 ^ r) (hi : i < r) (hb : bt s i = 1)
  (hR : Rdf (m2 G c (cn s r)) c top p) (hS : SpEq (m2 G c (cn s r)) c (m2 (trf (pkf F (lf s r) c) (cn s r) c) c (cn s r)) c) (hc : ∀ i, i < top → p i < cn s r) (ek : kr = cnt (fre p top) (cn s r))
  (eH : ∀ u l, u < kr → l < cn s r → H (u * cn s r + l) = kv (m2 G c (cn s r)) p top (nth (fre p top) (cn s r) u) l) :
  (∀ u, u < kr → H (u * cn s r + cn s i) = 0) ↔ ¬ SS (m2 F r c) r (rem s i) (m2 F r c i) := by
 have hM := qci hF R
 have hr64 := R.r64
 have hs64 := lt_64 R.r64 hs
 have hG := qjj hS
 obtain ⟨hK, hlf⟩ := lf_cn hi hb
 have eT : ∀ j u, j < c → u < cn s r → m2 (trf (pkf F (lf s r) c) (cn s r) c) c (cn s r) j u = m2 F r c (lf s r u) j := fun j u hj hu => qh4 F (fun t ht => (qb1 ht).1) j u hj hu
 have hT : El2 (m2 (trf (pkf F (lf s r) c) (cn s r) c) c (cn s r)) := fun j u => by
  by_cases hj : j < c
  ·by_cases hu : u < cn s r
   ·rw [eT j u hj hu]; exact hM _ _
   ·rw [qc9 _ (by omega)]; decide
  ·rw [m2_low _ (by omega)]; decide
 rw [← qjk hR hS hc ek eH hK]
 constructor
 ·rintro ⟨b, hbe, e⟩ hss
  have hdot : ∀ u, u < cn s r → dt (m2 F r c (lf s r u)) b c = dl (cn s i) u := fun u hu => by
   rw [e u]
   exact qa6 (fun j hj => by rw [eT j u hj hu]; exact qac _ _ (hM _ _) (hbe j))
  have h1 : dt (m2 F r c i) b c = 1 := by
   have := hdot _ hK
   rw [hlf, qb6] at this
   exact this
  have h2 : dt (m2 F r c i) b c = 0 := qfc (mk_el hM _) hss (fun j hj => by
   by_cases hbj : bt (rem s i) j = 1
   ·rw [mk_in hbj]
    obtain ⟨h3, h4⟩ := (bt_rem hs64 (by omega) j).1 hbj
    obtain ⟨h5, h6⟩ := lf_cn hj h3
    have h7 := hdot _ h5
    rw [h6] at h7
    rw [h7]
    refine qdi (fun e => h4 ?_)
    rw [← h6, e, hlf]
   ·rw [mk_out hbj]
    exact qad (fun l _ => qa9 _))
  omega
 ·intro hn
  rw [qjk hR hS hc ek eH hK]
  intro u hu
  apply Classical.byContradiction
  intro hne
  obtain ⟨a, b, _⟩ := qbc (fre p top) (cn s r) u (by omega)
  have hk0 := hR.kv hG hc (f := nth (fre p top) (cn s r) u) (by simpa [fre] using b) a
  have hx := qhp hG p top (nth (fre p top) (cn s r) u)
  rw [eH u _ hu hK] at hne
  refine hn (dep_ss hM R.r64 hs hi hb hx (fun j => ?_) hne)
  by_cases hj : j < c
  ·have h1 : dt (m2 (trf (pkf F (lf s r) c) (cn s r) c) c (cn s r) j) (kv (m2 G c (cn s r)) p top (nth (fre p top) (cn s r) u)) (cn s r) = 0 := qfc hG (hS.2 j hj) hk0
   rw [← h1]
   exact qa6 (fun t ht => by rw [eT j t hj ht]; exact qac _ _ (hx t) (hM _ _))
  ·exact qad (fun t _ => by show fm _ (m2 F r c (lf s r t) j) = 0; rw [qc9 _ (by omega), qaa])
open Go.RowKit
/-- A group hangs together: it has only numbers of rows, each a combination of the others. -/
def HangP (F : Nat → Nat) (r c s : Nat) : Prop := s < 2 ^ r ∧ ∀ i, i < r → bt s i = 1 → SS (m2 F r c) r (rem s i) (m2 F r c i)
theorem qhe (w : World) (kr c N d j : Nat) (a : Option Addr) (H : Nat → Nat) (ha : Mt w a N d H) (R : Rt kr c N) (hj : j < c) (b : Bool) (hb : b = true ↔ ∀ u, u < kr → H (u * c + j) = 0) :
  Calls Tryz.prog 137 #[mv kr c a N d, .int .i64 (j : Int)] w fun e w' => e = .returned (.bool b) ∧ Below w.heap.size w w' := by
 have HR : Hid (Rt kr c N) := R
 have hN := R.le
 have hkr := R.r64
 have hc64 := R.c64
 obtain ⟨wb, HW⟩ : ∃ wb, Hid (w.alloc (.cells #[.int .i64 (kr : Int), .int .i64 (c : Int), .slice a N d] 68) = wb) := ⟨_, rfl⟩
 have HB0 : Hid (Below w.heap.size w wb) := by rw [← HW.out]; exact qa1 _ _
 have HV : Hid (Vq wb w.heap.size 68 #[.int .i64 (kr : Int), .int .i64 (c : Int), .slice a N d]) := by rw [← HW.out]; exact Vq.new w _ _
 have HM : Hid (Mt wb a N d H) := ha.later HB0.out
 have HBb : Hid (b = true ↔ ∀ u, u < kr → H (u * c + j) = 0) := hb
 clear ha R hb
 go_enter Tryz.func137, Tryz.ntmps137
 go_wp2
 rw [HW.out]
 go_loopw [5, 9] (fun _ vi wr => ∃ u : Nat, u ≤ kr ∧ vi = .int .i64 (u : Int) ∧ (∀ v, v < u → H (v * c + j) = 0) ∧ Below wb.heap.size wb wr) (fun _ vi _ => kr - (intOf vi).toNat)
 case atStart => exact ⟨0, by omega, rfl, fun v hv => by omega, Below.refl _ _⟩
 case round =>
  obtain ⟨u, hu, rfl, h0, hbr⟩ := hrel
  have H0 : Hid (∀ v, v < u → H (v * c + j) = 0) := h0
  have HB : Hid (Below wb.heap.size wb wr) := hbr
  have v0 := (HV.out.later hbr).cell 0 _ rfl
  have v1 := (HV.out.later hbr).cell 1 _ rfl
  have v2 := (HV.out.later hbr).cell 2 _ rfl
  have HMr : Hid (Mt wr a N d H) := HM.out.later hbr
  clear h0 hbr
  by_cases hlt : u < kr
  ·obtain ⟨p, HP⟩ : ∃ p, Hid (u * c = p) := ⟨_, rfl⟩
   have HF : Hid (p + c ≤ N) := by have := HR.out.fit hlt; rw [HP.out] at this; exact this
   obtain ⟨s, HS⟩ : ∃ s, Hid (pc a p c = s) := ⟨_, rfl⟩
   obtain ⟨bb, o, es, hcell⟩ := (HMr.out.piece HF.out).2 j hj
   rw [HS.out] at es
   obtain ⟨y, HY⟩ : ∃ y, Hid (H (p + j) = y) := ⟨_, rfl⟩
   have hc2 : wr.cell? ⟨bb, o + j, none⟩ = some (.int .u8 (y : Int)) := by rw [← HY.out]; exact hcell
   have j0 : (0 : Int) ≤ (j : Int) := Int.natCast_nonneg _
   have j1 : (j : Int) < (c : Int) := by omega
   subst es
   clear hcell
   by_cases hy : y = 0
   ·have gy : ((y : Int) != 0) = false := by simp [hy]
    have HN : Hid (∀ v, v < u + 1 → H (v * c + j) = 0) := fun v hv => by
     by_cases e : v = u
     ·subst e; rw [HP.out, HY.out]; exact hy
     ·exact H0.out v (by omega)
    clear hy
    go_wp2_with (go_at_call 84; refine (qfn _ _ c N d u p a (some ⟨bb, o, none⟩) HMr.out.nil HMr.out.room HF.out hN (by omega) HP HS).mono ?_; rintro e w1 ⟨rfl, hb1⟩; have HB1 : Hid (Below wb.heap.size wb w1) := qa2 HB.out hb1; have hc3 := keepc hb1 hc2; clear hb1)
    exact ⟨⟨u + 1, by omega, by go_num, HN.out, HB1.out⟩, by simp [intOf]; omega⟩
   ·have gy : ((y : Int) != 0) = true := by simp; omega
    obtain rfl : b = false := by
     cases b with
     | false => rfl
     | true => exact absurd (HBb.out.1 rfl u hlt) (by rw [HP.out, HY.out]; exact hy)
    clear hy HBb
    go_wp2_with (go_at_call 84; refine (qfn _ _ c N d u p a (some ⟨bb, o, none⟩) HMr.out.nil HMr.out.room HF.out hN (by omega) HP HS).mono ?_; rintro e w1 ⟨rfl, hb1⟩; have HB1 : Hid (Below wb.heap.size wb w1) := qa2 HB.out hb1; have hc3 := keepc hb1 hc2; clear hb1)
    go_ret
    exact ⟨rfl, qa2 HB0.out HB1.out⟩
  ·obtain rfl : u = kr := by omega
   obtain rfl : b = true := HBb.out.2 H0.out
   clear HBb
   go_wp2
   go_ret
   exact ⟨rfl, qa2 HB0.out HB.out⟩
theorem hang_in {F G H p : Nat → Nat} {r c n s kr top : Nat} (hF : ∀ i, i < n → F i < 256) (R : Rt r c n) (hs : s < 2 ^ r)
  (hR : Rdf (m2 G c (cn s r)) c top p) (hS : SpEq (m2 G c (cn s r)) c (m2 (trf (pkf F (lf s r) c) (cn s r) c) c (cn s r)) c) (hc : ∀ i, i < top → p i < cn s r) (ek : kr = cnt (fre p top) (cn s r))
  (eH : ∀ u l, u < kr → l < cn s r → H (u * cn s r + l) = kv (m2 G c (cn s r)) p top (nth (fre p top) (cn s r) u) l) :
  HangP F r c s ↔ ∀ t, t < cn s r → ¬ ∀ u, u < kr → H (u * cn s r + t) = 0 := by
 constructor
 ·rintro ⟨_, h⟩ t ht h0
  obtain ⟨a1, a2, a3⟩ := qb1 ht
  exact (qgn hF R hs a1 a2 hR hS hc ek eH).1 (by rw [a3]; exact h0) (h _ a1 a2)
 ·intro h
  refine ⟨hs, fun i hi hb => ?_⟩
  have ht : cn s i < cn s r := by
   have := qbn (s := s) (show i + 1 ≤ r by omega)
   rw [qaz, hb] at this
   omega
  by_cases hss : SS (m2 F r c) r (rem s i) (m2 F r c i)
  ·exact hss
  ·exact absurd ((qgn hF R hs hi hb hR hS hc ek eH).2 hss) (h _ ht)
end Go.Proofs.YtnfbbddoaeofgaaGreat
