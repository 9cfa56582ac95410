/-
  What the program's matroid rests on: spans told by kernels, rows of noughts, factors of combinations. No Go in sight.
  Groups that hang together: allNought, hang.
  Groups that hang together: hang.
-/
import Derived.Test.YtlmanliinncdiaaGreatQggps00
import Derived.Test.YtlmanliinncdiaaGreatQggps33
import Derived.Test.YtlmanliinncdiaaGreatQggps40
import Derived.Test.YtlmanliinncdiaaGreatQggps27
import Derived.Test.YtlmanliinncdiaaGreatQggps47
import Derived.Test.YtlmanliinncdiaaGreatQggps44
import Derived.Test.YtlmanliinncdiaaGreatQggps41
import Derived.Test.YtlmanliinncdiaaGreatQggps30
import Derived.Test.YtlmanliinncdiaaGreatQggps29
set_option maxRecDepth 100000
set_option maxHeartbeats 16000000
namespace Go.Proofs.YtlmanliinncdiaaGreat
open Go.RowKit
theorem dt_comm7 {x y : Nat → Nat} (hx : El x) (hy : El y) (c : Nat) : dt x y c = dt y x c := qa5 (fun l _ => qac _ _ (hx l) (hy l))
theorem qiv {G PF : Nat → Nat} {K c : Nat} (hS : SpEq (m2 G K c) K (m2 PF K c) K) : El2 (m2 G K c) := fun i j => by
 by_cases hi : i < K
 ·exact (hS.1 i hi).el j
 ·rw [m2_low _ (by omega)]; decide
/-- A list is a combination of some rows just if its Dots with the kernel's lists are 0. -/
theorem ker_dots {PF G H p : Nat → Nat} {K c kr top : Nat} (hR : Rdf (m2 G K c) K top p) (hS : SpEq (m2 G K c) K (m2 PF K c) K) (hc : ∀ i, i < top → p i < c) (ek : kr = cnt (fre p top) c)
  (eH : ∀ u l, u < kr → l < c → H (u * c + l) = kv (m2 G K c) p top (nth (fre p top) c u) l) {y : Nat → Nat} (hy : El y) (h0 : ∀ j, c ≤ j → y j = 0) :
  Spn (m2 PF K c) K y ↔ ∀ u, u < kr → xs (fun l => fm (y l) (H (u * c + l))) c = 0 := by
 have hG := qiv hS
 have key : ∀ u, u < kr → xs (fun l => fm (y l) (H (u * c + l))) c = dt (kv (m2 G K c) p top (nth (fre p top) c u)) y c := fun u hu => by
  rw [dt_comm7 (qhe hG p top _) hy]
  exact qa5 (fun l hl => by rw [eH u l hu hl])
 constructor
 ·intro h u hu
  rw [key u hu]
  obtain ⟨a, b, _⟩ := qb4 (fre p top) c u (by omega)
  exact qi2 hG hR hc (Spn.trans h hS.2) a (by simpa [fre] using b)
 ·intro h
  refine Spn.trans (chk_span hG hR hc (fun i j _ hj => qaj _ hj) hy h0 (fun f hf hp => ?_)) hS.1
  have hfr : fre p top f = true := by simp [fre, hp]
  have h1 := cnt_lt hf hfr
  have h2 := h (cnt (fre p top) f) (by omega)
  rw [key _ (by omega), qf0 hf hfr] at h2
  exact h2
/-- Column j of the kernel has noughts alone just if the rows' span has the list that is 1 there and 0 elsewhere. -/
theorem qiw {PF G H p : Nat → Nat} {K c kr top : Nat} (hR : Rdf (m2 G K c) K top p) (hS : SpEq (m2 G K c) K (m2 PF K c) K) (hc : ∀ i, i < top → p i < c) (ek : kr = cnt (fre p top) c)
  (eH : ∀ u l, u < kr → l < c → H (u * c + l) = kv (m2 G K c) p top (nth (fre p top) c u) l) {j : Nat} (hj : j < c) :
  Spn (m2 PF K c) K (dl j) ↔ ∀ u, u < kr → H (u * c + j) = 0 := by
 rw [ker_dots hR hS hc ek eH (dl_el j) (fun l hl => qdy (by omega))]
 have hG := qiv hS
 have key : ∀ u, u < kr → xs (fun l => fm (dl j l) (H (u * c + l))) c = H (u * c + j) := fun u hu => by
  rw [qba hj (fun l _ hne => by rw [qdy hne, qab]), qb2, eH u j hu hj, qap _ (qhe hG p top _ j)]
 exact ⟨fun h u hu => by rw [← key u hu]; exact h u hu, fun h u hu => by rw [key u hu]; exact h u hu⟩
/-- A combination that comes to noughts, in which the row i of s has a factor that is not 0: the row is a combination of the others. -/
theorem dep_ss {M : Nat → Nat → Nat} (hM : El2 M) {R s i : Nat} (hR : R ≤ 64) (hs : s < 2 ^ R) (hi : i < R) (hb : bt s i = 1) {x : Nat → Nat} (hx : El x) (h0 : ∀ j, lc x (fun t => M (lf s R t)) (cn s R) j = 0) (hne : x (cn s i) ≠ 0) : SS M R (rem s i) (M i) := by
 have hs64 := qec hR hs
 obtain ⟨hK, hlf⟩ := lf_cn hi hb
 have h1 : Spn (mk M (rem s i)) R (lc (fun t => if t = cn s i then 0 else x t) (fun t => M (lf s R t)) (cn s R)) := qf1 (fun t => by show (if t = cn s i then 0 else x t) < 256; split; decide; exact hx t) (fun t ht hnz => by
  by_cases e : t = cn s i
  ·rw [if_pos e] at hnz; exact absurd rfl hnz
  ·obtain ⟨a, b, c⟩ := qar ht
   exact qes hM a ((qis hs64 (by omega) _).2 ⟨b, fun e2 => e (by rw [← c, e2])⟩))
 have h2 : ∀ j, lc (fun t => if t = cn s i then 0 else x t) (fun t => M (lf s R t)) (cn s R) j = fm (x (cn s i)) (M i j) := fun j => by
  have e1 : lc x (fun t => M (lf s R t)) (cn s R) j = lc (fun t => (if t = cn s i then x (cn s i) else 0) ^^^ (if t = cn s i then 0 else x t)) (fun t => M (lf s R t)) (cn s R) j := qb3 (fun t _ => by
   by_cases e : t = cn s i
   ·rw [if_pos e, if_pos e, Nat.xor_zero, e]
   ·rw [if_neg e, if_neg e, Nat.zero_xor]) (fun _ _ => rfl)
  have e2 := h0 j
  rw [e1, lc_add (fun t => by show (if t = cn s i then x (cn s i) else 0) < 256; split; exact hx _; decide) (fun t => by show (if t = cn s i then 0 else x t) < 256; split; decide; exact hx t)] at e2
  rw [← qh9 e2]
  unfold lc
  rw [qba hK (fun k _ hk => by show fm (if k = cn s i then x (cn s i) else 0) _ = 0; rw [if_neg hk, qab])]
  show fm (if cn s i = cn s i then x (cn s i) else 0) (M (lf s R (cn s i)) j) = _
  rw [if_pos rfl, hlf]
 refine (qas (qad (x (cn s i))) h1).congr (fun j => ?_)
 rw [h2 j, ← qag _ _ _ (qad _) (hx _), qac _ _ (qad _) (hx _), qak _ (hx _) hne, qap _ (hM i j)]
/-- A row is needed just if its factors in the combinations that come to noughts are 0. -/
theorem qg9 {F G H p : Nat → Nat} {r c n s i kr top : Nat} (hF : ∀ i, i < n → F i < 256) (R : Rt r c n) (hs : s < 2 ^ r) (hi : i < r) (hb : bt s i = 1)
  (hR : Rdf (m2 G c (cn s r)) c top p) (hS : SpEq (m2 G c (cn s r)) c (m2 (trf (pkf F (lf s r) c) (cn s r) c) c (cn s r)) c) (hc : ∀ i, i < top → p i < cn s r) (ek : kr = cnt (fre p top) (cn s r))
  (eH : ∀ u l, u < kr → l < cn s r → H (u * cn s r + l) = kv (m2 G c (cn s r)) p top (nth (fre p top) (cn s r) u) l) :
  (∀ u, u < kr → H (u * cn s r + cn s i) = 0) ↔ ¬ SS (m2 F r c) r (rem s i) (m2 F r c i) := by
 have hM := qe5 hF R
 have hr64 := R.r64
 have hs64 := qec R.r64 hs
 have hG := qiv hS
 obtain ⟨hK, hlf⟩ := lf_cn hi hb
 have eT : ∀ j u, j < c → u < cn s r → m2 (trf (pkf F (lf s r) c) (cn s r) c) c (cn s r) j u = m2 F r c (lf s r u) j := fun j u hj hu => qgq F (fun t ht => (qar ht).1) j u hj hu
 have hT : El2 (m2 (trf (pkf F (lf s r) c) (cn s r) c) c (cn s r)) := fun j u => by
  by_cases hj : j < c
  ·by_cases hu : u < cn s r
   ·rw [eT j u hj hu]; exact hM _ _
   ·rw [qaj _ (by omega)]; decide
  ·rw [m2_low _ (by omega)]; decide
 rw [← qiw hR hS hc ek eH hK]
 constructor
 ·rintro ⟨b, hbe, e⟩ hss
  have hdot : ∀ u, u < cn s r → dt (m2 F r c (lf s r u)) b c = dl (cn s i) u := fun u hu => by
   rw [e u]
   exact qa5 (fun j hj => by rw [eT j u hj hu]; exact qac _ _ (hM _ _) (hbe j))
  have h1 : dt (m2 F r c i) b c = 1 := by
   have := hdot _ hK
   rw [hlf, qb2] at this
   exact this
  have h2 : dt (m2 F r c i) b c = 0 := qf2 (qiq hM _) hss (fun j hj => by
   by_cases hbj : bt (rem s i) j = 1
   ·rw [mk_in hbj]
    obtain ⟨h3, h4⟩ := (qis hs64 (by omega) j).1 hbj
    obtain ⟨h5, h6⟩ := lf_cn hj h3
    have h7 := hdot _ h5
    rw [h6] at h7
    rw [h7]
    refine qdy (fun e => h4 ?_)
    rw [← h6, e, hlf]
   ·rw [mk_out hbj]
    exact qaf (fun l _ => qab _))
  omega
 ·intro hn
  rw [qiw hR hS hc ek eH hK]
  intro u hu
  apply Classical.byContradiction
  intro hne
  obtain ⟨a, b, _⟩ := qb4 (fre p top) (cn s r) u (by omega)
  have hk0 := hR.kv hG hc (f := nth (fre p top) (cn s r) u) (by simpa [fre] using b) a
  have hx := qhe hG p top (nth (fre p top) (cn s r) u)
  rw [eH u _ hu hK] at hne
  refine hn (dep_ss hM R.r64 hs hi hb hx (fun j => ?_) hne)
  by_cases hj : j < c
  ·have h1 : dt (m2 (trf (pkf F (lf s r) c) (cn s r) c) c (cn s r) j) (kv (m2 G c (cn s r)) p top (nth (fre p top) (cn s r) u)) (cn s r) = 0 := qf2 hG (hS.2 j hj) hk0
   rw [← h1]
   exact qa5 (fun t ht => by rw [eT j t hj ht]; exact qac _ _ (hx t) (hM _ _))
  ·exact qaf (fun t _ => by show fm _ (m2 F r c (lf s r t) j) = 0; rw [qaj _ (by omega), qa7])
open Go.RowKit
/-- A group hangs together: it has only numbers of rows, each a combination of the others. -/
def HangP (F : Nat → Nat) (r c s : Nat) : Prop := s < 2 ^ r ∧ ∀ i, i < r → bt s i = 1 → SS (m2 F r c) r (rem s i) (m2 F r c i)
theorem qgw (w : World) (kr c N d j : Nat) (a : Option Addr) (H : Nat → Nat) (ha : Mt w a N d H) (R : Rt kr c N) (hj : j < c) (b : Bool) (hb : b = true ↔ ∀ u, u < kr → H (u * c + j) = 0) :
  Calls Tryz.prog 119 #[mv kr c a N d, .int .i64 (j : Int)] w fun e w' => e = .returned (.bool b) ∧ Below w.heap.size w w' := by
 have HR : Hid (Rt kr c N) := R
 have hN := R.le
 have hkr := R.r64
 have hc64 := R.c64
 obtain ⟨wb, HW⟩ : ∃ wb, Hid (w.alloc (.cells #[.int .i64 (kr : Int), .int .i64 (c : Int), .slice a N d] 114) = wb) := ⟨_, rfl⟩
 have HB0 : Hid (Below w.heap.size w wb) := by rw [← HW.out]; exact qa1 _ _
 have HV : Hid (Vq wb w.heap.size 114 #[.int .i64 (kr : Int), .int .i64 (c : Int), .slice a N d]) := by rw [← HW.out]; exact Vq.new w _ _
 have HM : Hid (Mt wb a N d H) := ha.later HB0.out
 have HBb : Hid (b = true ↔ ∀ u, u < kr → H (u * c + j) = 0) := hb
 clear ha R hb
 go_enter Tryz.func119, Tryz.ntmps119
 go_wp2
 rw [HW.out]
 go_loopw [5, 9] (fun _ vi wr => ∃ u : Nat, u ≤ kr ∧ vi = .int .i64 (u : Int) ∧ (∀ v, v < u → H (v * c + j) = 0) ∧ Below wb.heap.size wb wr) (fun _ vi _ => kr - (intOf vi).toNat)
 case atStart => exact ⟨0, by omega, rfl, fun v hv => by omega, Below.refl _ _⟩
 case round =>
  obtain ⟨u, hu, rfl, h0, hbr⟩ := hrel
  have H0 : Hid (∀ v, v < u → H (v * c + j) = 0) := h0
  have HB : Hid (Below wb.heap.size wb wr) := hbr
  have v0 := (HV.out.later hbr).cell 0 _ rfl
  have v1 := (HV.out.later hbr).cell 1 _ rfl
  have v2 := (HV.out.later hbr).cell 2 _ rfl
  have HMr : Hid (Mt wr a N d H) := HM.out.later hbr
  clear h0 hbr
  by_cases hlt : u < kr
  ·obtain ⟨p, HP⟩ : ∃ p, Hid (u * c = p) := ⟨_, rfl⟩
   have HF : Hid (p + c ≤ N) := by have := HR.out.fit hlt; rw [HP.out] at this; exact this
   obtain ⟨s, HS⟩ : ∃ s, Hid (pc a p c = s) := ⟨_, rfl⟩
   obtain ⟨bb, o, es, hcell⟩ := (HMr.out.piece HF.out).2 j hj
   rw [HS.out] at es
   obtain ⟨y, HY⟩ : ∃ y, Hid (H (p + j) = y) := ⟨_, rfl⟩
   have hc2 : wr.cell? ⟨bb, o + j, none⟩ = some (.int .u8 (y : Int)) := by rw [← HY.out]; exact hcell
   have j0 : (0 : Int) ≤ (j : Int) := Int.natCast_nonneg _
   have j1 : (j : Int) < (c : Int) := by omega
   subst es
   clear hcell
   by_cases hy : y = 0
   ·have gy : ((y : Int) != 0) = false := by simp [hy]
    have HN : Hid (∀ v, v < u + 1 → H (v * c + j) = 0) := fun v hv => by
     by_cases e : v = u
     ·subst e; rw [HP.out, HY.out]; exact hy
     ·exact H0.out v (by omega)
    clear hy
    go_wp2_with (go_at_call 133; refine (row16 _ _ c N d u p a (some ⟨bb, o, none⟩) HMr.out.nil HMr.out.room HF.out hN (by omega) HP HS).mono ?_; rintro e w1 ⟨rfl, hb1⟩; have HB1 : Hid (Below wb.heap.size wb w1) := qa0 HB.out hb1; have hc3 := keepc hb1 hc2; clear hb1)
    exact ⟨⟨u + 1, by omega, by go_num, HN.out, HB1.out⟩, by simp [intOf]; omega⟩
   ·have gy : ((y : Int) != 0) = true := by simp; omega
    obtain rfl : b = false := by
     cases b with
     | false => rfl
     | true => exact absurd (HBb.out.1 rfl u hlt) (by rw [HP.out, HY.out]; exact hy)
    clear hy HBb
    go_wp2_with (go_at_call 133; refine (row16 _ _ c N d u p a (some ⟨bb, o, none⟩) HMr.out.nil HMr.out.room HF.out hN (by omega) HP HS).mono ?_; rintro e w1 ⟨rfl, hb1⟩; have HB1 : Hid (Below wb.heap.size wb w1) := qa0 HB.out hb1; have hc3 := keepc hb1 hc2; clear hb1)
    go_ret
    exact ⟨rfl, qa0 HB0.out HB1.out⟩
  ·obtain rfl : u = kr := by omega
   obtain rfl : b = true := HBb.out.2 H0.out
   clear HBb
   go_wp2
   go_ret
   exact ⟨rfl, qa0 HB0.out HB.out⟩
theorem hang_in {F G H p : Nat → Nat} {r c n s kr top : Nat} (hF : ∀ i, i < n → F i < 256) (R : Rt r c n) (hs : s < 2 ^ r)
  (hR : Rdf (m2 G c (cn s r)) c top p) (hS : SpEq (m2 G c (cn s r)) c (m2 (trf (pkf F (lf s r) c) (cn s r) c) c (cn s r)) c) (hc : ∀ i, i < top → p i < cn s r) (ek : kr = cnt (fre p top) (cn s r))
  (eH : ∀ u l, u < kr → l < cn s r → H (u * cn s r + l) = kv (m2 G c (cn s r)) p top (nth (fre p top) (cn s r) u) l) :
  HangP F r c s ↔ ∀ t, t < cn s r → ¬ ∀ u, u < kr → H (u * cn s r + t) = 0 := by
 constructor
 ·rintro ⟨_, h⟩ t ht h0
  obtain ⟨a1, a2, a3⟩ := qar ht
  exact (qg9 hF R hs a1 a2 hR hS hc ek eH).1 (by rw [a3]; exact h0) (h _ a1 a2)
 ·intro h
  refine ⟨hs, fun i hi hb => ?_⟩
  have ht : cn s i < cn s r := by
   have := qbe (s := s) (show i + 1 ≤ r by omega)
   rw [qbd, hb] at this
   omega
  by_cases hss : SS (m2 F r c) r (rem s i) (m2 F r c i)
  ·exact hss
  ·exact absurd ((qg9 hF R hs hi hb hR hS hc ek eH).2 hss) (h _ ht)
open Go.RowKit
theorem qix {s r : Nat} (hr : r ≤ 64) (hs : s < 18446744073709551616) (h : ¬ s < 2 ^ r) : cn s r < cn s 64 ∧ r ≤ lf s 64 (cn s r) ∧ ∀ i, i < cn s r → lf s 64 i < r := by
 have h1 : cn s r < cn s 64 := by
  have hm := qbe (s := s) hr
  rcases Nat.lt_or_ge (cn s r) (cn s 64) with x | x
  ·exact x
  ·exfalso
   have e := mod_same hr (show cn s r = cn s 64 by omega)
   rw [Nat.mod_eq_of_lt (show s < 2 ^ 64 from hs)] at e
   exact h (by rw [← e]; exact Nat.mod_lt _ (Nat.pow_pos (by omega)))
 obtain ⟨a1, a2, a3⟩ := qar h1
 refine ⟨h1, ?_, fun i hi => ?_⟩
 ·rcases Nat.lt_or_ge (lf s 64 (cn s r)) r with x | x
  ·exfalso
   have := qbe (s := s) (show lf s 64 (cn s r) + 1 ≤ r by omega)
   rw [qbd, a2, a3] at this
   omega
  ·exact x
 ·obtain ⟨b1, b2, b3⟩ := qar (s := s) (i := 64) (t := i) (by omega)
  rcases Nat.lt_or_ge (lf s 64 i) r with x | x
  ·exact x
  ·have := qbe (s := s) x
   omega
theorem bool_of (p : Prop) : ∃ b : Bool, b = true ↔ p := by
 by_cases h : p
 ·exact ⟨true, ⟨fun _ => h, fun _ => rfl⟩⟩
 ·exact ⟨false, ⟨(fun x => by cases x), fun x => absurd x h⟩⟩
theorem hang_out (w : World) (r c n k s : Nat) (a : Option Addr) (R : Rt r c n) (hs : s < 18446744073709551616) (h : ¬ s < 2 ^ r) :
  Calls Tryz.prog 101 #[mv r c a n k, .int .u64 (s : Int)] w fun e w' => e = .returned (.bool false) ∧ Below w.heap.size w w' := by
 obtain ⟨wb, HW⟩ : ∃ wb, Hid (w.alloc (.cells #[.int .i64 (r : Int), .int .i64 (c : Int), .slice a n k] 114) = wb) := ⟨_, rfl⟩
 have HB0 : Hid (Below w.heap.size w wb) := by rw [← HW.out]; exact qa1 _ _
 have HV : Hid (Vq wb w.heap.size 114 #[.int .i64 (r : Int), .int .i64 (c : Int), .slice a n k]) := by rw [← HW.out]; exact Vq.new w _ _
 obtain ⟨h1, h2, h3⟩ := qix R.r64 hs h
 obtain ⟨m, HM⟩ : ∃ m, Hid (cn s 64 = m) := ⟨_, rfl⟩
 obtain ⟨L, HL⟩ : ∃ L : Nat → Nat, Hid (lf s 64 = L) := ⟨_, rfl⟩
 have hm64 : m ≤ 64 := by rw [← HM.out]; exact qay 64 s
 have HLi : Hid (∀ w, Calls Tryz.prog 26 #[.int .u64 (s : Int)] w fun e w' => ∃ v, e = .returned v ∧ Jo w' w.heap.size 3 .i64 v m L ∧ Below w.heap.size w w') := fun w => by rw [← HM.out, ← HL.out]; exact qfw s w hs
 obtain ⟨t, HT⟩ : ∃ t, Hid (cn s r = t) := ⟨_, rfl⟩
 rw [HM.out, HT.out] at h1
 rw [HL.out, HT.out] at h2 h3
 have HPk : Hid (∀ (w : World) (b : Option Addr) (d : Nat), Jl w b .i64 m (fun i => (L i : Int)) → Calls Tryz.prog 27 #[mv r c a n k, .slice b m d] w fun e w' => e = .returned (.tuple #[mv 0 0 none 0 0, .int .i64 2]) ∧ Below w.heap.size w w') := fun w b d hj => qie w r c n k m d t a b (fun i => (L i : Int)) R (by omega) hj h1 (fun i hi => by have := h3 i hi; omega) (by omega)
 clear R h h1 h2 h3 HM HL HT
 go_enter Tryz.func101, Tryz.ntmps101
 go_wp2_with (first
  | (go_at_call 26; rw [HW.out]; refine (HLi.out _).mono ?_; rintro e w1 ⟨v, rfl, ho1, hb1⟩; obtain ⟨sl, d, rfl, hnil⟩ := ho1.form; have HJ1 : Hid (Jl w1 sl .i64 m (fun i => (L i : Int))) := ho1.jl; have HB1 : Hid (Below w.heap.size w w1) := qa0 HB0.out hb1; have v0 := (HV.out.later hb1).cell 0 _ rfl; have v1 := (HV.out.later hb1).cell 1 _ rfl; have v2 := (HV.out.later hb1).cell 2 _ rfl; clear ho1 hb1 hnil)
  | (go_at_call 27; refine (HPk.out _ _ _ HJ1.out).mono ?_; rintro e w2 ⟨rfl, hb2⟩; have HB2 : Hid (Below w.heap.size w w2) := qa0 HB1.out hb2; clear hb2))
 go_ret
 exact ⟨rfl, qa0 HB2.out (qa1 _ _)⟩
theorem hang_yes (w : World) (r c n k s : Nat) (a : Option Addr) (F : Nat → Nat) (ha : Mt w a n k F) (R : Rt r c n) (hs : s < 18446744073709551616) (h : s < 2 ^ r) (b : Bool) (hb : b = true ↔ HangP F r c s) :
  Calls Tryz.prog 101 #[mv r c a n k, .int .u64 (s : Int)] w fun e w' => e = .returned (.bool b) ∧ Below w.heap.size w w' := by
 obtain ⟨wb, HW⟩ : ∃ wb, Hid (w.alloc (.cells #[.int .i64 (r : Int), .int .i64 (c : Int), .slice a n k] 114) = wb) := ⟨_, rfl⟩
 have HB0 : Hid (Below w.heap.size w wb) := by rw [← HW.out]; exact qa1 _ _
 have HV : Hid (Vq wb w.heap.size 114 #[.int .i64 (r : Int), .int .i64 (c : Int), .slice a n k]) := by rw [← HW.out]; exact Vq.new w _ _
 have HA : Hid (Mt w a n k F) := ha
 have hr64 := R.r64
 have hc64 := R.c64
 have hlh := qd0 (s := s) (i := r) (64 - r) h
 rw [show r + (64 - r) = 64 by omega] at hlh
 obtain ⟨m, HM⟩ : ∃ m, Hid (cn s r = m) := ⟨_, rfl⟩
 obtain ⟨L, HL⟩ : ∃ L : Nat → Nat, Hid (lf s r = L) := ⟨_, rfl⟩
 have hm64 : m ≤ 64 := by rw [← HM.out]; exact Nat.le_trans (qay r s) hr64
 have HLi : Hid (∀ w, Calls Tryz.prog 26 #[.int .u64 (s : Int)] w fun e w' => ∃ v, e = .returned v ∧ Jo w' w.heap.size 3 .i64 v m L ∧ Below w.heap.size w w') := fun w => by
  have := qfw s w hs
  rw [hlh.1, HM.out, show lf s 64 = L from funext fun t => by rw [hlh.2 t, HL.out]] at this
  exact this
 obtain ⟨N, HN⟩ : ∃ N, Hid (m * c = N) := ⟨_, rfl⟩
 have HRP : Hid (Rt m c N) := ⟨hm64, hc64, HN.out⟩
 have HPk : Hid (∀ (w : World) (b : Option Addr) (d : Nat), Mt w a n k F → Jl w b .i64 m (fun i => (L i : Int)) → Calls Tryz.prog 27 #[mv r c a n k, .slice b m d] w fun e w' => ∃ g, e = .returned (.tuple #[mv m c (some ⟨g, 0, none⟩) N N, .int .i64 0]) ∧ RowAt w' g 5 N (pkf F L c) ∧ w.heap.size ≤ g ∧ Below w.heap.size w w') := fun w b d h1 hj => mpick_ok w r c n k m d N a b F L h1 R hj (fun i hi => by rw [← HL.out]; exact (qar (by rw [HM.out]; exact hi)).1) hm64 HN
 have HPl : Hid (∀ q, q < N → pkf F L c q < 256) := fun q hq => by
  rw [← HN.out] at hq
  exact qfq ha.sl.1 R (fun i hi => by rw [← HL.out]; exact (qar (by rw [HM.out]; exact hi)).1) q hq
 obtain ⟨PF, HPF⟩ : ∃ PF : Nat → Nat, Hid (pkf F L c = PF) := ⟨_, rfl⟩
 rw [HPF.out] at HPk HPl
 obtain ⟨TF, HTF⟩ : ∃ TF : Nat → Nat, Hid (trf PF m c = TF) := ⟨_, rfl⟩
 have HTr : Hid (∀ (w : World) (g : Nat), RowAt w g 5 N PF → Calls Tryz.prog 54 #[mv m c (some ⟨g, 0, none⟩) N N] w fun e w' => ∃ g, e = .returned (.tuple #[mv c m (some ⟨g, 0, none⟩) N N, .int .i64 0]) ∧ RowAt w' g 5 N TF ∧ w.heap.size ≤ g ∧ Below w.heap.size w w') := fun w g h => by rw [← HTF.out]; exact qid w m c N N _ PF (h.mt HPl.out) HRP.out
 have HTl : Hid (∀ q, q < N → TF q < 256) := by rw [← HTF.out]; exact trf_all HPl.out HRP.out
 have HHa : Hid (∀ (G H p : Nat → Nat) (kr top : Nat), Rdf (m2 G c m) c top p → SpEq (m2 G c m) c (m2 TF c m) c → (∀ i, i < top → p i < m) → kr = cnt (fre p top) m → (∀ u l, u < kr → l < m → H (u * m + l) = kv (m2 G c m) p top (nth (fre p top) m u) l) → (b = true ↔ ∀ t, t < m → ¬ ∀ u, u < kr → H (u * m + t) = 0)) := fun G H p kr top h1 h2 h3 h4 h5 => by
  rw [hb]
  rw [← HTF.out, ← HPF.out, ← HL.out, ← HM.out] at *
  exact hang_in ha.sl.1 R h h1 h2 h3 h4 h5
 clear ha R h hlh HM HL HPF HTF hb
 go_enter Tryz.func101, Tryz.ntmps101
 go_wp2_with (first
  | (go_at_call 26; rw [HW.out]; refine (HLi.out _).mono ?_; rintro e w1 ⟨v, rfl, ho1, hb1⟩; obtain ⟨sl, d, rfl, hnil⟩ := ho1.form; have HJ1 : Hid (Jl w1 sl .i64 m (fun i => (L i : Int))) := ho1.jl; have HB1 : Hid (Below w.heap.size w w1) := qa0 HB0.out hb1; have v0 := (HV.out.later hb1).cell 0 _ rfl; have v1 := (HV.out.later hb1).cell 1 _ rfl; have v2 := (HV.out.later hb1).cell 2 _ rfl; clear ho1 hb1 hnil)
  | (go_at_call 27; refine (HPk.out _ _ _ (HA.out.later HB1.out) HJ1.out).mono ?_; rintro e w2 ⟨g2, rfl, hr2, hg2, hb2⟩; have HB2 : Hid (Below w.heap.size w (w2.alloc (.cells #[.int .i64 (m : Int), .int .i64 (c : Int), .slice (some ⟨g2, 0, none⟩) N N] 24))) := qa0 (qa0 HB1.out hb2) (qa1 _ _); have HR2 : Hid (RowAt (w2.alloc (.cells #[.int .i64 (m : Int), .int .i64 (c : Int), .slice (some ⟨g2, 0, none⟩) N N] 24)) g2 5 N PF) := hr2.later (qa1 _ _); have HV2 : Hid (Vq (w2.alloc (.cells #[.int .i64 (m : Int), .int .i64 (c : Int), .slice (some ⟨g2, 0, none⟩) N N] 24)) w2.heap.size 24 #[.int .i64 (m : Int), .int .i64 (c : Int), .slice (some ⟨g2, 0, none⟩) N N]) := Vq.new w2 _ _; have p0 := HV2.out.cell 0 _ rfl; have p1 := HV2.out.cell 1 _ rfl; have p2 := HV2.out.cell 2 _ rfl; clear hr2 hg2 hb2)
  | (go_at_call 54; refine (HTr.out _ _ HR2.out).mono ?_; rintro e w3 ⟨g3, rfl, hr3, hg3, hb3⟩; have HB3 : Hid (Below w.heap.size w (w3.alloc (.cells #[.int .i64 (c : Int), .int .i64 (m : Int), .slice (some ⟨g3, 0, none⟩) N N] 24))) := qa0 (qa0 HB2.out hb3) (qa1 _ _); have HM3 : Hid (Mt (w3.alloc (.cells #[.int .i64 (c : Int), .int .i64 (m : Int), .slice (some ⟨g3, 0, none⟩) N N] 24)) (some ⟨g3, 0, none⟩) N N TF) := (hr3.later (qa1 _ _)).mt HTl.out; have HV3 : Hid (Vq (w3.alloc (.cells #[.int .i64 (c : Int), .int .i64 (m : Int), .slice (some ⟨g3, 0, none⟩) N N] 24)) w3.heap.size 24 #[.int .i64 (c : Int), .int .i64 (m : Int), .slice (some ⟨g3, 0, none⟩) N N]) := Vq.new w3 _ _; have q0 := HV3.out.cell 0 _ rfl; have q1 := HV3.out.cell 1 _ rfl; have q2 := HV3.out.cell 2 _ rfl; clear hr3 hg3 hb3)
  | (go_at_call 118; refine (gker_ok _ c m N N _ TF HM3.out HRP.out.turn).mono ?_; rintro e w4 ⟨s4, d4, kr, top, p, G, H, rfl, hm4, hd4, hsp4, hp4, hk4, hH4, hb4⟩; obtain ⟨K4, HK4⟩ : ∃ K4, Hid (kr * m = K4) := ⟨_, rfl⟩; rw [HK4.out] at hm4 ⊢; have HB4 : Hid (Below w.heap.size w ((w4.alloc (.cells #[.int .i64 (kr : Int), .int .i64 (m : Int), .slice s4 K4 d4] 24)).alloc (.cells #[.int .i64 (kr : Int), .int .i64 (m : Int), .slice s4 K4 d4] 114))) := qa0 (qa0 (qa0 HB3.out hb4) (qa1 _ _)) (qa1 _ _); have HM4 : Hid (Mt ((w4.alloc (.cells #[.int .i64 (kr : Int), .int .i64 (m : Int), .slice s4 K4 d4] 24)).alloc (.cells #[.int .i64 (kr : Int), .int .i64 (m : Int), .slice s4 K4 d4] 114)) s4 K4 d4 H) := (hm4.later (qa1 _ _)).later (qa1 _ _); have HV4 : Hid (Vq (w4.alloc (.cells #[.int .i64 (kr : Int), .int .i64 (m : Int), .slice s4 K4 d4] 24)) w4.heap.size 24 #[.int .i64 (kr : Int), .int .i64 (m : Int), .slice s4 K4 d4]) := Vq.new w4 _ _; have HV5 : Hid (Vq ((w4.alloc (.cells #[.int .i64 (kr : Int), .int .i64 (m : Int), .slice s4 K4 d4] 24)).alloc (.cells #[.int .i64 (kr : Int), .int .i64 (m : Int), .slice s4 K4 d4] 114)) (w4.heap.size + 1) 114 #[.int .i64 (kr : Int), .int .i64 (m : Int), .slice s4 K4 d4]) := Vq.new1 _ _ _ _; have HHb := jhidv (HHa.out G H p kr top hd4 hsp4 hp4 hk4 hH4); have hkm : kr ≤ m := (by rw [hk4]; have := qe0 (fre p top) m; omega); have r0 := HV4.out.cell 0 _ rfl; have r1 := HV4.out.cell 1 _ rfl; have r2 := HV4.out.cell 2 _ rfl; clear hm4 hd4 hsp4 hp4 hk4 hH4 hb4))
 have HRK : Hid (Rt kr m K4) := ⟨by omega, hm64, HK4.out⟩
 obtain ⟨wl, HWl⟩ : ∃ wl, Hid (((w4.alloc (.cells #[.int .i64 (kr : Int), .int .i64 (m : Int), .slice s4 K4 d4] 24)).alloc (.cells #[.int .i64 (kr : Int), .int .i64 (m : Int), .slice s4 K4 d4] 114)) = wl) := ⟨_, rfl⟩
 rw [HWl.out] at HB4 HM4 HV5
 rw [HWl.out]
 go_loopw [13, 39] (fun _ vi wr => ∃ j : Nat, j ≤ m ∧ vi = .int .i64 (j : Int) ∧ (∀ t, t < j → ¬ ∀ u, u < kr → H (u * m + t) = 0) ∧ Below wl.heap.size wl wr) (fun _ vi _ => m - (intOf vi).toNat)
 case atStart => exact ⟨0, by omega, rfl, fun t ht => by omega, Below.refl _ _⟩
 case round =>
  obtain ⟨j, hj, rfl, h0, hbr⟩ := hrel
  have H0 : Hid (∀ t, t < j → ¬ ∀ u, u < kr → H (u * m + t) = 0) := h0
  have HB : Hid (Below wl.heap.size wl wr) := hbr
  have z0 := (HV5.out.later hbr).cell 0 _ rfl
  have z1 := (HV5.out.later hbr).cell 1 _ rfl
  have z2 := (HV5.out.later hbr).cell 2 _ rfl
  have HMr : Hid (Mt wr s4 K4 d4 H) := HM4.out.later hbr
  clear h0 hbr
  by_cases hlt : j < m
  ·obtain ⟨bj, hbj⟩ := bool_of (∀ u, u < kr → H (u * m + j) = 0)
   have HBj : Hid (bj = true ↔ ∀ u, u < kr → H (u * m + j) = 0) := hbj
   have HC : Hid (Calls Tryz.prog 119 #[mv kr m s4 K4 d4, .int .i64 (j : Int)] wr fun e w' => e = .returned (.bool bj) ∧ Below wr.heap.size wr w') := qgw wr kr m K4 d4 j s4 H HMr.out HRK.out hlt bj hbj
   clear hbj
   cases bj with
   | true =>
    obtain rfl : b = false := by
     cases b with
     | false => rfl
     | true => exact absurd (HBj.out.1 rfl) (HHb.out.1 rfl j hlt)
    clear HBj HHb HHa
    go_wp2_with (go_at_call 119; refine HC.out.mono ?_; rintro e w6 ⟨rfl, hb6⟩; have HB6 : Hid (Below wl.heap.size wl w6) := qa0 HB.out hb6; clear hb6)
    go_ret
    exact ⟨rfl, qa0 HB4.out HB6.out⟩
   | false =>
    have HN2 : Hid (∀ t, t < j + 1 → ¬ ∀ u, u < kr → H (u * m + t) = 0) := fun t ht hz => by
     by_cases e : t = j
     ·subst e; have := HBj.out.2 hz; cases this
     ·exact H0.out t (by omega) hz
    clear HBj
    go_wp2_with (go_at_call 119; refine HC.out.mono ?_; rintro e w6 ⟨rfl, hb6⟩; have HB6 : Hid (Below wl.heap.size wl w6) := qa0 HB.out hb6; clear hb6)
    exact ⟨⟨j + 1, by omega, by go_num, HN2.out, HB6.out⟩, by simp [intOf]; omega⟩
  ·obtain rfl : j = m := by omega
   obtain rfl : b = true := HHb.out.2 H0.out
   clear HHb HHa
   go_wp2
   go_ret
   exact ⟨rfl, qa0 HB4.out HB.out⟩
theorem hang16 (w : World) (r c n k s : Nat) (a : Option Addr) (F : Nat → Nat) (ha : Mt w a n k F) (R : Rt r c n) (hs : s < 18446744073709551616) (b : Bool) (hb : b = true ↔ HangP F r c s) :
  Calls Tryz.prog 101 #[mv r c a n k, .int .u64 (s : Int)] w fun e w' => e = .returned (.bool b) ∧ Below w.heap.size w w' := by
 by_cases h : s < 2 ^ r
 ·exact hang_yes w r c n k s a F ha R hs h b hb
 ·obtain rfl : b = false := by
   cases b with
   | false => rfl
   | true => exact absurd (hb.1 rfl).1 h
  exact hang_out w r c n k s a R hs h
end Go.Proofs.YtlmanliinncdiaaGreat
