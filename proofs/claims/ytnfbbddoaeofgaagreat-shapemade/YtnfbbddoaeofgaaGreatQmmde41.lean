/-
  Contracts of the program's build: Vandermonde.
  Contracts of the program's build: Reed, Cross, Check.
  The program's gauss and the reference's, together.
  The checks' own anchors.
  Ranks: of the matrix transposed, of the reduced one, and the free columns.
  Contracts of the program's build: Check.
  What the laws about generators ask: two answers are alike; the program's answers and the document's, in pairs.
-/
import Derived.Test.YtnfbbddoaeofgaaGreatQmmde00
import Derived.Test.YtnfbbddoaeofgaaGreatQmmde29
import Derived.Test.YtnfbbddoaeofgaaGreatQmmde40
import Derived.Test.YtnfbbddoaeofgaaGreatQmmde31
import Derived.Test.YtnfbbddoaeofgaaGreatQmmde38
import Derived.Test.YtnfbbddoaeofgaaGreatQmmde28
import Derived.Test.YtnfbbddoaeofgaaGreatQmmde11
set_option maxRecDepth 100000
set_option maxHeartbeats 16000000
namespace Go.Proofs.YtnfbbddoaeofgaaGreat
open Go.RowKit
theorem vdf_next {c i : Nat} (t : Nat) : cpf (upt (vdf c) (i * c)) (fpow i) (i * c) c t = upt (vdf c) ((i + 1) * c) t := by
 have e : (i + 1) * c = i * c + c := by rw [Nat.add_mul, Nat.one_mul]
 rw [e]
 unfold cpf upt
 by_cases h1 : i * c ≤ t ∧ t < i * c + c
 ·rw [if_pos h1, if_pos h1.2]
  obtain ⟨d, rfl⟩ : ∃ d, t = i * c + d := ⟨t - i * c, by omega⟩
  rw [qk4 (by omega)]
  congr 1
  omega
 ·rw [if_neg h1]
  by_cases h2 : t < i * c
  ·rw [if_pos h2, if_pos (by omega)]
  ·rw [if_neg h2, if_neg (by omega)]
theorem qj8 (F : Nat → Nat) {q t : Nat} (h : q ≤ t) : upt F q t = 0 := if_neg (by omega)
theorem ZInv.fill {w w1 wr w' : World} {g r c m : Nat} {f f' : Nat → Nat} (I : ZInv w w1 wr g r c m f) (hr : RowAt w' g 5 m f') (hg : wr.grownBy w' (some g)) : ZInv w w1 w' g r c m f' :=
 ⟨hr, I.vm.kept hg (by have := I.hi; omega), I.vr.kept hg (by have := I.lo; omega), qa2 I.below hg (by have := I.lo; omega), I.lo, I.hi⟩
theorem bvdm_ok (w : World) (r c n : Nat) (hr : r ≤ 64) (hc : c ≤ 64) (HN : Hid (r * c = n)) :
  Calls Tryz.prog 72 #[.int .i64 (r : Int), .int .i64 (c : Int)] w fun e w' => ∃ g, e = .returned (.tuple #[mv r c (some ⟨g, 0, none⟩) n n, .int .i64 0]) ∧ RowAt w' g 5 n (vdf c) ∧ w.heap.size ≤ g ∧ Below w.heap.size w w' := by
 have HRt : Hid (Rt r c n) := ⟨hr, hc, HN.out⟩
 have hn := HRt.out.le
 go_enter Tryz.func72, Tryz.ntmps72
 go_wp2_with (go_at_call 99; refine (qfg _ r c n hr hc HN).mono ?_; rintro e w1 ⟨g, rfl, hr1, hg1, hb1⟩; have HR : Hid (RowAt w1 g 5 n (fun _ => 0)) := hr1; have hg2 : w.heap.size + 1 ≤ g := by { have := hg1; simpa using this }; have HB : Hid (Below w.heap.size w w1) := qa1 (qa0 _ _) hb1; have HV : Hid (Vr w1 w.heap.size (.int .i64 0) (.int .i64 0) (.slice none 0 0)) := (Vr.new w _ _ _).later hb1; clear hr1 hg1 hb1)
 have HI0 : Hid (ZInv w w1 (w1.alloc (.cells #[.int .i64 (r : Int), .int .i64 (c : Int), .slice (some ⟨g, 0, none⟩) n n] 24)) g r c n (upt (vdf c) (0 * c))) := ⟨(HR.out.later (qa0 _ _)).congr (fun i _ => (by rw [Nat.zero_mul]; exact (if_neg (by omega)).symm)), Vr.new w1 _ _ _, HV.out.later (qa0 _ _), qa1 HB.out (qa0 _ _), hg2, HR.out.lt⟩
 clear HR HB HV
 go_loopw [8, 20] (fun _ si wr => ∃ i : Nat, i ≤ r ∧ si = .int .i64 (i : Int) ∧ ZInv w w1 wr g r c n (upt (vdf c) (i * c))) (fun _ si _ => r - (intOf si).toNat)
 case atStart => exact ⟨0, by omega, rfl, HI0.out⟩
 case round =>
  clear HI0
  obtain ⟨i, hi, rfl, I⟩ := hrel
  have HI : Hid (ZInv w w1 wr g r c n (upt (vdf c) (i * c))) := I
  have c0 := I.vm.c0
  have c1 := I.vm.c1
  have c2 := I.vm.c2
  clear I
  by_cases hlt : i < r
  ·have hfit := HRt.out.fit hlt
   have e1 : ((i : Int) * (c : Int)) = ((i * c : Nat) : Int) := by simp
   have e2 : (((i : Int) + 1) * (c : Int)) = ((i * c + c : Nat) : Int) := by rw [Int.add_mul, e1]; simp
   have hz : ∀ j, j < c → upt (vdf c) (i * c) (i * c + j) = 0 := fun j _ => qj8 _ (by omega)
   have HNx : Hid (∀ t, cpf (upt (vdf c) (i * c)) (fpow i) (i * c) c t = upt (vdf c) ((i + 1) * c) t) := fun t => vdf_next t
   obtain ⟨p, HP⟩ : ∃ p, Hid (i * c = p) := ⟨_, rfl⟩
   rw [HP.out] at hfit e1 e2 hz HNx HI
   have HZ : Hid (∀ j, j < c → upt (vdf c) p (p + j) = 0) := hz
   have w1' : IntKind.i64.wrap (p : Int) = (p : Int) := by rw [IntKind.wrap_i64]; omega
   have w3' : IntKind.i64.wrap ((i : Int) + 1) = (i : Int) + 1 := by rw [IntKind.wrap_i64]; omega
   obtain ⟨q, HQ⟩ : ∃ q, Hid (p + c = q) := ⟨_, rfl⟩
   rw [HQ.out] at e2
   have hq := HQ.out
   have w2' : IntKind.i64.wrap (q : Int) = (q : Int) := by rw [IntKind.wrap_i64]; omega
   have w4' : IntKind.u8.wrap (i : Int) = (i : Int) := by rw [IntKind.wrap_u8]; omega
   have hi8 : i < 256 := by omega
   have hqp : q - p = c := by omega
   clear hz
   by_cases hc0 : c = 0
   ·have hpn : p = n := by have h1 := HP.out; have h2 := HN.out; rw [hc0, Nat.mul_zero] at h1 h2; omega
    obtain rfl : p = q := by omega
    obtain rfl : p = n := hpn
    have HC0 : Hid (c = 0) := hc0
    clear hc0 hq
    go_wp2_with (go_at_call 109; refine (ql5 _ i c p _ _ g _ _ hi8 HI.out.row (fun h => absurd h (by have := HC0.out; omega)) hfit hc HZ.out).mono ?_; rintro e w3 ⟨rfl, hr3, hg3⟩; have HR3 : Hid (ZInv w w1 w3 g r c p (upt (vdf c) ((i + 1) * c))) := (HI.out.fill hr3 hg3).congr (fun t _ => HNx.out t); clear hr3 hg3)
    exact ⟨⟨i + 1, by omega, by go_num, HR3.out⟩, by simp [intOf]; omega⟩
   ·have hpn : p < n := by omega
    have hpq : p < q := by omega
    have hqn : q ≤ n := by omega
    have hfit2 : p + c ≤ n := hfit
    go_wp2_with (go_at_call 109; refine (ql5 _ i _ p _ _ g _ _ hi8 HI.out.row (fun _ => rfl) hfit2 hc HZ.out).mono ?_; rintro e w3 ⟨rfl, hr3, hg3⟩; have HR3 : Hid (ZInv w w1 w3 g r _ _ (upt (vdf _) ((i + 1) * _))) := (HI.out.fill hr3 hg3).congr (fun t _ => HNx.out t); clear hr3 hg3)
    exact ⟨⟨i + 1, by omega, by go_num, HR3.out⟩, by simp [intOf]; omega⟩
  ·obtain rfl : i = r := by omega
   go_wp2_with (refine qa5 rfl _ _ rfl w.heap.size _ _ _ (.int .i64 (i : Int)) (.int .i64 (c : Int)) (.slice (some ⟨g, 0, none⟩) n n) rfl rfl HI.out.vr rfl rfl rfl ?_; intro w5 HV5 HG5)
   have d0 := HV5.out.c0
   have d1 := HV5.out.c1
   have d2 := HV5.out.c2
   refine bodyPost_ret (v := .tuple #[mv i c (some ⟨g, 0, none⟩) n n, .int .i64 0]) (by simp [results, Tryz.results72, go_sem, d0, d1, d2, mv]) rfl ?_
   exact ⟨g, rfl, (HI.out.row.kept HG5.out (by have := HI.out.lo; omega)).congr (fun t ht => qfc _ (by rw [HN.out]; exact ht)), by have := HI.out.lo; omega, qa2 HI.out.below HG5.out (Nat.le_refl _)⟩
open Go.RowKit
theorem breed_ok (w : World) (k m n : Nat) (hk : 1 ≤ k) (h : k + m ≤ 64) (HN : Hid ((k + m) * k = n)) :
  Calls Tryz.prog 34 #[.int .i64 (k : Int), .int .i64 (m : Int)] w fun e w' => SysP w w' e (k + m) k n (vdf k) := by
 obtain ⟨r, HRR⟩ : ∃ r, Hid (k + m = r) := ⟨_, rfl⟩
 have hrr := HRR.out
 rw [hrr] at h HN ⊢
 have HRt : Hid (Rt r k n) := ⟨h, by omega, HN.out⟩
 have e1 : IntKind.i64.wrap ((k : Int) + (m : Int)) = (r : Int) := by rw [IntKind.wrap_i64]; omega
 have HV0 : Hid (Vr (w.alloc (.cells #[.int .i64 0, .int .i64 0, .slice none 0 0] 24)) w.heap.size (.int .i64 0) (.int .i64 0) (.slice none 0 0)) := Vr.new w _ _ _
 have hkr : k ≤ r := by omega
 have hk64 : k ≤ 64 := by omega
 have hkm : k + m ≤ 64 := by omega
 have HKm : Hid (k + m ≤ 64) := hkm
 clear hrr hkm
 go_enter Tryz.func34, Tryz.ntmps34
 go_wp2_with (first
  | (go_at_call 71; refine (qhx _ k m hk HKm.out).mono ?_; rintro e w' ⟨rfl, rfl⟩)
  | (go_at_call 72; refine (bvdm_ok _ r k n h hk64 HN).mono ?_; rintro e w1 ⟨g1, rfl, hr1, hg1, hb1⟩; have HM1 : Hid (Mt (w1.alloc (.cells #[.int .i64 (r : Int), .int .i64 (k : Int), .slice (some ⟨g1, 0, none⟩) n n] 24)) (some ⟨g1, 0, none⟩) n n (vdf k)) := (hr1.mt (fun p _ => qhn k p)).later (qa0 _ _); have HB1 : Hid (Below w.heap.size w (w1.alloc (.cells #[.int .i64 (r : Int), .int .i64 (k : Int), .slice (some ⟨g1, 0, none⟩) n n] 24))) := qa1 (qa1 (qa0 _ _) hb1) (qa0 _ _); have HV1 : Hid (Vr (w1.alloc (.cells #[.int .i64 (r : Int), .int .i64 (k : Int), .slice (some ⟨g1, 0, none⟩) n n] 24)) w.heap.size (.int .i64 0) (.int .i64 0) (.slice none 0 0)) := (HV0.out.later hb1).later (qa0 _ _); clear hr1 hg1 hb1)
  | (go_at_call 73; refine (bsys_ok _ r k n n _ (vdf k) HM1.out HRt.out hkr (qgj hk64)).mono ?_; rintro e w2 ⟨g2, X, rfl, hr2, hX2, hp2, hg2, hb2⟩; have HR2 : Hid (RowAt w2 g2 5 n (prk (vdf k) X k k k)) := hr2; have HX2 : Hid ((∀ q, q < k * k → X q < 256) ∧ (∀ i j, i < k → j < k → pr (m2 (vdf k) k k) (m2 X k k) k i j = dl i j)) := ⟨hX2, hp2⟩; have hg3 : w.heap.size < g2 := Nat.lt_of_lt_of_le HV1.out.lt hg2; have HB2 : Hid (Below w.heap.size w w2) := qa1 HB1.out hb2; have HV2 : Hid (Vr w2 w.heap.size (.int .i64 0) (.int .i64 0) (.slice none 0 0)) := HV1.out.later hb2; clear hr2 hX2 hp2 hg2 hb2)
  | (refine qa5 rfl _ _ rfl w.heap.size _ _ _ (.int .i64 (r : Int)) (.int .i64 (k : Int)) (.slice (some ⟨g2, 0, none⟩) n n) rfl rfl HV2.out rfl rfl rfl ?_; intro w5 HV5 HG5))
 have d0 := HV5.out.c0
 have d1 := HV5.out.c1
 have d2 := HV5.out.c2
 refine bodyPost_ret (v := .tuple #[mv r k (some ⟨g2, 0, none⟩) n n, .int .i64 0]) (by simp [results, Tryz.results34, go_sem, d0, d1, d2, mv]) rfl ?_
 exact ⟨g2, X, rfl, HR2.out.kept HG5.out (by omega), HX2.out.1, HX2.out.2, by omega, qa2 HB2.out HG5.out (Nat.le_refl _)⟩
theorem qem (w : World) (k m A B : Nat) (hk : 1 ≤ k) (h : k + m ≤ 64) (HA : Hid (k * k = A)) (HB : Hid (m * k = B)) :
  Calls Tryz.prog 37 #[.int .i64 (k : Int), .int .i64 (m : Int)] w fun e w' => ∃ s d, e = .returned (.tuple #[mv ((k + m : Nat) : Int) k s (A + B) d, .int .i64 0]) ∧ Mt w' s (A + B) d (crf k) ∧ Below w.heap.size w w' := by
 have HRA : Hid (Rt k k A) := ⟨by omega, by omega, HA.out⟩
 have HRB : Hid (Rt m k B) := ⟨by omega, by omega, HB.out⟩
 have HKm : Hid (k + m ≤ 64) := h
 have HV0 : Hid (Vr (w.alloc (.cells #[.int .i64 0, .int .i64 0, .slice none 0 0] 24)) w.heap.size (.int .i64 0) (.int .i64 0) (.slice none 0 0)) := Vr.new w _ _ _
 obtain ⟨r, HRR⟩ : ∃ r, Hid (k + m = r) := ⟨_, rfl⟩
 have hrr := HRR.out
 rw [hrr] at h ⊢
 have e1 : IntKind.i64.wrap ((k : Int) + (m : Int)) = (r : Int) := by rw [IntKind.wrap_i64]; omega
 have hk64 : k ≤ 64 := by omega
 have hm64 : m ≤ 64 := by omega
 have HE1 : Hid (∀ w, Calls Tryz.prog 79 #[.int .i64 (k : Int), .int .i64 (r : Int)] w fun e w' => ∃ s d, e = .returned (.slice s m d) ∧ Mt w' s m d (fun i => k + i) ∧ Below w.heap.size w w') := fun w => (qhw w k r m HRR h).mono (fun _ _ ⟨s, d, h1, h2, h3⟩ => ⟨s, d, h1, ob_mt h2 (fun i hi => by show k + i < 256; omega), h3⟩)
 have HE2 : Hid (∀ w, Calls Tryz.prog 79 #[.int .i64 0, .int .i64 (k : Int)] w fun e w' => ∃ s d, e = .returned (.slice s k d) ∧ Mt w' s k d (fun i => i) ∧ Below w.heap.size w w') := fun w => (qhw w 0 k k (Nat.zero_add k) hk64).mono (fun _ _ ⟨s, d, h1, h2, h3⟩ => ⟨s, d, h1, (ob_mt h2 (fun i hi => by show 0 + i < 256; omega)).congr (fun i _ => Nat.zero_add i), h3⟩)
 clear hrr
 go_enter Tryz.func37, Tryz.ntmps37
 go_wp2_with (first
  | (go_at_call 71; refine (qhx _ k m hk HKm.out).mono ?_; rintro e w' ⟨rfl, rfl⟩)
  | (go_at_call 77; refine (qei _ k A hk64 HA).mono ?_; rintro e w1 ⟨g1, rfl, hr1, hg1, hb1⟩; have HM1 : Hid (Mt (w1.alloc (.cells #[.int .i64 (k : Int), .int .i64 (k : Int), .slice (some ⟨g1, 0, none⟩) A A] 24)) (some ⟨g1, 0, none⟩) A A (idf k)) := (hr1.mt (fun p _ => qe8 k p)).later (qa0 _ _); have HB1 : Hid (Below w.heap.size w (w1.alloc (.cells #[.int .i64 (k : Int), .int .i64 (k : Int), .slice (some ⟨g1, 0, none⟩) A A] 24))) := qa1 (qa1 (qa0 _ _) hb1) (qa0 _ _); have HV1 : Hid (Vr (w1.alloc (.cells #[.int .i64 (k : Int), .int .i64 (k : Int), .slice (some ⟨g1, 0, none⟩) A A] 24)) w.heap.size (.int .i64 0) (.int .i64 0) (.slice none 0 0)) := (HV0.out.later hb1).later (qa0 _ _); have HT1 : Hid (Vr (w1.alloc (.cells #[.int .i64 (k : Int), .int .i64 (k : Int), .slice (some ⟨g1, 0, none⟩) A A] 24)) w1.heap.size (.int .i64 (k : Int)) (.int .i64 (k : Int)) (.slice (some ⟨g1, 0, none⟩) A A)) := Vr.new w1 _ _ _; clear hr1 hg1 hb1)
  | (go_at_call 79; have _x := HT1; refine (HE1.out _).mono ?_; rintro e w2 ⟨s2, d2, rfl, hm2, hb2⟩; have HM2 : Hid (Mt w2 s2 m d2 (fun i => k + i)) := hm2; have HB2 : Hid (Below (w1.alloc (.cells #[.int .i64 (k : Int), .int .i64 (k : Int), .slice (some ⟨g1, 0, none⟩) A A] 24)).heap.size (w1.alloc (.cells #[.int .i64 (k : Int), .int .i64 (k : Int), .slice (some ⟨g1, 0, none⟩) A A] 24)) w2) := hb2; clear hm2 hb2 HE1)
  | (go_at_call 79; have _x := HB2; refine (HE2.out _).mono ?_; rintro e w3 ⟨s3, d3, rfl, hm3, hb3⟩; have HM3 : Hid (Mt w3 s3 k d3 (fun i => i)) := hm3; have HM2' : Hid (Mt w3 s2 m d2 (fun i => k + i)) := HM2.out.later hb3; have HB3 : Hid (Below (w1.alloc (.cells #[.int .i64 (k : Int), .int .i64 (k : Int), .slice (some ⟨g1, 0, none⟩) A A] 24)).heap.size (w1.alloc (.cells #[.int .i64 (k : Int), .int .i64 (k : Int), .slice (some ⟨g1, 0, none⟩) A A] 24)) w3) := qa1 HB2.out hb3; clear hm3 hb3 HE2)
  | (go_at_call 78; have _x := HB3; refine (bcau_ok _ m k B d2 d3 s2 s3 _ _ HM2'.out HM3.out hm64 hk64 HB (qki k m)).mono ?_; rintro e w4 ⟨g4, rfl, hr4, hg4, hb4⟩; have HM4 : Hid (Mt (w4.alloc (.cells #[.int .i64 (m : Int), .int .i64 (k : Int), .slice (some ⟨g4, 0, none⟩) B B] 24)) (some ⟨g4, 0, none⟩) B B (cauf (fun p => k + p) (fun p => p) k)) := (hr4.mt (fun p _ => qae _)).later (qa0 _ _); have HB4 : Hid (Below (w1.alloc (.cells #[.int .i64 (k : Int), .int .i64 (k : Int), .slice (some ⟨g1, 0, none⟩) A A] 24)).heap.size (w1.alloc (.cells #[.int .i64 (k : Int), .int .i64 (k : Int), .slice (some ⟨g1, 0, none⟩) A A] 24)) (w4.alloc (.cells #[.int .i64 (m : Int), .int .i64 (k : Int), .slice (some ⟨g4, 0, none⟩) B B] 24))) := qa1 (qa1 HB3.out hb4) (qa0 _ _); have HT4 := HT1.out.later HB4.out; have y0 := HT4.c0; have y1 := HT4.c1; have y2 := HT4.c2; clear hr4 hg4 hb4 HT4)
  | (go_at_call 80; have _x := HB4; refine (ql3 _ k m k A B r (A + B) A B _ _ _ _ (HM1.out.later HB4.out) HM4.out HRA.out HRB.out HRR.out h rfl).mono ?_; rintro e w5 ⟨g5, rfl, hr5, hg5, hb5⟩; have HR5 : Hid (RowAt w5 g5 5 (A + B) (stf (idf k) (cauf (fun p => k + p) (fun p => p) k) A)) := hr5; have HB5 : Hid (Below w.heap.size w w5) := qa1 (qa1 HB1.out HB4.out) hb5; have HV5 : Hid (Vr w5 w.heap.size (.int .i64 0) (.int .i64 0) (.slice none 0 0)) := (HV1.out.later HB4.out).later hb5; have hg6 : w.heap.size < g5 := Nat.lt_of_lt_of_le (HV1.out.later HB4.out).lt hg5; clear hr5 hg5 hb5)
  | (refine qa5 rfl _ _ rfl w.heap.size _ _ _ (.int .i64 (r : Int)) (.int .i64 (k : Int)) (.slice (some ⟨g5, 0, none⟩) (A + B) (A + B)) rfl rfl HV5.out rfl rfl rfl ?_; intro w6 HV6 HG6))
 have d0 := HV6.out.c0
 have d1 := HV6.out.c1
 have d2 := HV6.out.c2
 refine bodyPost_ret (v := .tuple #[mv (r : Int) k (some ⟨g5, 0, none⟩) (A + B) (A + B), .int .i64 0]) (by simp [results, Tryz.results37, go_sem, d0, d1, d2, mv]) rfl ?_
 refine ⟨_, _, rfl, ?_, qa2 HB5.out HG6.out (Nat.le_refl _)⟩
 unfold crf
 rw [HA.out]
 exact (HR5.out.kept HG6.out (by omega)).mt (qgi (fun p _ => qe8 k p) (fun p _ => qae _))
open Go.RowKit
/-- A matrix as a list. -/
def lsm (A : Nat → Nat → Nat) (c q : Nat) : Nat := A (q / c) (q % c)
theorem lsm_at {A : Nat → Nat → Nat} {c i j : Nat} (hj : j < c) : lsm A c (i * c + j) = A i j := by unfold lsm; rw [dm1 hj, dm2 hj]
theorem prk_same {F G H : Nat → Nat} {ca cb p : Nat} (h : ∀ q, q < ca * cb → G q = H q) (hb : 0 < cb) : prk F G ca cb ca p = prk F H ca cb ca p := by
 unfold prk
 refine qa8 fun t ht => ?_
 rw [h _ (by
  have h1 : p % cb < cb := Nat.mod_lt _ hb
  have h2 : (t + 1) * cb ≤ ca * cb := Nat.mul_le_mul_right cb ht
  rw [Nat.add_mul, Nat.one_mul] at h2
  omega)]
theorem inv_list {F : Nat → Nat} {c N : Nat} (hF : ∀ i, i < N → F i < 256) (R : Rt c c N) (hk : Rk (m2 F c c) c c) : ∃ X : Nat → Nat, (∀ q, q < N → X q < 256) ∧ ∀ i j, i < c → j < c → pr (m2 F c c) (m2 X c c) c i j = dl i j := by
 obtain ⟨A, hA, _, h2⟩ := qke (qbu hF R) (fun i j _ hj => qar F hj) hk
 refine ⟨lsm A c, fun q _ => hA _ _, fun i j hi hj => ?_⟩
 rw [← h2 i j hi hj]
 exact qa8 fun t ht => by rw [qaw _ ht hj, lsm_at hj]
theorem qlf {w w' : World} {e : Ending} {r c n : Nat} {F X0 : Nat → Nat} (R : Rt r c n) (hcr : c ≤ r) (hF : ∀ i, i < n → F i < 256) (hk : Rk (m2 F c c) c c) (hX0 : ∀ q, q < c * c → X0 q < 256) (h0 : ∀ i j, i < c → j < c → pr (m2 F c c) (m2 X0 c c) c i j = dl i j) (h : SysP w w' e r c n F) : MAns w w' e r c n (prk F X0 c c c) 0 := by
 obtain ⟨g, X, he, hr, hX, hp, hg, hb⟩ := h
 have hlen : c * c ≤ n := by rw [← R.len]; exact Nat.mul_le_mul_right c hcr
 have hF2 : ∀ i, i < c * c → F i < 256 := fun i hi => hF i (by omega)
 have hs : ∀ q, q < c * c → X q = X0 q := inv_one hF2 hX hX0 ⟨R.c64, R.c64, rfl⟩ hk hp h0
 have hr2 : RowAt w' g 5 n (prk F X0 c c c) := hr.congr (fun p hp => prk_same hs (by
  have := R.len
  by_cases e : c = 0
  ·subst e; omega
  ·omega))
 exact mans_row (prk_all X0 hF R R) ⟨g, he, hr2, hg, hb⟩
theorem rreed_p (w : World) (k m n : Nat) (hk : 1 ≤ k) (h : k + m ≤ 64) (HN : Hid ((k + m) * k = n)) :
  Calls Tryz.prog 36 #[.int .i64 (k : Int), .int .i64 (m : Int)] w fun e w' => SysP w w' e (k + m) k n (vdf k) := rreed_ok w k m n hk h HN
end Go.Proofs.YtnfbbddoaeofgaaGreat
