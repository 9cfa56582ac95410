/-
  Contracts of the reference: Kernel's and Solve's errors; Solve where there is something, and where there is nothing; words for Combine.
  Contract of the reference: Combine.
  Contract of the reference: Inverse.
  Contracts of the reference: Inverse's and Combine's errors; the laws' ints.
  Contracts of the program's matrices: ofRows, Of.
  Contracts of the program's matrices: Of.
  Contracts of the program's matrices: rowsOf.
  Contracts of the program's matrices: Stack.
  Contracts of the program's matrices: fillMultiples, Kron.
  The program's answers and the reference's, told alike: for each function what both answer.
  One product that the document fixes; what follows for products of matrices (grouped, transposed, applied, laid together); the program's answers by cases.
  What the program's gauss answers, in the forms that the laws' walks take (here over a scratch package that only calls the reference).
-/
import Derived.Test.YtblagbghpfopcaaGreatQffsh00
import Derived.Test.YtblagbghpfopcaaGreatQffsh27
import Derived.Test.YtblagbghpfopcaaGreatQffsh23
import Derived.Test.YtblagbghpfopcaaGreatQffsh06
set_option maxRecDepth 100000
set_option maxHeartbeats 16000000
namespace Go.Proofs.YtblagbghpfopcaaGreat
open Go.RowKit
theorem qk5 (w : World) (r c n k kb : Nat) (a b : Option Addr) (F X : Nat → Nat) (ha : Mt w a n k F) (R : Rt r c n) (hb : Sl w b r X) (hx : ∃ x, Sol (m2 F r c) r c (ext0 X r) x) :
  Calls Tryz.prog 72 #[mv r c a n k, .slice b r kb] w fun e w' => ∃ s d x, e = .returned (.tuple #[.slice s c d, .bool true, .int .i64 0]) ∧ Ob w' w.heap.size (.slice s c d) c x ∧ SolA F X r c x ∧ Below w.heap.size w w' :=
 (qh2 w r c n k kb a b F X ha R hb).mono fun _ _ h => by
  rcases h with h | ⟨_, hno, _⟩
  ·exact h
  ·obtain ⟨x, hx⟩ := hx
   exact absurd hx (hno x)
theorem qlt (w : World) (r c n k kb : Nat) (a b : Option Addr) (F X : Nat → Nat) (ha : Mt w a n k F) (R : Rt r c n) (hb : Sl w b r X) (hx : ∀ x, El x → ¬ Sol (m2 F r c) r c (ext0 X r) x) :
  Calls Tryz.prog 72 #[mv r c a n k, .slice b r kb] w fun e w' => e = .returned (.tuple #[.slice none 0 0, .bool false, .int .i64 0]) ∧ Below w.heap.size w w' :=
 (qh2 w r c n k kb a b F X ha R hb).mono fun _ _ h => by
  rcases h with ⟨_, _, x, _, _, h, _⟩ | ⟨he, _, hb⟩
  ·exact absurd h.2.1 (hx x h.1)
  ·exact ⟨he, hb⟩
/-- Factors at the places of a rising list. -/
theorem lc_pp {M : Nat → Nat → Nat} (hM : El2 M) {q : Nat → Nat} {t r : Nat} (hq : ∀ u, u < t → q u < r) {x : Nat → Nat} (hx : El x) (j : Nat) : lc (pp q t x) M r j = xs (fun u => fm (M (q u) j) (x u)) t := by
 rw [← dt_pp (fun i => hM i j) hq x]
 exact qa7 (fun i _ => qaf _ _ (qgt q t hx i) (hM i j))
theorem qk6 (F : Nat → Nat) {q : Nat → Nat} {r c t : Nat} (hq : ∀ u, u < t → q u < r) (j u : Nat) (hj : j < c) (hu : u < t) : m2 (trf (pkf F q c) t c) c t j u = m2 F r c (q u) j := by
 rw [qan _ hj hu, qep _ t c u j hu, qfh _ _ _ _ _ hj, qan _ (hq u hu) hj]
/-- What is sent by the picked rows, turned over, is put together of them. -/
theorem qg9 {F Y x : Nat → Nat} {r c t n : Nat} {q : Nat → Nat} (hF : ∀ i, i < n → F i < 256) (R : Rt r c n) (hq : ∀ u, u < t → q u < r) (hx : El x) : Sol (m2 (trf (pkf F q c) t c) c t) c t (ext0 Y c) x ↔ ∀ j, ext0 Y c j = lc (pp q t x) (m2 F r c) r j := by
 have hM := qax hF R
 have key : ∀ j, j < c → dt (m2 (trf (pkf F q c) t c) c t j) x t = lc (pp q t x) (m2 F r c) r j := fun j hj => by
  rw [lc_pp hM hq hx]
  exact qa7 (fun u hu => by rw [qk6 F hq j u hj hu])
 constructor
 ·intro h j
  by_cases hj : j < c
  ·rw [← key j hj]; exact (h j hj).symm
  ·have e1 : ext0 Y c j = 0 := if_neg hj
   rw [e1]
   exact (qag (fun i _ => by rw [qad _ (by omega), qa9])).symm
 ·intro h j hj
  rw [key j hj]; exact (h j).symm
theorem comb_onf {M : Nat → Nat → Nat} {r t : Nat} {q : Nat → Nat} (L : FstL M r t q) {x : Nat → Nat} (hx : El x) : OnF M r (pp q t x) := by
 refine ⟨qgt q t hx, fun i _ hne => ?_⟩
 cases hv : pvt q t i with
 | false => exact absurd (qen x hv) hne
 | true =>
  obtain ⟨u, hu, e⟩ := (qbw q t i).1 hv
  rw [← e]; exact L.is u hu
theorem comb_ex {F Y : Nat → Nat} {r c t n : Nat} {q : Nat → Nat} (hF : ∀ i, i < n → F i < 256) (R : Rt r c n) (L : FstL (m2 F r c) r t q) (h : Spn (m2 F r c) r (ext0 Y c)) : ∃ x, Sol (m2 (trf (pkf F q c) t c) c t) c t (ext0 Y c) x := by
 obtain ⟨a, ha, e⟩ := fst_ex r _ h
 have hx : El (fun u => a (q u)) := fun u => ha.1 (q u)
 refine ⟨fun u => a (q u), (qg9 hF R L.lt hx).2 (fun j => ?_)⟩
 rw [e j]
 refine qb1 (fun i hi => ?_) (fun _ _ => rfl)
 cases hv : pvt q t i with
 | true =>
  obtain ⟨u, hu, e2⟩ := (qbw q t i).1 hv
  rw [← e2]
  exact (pp_at L.up (fun u => a (q u)) hu).symm
 | false =>
  rw [qen _ hv]
  apply Classical.byContradiction
  intro hne
  obtain ⟨u, hu, e2⟩ := L.all i hi (ha.2 i hi hne)
  exact pvt_no hv hu e2
theorem comb_no {F Y : Nat → Nat} {r c t n : Nat} {q : Nat → Nat} (hF : ∀ i, i < n → F i < 256) (R : Rt r c n) (L : FstL (m2 F r c) r t q) (h : ¬ Spn (m2 F r c) r (ext0 Y c)) {x : Nat → Nat} (hx : El x) : ¬ Sol (m2 (trf (pkf F q c) t c) c t) c t (ext0 Y c) x := fun hs =>
 h ⟨pp q t x, qgt q t hx, (qg9 hF R L.lt hx).1 hs⟩
/-- What Combine answers. -/
def CmbA (F Y : Nat → Nat) (r c : Nat) (x : Nat → Nat) : Prop := OnF (m2 F r c) r x ∧ ∀ j, ext0 Y c j = lc x (m2 F r c) r j
open Go.RowKit
theorem qet {w : World} {base n d : Nat} {s : Option Addr} {f : Nat → Nat} (h : w.ownsRow base 5 1 (.slice s n d) n (row n f).toList) (hf : ∀ i, i < n → f i < 256) : Mt w s n d f := by
 refine ⟨qcf h hf, ?_, qbn h⟩
 rcases h.2 with ⟨e, h0⟩ | ⟨g, cap, cur, e, _, _, hc, _⟩
 ·cases e; omega
 ·cases e; omega
theorem qdf {F : Nat → Nat} {r c n : Nat} (hF : ∀ i, i < n → F i < 256) (R : Rt r c n) : ∀ p, p < n → trf F r c p < 256 := by
 intro p hp
 have hl := R.len
 have hr : 0 < r := by
  rcases Nat.eq_zero_or_pos r with rfl | h
  ·omega
  ·exact h
 unfold trf
 exact hF _ (R.at (Nat.mod_lt p hr) ((Nat.div_lt_iff_lt_mul hr).2 (by rw [Nat.mul_comm, hl]; exact hp)))
theorem rcomb_ok (w : World) (r c n k kb : Nat) (a b : Option Addr) (F Y : Nat → Nat) (ha : Mt w a n k F) (R : Rt r c n) (hb : Sl w b c Y) :
  Calls Tryz.prog 39 #[mv r c a n k, .slice b c kb] w fun e w' => (∃ s d x, e = .returned (.tuple #[.slice s r d, .bool true, .int .i64 0]) ∧ Ob w' w.heap.size (.slice s r d) r x ∧ CmbA F Y r c x ∧ Below w.heap.size w w') ∨ (e = .returned (.tuple #[.slice none 0 0, .bool false, .int .i64 0]) ∧ ¬ Spn (m2 F r c) r (ext0 Y c) ∧ Below w.heap.size w w') := by
 have HR : Hid (Rt r c n) := R
 have HSa : Hid (Mt w a n k F) := ha
 have HSb : Hid (Sl w b c Y) := hb
 have hn := R.le
 have hr := R.r64
 have hc := R.c64
 obtain ⟨wb, HW⟩ : ∃ wb, Hid (wb = w.alloc (.cells #[.int .i64 (r : Int), .int .i64 (c : Int), .slice a n k] 24)) := ⟨_, rfl⟩
 have HVa : Hid (Vr wb w.heap.size (.int .i64 (r : Int)) (.int .i64 (c : Int)) (.slice a n k)) := by show Vr _ _ _ _ _; rw [HW.out]; exact Vr.new _ _ _ _
 have HB0 : Hid (Below w.heap.size w wb) := by rw [HW.out]; exact qa0 _ _
 have v0 := HVa.out.c0
 have v1 := HVa.out.c1
 have v2 := HVa.out.c2
 obtain ⟨i0, hi0, hz0, hz1, hz2⟩ := info_parts qcy
 have hml : r ≤ maxLen := by unfold maxLen; omega
 clear ha R hb
 by_cases hS : Spn (m2 F r c) r (ext0 Y c)
 ·have HSpn : Hid (Spn (m2 F r c) r (ext0 Y c)) := hS
  clear hS
  go_enter Tryz.func39, Tryz.ntmps39
  go_wp2_with (first
   | (go_at_call 68; rw [← HW.out]; refine (qas _ _ _ _ _ _ HR.out.p).mono ?_; rintro e w1 ⟨rfl, hb1⟩; have HVa1 : Hid (Vr w1 w.heap.size (.int .i64 (r : Int)) (.int .i64 (c : Int)) (.slice a n k)) := HVa.out.later hb1; have HB1 : Hid (Below w.heap.size w w1) := qa1 HB0.out hb1; have u0 := HVa1.out.c0; have u1 := HVa1.out.c1; have u2 := HVa1.out.c2; clear hb1)
   | (go_at_call 70; refine (qh1 _ r c n k a F (HSa.out.later HB1.out) HR.out).mono ?_; rintro e w2 ⟨ps, pd, t, q, rfl, ho2, hL2, _, htr, hb2⟩; have HQ2 : Hid (Oi w2 w1.heap.size (.slice ps t pd) t q) := ho2; have HL : Hid (FstL (m2 F r c) r t q) := hL2; have HVa2 : Hid (Vr w2 w.heap.size (.int .i64 (r : Int)) (.int .i64 (c : Int)) (.slice a n k)) := HVa1.out.later hb2; have HB2 : Hid (Below w.heap.size w w2) := qa1 HB1.out hb2; have y0 := HVa2.out.c0; have y1 := HVa2.out.c1; have y2 := HVa2.out.c2; obtain ⟨N, HN⟩ : ∃ x, Hid (t * c = x) := ⟨_, rfl⟩; have HRp : Hid (Rt t c N) := ⟨Nat.le_trans htr hr, hc, HN.out⟩; have HRq : Hid (Rt c t N) := ⟨hc, Nat.le_trans htr hr, (by rw [Nat.mul_comm]; exact HN.out)⟩; have hNl := HRp.out.le; clear ho2 hL2 hb2)
   | (go_at_call 37; refine (qbz _ r c n k t pd N a ps F q (HSa.out.later HB2.out).sl HR.out HQ2.out.il HL.out.lt (Nat.le_trans htr hr) HN).mono ?_; rintro e w3 ⟨s3, d3, rfl, ho3, hb3⟩; have HO3 : Hid (Ob w3 w2.heap.size (.slice s3 N d3) N (pkf F q c)) := ho3; have HVa3 : Hid (Vr (w3.alloc (.cells #[.int .i64 (t : Int), .int .i64 (c : Int), .slice s3 N d3] 24)) w.heap.size (.int .i64 (r : Int)) (.int .i64 (c : Int)) (.slice a n k)) := (HVa2.out.later hb3).later (qa0 _ _); have HB3 : Hid (Below w.heap.size w (w3.alloc (.cells #[.int .i64 (t : Int), .int .i64 (c : Int), .slice s3 N d3] 24))) := qa1 (qa1 HB2.out hb3) (qa0 _ _); have HQ3 : Hid (Oi (w3.alloc (.cells #[.int .i64 (t : Int), .int .i64 (c : Int), .slice s3 N d3] 24)) w1.heap.size (.slice ps t pd) t q) := (HQ2.out.later hb3).later (qa0 _ _); have HPl : Hid (∀ u, u < N → pkf F q c u < 256) := fun u hu => qdt HSa.out.sl.1 HR.out HL.out.lt u (by rw [HN.out]; exact hu); have HS3 : Hid (Sl (w3.alloc (.cells #[.int .i64 (t : Int), .int .i64 (c : Int), .slice s3 N d3] 24)) s3 N (pkf F q c)) := (HO3.out.later (qa0 _ _)).sl HPl.out; clear ho3 hb3)
   | (go_at_call 71; refine (qgy _ t c N d3 s3 (pkf F q c) HS3.out HRp.out).mono ?_; rintro e w4 ⟨s4, d4, rfl, ho4, hb4⟩; have HVa4 : Hid (Vr (w4.alloc (.cells #[.int .i64 (c : Int), .int .i64 (t : Int), .slice s4 N d4] 24)) w.heap.size (.int .i64 (r : Int)) (.int .i64 (c : Int)) (.slice a n k)) := (HVa3.out.later hb4).later (qa0 _ _); have HB4 : Hid (Below w.heap.size w (w4.alloc (.cells #[.int .i64 (c : Int), .int .i64 (t : Int), .slice s4 N d4] 24))) := qa1 (qa1 HB3.out hb4) (qa0 _ _); have HQ4 : Hid (Oi (w4.alloc (.cells #[.int .i64 (c : Int), .int .i64 (t : Int), .slice s4 N d4] 24)) w1.heap.size (.slice ps t pd) t q) := (HQ3.out.later hb4).later (qa0 _ _); have HM4 : Hid (Mt (w4.alloc (.cells #[.int .i64 (c : Int), .int .i64 (t : Int), .slice s4 N d4] 24)) s4 N d4 (trf (pkf F q c) t c)) := (Mt.later (qet ho4 (qdf HPl.out HRp.out)) (qa0 _ _)); clear ho4 hb4)
   | (go_at_call 72; refine (qk5 _ c t N d4 kb s4 b _ Y HM4.out HRq.out (HSb.out.later HB4.out) (comb_ex HSa.out.sl.1 HR.out HL.out HSpn.out)).mono ?_; rintro e w5 ⟨s5, d5, x, rfl, ho5, hs5, hb5⟩; have HO5 : Hid (Ob w5 w.heap.size (.slice s5 t d5) t x) := ho5.mono HB4.out.size; have HSol : Hid (SolA (trf (pkf F q c) t c) Y c t x) := hs5; have HQ5 : Hid (Oi w5 w1.heap.size (.slice ps t pd) t q) := HQ4.out.later hb5; have HVa5 : Hid (Vr w5 w.heap.size (.int .i64 (r : Int)) (.int .i64 (c : Int)) (.slice a n k)) := HVa4.out.later hb5; have HB5 : Hid (Below w.heap.size w w5) := qa1 HB4.out hb5; have z0 := HVa5.out.c0; clear ho5 hs5 hb5)
   | (at_make; refine wpList_make_full _ rfl _ _ 22 rfl w5.heap.size 5 i0 (.int .u8 0) 1 Tryz.underlying22 hi0 hz0 hz1 .i64 .i64 _ _ r rfl rfl rfl rfl (by rw [hz2]; omega) hml (Nat.le_refl _) ?_; intro w7 hown hgrow; have HR7 : Hid (RowAt w7 w5.heap.size 5 r (fun _ => 0)) := qby hown; have HQ7 : Hid (Oi w7 w1.heap.size (.slice ps t pd) t q) := HQ5.out.later (qa4.mp hgrow); have HO7 : Hid (Ob w7 w.heap.size (.slice s5 t d5) t x) := HO5.out.later (qa4.mp hgrow); have HB7 : Hid (Below w.heap.size w w7) := qa1 HB5.out (qa4.mp hgrow); clear hown hgrow))
  have N1 : Hid ((Value.slice s5 t d5).ownBlock ≠ some w5.heap.size) := fun e => by have := (HO5.out.base e).2; omega
  have N2 : Hid ((Value.slice ps t pd).ownBlock ≠ some w5.heap.size) := fun e => by have := (HQ5.out.base e).2; omega
  have k1 : w.heap.size ≤ w5.heap.size := HB5.out.size
  clear HO5 HQ5 HVa1 HVa2 HVa3 HVa4 HVa5 HQ2 HQ3 HQ4 HO3 HS3 HM4 HB1 HB2 HB3 HB4 HB5 z0 u0 u1 u2 y0 y1 y2 v0 v1 v2
  go_loopw [17] (fun si wi => ∃ i : Nat, i ≤ t ∧ si = .int .i64 (i : Int) ∧ RowAt wi w5.heap.size 5 r (pp q i x) ∧ Ob wi w.heap.size (.slice s5 t d5) t x ∧ Oi wi w1.heap.size (.slice ps t pd) t q ∧ Below w.heap.size w wi) (fun si _ => t - (intOf si).toNat)
  case atStart => exact ⟨0, by omega, rfl, HR7.out.congr (fun l _ => rfl), HO7.out, HQ7.out, HB7.out⟩
  case round =>
   clear HR7 HO7 HQ7 HB7
   obtain ⟨i, hit, rfl, hRow, hO, hQ, hB⟩ := hrel
   have HRow : Hid (RowAt wr w5.heap.size 5 r (pp q i x)) := hRow
   have HO : Hid (Ob wr w.heap.size (.slice s5 t d5) t x) := hO
   have HQ : Hid (Oi wr w1.heap.size (.slice ps t pd) t q) := hQ
   have HB : Hid (Below w.heap.size w wr) := hB
   clear hRow hB
   by_cases hlt : i < t
   ·obtain ⟨px, po, eps, hpc⟩ := hQ.il i hlt
    obtain ⟨qi, HQI⟩ : ∃ x, Hid (q i = x) := ⟨_, rfl⟩
    dsimp only at hpc
    rw [HQI.out] at hpc
    subst eps
    obtain ⟨g5, eg⟩ := hO.some (by omega)
    subst eg
    have hxc := hO.cell hlt
    obtain ⟨xi, HXI⟩ : ∃ z, Hid (x i = z) := ⟨_, rfl⟩
    rw [HXI.out] at hxc
    have hqi : qi < r := by rw [← HQI.out]; exact HL.out.lt i hlt
    have p0 : (0 : Int) ≤ (i : Int) := by omega
    have p1 : (i : Int) < (t : Int) := by omega
    have p2 : (0 : Int) ≤ (qi : Int) := by omega
    have p3 : (qi : Int) < (r : Int) := by omega
    have HD : Hid (wr.drew.cell? ⟨px, po + i, none⟩ = some (.int .i64 (qi : Int)) ∧ wr.drew.cell? ⟨g5, i, none⟩ = some (.int .u8 (xi : Int))) := ⟨hpc, hxc⟩
    clear hO hQ hpc hxc
    go_wp2
    refine qai (k := 10) (n := 10) (fun w' => w'.cell? ⟨px, po + i, none⟩ = some (.int .i64 (qi : Int)) ∧ w'.cell? ⟨g5, i, none⟩ = some (.int .u8 (xi : Int))) (by kernel_rfl) (by kernel_rfl) (by decide) (by rfl) ?_
    refine wtkq 0 ?v0 rfl (by kernel_rfl) (fun _ _ _ h => h) (by rfl) ?y0 HD.out ?z0
    case y0 => (intro w hSw; (try dsimp only at hSw); go_simp; try with_reducible rfl)
    try simp only [mz1, mz3, Act.put, mz4, mz5, mz6]
    refine wtkq 1 ?v1 rfl (by kernel_rfl) (fun _ _ _ h => h) (by rfl) ?y1 HD.out ?z1
    case y1 => (intro w hSw; (try dsimp only at hSw); go_simp; try with_reducible rfl)
    try simp only [mz1, mz2, mz3, Act.put, mz4, mz5, mz6]
    refine wtkq 2 ?v2 rfl (by kernel_rfl) (fun _ _ _ h => h) (by rfl) ?y2 HD.out ?z2
    case y2 => (intro w hSw; (try dsimp only at hSw); go_simp; try with_reducible rfl)
    try simp only [mz1, mz2, mz3, Act.put, mz4, mz5, mz6]
    refine wtkq 3 ?v3 rfl (by kernel_rfl) (fun _ _ _ h => h) (by rfl) ?y3 HD.out ?z3
    case y3 => (intro w hSw; (try dsimp only at hSw); go_simp; try with_reducible rfl)
    try simp only [mz1, mz2, mz3, Act.put, mz4, mz5, mz6]
    refine wtkq 4 ?v4 rfl (by kernel_rfl) (fun _ _ _ h => h) (by rfl) ?y4 HD.out ?z4
    case y4 => (intro w hSw; (try dsimp only at hSw); go_simp; try with_reducible rfl)
    try simp only [mz1, mz2, mz3, Act.put, mz4, mz5, mz6]
    refine wtkq 5 ?v5 rfl (by kernel_rfl) (fun _ _ _ h => h) (by rfl) ?y5 HD.out ?z5
    case y5 => (intro w hSw; (try dsimp only at hSw); go_simp; try with_reducible rfl)
    try simp only [mz1, mz2, mz3, Act.put, mz4, mz5, mz6]
    refine wtkq 6 ?v6 rfl (by kernel_rfl) (fun _ _ _ h => h) (by rfl) ?y6 HD.out ?z6
    case y6 => (intro w hSw; (try dsimp only at hSw); go_simp; try with_reducible rfl)
    try simp only [mz1, mz2, mz3, Act.put, mz4, mz5, mz6]
    refine wtkq 7 ?v7 rfl (by kernel_rfl) (fun _ _ _ h => h) (by rfl) ?y7 HD.out ?z7
    case y7 => (intro w hSw; (try dsimp only at hSw); go_simp; try with_reducible rfl)
    try simp only [mz1, mz2, mz3, Act.put, mz4, mz5, mz6]
    refine wtkq 8 ?v8 rfl (by kernel_rfl) (fun _ _ _ h => h) (by rfl) ?y8 HD.out ?z8
    case y8 => (intro w hSw; (try dsimp only at hSw); go_simp; try with_reducible rfl)
    try simp only [mz1, mz2, mz3, Act.put, mz4, mz5, mz6]
    refine wtkq 9 ?v9 rfl (by kernel_rfl) (fun _ _ _ h => h) (by rfl) ?y9 HD.out ?z9
    case y9 => (intro w hSw; (try dsimp only at hSw); go_simp; try with_reducible rfl)
    try simp only [mz1, mz2, mz3, Act.put, mz4, mz5, mz6]
    refine wpAnyH_done (by kernel_rfl) ?_ _
    have hcl : wr.drew.cell? ⟨w5.heap.size, qi, none⟩ = some (.int .u8 ((pp q i x qi : Nat) : Int)) := HRow.out.cell qi hqi
    have hfl : wr.drew.frozen? ⟨w5.heap.size, qi, none⟩ = false := HRow.out.free qi
    refine qb3 rfl (fun K hK => ?_)
    go_simp
    refine hK.out _ _ ?_
    clear hK K
    try simp only [mz1, mz2, mz3, Act.put, mz4, mz5, mz6]
    go_wp2
    exact ⟨⟨i + 1, by omega, by go_num, ((HRow.out.later (Below.refl _ _).drew).set qi xi).congr (fun l _ => by rw [← HQI.out, ← HXI.out]; exact qdp HL.out.up hlt x l), (HO.out.later (Below.refl _ _).drew).kept (qa2 _ _ _ _) (.inr N1.out), (HQ.out.later (Below.refl _ _).drew).kept (qa2 _ _ _ _) (.inr N2.out), qa6 (qa1 HB.out (Below.refl _ _).drew) (qa2 _ _ _ _) k1⟩, by simp [intOf]; omega⟩
   ·have HIT : Hid (i = t) := Nat.le_antisymm hit (by omega)
    clear hO hQ
    go_wp2
    go_ret3
    have hx : CmbA F Y r c (pp q t x) := ⟨comb_onf HL.out HSol.out.1, (qg9 HSa.out.sl.1 HR.out HL.out.lt HSol.out.1).1 HSol.out.2.1⟩
    have ho := row_ob (B := w.heap.size) HRow.out (by omega) k1
    rw [HIT.out] at ho
    exact .inl ⟨_, _, _, rfl, ho, hx, HB.out⟩
 ·have HSpn : Hid (¬ Spn (m2 F r c) r (ext0 Y c)) := hS
  clear hS
  go_enter Tryz.func39, Tryz.ntmps39
  go_wp2_with (first
   | (go_at_call 68; rw [← HW.out]; refine (qas _ _ _ _ _ _ HR.out.p).mono ?_; rintro e w1 ⟨rfl, hb1⟩; have HVa1 : Hid (Vr w1 w.heap.size (.int .i64 (r : Int)) (.int .i64 (c : Int)) (.slice a n k)) := HVa.out.later hb1; have HB1 : Hid (Below w.heap.size w w1) := qa1 HB0.out hb1; have u0 := HVa1.out.c0; have u1 := HVa1.out.c1; have u2 := HVa1.out.c2; clear hb1)
   | (go_at_call 70; refine (qh1 _ r c n k a F (HSa.out.later HB1.out) HR.out).mono ?_; rintro e w2 ⟨ps, pd, t, q, rfl, ho2, hL2, _, htr, hb2⟩; have HQ2 : Hid (Oi w2 w1.heap.size (.slice ps t pd) t q) := ho2; have HL : Hid (FstL (m2 F r c) r t q) := hL2; have HVa2 : Hid (Vr w2 w.heap.size (.int .i64 (r : Int)) (.int .i64 (c : Int)) (.slice a n k)) := HVa1.out.later hb2; have HB2 : Hid (Below w.heap.size w w2) := qa1 HB1.out hb2; have y0 := HVa2.out.c0; have y1 := HVa2.out.c1; have y2 := HVa2.out.c2; obtain ⟨N, HN⟩ : ∃ x, Hid (t * c = x) := ⟨_, rfl⟩; have HRp : Hid (Rt t c N) := ⟨Nat.le_trans htr hr, hc, HN.out⟩; have HRq : Hid (Rt c t N) := ⟨hc, Nat.le_trans htr hr, (by rw [Nat.mul_comm]; exact HN.out)⟩; have hNl := HRp.out.le; clear ho2 hL2 hb2)
   | (go_at_call 37; refine (qbz _ r c n k t pd N a ps F q (HSa.out.later HB2.out).sl HR.out HQ2.out.il HL.out.lt (Nat.le_trans htr hr) HN).mono ?_; rintro e w3 ⟨s3, d3, rfl, ho3, hb3⟩; have HO3 : Hid (Ob w3 w2.heap.size (.slice s3 N d3) N (pkf F q c)) := ho3; have HVa3 : Hid (Vr (w3.alloc (.cells #[.int .i64 (t : Int), .int .i64 (c : Int), .slice s3 N d3] 24)) w.heap.size (.int .i64 (r : Int)) (.int .i64 (c : Int)) (.slice a n k)) := (HVa2.out.later hb3).later (qa0 _ _); have HB3 : Hid (Below w.heap.size w (w3.alloc (.cells #[.int .i64 (t : Int), .int .i64 (c : Int), .slice s3 N d3] 24))) := qa1 (qa1 HB2.out hb3) (qa0 _ _); have HQ3 : Hid (Oi (w3.alloc (.cells #[.int .i64 (t : Int), .int .i64 (c : Int), .slice s3 N d3] 24)) w1.heap.size (.slice ps t pd) t q) := (HQ2.out.later hb3).later (qa0 _ _); have HPl : Hid (∀ u, u < N → pkf F q c u < 256) := fun u hu => qdt HSa.out.sl.1 HR.out HL.out.lt u (by rw [HN.out]; exact hu); have HS3 : Hid (Sl (w3.alloc (.cells #[.int .i64 (t : Int), .int .i64 (c : Int), .slice s3 N d3] 24)) s3 N (pkf F q c)) := (HO3.out.later (qa0 _ _)).sl HPl.out; clear ho3 hb3)
   | (go_at_call 71; refine (qgy _ t c N d3 s3 (pkf F q c) HS3.out HRp.out).mono ?_; rintro e w4 ⟨s4, d4, rfl, ho4, hb4⟩; have HVa4 : Hid (Vr (w4.alloc (.cells #[.int .i64 (c : Int), .int .i64 (t : Int), .slice s4 N d4] 24)) w.heap.size (.int .i64 (r : Int)) (.int .i64 (c : Int)) (.slice a n k)) := (HVa3.out.later hb4).later (qa0 _ _); have HB4 : Hid (Below w.heap.size w (w4.alloc (.cells #[.int .i64 (c : Int), .int .i64 (t : Int), .slice s4 N d4] 24))) := qa1 (qa1 HB3.out hb4) (qa0 _ _); have HQ4 : Hid (Oi (w4.alloc (.cells #[.int .i64 (c : Int), .int .i64 (t : Int), .slice s4 N d4] 24)) w1.heap.size (.slice ps t pd) t q) := (HQ3.out.later hb4).later (qa0 _ _); have HM4 : Hid (Mt (w4.alloc (.cells #[.int .i64 (c : Int), .int .i64 (t : Int), .slice s4 N d4] 24)) s4 N d4 (trf (pkf F q c) t c)) := (Mt.later (qet ho4 (qdf HPl.out HRp.out)) (qa0 _ _)); clear ho4 hb4)
   | (go_at_call 72; refine (qlt _ c t N d4 kb s4 b _ Y HM4.out HRq.out (HSb.out.later HB4.out) (fun x hx => comb_no HSa.out.sl.1 HR.out HL.out HSpn.out hx)).mono ?_; rintro e w5 ⟨rfl, hb5⟩; have HB5 : Hid (Below w.heap.size w w5) := qa1 HB4.out hb5; clear hb5))
  go_ret3
  exact .inr ⟨rfl, HSpn.out, HB5.out⟩
open Go.RowKit
/-- As many rows as the rank: they are independent. -/
theorem Rk.ind {M : Nat → Nat → Nat} (hM : El2 M) {r : Nat} (h : Rk M r r) : Ind M r := by
 intro a ha hz i hi
 apply Classical.byContradiction
 intro hne
 obtain ⟨r, rfl⟩ : ∃ r', r = r' + 1 := ⟨r - 1, by omega⟩
 have hle : Le M (r + 1) (fun u => M (sk i u)) r := by
  have hE : El2 (fun u => M (sk i u)) := fun u j => hM _ j
  intro t ht
  by_cases e : t = i
  ·subst e
   have hv := qae (a t)
   refine (qb2 hv ⟨fun u => a (sk t u), fun u => ha _, fun _ => rfl⟩ : Spn (fun u => M (sk t u)) r (fun j => fm (finv (a t)) (lc (fun u => a (sk t u)) (fun u => M (sk t u)) r j))).congr (fun j => ?_)
   have e1 := hz j
   rw [qkv (k := t) _ _ (by omega)] at e1
   have e2 := qd5 e1
   rw [← e2, ← qam _ _ _ hv (ha t), qaf _ _ hv (ha t), qar _ (ha t) hne, qb7 _ (hM t j)]
  ·obtain ⟨u, hu, e2⟩ : ∃ u, u < r ∧ sk i u = t := by
    by_cases h1 : t < i
    ·exact ⟨t, by omega, by unfold sk; rw [if_pos h1]⟩
    ·exact ⟨t - 1, by omega, by unfold sk; rw [if_neg (by omega)]; omega⟩
   rw [← e2]
   exact qab hE hu
 have := h.le hle
 omega
open Go.RowKit
/-- A row of values. -/
def vrow (n : Nat) (v : Nat → Value) : Array Value := (Array.range n).map v
theorem qev (n : Nat) (v : Nat → Value) : (vrow n v).size = n := by simp [vrow]
theorem vrow_get (n : Nat) (v : Nat → Value) (i : Nat) (h : i < n) : (vrow n v)[i]? = some (v i) := by simp [vrow, h]
theorem vrow_set (n : Nat) (v : Nat → Value) (i : Nat) (x : Value) : (vrow n v).setIfInBounds i x = vrow n (fun j => if j = i then x else v j) := by
 apply Array.ext
 ·simp [vrow]
 ·intro j h1 h2
  by_cases e : i = j
  ·subst e; simp [vrow]
  ·rw [Array.getElem_setIfInBounds_ne (by simpa using h1) e]; simp [vrow, Ne.symm e]
/-- A row of lists. -/
def VAt (w : World) (g n : Nat) (v : Nat → Value) : Prop := w.heap[g]? = some (.cells (vrow n v) 22 (0, 0))
theorem VAt.lt {w : World} {g n : Nat} {v : Nat → Value} (h : VAt w g n v) : g < w.heap.size := lt_of_block h
theorem VAt.cell {w : World} {g n : Nat} {v : Nat → Value} (h : VAt w g n v) (i : Nat) (hi : i < n) : w.cell? ⟨g, i, none⟩ = some (v i) := by rw [cell_of_row w g i _ _ _ h, vrow_get n v i hi]
theorem VAt.free {w : World} {g n : Nat} {v : Nat → Value} (h : VAt w g n v) (i : Nat) : w.frozen? ⟨g, i, none⟩ = false := by
 unfold VAt at h
 simp [World.frozen?, h]
theorem VAt.later {w w' : World} {g n : Nat} {v : Nat → Value} (h : VAt w g n v) (hb : Below w.heap.size w w') : VAt w' g n v := by unfold VAt; rw [hb.block g h.lt]; exact h
theorem VAt.congr {w : World} {g n : Nat} {v v' : Nat → Value} (h : VAt w g n v) (e : ∀ i, i < n → v i = v' i) : VAt w g n v' := by
 unfold VAt at *
 rw [h]
 congr 2
 apply Array.ext
 ·simp [vrow]
 ·intro i h1 h2
  simp [vrow]
  exact e i (by simpa [vrow] using h1)
theorem VAt.set {w : World} {g n : Nat} {v : Nat → Value} (h : VAt w g n v) (i : Nat) (x : Value) : VAt (w.setCell ⟨g, i, none⟩ x) g n (fun j => if j = i then x else v j) := by
 unfold VAt at *
 rw [setCell_eq_setRow w g i _ _ (0, 0) _ h, setRow_heap w g _ _ _ (0, 0) h, vrow_set]
theorem vmade_at {w1 : World} {base g n : Nat} (h : w1.ownsRow base 22 1 (.slice (some ⟨g, 0, none⟩) n n) n (madeCells (Value.slice none 0 0).cells (n * 1)).toList) : VAt w1 g n (fun _ => .slice none 0 0) := by
 rcases h.2 with ⟨h', _⟩ | ⟨g', cap', cur, h', _, hg, _, _, hs, htake⟩
 ·simp at h'
 ·simp only [Value.slice.injEq, Option.some.injEq, Addr.mk.injEq, and_true, true_and] at h'
  obtain ⟨rfl, rfl⟩ := h'
  unfold VAt
  rw [hg]
  congr 2
  apply Array.toList_inj.mp
  rw [List.take_of_length_le (by simp; omega)] at htake
  rw [htake, Nat.mul_one]
  show (madeCells #[Value.slice none 0 0] n).toList = _
  rw [toList_madeCells_one]
  apply List.ext_getElem
  ·simp [vrow]
  ·intro i h1 h2; simp [vrow]
theorem VAt.own {w : World} {g n B : Nat} {v : Nat → Value} (h : VAt w g n v) (hb : B ≤ g) (hn : n ≤ maxLen) : w.ownsRow B 22 1 (.slice (some ⟨g, 0, none⟩) n n) n (vrow n v).toList :=
 ⟨by simp [qev], .inr ⟨g, n, vrow n v, rfl, hb, h, Nat.le_refl _, hn, by simp [qev], List.take_of_length_le (by simp [qev])⟩⟩
theorem info22 : (Tryz.prog.info? 22).map (fun i => (i.zero, i.size, i.bytes)) = some (some (.slice none 0 0), 1, 24) := by kernel_rfl
open Go.RowKit
/-- Every place of a matrix is a row and a column. -/
theorem place_of {r c n p : Nat} (R : Rt r c n) (hp : p < n) : ∃ i j, i < r ∧ j < c ∧ p = i * c + j := by
 have hl := R.len
 have hc : 0 < c := by
  rcases Nat.eq_zero_or_pos c with rfl | h
  ·omega
  ·exact h
 refine ⟨p / c, p % c, (Nat.div_lt_iff_lt_mul hc).2 (by rw [hl]; exact hp), Nat.mod_lt p hc, ?_⟩
 have := Nat.div_add_mod p c
 rw [Nat.mul_comm] at this
 exact this.symm
open Go.RowKit
/-- What Reduce answers of a right matrix. -/
def RedP (w w' : World) (e : Ending) (r c n : Nat) (F : Nat → Nat) : Prop := ∃ s d ps pd top p G, e = .returned (.tuple #[mv r c s n d, .slice ps top pd, .int .i64 0]) ∧ Mt w' s n d G ∧ Il w' ps top (fun i => (p i : Int)) ∧ Rdf (m2 G r c) r top p ∧ SpEq (m2 G r c) r (m2 F r c) r ∧ (∀ i, i < top → p i < c) ∧ Below w.heap.size w w'
theorem RedA.p {w w' : World} {e : Ending} {r c n : Nat} {F : Nat → Nat} (h : RedA w w' e r c n F) : RedP w w' e r c n F := by
 obtain ⟨s, d, ps, pd, top, p, G, he, ho, hi, hG, hr⟩ := h
 exact ⟨s, d, ps, pd, top, p, G, he, qet ho hG, hi.il, hr⟩
theorem RedP.later {w w1 w' : World} {e : Ending} {r c n : Nat} {F : Nat → Nat} (h : RedP w1 w' e r c n F) (hb : Below w.heap.size w w1) : RedP w w' e r c n F := by
 obtain ⟨s, d, ps, pd, top, p, G, he, hm, hi, hr, hs, hp, hb2⟩ := h
 exact ⟨s, d, ps, pd, top, p, G, he, hm, hi, hr, hs, hp, qa1 hb hb2⟩
theorem Il.congr {w : World} {b : Option Addr} {m : Nat} {q q' : Nat → Int} (h : Il w b m q) (e : ∀ i, i < m → q i = q' i) : Il w b m q' := fun i hi => by
 obtain ⟨x, o, ea, hc⟩ := h i hi
 exact ⟨x, o, ea, by rw [← e i hi]; exact hc⟩
end Go.Proofs.YtblagbghpfopcaaGreat
