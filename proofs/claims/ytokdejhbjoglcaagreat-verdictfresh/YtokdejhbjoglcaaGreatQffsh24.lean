/-
  Contracts of the reference: Kernel's and Solve's errors; Solve where there is something, and where there is nothing; words for Combine.
  Contract of the reference: Combine.
-/
import Derived.Test.YtokdejhbjoglcaaGreatQffsh00
import Derived.Test.YtokdejhbjoglcaaGreatQffsh23
set_option maxRecDepth 100000
set_option maxHeartbeats 16000000
namespace Go.Proofs.YtokdejhbjoglcaaGreat
open Go.RowKit
theorem qio (w : World) (r c n k kb : Nat) (a b : Option Addr) (F X : Nat → Nat) (ha : Mt w a n k F) (R : Rt r c n) (hb : Sl w b r X) (hx : ∃ x, Sol (m2 F r c) r c (ext0 X r) x) :
  Calls Tryz.prog 44 #[mv r c a n k, .slice b r kb] w fun e w' => ∃ s d x, e = .returned (.tuple #[.slice s c d, .bool true, .int .i64 0]) ∧ Ob w' w.heap.size (.slice s c d) c x ∧ SolA F X r c x ∧ Below w.heap.size w w' :=
 (qg1 w r c n k kb a b F X ha R hb).mono fun _ _ h => by
  rcases h with h | ⟨_, hno, _⟩
  ·exact h
  ·obtain ⟨x, hx⟩ := hx
   exact absurd hx (hno x)
theorem qkd (w : World) (r c n k kb : Nat) (a b : Option Addr) (F X : Nat → Nat) (ha : Mt w a n k F) (R : Rt r c n) (hb : Sl w b r X) (hx : ∀ x, El x → ¬ Sol (m2 F r c) r c (ext0 X r) x) :
  Calls Tryz.prog 44 #[mv r c a n k, .slice b r kb] w fun e w' => e = .returned (.tuple #[.slice none 0 0, .bool false, .int .i64 0]) ∧ Below w.heap.size w w' :=
 (qg1 w r c n k kb a b F X ha R hb).mono fun _ _ h => by
  rcases h with ⟨_, _, x, _, _, h, _⟩ | ⟨he, _, hb⟩
  ·exact absurd h.2.1 (hx x h.1)
  ·exact ⟨he, hb⟩
/-- Factors at the places of a rising list. -/
theorem lc_pp {M : Nat → Nat → Nat} (hM : El2 M) {q : Nat → Nat} {t r : Nat} (hq : ∀ u, u < t → q u < r) {x : Nat → Nat} (hx : El x) (j : Nat) : lc (pp q t x) M r j = xs (fun u => fm (M (q u) j) (x u)) t := by
 rw [← dt_pp (fun i => hM i j) hq x]
 exact qa8 (fun i _ => qaj _ _ (qjh q t hx i) (hM i j))
theorem qip (F : Nat → Nat) {q : Nat → Nat} {r c t : Nat} (hq : ∀ u, u < t → q u < r) (j u : Nat) (hj : j < c) (hu : u < t) : m2 (trf (pkf F q c) t c) c t j u = m2 F r c (q u) j := by
 rw [qaf _ hj hu, qfx _ t c u j hu, qch _ _ _ _ _ hj, qaf _ (hq u hu) hj]
/-- What is sent by the picked rows, turned over, is put together of them. -/
theorem qf9 {F Y x : Nat → Nat} {r c t n : Nat} {q : Nat → Nat} (hF : ∀ i, i < n → F i < 256) (R : Rt r c n) (hq : ∀ u, u < t → q u < r) (hx : El x) : Sol (m2 (trf (pkf F q c) t c) c t) c t (ext0 Y c) x ↔ ∀ j, ext0 Y c j = lc (pp q t x) (m2 F r c) r j := by
 have hM := qao hF R
 have key : ∀ j, j < c → dt (m2 (trf (pkf F q c) t c) c t j) x t = lc (pp q t x) (m2 F r c) r j := fun j hj => by
  rw [lc_pp hM hq hx]
  exact qa8 (fun u hu => by rw [qip F hq j u hj hu])
 constructor
 ·intro h j
  by_cases hj : j < c
  ·rw [← key j hj]; exact (h j hj).symm
  ·have e1 : ext0 Y c j = 0 := if_neg hj
   rw [e1]
   exact (qad (fun i _ => by rw [qac _ (by omega), qa7])).symm
 ·intro h j hj
  rw [key j hj]; exact (h j).symm
theorem comb_onf {M : Nat → Nat → Nat} {r t : Nat} {q : Nat → Nat} (L : FstL M r t q) {x : Nat → Nat} (hx : El x) : OnF M r (pp q t x) := by
 refine ⟨qjh q t hx, fun i _ hne => ?_⟩
 cases hv : pvt q t i with
 | false => exact absurd (qf2 x hv) hne
 | true =>
  obtain ⟨u, hu, e⟩ := (qb9 q t i).1 hv
  rw [← e]; exact L.is u hu
theorem comb_ex {F Y : Nat → Nat} {r c t n : Nat} {q : Nat → Nat} (hF : ∀ i, i < n → F i < 256) (R : Rt r c n) (L : FstL (m2 F r c) r t q) (h : Spn (m2 F r c) r (ext0 Y c)) : ∃ x, Sol (m2 (trf (pkf F q c) t c) c t) c t (ext0 Y c) x := by
 obtain ⟨a, ha, e⟩ := fst_ex r _ h
 have hx : El (fun u => a (q u)) := fun u => ha.1 (q u)
 refine ⟨fun u => a (q u), (qf9 hF R L.lt hx).2 (fun j => ?_)⟩
 rw [e j]
 refine qam (fun i hi => ?_) (fun _ _ => rfl)
 cases hv : pvt q t i with
 | true =>
  obtain ⟨u, hu, e2⟩ := (qb9 q t i).1 hv
  rw [← e2]
  exact (pp_at L.up (fun u => a (q u)) hu).symm
 | false =>
  rw [qf2 _ hv]
  apply Classical.byContradiction
  intro hne
  obtain ⟨u, hu, e2⟩ := L.all i hi (ha.2 i hi hne)
  exact pvt_no hv hu e2
theorem comb_no {F Y : Nat → Nat} {r c t n : Nat} {q : Nat → Nat} (hF : ∀ i, i < n → F i < 256) (R : Rt r c n) (L : FstL (m2 F r c) r t q) (h : ¬ Spn (m2 F r c) r (ext0 Y c)) {x : Nat → Nat} (hx : El x) : ¬ Sol (m2 (trf (pkf F q c) t c) c t) c t (ext0 Y c) x := fun hs =>
 h ⟨pp q t x, qjh q t hx, (qf9 hF R L.lt hx).1 hs⟩
/-- What Combine answers. -/
def CmbA (F Y : Nat → Nat) (r c : Nat) (x : Nat → Nat) : Prop := OnF (m2 F r c) r x ∧ ∀ j, ext0 Y c j = lc x (m2 F r c) r j
open Go.RowKit
theorem qgr {w : World} {base n d : Nat} {s : Option Addr} {f : Nat → Nat} (h : w.ownsRow base 5 1 (.slice s n d) n (row n f).toList) (hf : ∀ i, i < n → f i < 256) : Mt w s n d f := by
 refine ⟨qbx h hf, ?_, qbe h⟩
 rcases h.2 with ⟨e, h0⟩ | ⟨g, cap, cur, e, _, _, hc, _⟩
 ·cases e; omega
 ·cases e; omega
theorem qhn {F : Nat → Nat} {r c n : Nat} (hF : ∀ i, i < n → F i < 256) (R : Rt r c n) : ∀ p, p < n → trf F r c p < 256 := by
 intro p hp
 have hl := R.len
 have hr : 0 < r := by
  rcases Nat.eq_zero_or_pos r with rfl | h
  ·omega
  ·exact h
 unfold trf
 exact hF _ (R.at (Nat.mod_lt p hr) ((Nat.div_lt_iff_lt_mul hr).2 (by rw [Nat.mul_comm, hl]; exact hp)))
theorem rcomb_ok (w : World) (r c n k kb : Nat) (a b : Option Addr) (F Y : Nat → Nat) (ha : Mt w a n k F) (R : Rt r c n) (hb : Sl w b c Y) :
  Calls Tryz.prog 20 #[mv r c a n k, .slice b c kb] w fun e w' => (∃ s d x, e = .returned (.tuple #[.slice s r d, .bool true, .int .i64 0]) ∧ Ob w' w.heap.size (.slice s r d) r x ∧ CmbA F Y r c x ∧ Below w.heap.size w w') ∨ (e = .returned (.tuple #[.slice none 0 0, .bool false, .int .i64 0]) ∧ ¬ Spn (m2 F r c) r (ext0 Y c) ∧ Below w.heap.size w w') := by
 have HR : Hid (Rt r c n) := R
 have HSa : Hid (Mt w a n k F) := ha
 have HSb : Hid (Sl w b c Y) := hb
 have hn := R.le
 have hr := R.r64
 have hc := R.c64
 obtain ⟨wb, HW⟩ : ∃ wb, Hid (wb = w.alloc (.cells #[.int .i64 (r : Int), .int .i64 (c : Int), .slice a n k] 24)) := ⟨_, rfl⟩
 have HVa : Hid (Vr wb w.heap.size (.int .i64 (r : Int)) (.int .i64 (c : Int)) (.slice a n k)) := by show Vr _ _ _ _ _; rw [HW.out]; exact Vr.new _ _ _ _
 have HB0 : Hid (Below w.heap.size w wb) := by rw [HW.out]; exact qa1 _ _
 have v0 := HVa.out.c0
 have v1 := HVa.out.c1
 have v2 := HVa.out.c2
 obtain ⟨i0, hi0, hz0, hz1, hz2⟩ := info_parts qcs
 have hml : r ≤ maxLen := by unfold maxLen; omega
 clear ha R hb
 by_cases hS : Spn (m2 F r c) r (ext0 Y c)
 ·have HSpn : Hid (Spn (m2 F r c) r (ext0 Y c)) := hS
  clear hS
  go_enter Tryz.func20, Tryz.ntmps20
  go_wp2_with (first
   | (go_at_call 40; rw [← HW.out]; refine (qas _ _ _ _ _ _ HR.out.p).mono ?_; rintro e w1 ⟨rfl, hb1⟩; have HVa1 : Hid (Vr w1 w.heap.size (.int .i64 (r : Int)) (.int .i64 (c : Int)) (.slice a n k)) := HVa.out.later hb1; have HB1 : Hid (Below w.heap.size w w1) := qa0 HB0.out hb1; have u0 := HVa1.out.c0; have u1 := HVa1.out.c1; have u2 := HVa1.out.c2; clear hb1)
   | (go_at_call 42; refine (qg0 _ r c n k a F (HSa.out.later HB1.out) HR.out).mono ?_; rintro e w2 ⟨ps, pd, t, q, rfl, ho2, hL2, _, htr, hb2⟩; have HQ2 : Hid (Oi w2 w1.heap.size (.slice ps t pd) t q) := ho2; have HL : Hid (FstL (m2 F r c) r t q) := hL2; have HVa2 : Hid (Vr w2 w.heap.size (.int .i64 (r : Int)) (.int .i64 (c : Int)) (.slice a n k)) := HVa1.out.later hb2; have HB2 : Hid (Below w.heap.size w w2) := qa0 HB1.out hb2; have y0 := HVa2.out.c0; have y1 := HVa2.out.c1; have y2 := HVa2.out.c2; obtain ⟨N, HN⟩ : ∃ x, Hid (t * c = x) := ⟨_, rfl⟩; have HRp : Hid (Rt t c N) := ⟨Nat.le_trans htr hr, hc, HN.out⟩; have HRq : Hid (Rt c t N) := ⟨hc, Nat.le_trans htr hr, (by rw [Nat.mul_comm]; exact HN.out)⟩; have hNl := HRp.out.le; clear ho2 hL2 hb2)
   | (go_at_call 18; refine (qbo _ r c n k t pd N a ps F q (HSa.out.later HB2.out).sl HR.out HQ2.out.il HL.out.lt (Nat.le_trans htr hr) HN).mono ?_; rintro e w3 ⟨s3, d3, rfl, ho3, hb3⟩; have HO3 : Hid (Ob w3 w2.heap.size (.slice s3 N d3) N (pkf F q c)) := ho3; have HVa3 : Hid (Vr (w3.alloc (.cells #[.int .i64 (t : Int), .int .i64 (c : Int), .slice s3 N d3] 24)) w.heap.size (.int .i64 (r : Int)) (.int .i64 (c : Int)) (.slice a n k)) := (HVa2.out.later hb3).later (qa1 _ _); have HB3 : Hid (Below w.heap.size w (w3.alloc (.cells #[.int .i64 (t : Int), .int .i64 (c : Int), .slice s3 N d3] 24))) := qa0 (qa0 HB2.out hb3) (qa1 _ _); have HQ3 : Hid (Oi (w3.alloc (.cells #[.int .i64 (t : Int), .int .i64 (c : Int), .slice s3 N d3] 24)) w1.heap.size (.slice ps t pd) t q) := (HQ2.out.later hb3).later (qa1 _ _); have HPl : Hid (∀ u, u < N → pkf F q c u < 256) := fun u hu => qe3 HSa.out.sl.1 HR.out HL.out.lt u (by rw [HN.out]; exact hu); have HS3 : Hid (Sl (w3.alloc (.cells #[.int .i64 (t : Int), .int .i64 (c : Int), .slice s3 N d3] 24)) s3 N (pkf F q c)) := (HO3.out.later (qa1 _ _)).sl HPl.out; clear ho3 hb3)
   | (go_at_call 43; refine (qfy _ t c N d3 s3 (pkf F q c) HS3.out HRp.out).mono ?_; rintro e w4 ⟨s4, d4, rfl, ho4, hb4⟩; have HVa4 : Hid (Vr (w4.alloc (.cells #[.int .i64 (c : Int), .int .i64 (t : Int), .slice s4 N d4] 24)) w.heap.size (.int .i64 (r : Int)) (.int .i64 (c : Int)) (.slice a n k)) := (HVa3.out.later hb4).later (qa1 _ _); have HB4 : Hid (Below w.heap.size w (w4.alloc (.cells #[.int .i64 (c : Int), .int .i64 (t : Int), .slice s4 N d4] 24))) := qa0 (qa0 HB3.out hb4) (qa1 _ _); have HQ4 : Hid (Oi (w4.alloc (.cells #[.int .i64 (c : Int), .int .i64 (t : Int), .slice s4 N d4] 24)) w1.heap.size (.slice ps t pd) t q) := (HQ3.out.later hb4).later (qa1 _ _); have HM4 : Hid (Mt (w4.alloc (.cells #[.int .i64 (c : Int), .int .i64 (t : Int), .slice s4 N d4] 24)) s4 N d4 (trf (pkf F q c) t c)) := (Mt.later (qgr ho4 (qhn HPl.out HRp.out)) (qa1 _ _)); clear ho4 hb4)
   | (go_at_call 44; refine (qio _ c t N d4 kb s4 b _ Y HM4.out HRq.out (HSb.out.later HB4.out) (comb_ex HSa.out.sl.1 HR.out HL.out HSpn.out)).mono ?_; rintro e w5 ⟨s5, d5, x, rfl, ho5, hs5, hb5⟩; have HO5 : Hid (Ob w5 w.heap.size (.slice s5 t d5) t x) := ho5.mono HB4.out.size; have HSol : Hid (SolA (trf (pkf F q c) t c) Y c t x) := hs5; have HQ5 : Hid (Oi w5 w1.heap.size (.slice ps t pd) t q) := HQ4.out.later hb5; have HVa5 : Hid (Vr w5 w.heap.size (.int .i64 (r : Int)) (.int .i64 (c : Int)) (.slice a n k)) := HVa4.out.later hb5; have HB5 : Hid (Below w.heap.size w w5) := qa0 HB4.out hb5; have z0 := HVa5.out.c0; clear ho5 hs5 hb5)
   | (at_make; refine wpList_make_full _ rfl _ _ 22 rfl w5.heap.size 5 i0 (.int .u8 0) 1 Tryz.underlying22 hi0 hz0 hz1 .i64 .i64 _ _ r rfl rfl rfl rfl (by rw [hz2]; omega) hml (Nat.le_refl _) ?_; intro w7 hown hgrow; have HR7 : Hid (RowAt w7 w5.heap.size 5 r (fun _ => 0)) := qbu hown; have HQ7 : Hid (Oi w7 w1.heap.size (.slice ps t pd) t q) := HQ5.out.later (qa5.mp hgrow); have HO7 : Hid (Ob w7 w.heap.size (.slice s5 t d5) t x) := HO5.out.later (qa5.mp hgrow); have HB7 : Hid (Below w.heap.size w w7) := qa0 HB5.out (qa5.mp hgrow); clear hown hgrow))
  have N1 : Hid ((Value.slice s5 t d5).ownBlock ≠ some w5.heap.size) := fun e => by have := (HO5.out.base e).2; omega
  have N2 : Hid ((Value.slice ps t pd).ownBlock ≠ some w5.heap.size) := fun e => by have := (HQ5.out.base e).2; omega
  have k1 : w.heap.size ≤ w5.heap.size := HB5.out.size
  clear HO5 HQ5 HVa1 HVa2 HVa3 HVa4 HVa5 HQ2 HQ3 HQ4 HO3 HS3 HM4 HB1 HB2 HB3 HB4 HB5 z0 u0 u1 u2 y0 y1 y2 v0 v1 v2
  go_loopw [17] (fun si wi => ∃ i : Nat, i ≤ t ∧ si = .int .i64 (i : Int) ∧ RowAt wi w5.heap.size 5 r (pp q i x) ∧ Ob wi w.heap.size (.slice s5 t d5) t x ∧ Oi wi w1.heap.size (.slice ps t pd) t q ∧ Below w.heap.size w wi) (fun si _ => t - (intOf si).toNat)
  case atStart => exact ⟨0, by omega, rfl, HR7.out.congr (fun l _ => rfl), HO7.out, HQ7.out, HB7.out⟩
  case round =>
   clear HR7 HO7 HQ7 HB7
   obtain ⟨i, hit, rfl, hRow, hO, hQ, hB⟩ := hrel
   have HRow : Hid (RowAt wr w5.heap.size 5 r (pp q i x)) := hRow
   have HO : Hid (Ob wr w.heap.size (.slice s5 t d5) t x) := hO
   have HQ : Hid (Oi wr w1.heap.size (.slice ps t pd) t q) := hQ
   have HB : Hid (Below w.heap.size w wr) := hB
   clear hRow hB
   by_cases hlt : i < t
   ·obtain ⟨px, po, eps, hpc⟩ := hQ.il i hlt
    obtain ⟨qi, HQI⟩ : ∃ x, Hid (q i = x) := ⟨_, rfl⟩
    dsimp only at hpc
    rw [HQI.out] at hpc
    subst eps
    obtain ⟨g5, eg⟩ := hO.some (by omega)
    subst eg
    have hxc := hO.cell hlt
    obtain ⟨xi, HXI⟩ : ∃ z, Hid (x i = z) := ⟨_, rfl⟩
    rw [HXI.out] at hxc
    have hqi : qi < r := by rw [← HQI.out]; exact HL.out.lt i hlt
    have p0 : (0 : Int) ≤ (i : Int) := by omega
    have p1 : (i : Int) < (t : Int) := by omega
    have p2 : (0 : Int) ≤ (qi : Int) := by omega
    have p3 : (qi : Int) < (r : Int) := by omega
    have HD : Hid (wr.drew.cell? ⟨px, po + i, none⟩ = some (.int .i64 (qi : Int)) ∧ wr.drew.cell? ⟨g5, i, none⟩ = some (.int .u8 (xi : Int))) := ⟨hpc, hxc⟩
    clear hO hQ hpc hxc
    go_wp2
    refine qae (k := 10) (n := 10) (fun w' => w'.cell? ⟨px, po + i, none⟩ = some (.int .i64 (qi : Int)) ∧ w'.cell? ⟨g5, i, none⟩ = some (.int .u8 (xi : Int))) (by kernel_rfl) (by kernel_rfl) (by decide) (by rfl) ?_
    refine wtkq 0 ?v0 rfl (by kernel_rfl) (fun _ _ _ h => h) (by rfl) ?y0 HD.out ?z0
    case y0 => (intro w hSw; (try dsimp only at hSw); go_simp; try with_reducible rfl)
    try simp only [mz1, mz3, Act.put, mz4, mz5, mz6]
    refine wtkq 1 ?v1 rfl (by kernel_rfl) (fun _ _ _ h => h) (by rfl) ?y1 HD.out ?z1
    case y1 => (intro w hSw; (try dsimp only at hSw); go_simp; try with_reducible rfl)
    try simp only [mz1, mz2, mz3, Act.put, mz4, mz5, mz6]
    refine wtkq 2 ?v2 rfl (by kernel_rfl) (fun _ _ _ h => h) (by rfl) ?y2 HD.out ?z2
    case y2 => (intro w hSw; (try dsimp only at hSw); go_simp; try with_reducible rfl)
    try simp only [mz1, mz2, mz3, Act.put, mz4, mz5, mz6]
    refine wtkq 3 ?v3 rfl (by kernel_rfl) (fun _ _ _ h => h) (by rfl) ?y3 HD.out ?z3
    case y3 => (intro w hSw; (try dsimp only at hSw); go_simp; try with_reducible rfl)
    try simp only [mz1, mz2, mz3, Act.put, mz4, mz5, mz6]
    refine wtkq 4 ?v4 rfl (by kernel_rfl) (fun _ _ _ h => h) (by rfl) ?y4 HD.out ?z4
    case y4 => (intro w hSw; (try dsimp only at hSw); go_simp; try with_reducible rfl)
    try simp only [mz1, mz2, mz3, Act.put, mz4, mz5, mz6]
    refine wtkq 5 ?v5 rfl (by kernel_rfl) (fun _ _ _ h => h) (by rfl) ?y5 HD.out ?z5
    case y5 => (intro w hSw; (try dsimp only at hSw); go_simp; try with_reducible rfl)
    try simp only [mz1, mz2, mz3, Act.put, mz4, mz5, mz6]
    refine wtkq 6 ?v6 rfl (by kernel_rfl) (fun _ _ _ h => h) (by rfl) ?y6 HD.out ?z6
    case y6 => (intro w hSw; (try dsimp only at hSw); go_simp; try with_reducible rfl)
    try simp only [mz1, mz2, mz3, Act.put, mz4, mz5, mz6]
    refine wtkq 7 ?v7 rfl (by kernel_rfl) (fun _ _ _ h => h) (by rfl) ?y7 HD.out ?z7
    case y7 => (intro w hSw; (try dsimp only at hSw); go_simp; try with_reducible rfl)
    try simp only [mz1, mz2, mz3, Act.put, mz4, mz5, mz6]
    refine wtkq 8 ?v8 rfl (by kernel_rfl) (fun _ _ _ h => h) (by rfl) ?y8 HD.out ?z8
    case y8 => (intro w hSw; (try dsimp only at hSw); go_simp; try with_reducible rfl)
    try simp only [mz1, mz2, mz3, Act.put, mz4, mz5, mz6]
    refine wtkq 9 ?v9 rfl (by kernel_rfl) (fun _ _ _ h => h) (by rfl) ?y9 HD.out ?z9
    case y9 => (intro w hSw; (try dsimp only at hSw); go_simp; try with_reducible rfl)
    try simp only [mz1, mz2, mz3, Act.put, mz4, mz5, mz6]
    refine wpAnyH_done (by kernel_rfl) ?_ _
    have hcl : wr.drew.cell? ⟨w5.heap.size, qi, none⟩ = some (.int .u8 ((pp q i x qi : Nat) : Int)) := HRow.out.cell qi hqi
    have hfl : wr.drew.frozen? ⟨w5.heap.size, qi, none⟩ = false := HRow.out.free qi
    refine qax rfl (fun K hK => ?_)
    go_simp
    refine hK.out _ _ ?_
    clear hK K
    try simp only [mz1, mz2, mz3, Act.put, mz4, mz5, mz6]
    go_wp2
    exact ⟨⟨i + 1, by omega, by go_num, ((HRow.out.later (Below.refl _ _).drew).set qi xi).congr (fun l _ => by rw [← HQI.out, ← HXI.out]; exact qkb HL.out.up hlt x l), (HO.out.later (Below.refl _ _).drew).kept (qa3 _ _ _ _) (.inr N1.out), (HQ.out.later (Below.refl _ _).drew).kept (qa3 _ _ _ _) (.inr N2.out), qa4 (qa0 HB.out (Below.refl _ _).drew) (qa3 _ _ _ _) k1⟩, by simp [intOf]; omega⟩
   ·have HIT : Hid (i = t) := Nat.le_antisymm hit (by omega)
    clear hO hQ
    go_wp2
    go_ret3
    have hx : CmbA F Y r c (pp q t x) := ⟨comb_onf HL.out HSol.out.1, (qf9 HSa.out.sl.1 HR.out HL.out.lt HSol.out.1).1 HSol.out.2.1⟩
    have ho := row_ob (B := w.heap.size) HRow.out (by omega) k1
    rw [HIT.out] at ho
    exact .inl ⟨_, _, _, rfl, ho, hx, HB.out⟩
 ·have HSpn : Hid (¬ Spn (m2 F r c) r (ext0 Y c)) := hS
  clear hS
  go_enter Tryz.func20, Tryz.ntmps20
  go_wp2_with (first
   | (go_at_call 40; rw [← HW.out]; refine (qas _ _ _ _ _ _ HR.out.p).mono ?_; rintro e w1 ⟨rfl, hb1⟩; have HVa1 : Hid (Vr w1 w.heap.size (.int .i64 (r : Int)) (.int .i64 (c : Int)) (.slice a n k)) := HVa.out.later hb1; have HB1 : Hid (Below w.heap.size w w1) := qa0 HB0.out hb1; have u0 := HVa1.out.c0; have u1 := HVa1.out.c1; have u2 := HVa1.out.c2; clear hb1)
   | (go_at_call 42; refine (qg0 _ r c n k a F (HSa.out.later HB1.out) HR.out).mono ?_; rintro e w2 ⟨ps, pd, t, q, rfl, ho2, hL2, _, htr, hb2⟩; have HQ2 : Hid (Oi w2 w1.heap.size (.slice ps t pd) t q) := ho2; have HL : Hid (FstL (m2 F r c) r t q) := hL2; have HVa2 : Hid (Vr w2 w.heap.size (.int .i64 (r : Int)) (.int .i64 (c : Int)) (.slice a n k)) := HVa1.out.later hb2; have HB2 : Hid (Below w.heap.size w w2) := qa0 HB1.out hb2; have y0 := HVa2.out.c0; have y1 := HVa2.out.c1; have y2 := HVa2.out.c2; obtain ⟨N, HN⟩ : ∃ x, Hid (t * c = x) := ⟨_, rfl⟩; have HRp : Hid (Rt t c N) := ⟨Nat.le_trans htr hr, hc, HN.out⟩; have HRq : Hid (Rt c t N) := ⟨hc, Nat.le_trans htr hr, (by rw [Nat.mul_comm]; exact HN.out)⟩; have hNl := HRp.out.le; clear ho2 hL2 hb2)
   | (go_at_call 18; refine (qbo _ r c n k t pd N a ps F q (HSa.out.later HB2.out).sl HR.out HQ2.out.il HL.out.lt (Nat.le_trans htr hr) HN).mono ?_; rintro e w3 ⟨s3, d3, rfl, ho3, hb3⟩; have HO3 : Hid (Ob w3 w2.heap.size (.slice s3 N d3) N (pkf F q c)) := ho3; have HVa3 : Hid (Vr (w3.alloc (.cells #[.int .i64 (t : Int), .int .i64 (c : Int), .slice s3 N d3] 24)) w.heap.size (.int .i64 (r : Int)) (.int .i64 (c : Int)) (.slice a n k)) := (HVa2.out.later hb3).later (qa1 _ _); have HB3 : Hid (Below w.heap.size w (w3.alloc (.cells #[.int .i64 (t : Int), .int .i64 (c : Int), .slice s3 N d3] 24))) := qa0 (qa0 HB2.out hb3) (qa1 _ _); have HQ3 : Hid (Oi (w3.alloc (.cells #[.int .i64 (t : Int), .int .i64 (c : Int), .slice s3 N d3] 24)) w1.heap.size (.slice ps t pd) t q) := (HQ2.out.later hb3).later (qa1 _ _); have HPl : Hid (∀ u, u < N → pkf F q c u < 256) := fun u hu => qe3 HSa.out.sl.1 HR.out HL.out.lt u (by rw [HN.out]; exact hu); have HS3 : Hid (Sl (w3.alloc (.cells #[.int .i64 (t : Int), .int .i64 (c : Int), .slice s3 N d3] 24)) s3 N (pkf F q c)) := (HO3.out.later (qa1 _ _)).sl HPl.out; clear ho3 hb3)
   | (go_at_call 43; refine (qfy _ t c N d3 s3 (pkf F q c) HS3.out HRp.out).mono ?_; rintro e w4 ⟨s4, d4, rfl, ho4, hb4⟩; have HVa4 : Hid (Vr (w4.alloc (.cells #[.int .i64 (c : Int), .int .i64 (t : Int), .slice s4 N d4] 24)) w.heap.size (.int .i64 (r : Int)) (.int .i64 (c : Int)) (.slice a n k)) := (HVa3.out.later hb4).later (qa1 _ _); have HB4 : Hid (Below w.heap.size w (w4.alloc (.cells #[.int .i64 (c : Int), .int .i64 (t : Int), .slice s4 N d4] 24))) := qa0 (qa0 HB3.out hb4) (qa1 _ _); have HQ4 : Hid (Oi (w4.alloc (.cells #[.int .i64 (c : Int), .int .i64 (t : Int), .slice s4 N d4] 24)) w1.heap.size (.slice ps t pd) t q) := (HQ3.out.later hb4).later (qa1 _ _); have HM4 : Hid (Mt (w4.alloc (.cells #[.int .i64 (c : Int), .int .i64 (t : Int), .slice s4 N d4] 24)) s4 N d4 (trf (pkf F q c) t c)) := (Mt.later (qgr ho4 (qhn HPl.out HRp.out)) (qa1 _ _)); clear ho4 hb4)
   | (go_at_call 44; refine (qkd _ c t N d4 kb s4 b _ Y HM4.out HRq.out (HSb.out.later HB4.out) (fun x hx => comb_no HSa.out.sl.1 HR.out HL.out HSpn.out hx)).mono ?_; rintro e w5 ⟨rfl, hb5⟩; have HB5 : Hid (Below w.heap.size w w5) := qa0 HB4.out hb5; clear hb5))
  go_ret3
  exact .inr ⟨rfl, HSpn.out, HB5.out⟩
end Go.Proofs.YtokdejhbjoglcaaGreat
