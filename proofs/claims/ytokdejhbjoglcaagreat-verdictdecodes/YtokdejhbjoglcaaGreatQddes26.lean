/-
  Contracts of the program's matrices: allRight, Make, Identity.
  Contracts of the program's matrices: Make, Identity, Row, Same.
  Contracts of the program's matrices: Row, Same.
  Contracts of the program's matrices: combination, Mul.
-/
import Derived.Test.YtokdejhbjoglcaaGreatQddes00
import Derived.Test.YtokdejhbjoglcaaGreatQddes15
import Derived.Laws.OwnMore
import Derived.Deep.RegionHeld3
set_option maxRecDepth 100000
set_option maxHeartbeats 16000000
namespace Go.Proofs.YtokdejhbjoglcaaGreat
open Go.RowKit
/-- Two matrices in a row. -/
def Two (w : World) (g : Nat) (r c : Int) (a : Option Addr) (n k : Nat) (r' c' : Int) (b : Option Addr) (m d : Nat) : Prop := w.heap[g]? = some (.cells #[.int .i64 r, .int .i64 c, .slice a n k, .int .i64 r', .int .i64 c', .slice b m d] 24 (0, 0))
theorem Two.lt {w : World} {g : Nat} {r c : Int} {a : Option Addr} {n k : Nat} {r' c' : Int} {b : Option Addr} {m d : Nat} (h : Two w g r c a n k r' c' b m d) : g < w.heap.size := lt_of_block h
theorem Two.later {w w' : World} {g : Nat} {r c : Int} {a : Option Addr} {n k : Nat} {r' c' : Int} {b : Option Addr} {m d : Nat} (h : Two w g r c a n k r' c' b m d) (hb : Below w.heap.size w w') : Two w' g r c a n k r' c' b m d := by unfold Two; rw [hb.block g h.lt]; exact h
theorem Two.c0 {w : World} {g : Nat} {r c : Int} {a : Option Addr} {n k : Nat} {r' c' : Int} {b : Option Addr} {m d : Nat} (h : Two w g r c a n k r' c' b m d) : w.cell? ⟨g, 0, none⟩ = some (.int .i64 r) := by rw [cell_of_row w g 0 _ _ _ h]; rfl
theorem Two.c1 {w : World} {g : Nat} {r c : Int} {a : Option Addr} {n k : Nat} {r' c' : Int} {b : Option Addr} {m d : Nat} (h : Two w g r c a n k r' c' b m d) : w.cell? ⟨g, 1, none⟩ = some (.int .i64 c) := by rw [cell_of_row w g 1 _ _ _ h]; rfl
theorem Two.c2 {w : World} {g : Nat} {r c : Int} {a : Option Addr} {n k : Nat} {r' c' : Int} {b : Option Addr} {m d : Nat} (h : Two w g r c a n k r' c' b m d) : w.cell? ⟨g, 2, none⟩ = some (.slice a n k) := by rw [cell_of_row w g 2 _ _ _ h]; rfl
theorem Two.c3 {w : World} {g : Nat} {r c : Int} {a : Option Addr} {n k : Nat} {r' c' : Int} {b : Option Addr} {m d : Nat} (h : Two w g r c a n k r' c' b m d) : w.cell? ⟨g, 3, none⟩ = some (.int .i64 r') := by rw [cell_of_row w g 3 _ _ _ h]; rfl
theorem Two.c4 {w : World} {g : Nat} {r c : Int} {a : Option Addr} {n k : Nat} {r' c' : Int} {b : Option Addr} {m d : Nat} (h : Two w g r c a n k r' c' b m d) : w.cell? ⟨g, 4, none⟩ = some (.int .i64 c') := by rw [cell_of_row w g 4 _ _ _ h]; rfl
theorem Two.c5 {w : World} {g : Nat} {r c : Int} {a : Option Addr} {n k : Nat} {r' c' : Int} {b : Option Addr} {m d : Nat} (h : Two w g r c a n k r' c' b m d) : w.cell? ⟨g, 5, none⟩ = some (.slice b m d) := by rw [cell_of_row w g 5 _ _ _ h]; rfl
theorem all_yes (w : World) (g : Nat) (r c : Int) (a : Option Addr) (n k : Nat) (r' c' : Int) (b : Option Addr) (m d : Nat) (ht : Two w g r c a n k r' c' b m d) (h1 : RightP r c n) (h2 : RightP r' c' m) :
  Calls Tryz.prog 50 #[.slice (some ⟨g, 0, none⟩) 2 2] w fun e w' => e = .returned (.bool true) ∧ Below w.heap.size w w' := by
 have HT : Hid (Two w g r c a n k r' c' b m d) := ht
 have H1 : Hid (RightP r c n) := h1
 have H2 : Hid (RightP r' c' m) := h2
 clear ht h1 h2
 go_enter Tryz.func50, Tryz.ntmps50
 go_wp2
 go_loopw [7] (fun i wr => ∃ q : Nat, q ≤ 2 ∧ i = .int .i64 (q : Int) ∧ Below w.heap.size w wr) (fun i _ => 2 - (intOf i).toNat)
 case atStart => exact ⟨0, by omega, rfl, Below.refl _ _⟩
 case round =>
  obtain ⟨q, hq, rfl, hb⟩ := hrel
  have HB : Hid (Below w.heap.size w wr) := hb
  have t0 := (HT.out.later hb).c0
  have t1 := (HT.out.later hb).c1
  have t2 := (HT.out.later hb).c2
  have t3 := (HT.out.later hb).c3
  have t4 := (HT.out.later hb).c4
  have t5 := (HT.out.later hb).c5
  clear hb
  rcases (by omega : q = 0 ∨ q = 1 ∨ q = 2) with rfl | rfl | rfl
  ·go_wp2_with (go_at_call 45; refine (qax _ _ _ _ _ _ H1.out).mono ?_; rintro e w1 ⟨rfl, hb1⟩; have HB1 : Hid (Below w.heap.size w w1) := qa0 (qa0 HB.out (qa1 _ _)) hb1; clear hb1)
   exact ⟨⟨1, by omega, by go_num, HB1.out⟩, by simp [intOf]⟩
  ·go_wp2_with (go_at_call 45; refine (qax _ _ _ _ _ _ H2.out).mono ?_; rintro e w1 ⟨rfl, hb1⟩; have HB1 : Hid (Below w.heap.size w w1) := qa0 (qa0 HB.out (qa1 _ _)) hb1; clear hb1)
   exact ⟨⟨2, by omega, by go_num, HB1.out⟩, by simp [intOf]⟩
  ·go_wp2
   go_ret
   exact ⟨rfl, HB.out⟩
open Go.RowKit
theorem qg1 (w : World) (n m : Nat) (hn : n ≤ 64) (HM : Hid (n * n = m)) :
  Calls Tryz.prog 35 #[.int .i64 (n : Int)] w fun e w' => ∃ g, e = .returned (.tuple #[mv n n (some ⟨g, 0, none⟩) m m, .int .i64 0]) ∧ RowAt w' g 5 m (idf n) ∧ w.heap.size ≤ g ∧ Below w.heap.size w w' := by
 have hm : m ≤ 4096 := by rw [← HM.out]; exact Nat.mul_le_mul hn hn
 go_enter Tryz.func35, Tryz.ntmps35
 go_wp2_with (first
  | (go_at_call 47; refine (qhi _ _ ⟨by omega, by omega⟩).mono ?_; rintro e w' ⟨rfl, rfl⟩)
  | (go_at_call 47; refine (side_no _ _ (by omega)).mono ?_; rintro e w' ⟨rfl, rfl⟩)
  | (go_at_call 48; refine (qcf _ n n m hn hn HM).mono ?_; rintro e w1 ⟨g, rfl, hr1, hg1, hb1⟩; have HR : Hid (RowAt w1 g 5 m (fun _ => 0)) := hr1; have hg2 : w.heap.size + 1 ≤ g := by { have := hg1; simpa using this }; have HB : Hid (Below w.heap.size w w1) := qa0 (qa1 _ _) hb1; have HV : Hid (Vr w1 w.heap.size (.int .i64 0) (.int .i64 0) (.slice none 0 0)) := (Vr.new w _ _ _).later hb1; clear hr1 hg1 hb1))
 have HBeg : Hid (Vr (w1.alloc (.cells #[.int .i64 (n : Int), .int .i64 (n : Int), .slice (some ⟨g, 0, none⟩) m m] 24)) w1.heap.size (.int .i64 (n : Int)) (.int .i64 (n : Int)) (.slice (some ⟨g, 0, none⟩) m m)) := Vr.new w1 _ _ _
 have glt := HR.out.lt
 have vlt := HV.out.lt
 go_loopw [5, 14] (fun _ i wr => ∃ k : Nat, k ≤ n ∧ i = .int .i64 (k : Int) ∧ RowAt wr g 5 m (idk n k) ∧ Vr wr w1.heap.size (.int .i64 (n : Int)) (.int .i64 (n : Int)) (.slice (some ⟨g, 0, none⟩) m m) ∧ Vr wr w.heap.size (.int .i64 0) (.int .i64 0) (.slice none 0 0) ∧ Below w.heap.size w wr) (fun _ i _ => n - (intOf i).toNat)
 case atStart => exact ⟨0, by omega, rfl, (HR.out.later (qa1 _ _)).congr (fun i _ => by unfold idk; rw [if_neg (fun x => absurd x.2 (Nat.not_lt_zero _))]), HBeg.out, HV.out.later (qa1 _ _), qa0 HB.out (qa1 _ _)⟩
 case round =>
  clear HBeg HR HV HB
  obtain ⟨k, hk, rfl, hr, hv, hv2, hbr⟩ := hrel
  by_cases hlt : k < n
  ·obtain ⟨p, HP⟩ : ∃ p, Hid (k * n + k = p) := ⟨_, rfl⟩
   obtain ⟨q, HQ⟩ : ∃ q, Hid (k * n = q) := ⟨_, rfl⟩
   have hpq : p = q + k := by rw [← HP.out, ← HQ.out]
   have hfit : q + n ≤ m := by rw [← HQ.out]; exact Rt.fit ⟨hn, hn, HM.out⟩ hlt
   have HS : Hid (pc (some ⟨g, 0, none⟩) q n = some ⟨g, q, none⟩) := qeo g q n (by omega)
   have c0 := hv.c0
   have c1 := hv.c1
   have c2 := hv.c2
   have HR : Hid (RowAt wr g 5 m (idk n k)) := hr
   have HV : Hid (Vr wr w1.heap.size (.int .i64 (n : Int)) (.int .i64 (n : Int)) (.slice (some ⟨g, 0, none⟩) m m)) := hv
   have HV2 : Hid (Vr wr w.heap.size (.int .i64 0) (.int .i64 0) (.slice none 0 0)) := hv2
   have HB : Hid (Below w.heap.size w wr) := hbr
   have hgs : g ≠ w.heap.size := by omega
   have hgs1 : g ≠ w1.heap.size := by omega
   clear hr hv hv2 hbr
   go_wp2_with (first
    | (go_at_call 49; refine (qaz _ n n m m k q (some ⟨g, 0, none⟩) (some ⟨g, q, none⟩) (fun e => by cases e) (Nat.le_refl _) hfit hm (by omega) HQ HS).mono ?_; rintro e w3 ⟨rfl, hb3⟩; have hc := (HR.out.later hb3).cell (q + k) (by omega); have hf := (HR.out.later hb3).free (q + k); have RR : Hid (RowAt (w3.setCell ⟨g, q + k, none⟩ (.int .u8 1)) g 5 m (idk n (k + 1)) ∧ Vr (w3.setCell ⟨g, q + k, none⟩ (.int .u8 1)) w1.heap.size (.int .i64 (n : Int)) (.int .i64 (n : Int)) (.slice (some ⟨g, 0, none⟩) m m) ∧ Vr (w3.setCell ⟨g, q + k, none⟩ (.int .u8 1)) w.heap.size (.int .i64 0) (.int .i64 0) (.slice none 0 0) ∧ Below w.heap.size w (w3.setCell ⟨g, q + k, none⟩ (.int .u8 1))) := ⟨((HR.out.later hb3).set (q + k) 1).congr (fun j _ => by rw [← hpq, ← HP.out]; exact idk_step n k j), (HV.out.later hb3).kept (qa3 _ _ _ _) (Ne.symm hgs1), (HV2.out.later hb3).kept (qa3 _ _ _ _) (Ne.symm hgs), (qa0 HB.out hb3).setCell (by show w.heap.size ≤ g; omega) _⟩; clear hb3))
   exact ⟨⟨k + 1, by omega, by go_num, RR.out.1, RR.out.2.1, RR.out.2.2.1, RR.out.2.2.2⟩, by simp [intOf]; omega⟩
  ·obtain rfl : k = n := by omega
   have c0 := hv.c0
   have c1 := hv.c1
   have c2 := hv.c2
   have HR : Hid (RowAt wr g 5 m (idk k k)) := hr
   have HV2 : Hid (Vr wr w.heap.size (.int .i64 0) (.int .i64 0) (.slice none 0 0)) := hv2
   have HB : Hid (Below w.heap.size w wr) := hbr
   clear hr hv hv2 hbr
   go_wp2_with (refine qa2 rfl _ _ rfl w.heap.size _ _ _ (.int .i64 (k : Int)) (.int .i64 (k : Int)) (.slice (some ⟨g, 0, none⟩) m m) rfl rfl HV2.out rfl rfl rfl ?_; intro w3 HV3 HG3)
   have d0 := HV3.out.c0
   have d1 := HV3.out.c1
   have d2 := HV3.out.c2
   refine bodyPost_ret (v := .tuple #[mv k k (some ⟨g, 0, none⟩) m m, .int .i64 0]) (by simp [results, Tryz.results35, go_sem, d0, d1, d2, mv]) rfl ?_
   exact ⟨g, rfl, (HR.out.kept HG3.out (by omega)).congr (fun j hj => idk_all k j (by rw [HM.out]; exact hj)), by omega, qa4 HB.out HG3.out (Nat.le_refl _)⟩
open Go.RowKit
/-- The sum of the first t rows, each times its factor, at column j. -/
def cbf (h G : Nat → Nat) (cb t j : Nat) : Nat := xs (fun k => fm (h k) (G (k * cb + j))) t
theorem qho (h G : Nat → Nat) (cb t j : Nat) : cbf h G cb (t + 1) j = cbf h G cb t j ^^^ fm (h t) (G (t * cb + j)) := rfl
theorem cbf_lt {h : Nat → Nat} {rb : Nat} (hh : ∀ i, i < rb → h i < 256) (G : Nat → Nat) (cb t j : Nat) (ht : t ≤ rb) : cbf h G cb t j < 256 := qex fun k hk => qao _ _ (hh k (by omega))
theorem comb_any (w : World) (rb cb nb kb d : Nat) (sf b : Option Addr) (h G : Nat → Nat) (hf : Sl w sf rb h) (hb : Mt w b nb kb G) (R : Rt rb cb nb) :
  Calls Tryz.prog 51 #[.slice sf rb d, mv rb cb b nb kb] w fun e w' => ∃ s k, e = .returned (.slice s cb k) ∧ Sl w' s cb (cbf h G cb rb) ∧ Below w.heap.size w w' := by
 obtain ⟨i0, hi0, hz0, hz1, hz2⟩ := info_parts qd9
 have HRt : Hid (Rt rb cb nb) := R
 have hcb := R.c64
 have hnb := R.le
 have hrb := R.r64
 have HF : Hid (Sl w sf rb h) := hf
 have HM : Hid (Mt w b nb kb G) := hb
 have hml : cb ≤ maxLen := by unfold maxLen; omega
 have HV0 : Hid (Vr (w.alloc (.cells #[.int .i64 (rb : Int), .int .i64 (cb : Int), .slice b nb kb] 24)) w.heap.size (.int .i64 (rb : Int)) (.int .i64 (cb : Int)) (.slice b nb kb)) := Vr.new w _ _ _
 clear hf hb R
 go_enter Tryz.func51, Tryz.ntmps51
 go_wp2_with (first
  | (at_make; refine wpList_make_full _ rfl _ _ 22 rfl (w.heap.size + 1) 5 i0 (.int .u8 0) 1 Tryz.underlying22 hi0 hz0 hz1 .i64 .i64 _ _ cb rfl rfl rfl rfl (by rw [hz2]; omega) hml (by simp) ?_; intro w1 hown hgrow; have HR1 : Hid (RowAt w1 (w.heap.size + 1) 5 cb (fun _ => 0)) := by { show RowAt _ _ _ _ _; have := qbu hown; simpa using this }; have HB1 : Hid (Below w.heap.size w w1) := qa0 (qa1 _ _) (qa5.mp hgrow); have HV1 : Hid (Vr w1 w.heap.size (.int .i64 (rb : Int)) (.int .i64 (cb : Int)) (.slice b nb kb)) := HV0.out.later (qa5.mp hgrow); have v0 := HV1.out.c0; clear hown hgrow))
 clear v0 HV0
 go_loopw [5, 6, 12] (fun v _ i wr => ∃ (t : Nat) (s : Option Addr) (k : Nat), t ≤ rb ∧ i = .int .i64 (t : Int) ∧ v = .slice s cb k ∧ Sl wr s cb (cbf h G cb t) ∧ Vr wr w.heap.size (.int .i64 (rb : Int)) (.int .i64 (cb : Int)) (.slice b nb kb) ∧ Below w.heap.size w wr) (fun _ _ i _ => rb - (intOf i).toNat)
 case atStart => exact ⟨0, _, _, by omega, rfl, rfl, (HR1.out.sl (fun _ _ => by decide)), HV1.out, HB1.out⟩
 case round =>
  clear HR1 HV1 HB1
  obtain ⟨t, s, k, ht, rfl, rfl, hs, hv, hbr⟩ := hrel
  have HS : Hid (Sl wr s cb (cbf h G cb t)) := hs
  have HV : Hid (Vr wr w.heap.size (.int .i64 (rb : Int)) (.int .i64 (cb : Int)) (.slice b nb kb)) := hv
  have HB : Hid (Below w.heap.size w wr) := hbr
  by_cases hlt : t < rb
  ·obtain ⟨bf, of, ef, hcf⟩ := (HF.out.later hbr).2 t hlt
   obtain ⟨x, HX⟩ : ∃ x, Hid (h t = x) := ⟨_, rfl⟩
   rw [HX.out] at hcf
   have hx : x < 256 := by rw [← HX.out]; exact HF.out.1 t hlt
   have t0 : (0 : Int) ≤ (t : Int) := Int.natCast_nonneg _
   have t1 : (t : Int) < (rb : Int) := by omega
   clear hs hv hbr
   subst ef
   by_cases hx0 : x = 0
   ·subst hx0
    go_wp2
    exact ⟨⟨t + 1, s, k, by omega, by go_num, rfl, HS.out.congr (fun j _ => by rw [qho, HX.out, qah]; simp), HV.out, HB.out⟩, by simp [intOf]; omega⟩
   ·have gx : ((x : Int) == 0) = false := by simpa using hx0
    obtain ⟨p, HP⟩ : ∃ p, Hid (t * cb = p) := ⟨_, rfl⟩
    obtain ⟨sr, HSr⟩ : ∃ s, Hid (pc b p cb = s) := ⟨_, rfl⟩
    have HFi : Hid (p + cb ≤ nb) := by have := HRt.out.fit hlt; rw [HP.out] at this; exact this
    have HSl : Hid (Sl w sr cb (fun j => G (p + j))) := by have := HM.out.piece HFi.out; rw [HSr.out] at this; exact this
    have v0 := HV.out.c0
    have v1 := HV.out.c1
    have v2 := HV.out.c2
    clear hx0
    go_wp2
    go_region_held3 (fun w' => w'.cell? ⟨bf, of + t, none⟩ = some (.int .u8 (x : Int)) ∧ w'.cell? ⟨w.heap.size, 0, none⟩ = some (.int .i64 (rb : Int)) ∧ w'.cell? ⟨w.heap.size, 1, none⟩ = some (.int .i64 (cb : Int)) ∧ w'.cell? ⟨w.heap.size, 2, none⟩ = some (.slice b nb kb))
     (first
      | exact HK2.out
      | exact HK1.out
      | go_keep)
     (first
      | (go_at_call 49; refine (qaz _ _ cb nb kb t p b sr HM.out.nil HM.out.room HFi.out hnb (by omega) HP HSr).mono ?_; rintro e w2 ⟨rfl, hb2⟩; have HB2 : Hid (Below wr.heap.size wr w2) := qa0 (Below.refl _ _).drew hb2; have HK1 : Hid (w2.cell? ⟨bf, of + t, none⟩ = some (.int .u8 (x : Int)) ∧ w2.cell? ⟨w.heap.size, 0, none⟩ = some (.int .i64 (rb : Int)) ∧ w2.cell? ⟨w.heap.size, 1, none⟩ = some (.int .i64 (cb : Int)) ∧ w2.cell? ⟨w.heap.size, 2, none⟩ = some (.slice b nb kb)) := ⟨keepc HB2.out hcf, keepc HB2.out v0, keepc HB2.out v1, keepc HB2.out v2⟩; clear hb2)
      | (go_at_call 73; refine (mac_sl _ s sr cb x k cb (cbf h G cb t) (fun j => G (p + j)) hx (HS.out.later HB2.out) (HSl.out.later (qa0 HB.out HB2.out)) (by omega)).mono ?_; rintro e w3 ⟨s3, k3, rfl, hs3, hb3⟩; have HB3 : Hid (Below wr.heap.size wr w3) := qa0 HB2.out hb3; have HS3 : Hid (Sl w3 s3 cb (cbf h G cb (t + 1))) := hs3.congr (fun j _ => by { rw [qho, HX.out, HP.out] }); have HK2 : Hid (w3.cell? ⟨bf, of + t, none⟩ = some (.int .u8 (x : Int)) ∧ w3.cell? ⟨w.heap.size, 0, none⟩ = some (.int .i64 (rb : Int)) ∧ w3.cell? ⟨w.heap.size, 1, none⟩ = some (.int .i64 (cb : Int)) ∧ w3.cell? ⟨w.heap.size, 2, none⟩ = some (.slice b nb kb)) := ⟨keepc HB3.out hcf, keepc HB3.out v0, keepc HB3.out v1, keepc HB3.out v2⟩; clear hs3 hb3))
    go_wp2
    exact ⟨⟨t + 1, s3, k3, by omega, by go_num, rfl, HS3.out, HV.out.later HB3.out, qa0 HB.out HB3.out⟩, by simp [intOf]; omega⟩
  ·obtain rfl : t = rb := by omega
   clear hs hv hbr
   go_wp2
   go_ret
   exact ⟨s, k, rfl, HS.out, HB.out⟩
/-- f up to place q, noughts behind. -/
def upf (f : Nat → Nat) (q p : Nat) : Nat := if p < q then f p else 0
theorem qfb (f : Nat → Nat) (p : Nat) : upf f 0 p = 0 := by unfold upf; rw [if_neg (by omega)]
theorem qgr (f : Nat → Nat) {q n : Nat} (h : n ≤ q) : ∀ p, p < n → upf f q p = f p := fun p hp => by unfold upf; rw [if_pos (by omega)]
theorem qhp (f h : Nat → Nat) (q c : Nat) (e : ∀ j, j < c → h j = f (q + j)) (p : Nat) : cpf (upf f q) h q c p = upf f (q + c) p := by
 unfold cpf upf
 by_cases h1 : q ≤ p ∧ p < q + c
 ·rw [if_pos h1, if_pos h1.2, e _ (by omega)]
  congr 1
  omega
 ·rw [if_neg h1]
  by_cases h2 : p < q
  ·rw [if_pos h2, if_pos (by omega)]
  ·rw [if_neg h2, if_neg (by omega)]
theorem prk_row (F G : Nat → Nat) (ca cb i j : Nat) (hj : j < cb) : prk F G ca cb ca (i * cb + j) = cbf (fun t => F (i * ca + t)) G cb ca j := by
 have h1 : (i * cb + j) / cb = i := by rw [Nat.mul_comm, Nat.mul_add_div (by omega), Nat.div_eq_of_lt hj, Nat.add_zero]
 have h2 : (i * cb + j) % cb = j := by rw [Nat.mul_comm, Nat.mul_add_mod, Nat.mod_eq_of_lt hj]
 unfold prk cbf
 rw [h1, h2]
theorem MInv.copy {w wr w' : World} {gd g6 ra ca rb cb na nb n ka kb : Nat} {a b : Option Addr} {fn fn' : Nat → Nat} (I : MInv w wr gd g6 ra ca rb cb na nb n ka kb a b fn) (hr : RowAt w' gd 5 n fn') (hg : wr.grownBy w' (some gd)) : MInv w w' gd g6 ra ca rb cb na nb n ka kb a b fn' :=
 have d := I.dlow
 ⟨I.va.kept hg (by omega), I.vb.kept hg (by omega), I.vr.kept hg (by omega), I.vm.kept hg (Ne.symm I.d6), hr, qa4 I.below hg (by omega), I.d6, I.dlow⟩
theorem MInv.drew {w wr : World} {gd g6 ra ca rb cb na nb n ka kb : Nat} {a b : Option Addr} {fn : Nat → Nat} (I : MInv w wr gd g6 ra ca rb cb na nb n ka kb a b fn) : MInv w wr.drew gd g6 ra ca rb cb na nb n ka kb a b fn := I.later (Below.refl _ _).drew
/-- The variables of a call with two matrices and an answer, and both matrices in a row. -/
structure Box3s (w wb : World) (r c r' c' : Int) (n k m d : Nat) (a b : Option Addr) : Prop where
 va : Vr wb w.heap.size (.int .i64 r) (.int .i64 c) (.slice a n k)
 vb : Vr wb (w.heap.size + 1) (.int .i64 r') (.int .i64 c') (.slice b m d)
 vr : Vr wb (w.heap.size + 1 + 1) (.int .i64 0) (.int .i64 0) (.slice none 0 0)
 tw : Two wb (w.heap.size + 1 + 1 + 1) r c a n k r' c' b m d
 below : Below w.heap.size w wb
theorem box3s (w : World) (r c r' c' : Int) (n k m d : Nat) (a b : Option Addr) : Box3s w ((((w.alloc (.cells #[.int .i64 r, .int .i64 c, .slice a n k] 24)).alloc (.cells #[.int .i64 r', .int .i64 c', .slice b m d] 24)).alloc (.cells #[.int .i64 0, .int .i64 0, .slice none 0 0] 24)).alloc (.cells #[.int .i64 r, .int .i64 c, .slice a n k, .int .i64 r', .int .i64 c', .slice b m d] 24)) r c r' c' n k m d a b := by
 have h := box3 w r c r' c' n k m d a b
 refine ⟨h.va.later (qa1 _ _), h.vb.later (qa1 _ _), h.vr.later (qa1 _ _), ?_, qa0 h.below (qa1 _ _)⟩
 have := qci (((w.alloc (.cells #[.int .i64 r, .int .i64 c, .slice a n k] 24)).alloc (.cells #[.int .i64 r', .int .i64 c', .slice b m d] 24)).alloc (.cells #[.int .i64 0, .int .i64 0, .slice none 0 0] 24)) (.cells #[.int .i64 r, .int .i64 c, .slice a n k, .int .i64 r', .int .i64 c', .slice b m d] 24)
 unfold Two
 simpa using this
theorem qfc (w : World) (ra ca cb na nb n ka kb : Nat) (a b : Option Addr) (F G : Nat → Nat) (ha : Mt w a na ka F) (hb : Mt w b nb kb G) (RA : Rt ra ca na) (RB : Rt ca cb nb) (RC : Rt ra cb n) :
  Calls Tryz.prog 24 #[mv ra ca a na ka, mv ca cb b nb kb] w fun e w' => ∃ g, e = .returned (.tuple #[mv ra cb (some ⟨g, 0, none⟩) n n, .int .i64 0]) ∧ RowAt w' g 5 n (prk F G ca cb ca) ∧ w.heap.size ≤ g ∧ Below w.heap.size w w' := by
 have HRA : Hid (Rt ra ca na) := RA
 have HRB : Hid (Rt ca cb nb) := RB
 have HRC : Hid (Rt ra cb n) := RC
 have la := RA.le
 have lb := RB.le
 have lc := RC.le
 have ra64 := RA.r64
 have ca64 := RA.c64
 have cb64 := RB.c64
 obtain ⟨wb, HW, HX⟩ : ∃ wb, Hid (wb = (((w.alloc (.cells #[.int .i64 (ra : Int), .int .i64 (ca : Int), .slice a na ka] 24)).alloc (.cells #[.int .i64 (ca : Int), .int .i64 (cb : Int), .slice b nb kb] 24)).alloc (.cells #[.int .i64 0, .int .i64 0, .slice none 0 0] 24)).alloc (.cells #[.int .i64 (ra : Int), .int .i64 (ca : Int), .slice a na ka, .int .i64 (ca : Int), .int .i64 (cb : Int), .slice b nb kb] 24)) ∧ Hid (Box3s w wb ra ca ca cb na ka nb kb a b) := ⟨_, rfl, box3s w ra ca ca cb na ka nb kb a b⟩
 have HA : Hid (Mt w a na ka F) := ha
 have HBm : Hid (Mt w b nb kb G) := hb
 obtain ⟨fn, HFn⟩ : ∃ fn : Nat → Nat, Hid (prk F G ca cb ca = fn) := ⟨_, rfl⟩
 rw [HFn.out]
 clear ha hb RA RB RC
 go_enter Tryz.func24, Tryz.ntmps24
 go_wp2_with (first
  | (go_at_call 50; rw [← HW.out]; refine (all_yes _ _ _ _ _ _ _ _ _ _ _ _ HX.out.tw HRA.out.p HRB.out.p).mono ?_; rintro e w2 ⟨rfl, hb2⟩; have HB2 : Hid (Below wb.heap.size wb w2) := hb2; have a1 := (HX.out.va.later HB2.out).c1; have b0 := (HX.out.vb.later HB2.out).c0; have a0 := (HX.out.va.later HB2.out).c0; have b1 := (HX.out.vb.later HB2.out).c1; clear hb2)
  | (go_at_call 48; refine (qcf _ ra cb n ra64 cb64 HRC.out.len).mono ?_; rintro e w3 ⟨gd, rfl, hr3, hg3, hb3⟩; have HR3 : Hid (RowAt w3 gd 5 n (fun _ => 0)) := hr3; have HB3 : Hid (Below wb.heap.size wb w3) := qa0 HB2.out hb3; have l2 := HB2.out.size; have hg4 : w2.heap.size ≤ gd := hg3; have a0' := ((HX.out.va.later HB3.out).later (qa1 w3 (.cells #[.int .i64 (ra : Int), .int .i64 (cb : Int), .slice (some ⟨gd, 0, none⟩) n n] 24))).c0; clear hr3 hb3 hg3))
 have HI0 : Hid (MInv w (w3.alloc (.cells #[.int .i64 (ra : Int), .int .i64 (cb : Int), .slice (some ⟨gd, 0, none⟩) n n] 24)) gd w3.heap.size ra ca ca cb na nb n ka kb a b (fun _ => 0)) := by
  have l0 := HX.out.vr.lt
  have l3 := HR3.out.lt
  exact ⟨(HX.out.va.later HB3.out).later (qa1 _ _), (HX.out.vb.later HB3.out).later (qa1 _ _), (HX.out.vr.later HB3.out).later (qa1 _ _), Vr.new w3 _ _ _, HR3.out.later (qa1 _ _), qa0 (qa0 HX.out.below HB3.out) (qa1 _ _), by omega, by omega⟩
 clear HW HX HB2 HR3 HB3 a0 a1 b0 b1 a0'
 go_loopw [7, 28] (fun _ i wr => ∃ m : Nat, m ≤ ra ∧ i = .int .i64 (m : Int) ∧ MInv w wr gd w3.heap.size ra ca ca cb na nb n ka kb a b (upf fn (m * cb))) (fun _ i _ => ra - (intOf i).toNat)
 case atStart => exact ⟨0, by omega, rfl, HI0.out.congr (fun p _ => by rw [Nat.zero_mul, qfb])⟩
 case round =>
  clear HI0
  obtain ⟨m, hm, rfl, I⟩ := hrel
  have HI : Hid (MInv w wr gd w3.heap.size ra ca ca cb na nb n ka kb a b (upf fn (m * cb))) := I
  clear I
  by_cases hlt : m < ra
  ·obtain ⟨p, HP⟩ : ∃ p, Hid (m * cb = p) := ⟨_, rfl⟩
   obtain ⟨pa, HPa⟩ : ∃ p, Hid (m * ca = p) := ⟨_, rfl⟩
   obtain ⟨sp, HSp⟩ : ∃ s, Hid (pc (some ⟨gd, 0, none⟩) p cb = s) := ⟨_, rfl⟩
   obtain ⟨sa, HSa⟩ : ∃ s, Hid (pc a pa ca = s) := ⟨_, rfl⟩
   rw [HP.out] at HI
   have HFi : Hid (p + cb ≤ n) := by have := HRC.out.fit hlt; rw [HP.out] at this; exact this
   have HFa : Hid (pa + ca ≤ na) := by have := HRA.out.fit hlt; rw [HPa.out] at this; exact this
   have HSl : Hid (Sl w sa ca (fun j => F (pa + j))) := by have := HA.out.piece HFa.out; rw [HSa.out] at this; exact this
   have HNext : Hid (∀ q, cpf (upf fn p) (cbf (fun j => F (pa + j)) G cb ca) p cb q = upf fn ((m + 1) * cb) q) := fun q => by
    rw [qhp fn _ p cb (fun j hj => by rw [← HFn.out, ← HP.out, prk_row F G ca cb m j hj, HPa.out]) q, ← HP.out, Nat.add_mul, Nat.one_mul]
   obtain ⟨hh, HHh⟩ : ∃ hh : Nat → Nat, Hid (cbf (fun j => F (pa + j)) G cb ca = hh) := ⟨_, rfl⟩
   rw [HHh.out] at HNext
   have HK0 : Hid (wr.cell? ⟨w3.heap.size, 0, none⟩ = some (.int .i64 (ra : Int)) ∧ wr.cell? ⟨w3.heap.size, 1, none⟩ = some (.int .i64 (cb : Int)) ∧ wr.cell? ⟨w3.heap.size, 2, none⟩ = some (.slice (some ⟨gd, 0, none⟩) n n) ∧ wr.cell? ⟨w.heap.size, 0, none⟩ = some (.int .i64 (ra : Int)) ∧ wr.cell? ⟨w.heap.size, 1, none⟩ = some (.int .i64 (ca : Int)) ∧ wr.cell? ⟨w.heap.size, 2, none⟩ = some (.slice a na ka) ∧ wr.cell? ⟨w.heap.size + 1, 0, none⟩ = some (.int .i64 (ca : Int)) ∧ wr.cell? ⟨w.heap.size + 1, 1, none⟩ = some (.int .i64 (cb : Int)) ∧ wr.cell? ⟨w.heap.size + 1, 2, none⟩ = some (.slice b nb kb)) := ⟨HI.out.vm.c0, HI.out.vm.c1, HI.out.vm.c2, HI.out.va.c0, HI.out.va.c1, HI.out.va.c2, HI.out.vb.c0, HI.out.vb.c1, HI.out.vb.c2⟩
   have HD : Hid (wr.drew.cell? ⟨w3.heap.size, 0, none⟩ = some (.int .i64 (ra : Int)) ∧ wr.drew.cell? ⟨w3.heap.size, 1, none⟩ = some (.int .i64 (cb : Int)) ∧ wr.drew.cell? ⟨w3.heap.size, 2, none⟩ = some (.slice (some ⟨gd, 0, none⟩) n n) ∧ wr.drew.cell? ⟨w.heap.size, 0, none⟩ = some (.int .i64 (ra : Int)) ∧ wr.drew.cell? ⟨w.heap.size, 1, none⟩ = some (.int .i64 (ca : Int)) ∧ wr.drew.cell? ⟨w.heap.size, 2, none⟩ = some (.slice a na ka) ∧ wr.drew.cell? ⟨w.heap.size + 1, 0, none⟩ = some (.int .i64 (ca : Int)) ∧ wr.drew.cell? ⟨w.heap.size + 1, 1, none⟩ = some (.int .i64 (cb : Int)) ∧ wr.drew.cell? ⟨w.heap.size + 1, 2, none⟩ = some (.slice b nb kb)) := HK0.out
   have hlow := HI.out.dlow
   have hd6 := HI.out.d6
   go_wp2
   go_region_held3 (fun w' => w'.cell? ⟨w3.heap.size, 0, none⟩ = some (.int .i64 (ra : Int)) ∧ w'.cell? ⟨w3.heap.size, 1, none⟩ = some (.int .i64 (cb : Int)) ∧ w'.cell? ⟨w3.heap.size, 2, none⟩ = some (.slice (some ⟨gd, 0, none⟩) n n) ∧ w'.cell? ⟨w.heap.size, 0, none⟩ = some (.int .i64 (ra : Int)) ∧ w'.cell? ⟨w.heap.size, 1, none⟩ = some (.int .i64 (ca : Int)) ∧ w'.cell? ⟨w.heap.size, 2, none⟩ = some (.slice a na ka) ∧ w'.cell? ⟨w.heap.size + 1, 0, none⟩ = some (.int .i64 (ca : Int)) ∧ w'.cell? ⟨w.heap.size + 1, 1, none⟩ = some (.int .i64 (cb : Int)) ∧ w'.cell? ⟨w.heap.size + 1, 2, none⟩ = some (.slice b nb kb))
    (first
     | exact HK4.out
     | exact HK3.out
     | exact HK2.out
     | exact HK1.out
     | exact HD.out)
    (first
     | (go_at_call 49; have _x := HK1; refine (qaz _ _ ca na ka m pa a sa HA.out.nil HA.out.room HFa.out la (by omega) HPa HSa).mono ?_; rintro e w5 ⟨rfl, hb5⟩; have HI5 : Hid (MInv w w5 gd w3.heap.size ra ca ca cb na nb n ka kb a b (upf fn p)) := HI4.out.later hb5; have HK2 : Hid (w5.cell? ⟨w3.heap.size, 0, none⟩ = some (.int .i64 (ra : Int)) ∧ w5.cell? ⟨w3.heap.size, 1, none⟩ = some (.int .i64 (cb : Int)) ∧ w5.cell? ⟨w3.heap.size, 2, none⟩ = some (.slice (some ⟨gd, 0, none⟩) n n) ∧ w5.cell? ⟨w.heap.size, 0, none⟩ = some (.int .i64 (ra : Int)) ∧ w5.cell? ⟨w.heap.size, 1, none⟩ = some (.int .i64 (ca : Int)) ∧ w5.cell? ⟨w.heap.size, 2, none⟩ = some (.slice a na ka) ∧ w5.cell? ⟨w.heap.size + 1, 0, none⟩ = some (.int .i64 (ca : Int)) ∧ w5.cell? ⟨w.heap.size + 1, 1, none⟩ = some (.int .i64 (cb : Int)) ∧ w5.cell? ⟨w.heap.size + 1, 2, none⟩ = some (.slice b nb kb)) := ⟨HI5.out.vm.c0, HI5.out.vm.c1, HI5.out.vm.c2, HI5.out.va.c0, HI5.out.va.c1, HI5.out.va.c2, HI5.out.vb.c0, HI5.out.vb.c1, HI5.out.vb.c2⟩; clear hb5)
     | (go_at_call 49; refine (qaz _ _ cb n n m p (some ⟨gd, 0, none⟩) sp (fun e => by cases e) (Nat.le_refl _) HFi.out lc (by omega) HP HSp).mono ?_; rintro e w4 ⟨rfl, hb4⟩; have HI4 : Hid (MInv w w4 gd w3.heap.size ra ca ca cb na nb n ka kb a b (upf fn p)) := (HI.out.drew).later hb4; have HK1 : Hid (w4.cell? ⟨w3.heap.size, 0, none⟩ = some (.int .i64 (ra : Int)) ∧ w4.cell? ⟨w3.heap.size, 1, none⟩ = some (.int .i64 (cb : Int)) ∧ w4.cell? ⟨w3.heap.size, 2, none⟩ = some (.slice (some ⟨gd, 0, none⟩) n n) ∧ w4.cell? ⟨w.heap.size, 0, none⟩ = some (.int .i64 (ra : Int)) ∧ w4.cell? ⟨w.heap.size, 1, none⟩ = some (.int .i64 (ca : Int)) ∧ w4.cell? ⟨w.heap.size, 2, none⟩ = some (.slice a na ka) ∧ w4.cell? ⟨w.heap.size + 1, 0, none⟩ = some (.int .i64 (ca : Int)) ∧ w4.cell? ⟨w.heap.size + 1, 1, none⟩ = some (.int .i64 (cb : Int)) ∧ w4.cell? ⟨w.heap.size + 1, 2, none⟩ = some (.slice b nb kb)) := ⟨HI4.out.vm.c0, HI4.out.vm.c1, HI4.out.vm.c2, HI4.out.va.c0, HI4.out.va.c1, HI4.out.va.c2, HI4.out.vb.c0, HI4.out.vb.c1, HI4.out.vb.c2⟩; clear hb4)
     | (go_at_call 51; refine (comb_any _ ca cb nb kb ca sa b (fun j => F (pa + j)) G (HSl.out.later HI5.out.below) (HBm.out.later HI5.out.below) HRB.out).mono ?_; rw [HHh.out]; rintro e w6 ⟨s6, k6, rfl, hs6, hb6⟩; have HI6 : Hid (MInv w w6 gd w3.heap.size ra ca ca cb na nb n ka kb a b (upf fn p)) := HI5.out.later hb6; have HS6 : Hid (Sl w6 s6 cb hh) := hs6; have HK3 : Hid (w6.cell? ⟨w3.heap.size, 0, none⟩ = some (.int .i64 (ra : Int)) ∧ w6.cell? ⟨w3.heap.size, 1, none⟩ = some (.int .i64 (cb : Int)) ∧ w6.cell? ⟨w3.heap.size, 2, none⟩ = some (.slice (some ⟨gd, 0, none⟩) n n) ∧ w6.cell? ⟨w.heap.size, 0, none⟩ = some (.int .i64 (ra : Int)) ∧ w6.cell? ⟨w.heap.size, 1, none⟩ = some (.int .i64 (ca : Int)) ∧ w6.cell? ⟨w.heap.size, 2, none⟩ = some (.slice a na ka) ∧ w6.cell? ⟨w.heap.size + 1, 0, none⟩ = some (.int .i64 (ca : Int)) ∧ w6.cell? ⟨w.heap.size + 1, 1, none⟩ = some (.int .i64 (cb : Int)) ∧ w6.cell? ⟨w.heap.size + 1, 2, none⟩ = some (.slice b nb kb)) := ⟨HI6.out.vm.c0, HI6.out.vm.c1, HI6.out.vm.c2, HI6.out.va.c0, HI6.out.va.c1, HI6.out.va.c2, HI6.out.vb.c0, HI6.out.vb.c1, HI6.out.vb.c2⟩; clear hs6 hb6)
     | (refine qde rfl _ _ rfl gd p n cb cb k6 sp s6 (upf fn p) hh rfl rfl HI6.out.data (fun h => by rw [← HSp.out]; exact qeo gd p cb h) HS6.out HFi.out ?_; intro w7 HR7 HG7; have HI7 : Hid (MInv w w7 gd w3.heap.size ra ca ca cb na nb n ka kb a b (upf fn ((m + 1) * cb))) := (HI6.out.copy HR7.out HG7.out).congr (fun q _ => HNext.out q); have HK4 : Hid (w7.cell? ⟨w3.heap.size, 0, none⟩ = some (.int .i64 (ra : Int)) ∧ w7.cell? ⟨w3.heap.size, 1, none⟩ = some (.int .i64 (cb : Int)) ∧ w7.cell? ⟨w3.heap.size, 2, none⟩ = some (.slice (some ⟨gd, 0, none⟩) n n) ∧ w7.cell? ⟨w.heap.size, 0, none⟩ = some (.int .i64 (ra : Int)) ∧ w7.cell? ⟨w.heap.size, 1, none⟩ = some (.int .i64 (ca : Int)) ∧ w7.cell? ⟨w.heap.size, 2, none⟩ = some (.slice a na ka) ∧ w7.cell? ⟨w.heap.size + 1, 0, none⟩ = some (.int .i64 (ca : Int)) ∧ w7.cell? ⟨w.heap.size + 1, 1, none⟩ = some (.int .i64 (cb : Int)) ∧ w7.cell? ⟨w.heap.size + 1, 2, none⟩ = some (.slice b nb kb)) := ⟨HI7.out.vm.c0, HI7.out.vm.c1, HI7.out.vm.c2, HI7.out.va.c0, HI7.out.va.c1, HI7.out.va.c2, HI7.out.vb.c0, HI7.out.vb.c1, HI7.out.vb.c2⟩; clear HR7 HG7))
   go_wp2
   exact ⟨⟨m + 1, by omega, by go_num, HI7.out⟩, by simp [intOf]; omega⟩
  ·obtain rfl : m = ra := by omega
   have HR : Hid (RowAt wr gd 5 n (upf fn (m * cb))) := HI.out.data
   have c0 := HI.out.vm.c0
   have c1 := HI.out.vm.c1
   have c2 := HI.out.vm.c2
   have hlow := HI.out.dlow
   go_wp2_with (refine qa2 rfl _ _ rfl (w.heap.size + 1 + 1) _ _ _ (.int .i64 (m : Int)) (.int .i64 (cb : Int)) (.slice (some ⟨gd, 0, none⟩) n n) rfl rfl HI.out.vr rfl rfl rfl ?_; intro w8 HV8 HG8)
   have d0 := HV8.out.c0
   have d1 := HV8.out.c1
   have d2 := HV8.out.c2
   refine bodyPost_ret (v := .tuple #[mv m cb (some ⟨gd, 0, none⟩) n n, .int .i64 0]) (by simp [results, Tryz.results24, go_sem, d0, d1, d2, mv]) rfl ?_
   exact ⟨gd, rfl, (HR.out.kept HG8.out (by omega)).congr (qgr fn (by rw [HRC.out.len]; exact Nat.le_refl _)), by omega, qa4 HI.out.below HG8.out (by omega)⟩
end Go.Proofs.YtokdejhbjoglcaaGreat
