/-
  Contracts of the program's matrices: allRight, Make, Identity.
  Contracts of the program's matrices: Make, Identity, Row, Same.
  Contracts of the program's matrices: Row, Same.
-/
import Derived.Test.YtokdejhbjoglcaaQgges00
import Derived.Test.YtokdejhbjoglcaaQgges17
import Derived.Laws.OwnMore
set_option maxRecDepth 100000
set_option maxHeartbeats 16000000
namespace Go.Proofs.Ytokdejhbjoglcaa
open Go.RowKit
/-- Two matrices in a row. -/
def Two (w : World) (g : Nat) (r c : Int) (a : Option Addr) (n k : Nat) (r' c' : Int) (b : Option Addr) (m d : Nat) : Prop := w.heap[g]? = some (.cells #[.int .i64 r, .int .i64 c, .slice a n k, .int .i64 r', .int .i64 c', .slice b m d] 24 (0, 0))
theorem Two.lt {w : World} {g : Nat} {r c : Int} {a : Option Addr} {n k : Nat} {r' c' : Int} {b : Option Addr} {m d : Nat} (h : Two w g r c a n k r' c' b m d) : g < w.heap.size := lt_of_block h
theorem Two.later {w w' : World} {g : Nat} {r c : Int} {a : Option Addr} {n k : Nat} {r' c' : Int} {b : Option Addr} {m d : Nat} (h : Two w g r c a n k r' c' b m d) (hb : Below w.heap.size w w') : Two w' g r c a n k r' c' b m d := by unfold Two; rw [hb.block g h.lt]; exact h
theorem Two.c0 {w : World} {g : Nat} {r c : Int} {a : Option Addr} {n k : Nat} {r' c' : Int} {b : Option Addr} {m d : Nat} (h : Two w g r c a n k r' c' b m d) : w.cell? ⟨g, 0, none⟩ = some (.int .i64 r) := by rw [cell_of_row w g 0 _ _ _ h]; rfl
theorem Two.c1 {w : World} {g : Nat} {r c : Int} {a : Option Addr} {n k : Nat} {r' c' : Int} {b : Option Addr} {m d : Nat} (h : Two w g r c a n k r' c' b m d) : w.cell? ⟨g, 1, none⟩ = some (.int .i64 c) := by rw [cell_of_row w g 1 _ _ _ h]; rfl
theorem Two.c2 {w : World} {g : Nat} {r c : Int} {a : Option Addr} {n k : Nat} {r' c' : Int} {b : Option Addr} {m d : Nat} (h : Two w g r c a n k r' c' b m d) : w.cell? ⟨g, 2, none⟩ = some (.slice a n k) := by rw [cell_of_row w g 2 _ _ _ h]; rfl
theorem Two.c3 {w : World} {g : Nat} {r c : Int} {a : Option Addr} {n k : Nat} {r' c' : Int} {b : Option Addr} {m d : Nat} (h : Two w g r c a n k r' c' b m d) : w.cell? ⟨g, 3, none⟩ = some (.int .i64 r') := by rw [cell_of_row w g 3 _ _ _ h]; rfl
theorem Two.c4 {w : World} {g : Nat} {r c : Int} {a : Option Addr} {n k : Nat} {r' c' : Int} {b : Option Addr} {m d : Nat} (h : Two w g r c a n k r' c' b m d) : w.cell? ⟨g, 4, none⟩ = some (.int .i64 c') := by rw [cell_of_row w g 4 _ _ _ h]; rfl
theorem Two.c5 {w : World} {g : Nat} {r c : Int} {a : Option Addr} {n k : Nat} {r' c' : Int} {b : Option Addr} {m d : Nat} (h : Two w g r c a n k r' c' b m d) : w.cell? ⟨g, 5, none⟩ = some (.slice b m d) := by rw [cell_of_row w g 5 _ _ _ h]; rfl
theorem all_yes (w : World) (g : Nat) (r c : Int) (a : Option Addr) (n k : Nat) (r' c' : Int) (b : Option Addr) (m d : Nat) (ht : Two w g r c a n k r' c' b m d) (h1 : RightP r c n) (h2 : RightP r' c' m) :
  Calls Try.prog 57 #[.slice (some ⟨g, 0, none⟩) 2 2] w fun e w' => e = .returned (.bool true) ∧ Below w.heap.size w w' := by
 have HT : Hid (Two w g r c a n k r' c' b m d) := ht
 have H1 : Hid (RightP r c n) := h1
 have H2 : Hid (RightP r' c' m) := h2
 clear ht h1 h2
 go_enter Try.func57, Try.ntmps57
 go_wp2
 go_loopw [7] (fun i wr => ∃ q : Nat, q ≤ 2 ∧ i = .int .i64 (q : Int) ∧ Below w.heap.size w wr) (fun i _ => 2 - (intOf i).toNat)
 case atStart => exact ⟨0, by omega, rfl, Below.refl _ _⟩
 case round =>
  obtain ⟨q, hq, rfl, hb⟩ := hrel
  have HB : Hid (Below w.heap.size w wr) := hb
  have t0 := (HT.out.later hb).c0
  have t1 := (HT.out.later hb).c1
  have t2 := (HT.out.later hb).c2
  have t3 := (HT.out.later hb).c3
  have t4 := (HT.out.later hb).c4
  have t5 := (HT.out.later hb).c5
  clear hb
  rcases (by omega : q = 0 ∨ q = 1 ∨ q = 2) with rfl | rfl | rfl
  ·go_wp2_with (go_at_call 52; refine (qas _ _ _ _ _ _ H1.out).mono ?_; rintro e w1 ⟨rfl, hb1⟩; have HB1 : Hid (Below w.heap.size w w1) := qa0 (qa0 HB.out (qa1 _ _)) hb1; clear hb1)
   exact ⟨⟨1, by omega, by go_num, HB1.out⟩, by simp [intOf]⟩
  ·go_wp2_with (go_at_call 52; refine (qas _ _ _ _ _ _ H2.out).mono ?_; rintro e w1 ⟨rfl, hb1⟩; have HB1 : Hid (Below w.heap.size w w1) := qa0 (qa0 HB.out (qa1 _ _)) hb1; clear hb1)
   exact ⟨⟨2, by omega, by go_num, HB1.out⟩, by simp [intOf]⟩
  ·go_wp2
   go_ret
   exact ⟨rfl, HB.out⟩
open Go.RowKit
theorem qfb (w : World) (n m : Nat) (hn : n ≤ 64) (HM : Hid (n * n = m)) :
  Calls Try.prog 51 #[.int .i64 (n : Int)] w fun e w' => ∃ g, e = .returned (.tuple #[mv n n (some ⟨g, 0, none⟩) m m, .int .i64 0]) ∧ RowAt w' g 5 m (idf n) ∧ w.heap.size ≤ g ∧ Below w.heap.size w w' := by
 have hm : m ≤ 4096 := by rw [← HM.out]; exact Nat.mul_le_mul hn hn
 go_enter Try.func51, Try.ntmps51
 go_wp2_with (first
  | (go_at_call 54; refine (qgj _ _ ⟨by omega, by omega⟩).mono ?_; rintro e w' ⟨rfl, rfl⟩)
  | (go_at_call 54; refine (side_no _ _ (by omega)).mono ?_; rintro e w' ⟨rfl, rfl⟩)
  | (go_at_call 55; refine (qbx _ n n m hn hn HM).mono ?_; rintro e w1 ⟨g, rfl, hr1, hg1, hb1⟩; have HR : Hid (RowAt w1 g 5 m (fun _ => 0)) := hr1; have hg2 : w.heap.size + 1 ≤ g := by { have := hg1; simpa using this }; have HB : Hid (Below w.heap.size w w1) := qa0 (qa1 _ _) hb1; have HV : Hid (Vr w1 w.heap.size (.int .i64 0) (.int .i64 0) (.slice none 0 0)) := (Vr.new w _ _ _).later hb1; clear hr1 hg1 hb1))
 have HBeg : Hid (Vr (w1.alloc (.cells #[.int .i64 (n : Int), .int .i64 (n : Int), .slice (some ⟨g, 0, none⟩) m m] 24)) w1.heap.size (.int .i64 (n : Int)) (.int .i64 (n : Int)) (.slice (some ⟨g, 0, none⟩) m m)) := Vr.new w1 _ _ _
 have glt := HR.out.lt
 have vlt := HV.out.lt
 go_loopw [5, 14] (fun _ i wr => ∃ k : Nat, k ≤ n ∧ i = .int .i64 (k : Int) ∧ RowAt wr g 5 m (idk n k) ∧ Vr wr w1.heap.size (.int .i64 (n : Int)) (.int .i64 (n : Int)) (.slice (some ⟨g, 0, none⟩) m m) ∧ Vr wr w.heap.size (.int .i64 0) (.int .i64 0) (.slice none 0 0) ∧ Below w.heap.size w wr) (fun _ i _ => n - (intOf i).toNat)
 case atStart => exact ⟨0, by omega, rfl, (HR.out.later (qa1 _ _)).congr (fun i _ => by unfold idk; rw [if_neg (fun x => absurd x.2 (Nat.not_lt_zero _))]), HBeg.out, HV.out.later (qa1 _ _), qa0 HB.out (qa1 _ _)⟩
 case round =>
  clear HBeg HR HV HB
  obtain ⟨k, hk, rfl, hr, hv, hv2, hbr⟩ := hrel
  by_cases hlt : k < n
  ·obtain ⟨p, HP⟩ : ∃ p, Hid (k * n + k = p) := ⟨_, rfl⟩
   obtain ⟨q, HQ⟩ : ∃ q, Hid (k * n = q) := ⟨_, rfl⟩
   have hpq : p = q + k := by rw [← HP.out, ← HQ.out]
   have hfit : q + n ≤ m := by rw [← HQ.out]; exact Rt.fit ⟨hn, hn, HM.out⟩ hlt
   have HS : Hid (pc (some ⟨g, 0, none⟩) q n = some ⟨g, q, none⟩) := qe8 g q n (by omega)
   have c0 := hv.c0
   have c1 := hv.c1
   have c2 := hv.c2
   have HR : Hid (RowAt wr g 5 m (idk n k)) := hr
   have HV : Hid (Vr wr w1.heap.size (.int .i64 (n : Int)) (.int .i64 (n : Int)) (.slice (some ⟨g, 0, none⟩) m m)) := hv
   have HV2 : Hid (Vr wr w.heap.size (.int .i64 0) (.int .i64 0) (.slice none 0 0)) := hv2
   have HB : Hid (Below w.heap.size w wr) := hbr
   have hgs : g ≠ w.heap.size := by omega
   have hgs1 : g ≠ w1.heap.size := by omega
   clear hr hv hv2 hbr
   go_wp2_with (first
    | (go_at_call 56; refine (qat _ n n m m k q (some ⟨g, 0, none⟩) (some ⟨g, q, none⟩) (fun e => by cases e) (Nat.le_refl _) hfit hm (by omega) HQ HS).mono ?_; rintro e w3 ⟨rfl, hb3⟩; have hc := (HR.out.later hb3).cell (q + k) (by omega); have hf := (HR.out.later hb3).free (q + k); have RR : Hid (RowAt (w3.setCell ⟨g, q + k, none⟩ (.int .u8 1)) g 5 m (idk n (k + 1)) ∧ Vr (w3.setCell ⟨g, q + k, none⟩ (.int .u8 1)) w1.heap.size (.int .i64 (n : Int)) (.int .i64 (n : Int)) (.slice (some ⟨g, 0, none⟩) m m) ∧ Vr (w3.setCell ⟨g, q + k, none⟩ (.int .u8 1)) w.heap.size (.int .i64 0) (.int .i64 0) (.slice none 0 0) ∧ Below w.heap.size w (w3.setCell ⟨g, q + k, none⟩ (.int .u8 1))) := ⟨((HR.out.later hb3).set (q + k) 1).congr (fun j _ => by rw [← hpq, ← HP.out]; exact idk_step n k j), (HV.out.later hb3).kept (qa3 _ _ _ _) (Ne.symm hgs1), (HV2.out.later hb3).kept (qa3 _ _ _ _) (Ne.symm hgs), (qa0 HB.out hb3).setCell (by show w.heap.size ≤ g; omega) _⟩; clear hb3))
   exact ⟨⟨k + 1, by omega, by go_num, RR.out.1, RR.out.2.1, RR.out.2.2.1, RR.out.2.2.2⟩, by simp [intOf]; omega⟩
  ·obtain rfl : k = n := by omega
   have c0 := hv.c0
   have c1 := hv.c1
   have c2 := hv.c2
   have HR : Hid (RowAt wr g 5 m (idk k k)) := hr
   have HV2 : Hid (Vr wr w.heap.size (.int .i64 0) (.int .i64 0) (.slice none 0 0)) := hv2
   have HB : Hid (Below w.heap.size w wr) := hbr
   clear hr hv hv2 hbr
   go_wp2_with (refine qa2 rfl _ _ rfl w.heap.size _ _ _ (.int .i64 (k : Int)) (.int .i64 (k : Int)) (.slice (some ⟨g, 0, none⟩) m m) rfl rfl HV2.out rfl rfl rfl ?_; intro w3 HV3 HG3)
   have d0 := HV3.out.c0
   have d1 := HV3.out.c1
   have d2 := HV3.out.c2
   refine bodyPost_ret (v := .tuple #[mv k k (some ⟨g, 0, none⟩) m m, .int .i64 0]) (by simp [results, Try.results51, go_sem, d0, d1, d2, mv]) rfl ?_
   exact ⟨g, rfl, (HR.out.kept HG3.out (by omega)).congr (fun j hj => idk_all k j (by rw [HM.out]; exact hj)), by omega, qa4 HB.out HG3.out (Nat.le_refl _)⟩
end Go.Proofs.Ytokdejhbjoglcaa
