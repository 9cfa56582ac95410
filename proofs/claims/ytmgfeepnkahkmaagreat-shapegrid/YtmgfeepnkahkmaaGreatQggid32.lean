/-
  Codes of portions: the entries of their generators and their groups, as numbers.
  Contracts of the program's build: anyTwice.
  Contracts of the program's build: Cauchy.
  Contracts of the program's build: Systematic.
  Contracts of the program's build: Vandermonde.
  Contracts of the program's build: Reed, Cross, Check.
  The program's gauss and the reference's, together.
  The checks' own anchors.
  Ranks: of the matrix transposed, of the reduced one, and the free columns.
  Contracts of the program's build: Check.
  What the laws about generators ask: two answers are alike; the program's answers and the document's, in pairs.
  Rows of a code: a row as it stands, noughts, counts that are too many, a piece copied into a greater one.
-/
import Derived.Test.YtmgfeepnkahkmaaGreatQggid00
import Derived.Test.YtmgfeepnkahkmaaGreatQggid22
import Derived.Test.YtmgfeepnkahkmaaGreatQggid23
import Derived.Test.YtmgfeepnkahkmaaGreatQggid24
import Derived.Test.YtmgfeepnkahkmaaGreatQggid31
import Derived.Test.YtmgfeepnkahkmaaGreatQggid25
import Derived.Test.YtmgfeepnkahkmaaGreatQggid16
import Derived.Test.YtmgfeepnkahkmaaGreatQggid10
set_option maxRecDepth 100000
set_option maxHeartbeats 16000000
namespace Go.Proofs.YtmgfeepnkahkmaaGreat
open Go.RowKit
/-- The entries of a code of portions: the identity, a row a portion, further rows. -/
def ptf (k l s : Nat) (W X : Nat → Nat) (q : Nat) : Nat :=
 if q < k * k then idf k q else if q < (k + l) * k then (if q % k / s = q / k - k then W (q % k) else 0) else X (q - (k + l) * k)
/-- Where the blocks of a portion's group stand. -/
def gpq (k s p i : Nat) : Nat := if i = s then k + p else p * s + i
/-- A portion's group. -/
def gpf (k s p : Nat) : Nat := ofs (gpq k s p) (s + 1)
theorem qf6 {k l s p : Nat} (h : l * s = k) (hp : p < l) : p * s + s ≤ k := by
 rw [← h]
 exact Nat.le_trans (Nat.le_of_eq (show p * s + s = (p + 1) * s by rw [Nat.add_mul, Nat.one_mul])) (Nat.mul_le_mul_right s hp)
theorem gpq_lt {k l s p i : Nat} (h : l * s = k) (hp : p < l) (hk : k + l ≤ 64) (hi : i < s + 1) : gpq k s p i < 64 := by
 unfold gpq
 have := qf6 h hp
 split <;> omega
theorem qjy (m x : Nat) : bt (2 ^ m - 1) x = if x < m then 1 else 0 := by
 have h := Nat.testBit_two_pow_sub_one m x
 rw [Nat.testBit_eq_decide_div_mod_eq] at h
 have h2 := bt_lt (2 ^ m - 1) x
 unfold bt at *
 by_cases e : x < m
 ·rw [if_pos e]; simpa [e] using h
 ·rw [if_neg e]
  have : ¬ (2 ^ m - 1) / 2 ^ x % 2 = 1 := by simpa [e] using h
  omega
theorem qgg (m : Nat) : ∀ x, x ≤ m → cn (2 ^ m - 1) x = x := by
 intro x
 induction x with
 | zero => intro _; rfl
 | succ x ih => intro h; rw [qbt, ih (by omega), qjy, if_pos (by omega)]
/-- The list of all numbers below m. -/
theorem lf_ones {m t : Nat} (hm : m ≤ 64) (ht : t < m) : lf (2 ^ m - 1) 64 t = t := by
 have hc := qis 64 m hm
 obtain ⟨_, h2, h3⟩ := qan (s := 2 ^ m - 1) (i := 64) (t := t) (by omega)
 rw [qjy] at h2
 by_cases hx : lf (2 ^ m - 1) 64 t < m
 ·rw [qgg m _ (by omega)] at h3; exact h3
 ·rw [if_neg hx] at h2; omega
open Go.RowKit
/-- The cells of an array of truth values. -/
def brow (n : Nat) (f : Nat → Bool) : Array Value := (Array.range n).map fun i => .bool (f i)
theorem qk6 (n : Nat) (f : Nat → Bool) : (brow n f).size = n := by simp [brow]
theorem brow_get (n : Nat) (f : Nat → Bool) (i : Nat) (h : i < n) : (brow n f)[i]? = some (.bool (f i)) := by simp [brow, h]
theorem brow_set (n : Nat) (f : Nat → Bool) (i : Nat) (v : Bool) : (brow n f).setIfInBounds i (.bool v) = brow n (fun j => if j = i then v else f j) := by
 apply Array.ext
 ·simp [brow]
 ·intro j h1 h2
  by_cases e : i = j
  ·subst e; simp [brow]
  ·rw [Array.getElem_setIfInBounds_ne (by simpa using h1) e]; simp [brow, Ne.symm e]
theorem qid (n : Nat) (f f' : Nat → Bool) (h : ∀ i, i < n → f i = f' i) : brow n f = brow n f' := by
 apply Array.ext
 ·simp [brow]
 ·intro j h1 h2
  simp [qk6] at h1
  simp [brow, h j h1]
theorem zero2b (w : World) : Sem.run Tryz.prog (zeroValue 148) w = .ok (.agg (brow 256 fun _ => false)) w := by kernel_rfl
def BRowAt (w : World) (b n : Nat) (f : Nat → Bool) : Prop := w.heap[b]? = some (.cells (brow n f) 148 (0, 0))
theorem BRowAt.cell {w : World} {b n : Nat} {f : Nat → Bool} (h : BRowAt w b n f) (i : Nat) (hi : i < n) : w.cell? ⟨b, i, none⟩ = some (.bool (f i)) := by
 rw [cell_of_row w b i _ _ _ h, brow_get n f i hi]
theorem BRowAt.free {w : World} {b n : Nat} {f : Nat → Bool} (h : BRowAt w b n f) (i : Nat) : w.frozen? ⟨b, i, none⟩ = false := by
 unfold BRowAt at h
 simp [World.frozen?, h]
theorem BRowAt.set {w : World} {b n : Nat} {f : Nat → Bool} (h : BRowAt w b n f) (i : Nat) (v : Bool) : BRowAt (w.setCell ⟨b, i, none⟩ (.bool v)) b n (fun j => if j = i then v else f j) := by
 unfold BRowAt at *
 rw [setCell_eq_setRow w b i _ _ (0, 0) _ h, setRow_heap w b _ _ _ (0, 0) h, brow_set]
theorem BRowAt.congr {w : World} {b n : Nat} {f f' : Nat → Bool} (h : BRowAt w b n f) (e : ∀ i, i < n → f i = f' i) : BRowAt w b n f' := by
 unfold BRowAt at *
 rw [h, qid n f f' e]
/-- What has come up to a place. -/
def seen (E : Nat → Nat) : Nat → Nat → Bool
 | 0, _ => false
 | q + 1, v => if v = E q then true else seen E q v
theorem qhc (E : Nat → Nat) : ∀ (q v : Nat), seen E q v = true ↔ ∃ p, p < q ∧ E p = v := by
 intro q v
 induction q with
 | zero => exact ⟨fun h => (by cases h), fun ⟨p, h, _⟩ => (by omega)⟩
 | succ q ih =>
  show (if v = E q then true else seen E q v) = true ↔ _
  by_cases h : v = E q
  ·rw [if_pos h]
   exact ⟨fun _ => ⟨q, by omega, h.symm⟩, fun _ => rfl⟩
  ·rw [if_neg h, ih]
   exact ⟨fun ⟨p, h1, h2⟩ => ⟨p, by omega, h2⟩, fun ⟨p, h1, h2⟩ => ⟨p, by
    have : p ≠ q := fun e => h (by rw [← h2, e])
    omega, h2⟩⟩
theorem qhd {X Y : Nat → Nat} {n m : Nat} : Dst X n Y m ↔ ∀ i, i < n + m → seen (stf X Y n) i (stf X Y n i) = false := by
 refine ⟨fun h i hi => ?_, fun h i j hi hj e => ?_⟩
 ·cases hs : seen (stf X Y n) i (stf X Y n i) with
  | false => rfl
  | true =>
   obtain ⟨p, hp, e⟩ := (qhc _ _ _).mp hs
   exact absurd e.symm (h i p hi hp)
 ·have h1 := h i hi
  rw [(qhc _ _ _).mpr ⟨j, hj, e.symm⟩] at h1
  cases h1
def Lst2 (w : World) (g : Nat) (a : Option Addr) (n k : Nat) (b : Option Addr) (m d : Nat) : Prop := w.heap[g]? = some (.cells #[.slice a n k, .slice b m d] 22 (0, 0))
theorem Lst2.c0 {w : World} {g : Nat} {a : Option Addr} {n k : Nat} {b : Option Addr} {m d : Nat} (h : Lst2 w g a n k b m d) : w.cell? ⟨g, 0, none⟩ = some (.slice a n k) := by rw [cell_of_row w g 0 _ _ _ h]; rfl
theorem Lst2.c1 {w : World} {g : Nat} {a : Option Addr} {n k : Nat} {b : Option Addr} {m d : Nat} (h : Lst2 w g a n k b m d) : w.cell? ⟨g, 1, none⟩ = some (.slice b m d) := by rw [cell_of_row w g 1 _ _ _ h]; rfl
theorem Lst2.later {w w' : World} {g : Nat} {a : Option Addr} {n k : Nat} {b : Option Addr} {m d : Nat} (h : Lst2 w g a n k b m d) (hb : Below w.heap.size w w') : Lst2 w' g a n k b m d := by unfold Lst2; rw [hb.block g (lt_of_block h)]; exact h
theorem qk7 (w : World) (g n m k d : Nat) (a b : Option Addr) (X Y : Nat → Nat) (hL : Lst2 w g a n k b m d) (ha : Sl w a n X) (hb : Sl w b m Y) (hn : n ≤ 64) (hm : m ≤ 64) :
  Calls Tryz.prog 103 #[.slice (some ⟨g, 0, none⟩) 2 2] w fun e w' => (e = .returned (.bool false) ∧ Dst X n Y m ∧ Below w.heap.size w w') ∨ (e = .returned (.bool true) ∧ ¬ Dst X n Y m ∧ Below w.heap.size w w') := by
 obtain ⟨zs, HZ⟩ : ∃ zs, Hid (zs = brow 256 fun _ => false) := ⟨_, rfl⟩
 have z : ∀ w, Sem.run Tryz.prog (zeroValue 148) w = .ok (.agg zs) w := by rw [HZ.out]; exact zero2b
 obtain ⟨E, HE⟩ : ∃ E, Hid (E = stf X Y n) := ⟨_, rfl⟩
 have HA : Hid (∀ w', Below w.heap.size w w' → Sl w' a n X) := fun w' h => ha.later h
 have HB : Hid (∀ w', Below w.heap.size w w' → Sl w' b m Y) := fun w' h => hb.later h
 have HL : Hid (∀ w', Below w.heap.size w w' → Lst2 w' g a n k b m d) := fun w' h => hL.later h
 clear ha hb hL
 go_enter Tryz.func103, Tryz.ntmps103
 go_wp2
 clear z
 go_loopw [5, 7, 10] (fun _ _ st wr => ∃ (t q : Nat), t ≤ 2 ∧ st = .int .i64 (t : Int) ∧ (t = 0 ∧ q = 0 ∨ t = 1 ∧ q = n ∨ t = 2 ∧ q = n + m) ∧ BRowAt wr w.heap.size 256 (seen E q) ∧ (∀ i, i < q → seen E i (E i) = false) ∧ Below w.heap.size w wr) (fun _ _ st _ => 2 - (intOf st).toNat)
 case atStart => exact ⟨0, 0, by omega, rfl, .inl ⟨rfl, rfl⟩, by rw [HZ.out]; exact Array.getElem?_push_size, fun i h => by omega, qa1 _ _⟩
 case round =>
  obtain ⟨t, q0, ht, rfl, htq, hr, hd, hbl⟩ := hrel
  have HR : Hid (BRowAt wr w.heap.size 256 (seen E q0)) := hr
  have HD : Hid (∀ i, i < q0 → seen E i (E i) = false) := hd
  have HW : Hid (Below w.heap.size w wr) := hbl
  clear hr hd hbl
  by_cases hlt : t < 2
  ·obtain ⟨s, l, c, hcl, HS, hl, hnx⟩ : ∃ (s : Option Addr) (l c : Nat), wr.cell? ⟨g, t, none⟩ = some (.slice s l c) ∧ Hid (∀ w', Below w.heap.size w w' → Sl w' s l (fun j => E (q0 + j))) ∧ l ≤ 64 ∧ (t + 1 = 1 ∧ q0 + l = n ∨ t + 1 = 2 ∧ q0 + l = n + m) := by
    have hL := HL.out wr HW.out
    rcases htq with ⟨rfl, rfl⟩ | ⟨rfl, rfl⟩ | ⟨rfl, _⟩
    ·exact ⟨a, n, k, hL.c0, fun w' h => (HA.out w' h).congr (fun j hj => by rw [HE.out, Nat.zero_add]; unfold stf; rw [if_pos hj]), hn, .inl ⟨rfl, by omega⟩⟩
    ·exact ⟨b, m, d, hL.c1, fun w' h => (HB.out w' h).congr (fun j hj => by rw [HE.out]; unfold stf; rw [if_neg (by omega)]; congr 1; omega), hm, .inr ⟨rfl, by omega⟩⟩
    ·omega
   have p0 : (0 : Int) ≤ (t : Int) := by omega
   have p1 : (t : Int) < 2 := by omega
   clear htq
   go_wp2
   go_loopw [7, 16] (fun _ sj wr => ∃ j : Nat, j ≤ l ∧ sj = .int .i64 (j : Int) ∧ BRowAt wr w.heap.size 256 (seen E (q0 + j)) ∧ (∀ i, i < q0 + j → seen E i (E i) = false) ∧ Below w.heap.size w wr) (fun _ sj _ => l - (intOf sj).toNat)
   case atStart => exact ⟨0, by omega, rfl, HR.out, HD.out, HW.out⟩
   case round =>
    clear HR HD HW hcl
    obtain ⟨j, hj, rfl, hr, hd, hbl⟩ := hrel
    have HR : Hid (BRowAt wr w.heap.size 256 (seen E (q0 + j))) := hr
    have HD : Hid (∀ i, i < q0 + j → seen E i (E i) = false) := hd
    have HW : Hid (Below w.heap.size w wr) := hbl
    clear hr hd hbl
    by_cases hlj : j < l
    ·obtain ⟨bs, os, es, hcs⟩ := (HS.out wr HW.out).2 j hlj
     have hx8 := (HS.out wr HW.out).1 j hlj
     subst es
     obtain ⟨x, HX⟩ : ∃ x, Hid (E (q0 + j) = x) := ⟨_, rfl⟩
     dsimp only at hcs hx8
     rw [HX.out] at hcs hx8
     have hcm := HR.out.cell x hx8
     have hfm := HR.out.free x
     have r0 : (0 : Int) ≤ (j : Int) := by omega
     have r1 : (j : Int) < (l : Int) := by omega
     have r2 : (0 : Int) ≤ (x : Int) := by omega
     have r3 : (x : Int) < 256 := by omega
     cases hs : seen E (q0 + j) x with
     | true =>
      rw [hs] at hcm
      go_wp2
      go_ret
      refine .inr ⟨rfl, fun h => ?_, HW.out⟩
      have h1 := qhd.mp h (q0 + j) (by omega)
      rw [← HE.out, HX.out, hs] at h1
      cases h1
     | false =>
      rw [hs] at hcm
      go_wp2
      refine ⟨⟨j + 1, by omega, by go_num, (HR.out.set x true).congr (fun v _ => ?_), fun i hi => ?_, HW.out.setCell (Nat.le_refl _) _⟩, by simp [intOf]; omega⟩
      ·show _ = (if v = E (q0 + j) then true else seen E (q0 + j) v)
       rw [HX.out]
      ·by_cases hiq : i < q0 + j
       ·exact HD.out i hiq
       ·obtain rfl : i = q0 + j := by omega
        rw [HX.out]; exact hs
    ·obtain rfl : j = l := by omega
     go_wp2
     refine ⟨⟨t + 1, q0 + j, by omega, by go_num, .inr hnx, HR.out, HD.out, HW.out⟩, by simp [intOf]; omega⟩
  ·obtain rfl : t = 2 := by omega
   obtain rfl : q0 = n + m := by omega
   go_wp2
   go_ret
   exact .inl ⟨rfl, qhd.mpr (by rw [← HE.out]; exact HD.out), HW.out⟩
open Go.RowKit
theorem lst2_new (w : World) (a : Option Addr) (n k : Nat) (b : Option Addr) (m d : Nat) : Lst2 (w.alloc (.cells #[.slice a n k, .slice b m d] 22)) w.heap.size a n k b m d := Array.getElem?_push_size
theorem bcau_ok (w : World) (n m N k d : Nat) (a b : Option Addr) (X Y : Nat → Nat) (ha : Mt w a n k X) (hb : Mt w b m d Y) (hn : n ≤ 64) (hm : m ≤ 64) (HN : Hid (n * m = N)) (hD : Dst X n Y m) :
  Calls Tryz.prog 81 #[.slice a n k, .slice b m d] w fun e w' => ∃ g, e = .returned (.tuple #[mv n m (some ⟨g, 0, none⟩) N N, .int .i64 0]) ∧ RowAt w' g 5 N (cauf X Y m) ∧ w.heap.size ≤ g ∧ Below w.heap.size w w' := by
 have HRt : Hid (Rt n m N) := ⟨hn, hm, HN.out⟩
 have HA : Hid (Mt w a n k X) := ha
 have HB : Hid (Mt w b m d Y) := hb
 have HD0 : Hid (Dst X n Y m) := hD
 have hnl : decide (64 < n) = false := by simp; omega
 have hml : decide (64 < m) = false := by simp; omega
 have hN4 := HRt.out.le
 have hbox : Below w.heap.size w ((w.alloc (.cells #[.int .i64 0, .int .i64 0, .slice none 0 0] 24)).alloc (.cells #[.slice a n k, .slice b m d] 22)) := qa0 (qa1 _ _) (qa1 _ _)
 have HBox : Hid (Below w.heap.size w ((w.alloc (.cells #[.int .i64 0, .int .i64 0, .slice none 0 0] 24)).alloc (.cells #[.slice a n k, .slice b m d] 22))) := hbox
 have HVb : Hid (Vr ((w.alloc (.cells #[.int .i64 0, .int .i64 0, .slice none 0 0] 24)).alloc (.cells #[.slice a n k, .slice b m d] 22)) w.heap.size (.int .i64 0) (.int .i64 0) (.slice none 0 0)) := (Vr.new w _ _ _).later (qa1 _ _)
 have HTw : Hid (Calls Tryz.prog 103 #[.slice (some ⟨w.heap.size + 1, 0, none⟩) 2 2] ((w.alloc (.cells #[.int .i64 0, .int .i64 0, .slice none 0 0] 24)).alloc (.cells #[.slice a n k, .slice b m d] 22)) fun e w' => e = .returned (.bool false) ∧ Below ((w.alloc (.cells #[.int .i64 0, .int .i64 0, .slice none 0 0] 24)).alloc (.cells #[.slice a n k, .slice b m d] 22)).heap.size ((w.alloc (.cells #[.int .i64 0, .int .i64 0, .slice none 0 0] 24)).alloc (.cells #[.slice a n k, .slice b m d] 22)) w') := by
  have hl := lst2_new (w.alloc (.cells #[.int .i64 0, .int .i64 0, .slice none 0 0] 24)) a n k b m d
  rw [World.size_alloc] at hl
  refine (qk7 _ (w.heap.size + 1) n m k d a b X Y hl (ha.sl.later hbox) (hb.sl.later hbox) hn hm).mono ?_
  rintro e w' (⟨rfl, _, h2⟩ | ⟨_, hx, _⟩)
  ·exact ⟨rfl, h2⟩
  ·exact absurd hD hx
 clear ha hb hD hbox
 go_enter Tryz.func81, Tryz.ntmps81
 go_wp2_with (first
  | (go_at_call 103; refine HTw.out.mono ?_; rintro e w1 ⟨rfl, hb1⟩; have HB1 : Hid (Below w.heap.size w w1) := qa0 HBox.out hb1; have HV1 : Hid (Vr w1 w.heap.size (.int .i64 0) (.int .i64 0) (.slice none 0 0)) := HVb.out.later hb1; clear hb1)
  | (go_at_call 67; refine (qh8 _ n m N hn hm HN).mono ?_; rintro e w4 ⟨g, rfl, hr4, hg4, hb4⟩; have HR4 : Hid (RowAt w4 g 5 N (fun _ => 0)) := hr4; have hg5 : w.heap.size < g := Nat.lt_of_lt_of_le HV1.out.lt hg4; have HB4 : Hid (Below w.heap.size w w4) := qa0 HB1.out hb4; have HV4 : Hid (Vr w4 w.heap.size (.int .i64 0) (.int .i64 0) (.slice none 0 0)) := HV1.out.later hb4; clear hr4 hg4 hb4))
 have HI0 : Hid (ZInv w w4 (w4.alloc (.cells #[.int .i64 (n : Int), .int .i64 (m : Int), .slice (some ⟨g, 0, none⟩) N N] 24)) g n m N (upt (cauf X Y m) 0)) := ⟨(HR4.out.later (qa1 _ _)).congr (fun i _ => (if_neg (by omega)).symm), Vr.new w4 _ _ _, HV4.out.later (qa1 _ _), qa0 HB4.out (qa1 _ _), hg5, HR4.out.lt⟩
 clear HR4 HB4 HV4 HB1 HV1 HTw HBox HVb
 go_loopw [8, 9, 10, 11, 38] (fun _ _ _ _ si wr => ∃ i : Nat, i ≤ n ∧ si = .int .i64 (i : Int) ∧ ZInv w w4 wr g n m N (upt (cauf X Y m) (i * m))) (fun _ _ _ _ si _ => n - (intOf si).toNat)
 case atStart => exact ⟨0, by omega, rfl, HI0.out.congr (fun _ _ => by rw [Nat.zero_mul])⟩
 case round =>
  clear HI0
  obtain ⟨i, hi, rfl, I⟩ := hrel
  have HI : Hid (ZInv w w4 wr g n m N (upt (cauf X Y m) (i * m))) := I
  have c2 := I.vm.c2
  by_cases hlt : i < n
  ·obtain ⟨ba, oa, ea, hca⟩ := (HA.out.later I.below).sl.2 i hlt
   subst ea
   obtain ⟨x, HX⟩ : ∃ x, Hid (X i = x) := ⟨_, rfl⟩
   have hx : x < 256 := by rw [← HX.out]; exact HA.out.sl.1 i hlt
   rw [HX.out] at hca
   have p2 : (0 : Int) ≤ (i : Int) := by omega
   have p3 : (i : Int) < (n : Int) := by omega
   clear I
   go_wp2
   go_loopw [10, 11, 45] (fun _ _ sj wr => ∃ j : Nat, j ≤ m ∧ sj = .int .i64 (j : Int) ∧ ZInv w w4 wr g n m N (upt (cauf X Y m) (i * m + j))) (fun _ _ sj _ => m - (intOf sj).toNat)
   case atStart => exact ⟨0, by omega, rfl, HI.out⟩
   case round =>
    clear HI c2 hca
    obtain ⟨j, hj, rfl, I⟩ := hrel
    have HI : Hid (ZInv w w4 wr g n m N (upt (cauf X Y m) (i * m + j))) := I
    have c2 := I.vm.c2
    by_cases hlj : j < m
    ·obtain ⟨P, HP⟩ : ∃ x, Hid (i * m + j = x) := ⟨_, rfl⟩
     have hpn : P < N := by rw [← HP.out]; exact HRt.out.at hlt hlj
     obtain ⟨bb, ob, eb, hcb⟩ := (HB.out.later I.below).sl.2 j hlj
     subst eb
     obtain ⟨y, HY⟩ : ∃ x, Hid (Y j = x) := ⟨_, rfl⟩
     have hy : y < 256 := by rw [← HY.out]; exact HB.out.sl.1 j hlj
     rw [HY.out] at hcb
     obtain ⟨u, HU⟩ : ∃ u, Hid (x ^^^ y = u) := ⟨_, rfl⟩
     have hu : u < 256 := by rw [← HU.out]; exact qbr _ _ hx hy
     obtain ⟨z, HZ⟩ : ∃ z, Hid (finv u = z) := ⟨_, rfl⟩
     obtain ⟨E, HE⟩ : ∃ z, Hid (ive u = z) := ⟨_, rfl⟩
     have HAdd : Hid (∀ w, Calls Tryz.prog 105 #[.int .u8 (x : Int), .int .u8 (y : Int)] w fun e w' => e = .returned (.int .u8 (u : Int)) ∧ w = w') := by
      rw [← HU.out, ← ixor_nat]
      exact fun w => (add_any (x : Int) (y : Int) w ⟨by omega, by omega⟩ ⟨by omega, by omega⟩).mono fun _ _ h => ⟨h.1, h.2.symm⟩
     have HInv : Hid (∀ w, Calls Tryz.prog 104 #[.int .u8 (u : Int)] w fun e w' => e = .returned (.tuple #[.int .u8 (z : Int), .int .i64 E]) ∧ Below w.heap.size w w') := by rw [← HZ.out, ← HE.out]; exact fun w => qgb u w hu
     have e1 : ((i : Int) * (m : Int)) = ((i * m : Nat) : Int) := by simp
     have hmp : i * m ≤ P := by rw [← HP.out]; omega
     have w1' : IntKind.i64.wrap ((i : Int) * (m : Int)) = (i : Int) * (m : Int) := by rw [e1, IntKind.wrap_i64]; omega
     have w2' : IntKind.i64.wrap ((i : Int) * (m : Int) + (j : Int)) = (P : Int) := by rw [e1, IntKind.wrap_i64]; have := HP.out; omega
     have p0 : (0 : Int) ≤ (P : Int) := by omega
     have p1 : (P : Int) < (N : Int) := by omega
     have p4 : (0 : Int) ≤ (j : Int) := by omega
     have p5 : (j : Int) < (m : Int) := by omega
     have HD : Hid (wr.drew.cell? ⟨w4.heap.size, 2, none⟩ = some (.slice (some ⟨g, 0, none⟩) N N)) := c2
     clear I e1
     go_wp2
     refine wp_region_held (S := fun w' => w'.cell? ⟨w4.heap.size, 2, none⟩ = some (.slice (some ⟨g, 0, none⟩) N N)) (by kernel_rfl) ?_
     change wpAnyH _ _ _ _ _ _ _ _ wr.drew
     refine wtkq 0 ?va0 rfl (by kernel_rfl) (fun _ _ _ h => h) (by rfl) ?ya0 HD.out ?za0
     case ya0 => (intro w hSw; (try dsimp only at hSw); go_simp; try with_reducible rfl)
     try simp only [mz1, mz3, Act.put, mz4, mz5, mz6]
     refine wtkq 1 ?va1 rfl (by kernel_rfl) (fun _ _ _ h => h) (by rfl) ?ya1 HD.out ?za1
     case ya1 => (intro w hSw; (try dsimp only at hSw); go_simp; try with_reducible rfl)
     try simp only [mz1, mz2, mz3, Act.put, mz4, mz5, mz6]
     refine wtkq 2 ?va2 rfl (by kernel_rfl) (fun _ _ _ h => h) (by rfl) ?ya2 HD.out ?za2
     case ya2 => (intro w hSw; (try dsimp only at hSw); go_simp; try with_reducible rfl)
     try simp only [mz1, mz2, mz3, Act.put, mz4, mz5, mz6]
     refine wtkq 3 ?va3 rfl (by kernel_rfl) (fun _ _ _ h => h) (by rfl) ?ya3 HD.out ?za3
     case ya3 => (intro w hSw; (try dsimp only at hSw); go_simp; try with_reducible rfl)
     try simp only [mz1, mz2, mz3, Act.put, mz4, mz5, mz6]
     refine wtkq 4 ?va4 rfl (by kernel_rfl) (fun _ _ _ h => h) (by rfl) ?ya4 HD.out ?za4
     case ya4 => (intro w hSw; (try dsimp only at hSw); go_simp; try with_reducible rfl)
     try simp only [mz1, mz2, mz3, Act.put, mz4, mz5, mz6]
     refine wtkq 5 ?va5 rfl (by kernel_rfl) (fun _ _ _ h => h) (by rfl) ?ya5 HD.out ?za5
     case ya5 => (intro w hSw; (try dsimp only at hSw); go_simp; try with_reducible rfl)
     try simp only [mz1, mz2, mz3, Act.put, mz4, mz5, mz6]
     refine wtkq 6 ?va6 rfl (by kernel_rfl) (fun _ _ _ h => h) (by rfl) ?ya6 HD.out ?za6
     case ya6 => (intro w hSw; (try dsimp only at hSw); go_simp; try with_reducible rfl)
     try simp only [mz1, mz2, mz3, Act.put, mz4, mz5, mz6]
     refine wtkq 7 ?va7 rfl (by kernel_rfl) (fun _ _ _ h => h) (by rfl) ?ya7 HD.out ?za7
     case ya7 => (intro w hSw; (try dsimp only at hSw); go_simp; try with_reducible rfl)
     try simp only [mz1, mz2, mz3, Act.put, mz4, mz5, mz6]
     refine wtkq 8 ?va8 rfl (by kernel_rfl) (fun _ _ _ h => h) (by rfl) ?ya8 HD.out ?za8
     case ya8 => (intro w hSw; (try dsimp only at hSw); go_simp; try with_reducible rfl)
     try simp only [mz1, mz2, mz3, Act.put, mz4, mz5, mz6]
     refine wtkq 9 ?va9 rfl (by kernel_rfl) (fun _ _ _ h => h) (by rfl) ?ya9 HD.out ?za9
     case ya9 => (intro w hSw; (try dsimp only at hSw); go_simp; try with_reducible rfl)
     try simp only [mz1, mz2, mz3, Act.put, mz4, mz5, mz6]
     refine wpAnyH_ready (rs := [10]) (by kernel_rfl) (by simp) ?_
     refine AllReadyH.cons rfl (fun K hK => ?_) AllReadyH.nil
     go_simp
     refine (HAdd.out _).mono ?_; rintro e w' ⟨rfl, rfl⟩
     refine hK.out _ _ HD.out (fun _ => ?_)
     clear hK K
     try simp only [mz1, mz2, mz3, Act.put, mz4, mz5, mz6]
     refine wpAnyH_ready (rs := [11]) (by kernel_rfl) (by simp) ?_
     refine AllReadyH.cons rfl (fun K hK => ?_) AllReadyH.nil
     go_simp
     refine (HInv.out _).mono ?_
     rintro e w7 ⟨rfl, hb7⟩
     have I7 : ZInv w w4 w7 g n m N (upt (cauf X Y m) (i * m + j)) := (HI.out.later (Below.refl _ _).drew).later hb7
     have hd := I7.row.cell P hpn
     have hf := I7.row.free P
     have HD1 : Hid (w7.cell? ⟨w4.heap.size, 2, none⟩ = some (.slice (some ⟨g, 0, none⟩) N N)) := I7.vm.c2
     have HN1 : Hid (ZInv w w4 (w7.setCell ⟨g, P, none⟩ (.int .u8 (z : Int))) g n m N (upt (cauf X Y m) (i * m + (j + 1)))) := (I7.set (p := P) (x := z)).congr (fun t _ => by
      rw [← HZ.out, ← HU.out, ← HX.out, ← HY.out, ← HP.out, ← cauf_at hlj]
      exact upt_step (cauf X Y m) (i * m + j) t)
     have HD2 : Hid ((w7.setCell ⟨g, P, none⟩ (.int .u8 (z : Int))).cell? ⟨w4.heap.size, 2, none⟩ = some (.slice (some ⟨g, 0, none⟩) N N)) := HN1.out.vm.c2
     clear I7 hb7
     refine hK.out _ _ HD1.out (fun _ => ?_)
     clear hK K
     try simp only [mz1, mz2, mz3, Act.put, mz4, mz5, mz6]
     refine wtkq 12 ?va12 rfl (by kernel_rfl) (fun _ _ _ h => h) (by rfl) ?ya12 HD1.out ?za12
     case ya12 => (intro w hSw; (try dsimp only at hSw); go_simp; try with_reducible rfl)
     try simp only [mz1, mz2, mz3, Act.put, mz4, mz5, mz6]
     refine wtkq 13 ?va13 rfl (by kernel_rfl) (fun _ _ _ h => h) (by rfl) ?ya13 HD1.out ?za13
     case ya13 => (intro w hSw; (try dsimp only at hSw); go_simp; try with_reducible rfl)
     try simp only [mz1, mz2, mz3, Act.put, mz4, mz5, mz6]
     refine wtkq 14 ?va14 rfl (by kernel_rfl) (fun _ _ _ h => h) (by rfl) ?ya14 HD1.out ?za14
     case ya14 => (intro w hSw; (try dsimp only at hSw); go_simp; try with_reducible rfl)
     try simp only [mz1, mz2, mz3, Act.put, mz4, mz5, mz6]
     refine wtkq 15 ?va15 rfl (by kernel_rfl) (fun _ _ _ h => h) (by rfl) ?ya15 HD1.out ?za15
     case ya15 => (intro w hSw; (try dsimp only at hSw); go_simp; try with_reducible rfl)
     try simp only [mz1, mz2, mz3, Act.put, mz4, mz5, mz6]
     refine wpAnyH_ready (rs := [16]) (by kernel_rfl) (by simp) ?_
     refine AllReadyH.cons rfl (fun K hK => ?_) AllReadyH.nil
     go_simp
     refine hK.out _ _ HD2.out (fun _ => ?_)
     clear hK K
     try simp only [mz1, mz2, mz3, Act.put]
     refine wpAnyH_done (by kernel_rfl) ?_ _
     go_wp2
     exact ⟨⟨j + 1, by omega, by go_num, HN1.out⟩, by simp [intOf]; omega⟩
    ·obtain rfl : j = m := by omega
     clear I
     go_wp2
     exact ⟨⟨i + 1, by omega, by go_num, HI.out.congr (fun t _ => by rw [Nat.add_mul, Nat.one_mul])⟩, by simp [intOf]; omega⟩
  ·obtain rfl : i = n := by omega
   have c0 := I.vm.c0
   have c1 := I.vm.c1
   clear I
   go_wp2_with (refine qa4 rfl _ _ rfl w.heap.size _ _ _ (.int .i64 (i : Int)) (.int .i64 (m : Int)) (.slice (some ⟨g, 0, none⟩) N N) rfl rfl HI.out.vr rfl rfl rfl ?_; intro w5 HV5 HG5)
   have d0 := HV5.out.c0
   have d1 := HV5.out.c1
   have d2 := HV5.out.c2
   refine bodyPost_ret (v := .tuple #[mv i m (some ⟨g, 0, none⟩) N N, .int .i64 0]) (by simp [results, Tryz.results81, go_sem, d0, d1, d2, mv]) rfl ?_
   exact ⟨g, rfl, (HI.out.row.kept HG5.out (by have := HI.out.lo; omega)).congr (fun t ht => upt_all _ (by rw [HN.out]; exact ht)), by have := HI.out.lo; omega, qa3 HI.out.below HG5.out (Nat.le_refl _)⟩
open Go.RowKit
theorem Mt.congr {w : World} {a : Option Addr} {n k : Nat} {F G : Nat → Nat} (h : Mt w a n k F) (e : ∀ i, i < n → F i = G i) : Mt w a n k G := ⟨h.sl.congr e, h.room, h.nil⟩
theorem Rk.uniq {A : Nat → Nat → Nat} {r s t : Nat} (h : Rk A r s) (hA : El2 A) (h2 : Rk A r t) : s = t := h.unique h2 (SpEq.refl hA r)
open Go.RowKit
theorem ZInv.fill {w w1 wr w' : World} {g r c m : Nat} {f f' : Nat → Nat} (I : ZInv w w1 wr g r c m f) (hr : RowAt w' g 5 m f') (hg : wr.grownBy w' (some g)) : ZInv w w1 w' g r c m f' :=
 ⟨hr, I.vm.kept hg (by have := I.hi; omega), I.vr.kept hg (by have := I.lo; omega), qa3 I.below hg (by have := I.lo; omega), I.lo, I.hi⟩
open Go.RowKit
theorem qkg (w : World) (k m A B : Nat) (hk : 1 ≤ k) (h : k + m ≤ 64) (HA : Hid (k * k = A)) (HB : Hid (m * k = B)) :
  Calls Tryz.prog 53 #[.int .i64 (k : Int), .int .i64 (m : Int)] w fun e w' => ∃ s d, e = .returned (.tuple #[mv ((k + m : Nat) : Int) k s (A + B) d, .int .i64 0]) ∧ Mt w' s (A + B) d (crf k) ∧ Below w.heap.size w w' := by
 have HRA : Hid (Rt k k A) := ⟨by omega, by omega, HA.out⟩
 have HRB : Hid (Rt m k B) := ⟨by omega, by omega, HB.out⟩
 have HKm : Hid (k + m ≤ 64) := h
 have HV0 : Hid (Vr (w.alloc (.cells #[.int .i64 0, .int .i64 0, .slice none 0 0] 24)) w.heap.size (.int .i64 0) (.int .i64 0) (.slice none 0 0)) := Vr.new w _ _ _
 obtain ⟨r, HRR⟩ : ∃ r, Hid (k + m = r) := ⟨_, rfl⟩
 have hrr := HRR.out
 rw [hrr] at h ⊢
 have e1 : IntKind.i64.wrap ((k : Int) + (m : Int)) = (r : Int) := by rw [IntKind.wrap_i64]; omega
 have hk64 : k ≤ 64 := by omega
 have hm64 : m ≤ 64 := by omega
 have HE1 : Hid (∀ w, Calls Tryz.prog 82 #[.int .i64 (k : Int), .int .i64 (r : Int)] w fun e w' => ∃ s d, e = .returned (.slice s m d) ∧ Mt w' s m d (fun i => k + i) ∧ Below w.heap.size w w') := fun w => (qhb w k r m HRR h).mono (fun _ _ ⟨s, d, h1, h2, h3⟩ => ⟨s, d, h1, ob_mt h2 (fun i hi => by show k + i < 256; omega), h3⟩)
 have HE2 : Hid (∀ w, Calls Tryz.prog 82 #[.int .i64 0, .int .i64 (k : Int)] w fun e w' => ∃ s d, e = .returned (.slice s k d) ∧ Mt w' s k d (fun i => i) ∧ Below w.heap.size w w') := fun w => (qhb w 0 k k (Nat.zero_add k) hk64).mono (fun _ _ ⟨s, d, h1, h2, h3⟩ => ⟨s, d, h1, (ob_mt h2 (fun i hi => by show 0 + i < 256; omega)).congr (fun i _ => Nat.zero_add i), h3⟩)
 clear hrr
 go_enter Tryz.func53, Tryz.ntmps53
 go_wp2_with (first
  | (go_at_call 79; refine (cnt_yes5 _ k m hk HKm.out).mono ?_; rintro e w' ⟨rfl, rfl⟩)
  | (go_at_call 80; refine (qfq _ k A hk64 HA).mono ?_; rintro e w1 ⟨g1, rfl, hr1, hg1, hb1⟩; have HM1 : Hid (Mt (w1.alloc (.cells #[.int .i64 (k : Int), .int .i64 (k : Int), .slice (some ⟨g1, 0, none⟩) A A] 24)) (some ⟨g1, 0, none⟩) A A (idf k)) := (hr1.mt (fun p _ => qfl k p)).later (qa1 _ _); have HB1 : Hid (Below w.heap.size w (w1.alloc (.cells #[.int .i64 (k : Int), .int .i64 (k : Int), .slice (some ⟨g1, 0, none⟩) A A] 24))) := qa0 (qa0 (qa1 _ _) hb1) (qa1 _ _); have HV1 : Hid (Vr (w1.alloc (.cells #[.int .i64 (k : Int), .int .i64 (k : Int), .slice (some ⟨g1, 0, none⟩) A A] 24)) w.heap.size (.int .i64 0) (.int .i64 0) (.slice none 0 0)) := (HV0.out.later hb1).later (qa1 _ _); have HT1 : Hid (Vr (w1.alloc (.cells #[.int .i64 (k : Int), .int .i64 (k : Int), .slice (some ⟨g1, 0, none⟩) A A] 24)) w1.heap.size (.int .i64 (k : Int)) (.int .i64 (k : Int)) (.slice (some ⟨g1, 0, none⟩) A A)) := Vr.new w1 _ _ _; clear hr1 hg1 hb1)
  | (go_at_call 82; have _x := HT1; refine (HE1.out _).mono ?_; rintro e w2 ⟨s2, d2, rfl, hm2, hb2⟩; have HM2 : Hid (Mt w2 s2 m d2 (fun i => k + i)) := hm2; have HB2 : Hid (Below (w1.alloc (.cells #[.int .i64 (k : Int), .int .i64 (k : Int), .slice (some ⟨g1, 0, none⟩) A A] 24)).heap.size (w1.alloc (.cells #[.int .i64 (k : Int), .int .i64 (k : Int), .slice (some ⟨g1, 0, none⟩) A A] 24)) w2) := hb2; clear hm2 hb2 HE1)
  | (go_at_call 82; have _x := HB2; refine (HE2.out _).mono ?_; rintro e w3 ⟨s3, d3, rfl, hm3, hb3⟩; have HM3 : Hid (Mt w3 s3 k d3 (fun i => i)) := hm3; have HM2' : Hid (Mt w3 s2 m d2 (fun i => k + i)) := HM2.out.later hb3; have HB3 : Hid (Below (w1.alloc (.cells #[.int .i64 (k : Int), .int .i64 (k : Int), .slice (some ⟨g1, 0, none⟩) A A] 24)).heap.size (w1.alloc (.cells #[.int .i64 (k : Int), .int .i64 (k : Int), .slice (some ⟨g1, 0, none⟩) A A] 24)) w3) := qa0 HB2.out hb3; clear hm3 hb3 HE2)
  | (go_at_call 81; have _x := HB3; refine (bcau_ok _ m k B d2 d3 s2 s3 _ _ HM2'.out HM3.out hm64 hk64 HB (dst_crs k m)).mono ?_; rintro e w4 ⟨g4, rfl, hr4, hg4, hb4⟩; have HM4 : Hid (Mt (w4.alloc (.cells #[.int .i64 (m : Int), .int .i64 (k : Int), .slice (some ⟨g4, 0, none⟩) B B] 24)) (some ⟨g4, 0, none⟩) B B (cauf (fun p => k + p) (fun p => p) k)) := (hr4.mt (fun p _ => qac _)).later (qa1 _ _); have HB4 : Hid (Below (w1.alloc (.cells #[.int .i64 (k : Int), .int .i64 (k : Int), .slice (some ⟨g1, 0, none⟩) A A] 24)).heap.size (w1.alloc (.cells #[.int .i64 (k : Int), .int .i64 (k : Int), .slice (some ⟨g1, 0, none⟩) A A] 24)) (w4.alloc (.cells #[.int .i64 (m : Int), .int .i64 (k : Int), .slice (some ⟨g4, 0, none⟩) B B] 24))) := qa0 (qa0 HB3.out hb4) (qa1 _ _); have HT4 := HT1.out.later HB4.out; have y0 := HT4.c0; have y1 := HT4.c1; have y2 := HT4.c2; clear hr4 hg4 hb4 HT4)
  | (go_at_call 83; have _x := HB4; refine (qk3 _ k m k A B r (A + B) A B _ _ _ _ (HM1.out.later HB4.out) HM4.out HRA.out HRB.out HRR.out h rfl).mono ?_; rintro e w5 ⟨g5, rfl, hr5, hg5, hb5⟩; have HR5 : Hid (RowAt w5 g5 5 (A + B) (stf (idf k) (cauf (fun p => k + p) (fun p => p) k) A)) := hr5; have HB5 : Hid (Below w.heap.size w w5) := qa0 (qa0 HB1.out HB4.out) hb5; have HV5 : Hid (Vr w5 w.heap.size (.int .i64 0) (.int .i64 0) (.slice none 0 0)) := (HV1.out.later HB4.out).later hb5; have hg6 : w.heap.size < g5 := Nat.lt_of_lt_of_le (HV1.out.later HB4.out).lt hg5; clear hr5 hg5 hb5)
  | (refine qa4 rfl _ _ rfl w.heap.size _ _ _ (.int .i64 (r : Int)) (.int .i64 (k : Int)) (.slice (some ⟨g5, 0, none⟩) (A + B) (A + B)) rfl rfl HV5.out rfl rfl rfl ?_; intro w6 HV6 HG6))
 have d0 := HV6.out.c0
 have d1 := HV6.out.c1
 have d2 := HV6.out.c2
 refine bodyPost_ret (v := .tuple #[mv (r : Int) k (some ⟨g5, 0, none⟩) (A + B) (A + B), .int .i64 0]) (by simp [results, Tryz.results53, go_sem, d0, d1, d2, mv]) rfl ?_
 refine ⟨_, _, rfl, ?_, qa3 HB5.out HG6.out (Nat.le_refl _)⟩
 unfold crf
 rw [HA.out]
 exact (HR5.out.kept HG6.out (by omega)).mt (stf_lt6 (fun p _ => qfl k p) (fun p _ => qac _))
open Go.RowKit
/-- A variable of several cells. -/
def Vq (w : World) (b : Nat) (T : TypeId) (xs : Array Value) : Prop := w.heap[b]? = some (.cells xs T (0, 0))
theorem Vq.new (w : World) (T : TypeId) (xs : Array Value) : Vq (w.alloc (.cells xs T)) w.heap.size T xs := qby w _
theorem Vq.lt {w : World} {b : Nat} {T : TypeId} {xs : Array Value} (h : Vq w b T xs) : b < w.heap.size := lt_of_block h
theorem Vq.later {w w' : World} {b : Nat} {T : TypeId} {xs : Array Value} (h : Vq w b T xs) (hb : Below w.heap.size w w') : Vq w' b T xs := by unfold Vq; rw [hb.block b h.lt]; exact h
theorem Vq.kept {w w' : World} {b g : Nat} {T : TypeId} {xs : Array Value} (h : Vq w b T xs) (hg : w.grownBy w' (some g)) (hne : b ≠ g) : Vq w' b T xs := by unfold Vq; rw [hg.block b h.lt (by simpa using hne)]; exact h
theorem Vq.cell {w : World} {b : Nat} {T : TypeId} {xs : Array Value} (h : Vq w b T xs) (i : Nat) (v : Value) (hv : xs[i]? = some v) : w.cell? ⟨b, i, none⟩ = some v := by rw [cell_of_row w b i _ _ _ h]; exact hv
theorem Vq.free {w : World} {b : Nat} {T : TypeId} {xs : Array Value} (h : Vq w b T xs) (i : Nat) : w.frozen? ⟨b, i, none⟩ = false := by
 unfold Vq at h
 simp [World.frozen?, h]
theorem Vq.row {w : World} {b : Nat} {T : TypeId} {xs : Array Value} (h : Vq w b T xs) (ys : Array Value) : Vq (w.setRow b ys) b T ys := setRow_heap w b _ _ _ (0, 0) h
theorem qal (w : World) (o : Obj) : (w.alloc o).heap.size = w.heap.size + 1 := by simp
theorem Vq.new1 (w : World) (o : Obj) (T : TypeId) (xs : Array Value) : Vq ((w.alloc o).alloc (.cells xs T)) (w.heap.size + 1) T xs := by
 have := Vq.new (w.alloc o) T xs
 rwa [qal] at this
theorem Vq.new2 (w : World) (o o2 : Obj) (T : TypeId) (xs : Array Value) : Vq (((w.alloc o).alloc o2).alloc (.cells xs T)) (w.heap.size + 2) T xs := by
 have := Vq.new1 (w.alloc o) o2 T xs
 rwa [qal] at this
theorem Vq.new3 (w : World) (o o2 o3 : Obj) (T : TypeId) (xs : Array Value) : Vq ((((w.alloc o).alloc o2).alloc o3).alloc (.cells xs T)) (w.heap.size + 3) T xs := by
 have := Vq.new2 (w.alloc o) o2 o3 T xs
 rwa [qal] at this
theorem sizeRw : (Tryz.prog.info? 63).map (·.size) = some 3 := by kernel_rfl
theorem sizeCo : (Tryz.prog.info? 27).map (·.size) = some 4 := by kernel_rfl
/-- A whole variable is written. -/
theorem qb4 {ops : Array Oper} {rest : List Oper} {op : Oper} {a : Act} {w : World} {Q : Exit → Act → World → Prop} (hgd : op.guard = none) (T : TypeId) (p q : Operand) (ho : op.op = .store T p q)
  (b : Nat) (xs ys : Array Value) (hp : a.eval p = .pointer (some ⟨b, 0, none⟩)) (hq : a.eval q = .agg ys) (hv : Vq w b T xs) (hi : (Tryz.prog.info? T).map (·.size) = some ys.size) (hsz : xs.size = ys.size) (h1 : ys.all (·.oneCell') = true)
  (h : ∀ w', Hid (Vq w' b T ys) → Hid (w.grownBy w' (some b)) → wpList Tryz.prog ops Q rest (a.put op.dst undef) w') : wpList Tryz.prog ops Q (op :: rest) a w :=
 wpList_store_row hgd T p q ho b ys hp hq T xs hv hi hsz h1 (h _ (hv.row ys) (qas w b ys))
theorem ocm (r c : Int) (a : Option Addr) (n k : Nat) : (#[.int .i64 r, .int .i64 c, .slice a n k] : Array Value).all (·.oneCell') = true := by simp [Value.oneCell']
theorem occ (r c : Int) (a : Option Addr) (n k : Nat) (b : Option Addr) (m d : Nat) : (#[.int .i64 r, .int .i64 c, .slice a n k, .slice b m d] : Array Value).all (·.oneCell') = true := by simp [Value.oneCell']
theorem qbp (w : World) : Below w.heap.size w w.drew := ⟨rfl, rfl, rfl, Nat.le_refl _, fun _ _ => rfl⟩
/-- A code as a value. -/
abbrev cv (r c : Int) (a : Option Addr) (n k : Nat) (b : Option Addr) (m d : Nat) : Value := .agg #[.int .i64 r, .int .i64 c, .slice a n k, .slice b m d]
theorem qih {op : Oper} {a : Act} {w : World} {K : Act → World → Prop} {Q : Exit → Act → World → Prop} (d s : Operand) (ho : op.op = .call { callee := .builtin .copy, args := #[d, s], argTypes := #[22, 22] })
  (g p n c D dc sc : Nat) (sp : Option Addr) (f h : Nat → Nat) (hc : 0 < c) (hD : c ≤ D) (hd : a.eval d = .slice (some ⟨g, p, none⟩) D dc) (hs : a.eval s = .slice sp c sc) (hr : RowAt w g 5 n f) (hsl : Sl w sp c h) (hfit : p + c ≤ n)
  (k : ∀ w', Hid (RowAt w' g 5 n (cpf f h p c)) → Hid (w.grownBy w' (some g)) → K (a.put op.dst (goInt c)) w') : Oper.wp Tryz.prog op a w K Q := by
 obtain ⟨b, o, e, _⟩ := hsl.2 0 (by omega)
 subst e
 have hsrc : ∀ j v, (row c h).toList[j]? = some v → w.cell? ((⟨b, o, none⟩ : Addr).add j) = some v := qbf hsl (Below.refl _ _)
 have hrun := run_copy_row (P := Tryz.prog) w 22 22 op.type 5 g p D dc ⟨b, o, none⟩ c sc (row n f) 5 (row c h).toList Tryz.underlying22 qi7 hr (by simp [qa6]; exact (Nat.min_eq_left hD).symm) hsrc (by simp [qa6]; exact hfit) (qbg c h)
 have hlen : (row c h).toList.length = c := by simp [qa6]
 rw [hlen, List.append_assoc, qez n p c f h hfit] at hrun
 unfold Oper.wp
 simp [execOp, ho, resolve, invoke, builtin, hd, hs, hrun, Result.andThen]
 exact k _ (setRow_heap w g _ _ _ _ hr) (qas _ _ _)
theorem qd9 {ops : Array Oper} {op : Oper} {a : Act} {w : World} {K : Act → World → Prop} {Q : Exit → Act → World → Prop} {E : Prop} (hgd : op.guard = none) (d s : Operand) (ho : op.op = .call { callee := .builtin .copy, args := #[d, s], argTypes := #[22, 22] })
  (g p n c D dc sc : Nat) (sp : Option Addr) (f h : Nat → Nat) (hc : 0 < c) (hD : c ≤ D) (hd : a.eval d = .slice (some ⟨g, p, none⟩) D dc) (hs : a.eval s = .slice sp c sc) (hr : RowAt w g 5 n f) (hsl : Sl w sp c h) (hfit : p + c ≤ n)
  (k : ∀ w', Hid (RowAt w' g 5 n (cpf f h p c)) → Hid (w.grownBy w' (some g)) → K (a.put op.dst (goInt c)) w') : if Region.wanted op (yielded ops a.tmps) = true then Oper.wp Tryz.prog op a w K Q else E := by
 have hw : Region.wanted op (yielded ops a.tmps) = true := by simp [Region.wanted, hgd]
 rw [if_pos hw]
 exact qih d s ho g p n c D dc sc sp f h hc hD hd hs hr hsl hfit k
theorem qgj (w : World) (r : Int) (c n k i p : Nat) (a s : Option Addr) (h0 : a = none → n = 0 ∧ k = 0) (hk : n ≤ k) (hfit : p + c ≤ n) (hn : n ≤ 4096) (hi : i ≤ 4096) (HP : Hid (i * c = p)) (HS : Hid (pc a p c = s)) :
  Calls Tryz.prog 68 #[mv r c a n k, .int .i64 (i : Int)] w fun e w' => e = .returned (.slice s c c) ∧ Below w.heap.size w w' := by
 have e1 : ((i : Int) * (c : Int)) = (p : Int) := by rw [← HP.out]; simp
 have e2 : (((i : Int) + 1) * (c : Int)) = ((p + c : Nat) : Int) := by rw [Int.add_mul, e1]; simp
 have w1 : IntKind.i64.wrap (p : Int) = (p : Int) := by rw [IntKind.wrap_i64]; omega
 have w3 : IntKind.i64.wrap ((i : Int) + 1) = (i : Int) + 1 := by rw [IntKind.wrap_i64]; omega
 obtain ⟨q, HQ⟩ : ∃ q, Hid (p + c = q) := ⟨_, rfl⟩
 rw [HQ.out] at e2
 have w2 : IntKind.i64.wrap (q : Int) = (q : Int) := by rw [IntKind.wrap_i64]; have := HQ.out; omega
 have y0 := (Vq.new w 63 #[.int .i64 r, .int .i64 (c : Int), .slice a n k]).cell 1 (.int .i64 (c : Int)) rfl
 by_cases hc0 : c = 0
 ·subst hc0
  obtain rfl : p = q := by have := HQ.out; omega
  obtain rfl : a = s := by have := HS.out; simpa [pc] using this
  clear HS HQ h0
  go_enter Tryz.func68, Tryz.ntmps68
  go_wp2
  go_region
  go_wp2
  go_ret
  exact ⟨by simp, qa0 (qa1 _ _) (qbp _)⟩
 ·cases a with
  | none => have := (h0 rfl).1; omega
  | some x =>
   obtain rfl : some (x.add p) = s := by have := HS.out; rw [← this]; unfold pc; rw [if_neg hc0]; rfl
   have hq := HQ.out
   have hpq : p < q := by omega
   have hqn : q ≤ k := by omega
   have hcq : q - p = c := by omega
   clear HS HQ h0
   go_enter Tryz.func68, Tryz.ntmps68
   go_wp2
   go_region
   go_wp2
   go_ret
   exact ⟨by simp, qa0 (qa1 _ _) (qbp _)⟩
theorem qhh (w : World) (r c n : Nat) (hr : r ≤ 64) (hc : c ≤ 64) (HN : Hid (r * c = n)) :
  Calls Tryz.prog 37 #[.int .i64 (r : Int), .int .i64 (c : Int)] w fun e w' => ∃ g, e = .returned (mv r c (some ⟨g, 0, none⟩) n n) ∧ RowAt w' g 5 n (fun _ => 0) ∧ w.heap.size ≤ g ∧ Below w.heap.size w w' := by
 have HV0 : Hid (Vq (w.alloc (.cells #[.int .i64 0, .int .i64 0, .slice none 0 0] 63)) w.heap.size 63 #[.int .i64 0, .int .i64 0, .slice none 0 0]) := Vq.new w _ _
 go_enter Tryz.func37, Tryz.ntmps37
 go_wp2_with (first
  | (go_at_call 67; refine (qh8 _ r c n hr hc HN).mono ?_; rintro e w1 ⟨g1, rfl, hr1, hg1, hb1⟩; have HR1 : Hid (RowAt (w1.alloc (.cells #[.int .i64 (r : Int), .int .i64 (c : Int), .slice (some ⟨g1, 0, none⟩) n n] 24)) g1 5 n (fun _ => 0)) := hr1.later (qa1 _ _); have HB1 : Hid (Below w.heap.size w (w1.alloc (.cells #[.int .i64 (r : Int), .int .i64 (c : Int), .slice (some ⟨g1, 0, none⟩) n n] 24))) := qa0 (qa0 (qa1 _ _) hb1) (qa1 _ _); have HV1 : Hid (Vq (w1.alloc (.cells #[.int .i64 (r : Int), .int .i64 (c : Int), .slice (some ⟨g1, 0, none⟩) n n] 24)) w.heap.size 63 #[.int .i64 0, .int .i64 0, .slice none 0 0]) := (HV0.out.later hb1).later (qa1 _ _); have hg2 : w.heap.size < g1 := Nat.lt_of_lt_of_le HV0.out.lt hg1; clear hr1 hg1 hb1)
  | (refine qb4 rfl 63 _ _ rfl w.heap.size _ #[.int .i64 (r : Int), .int .i64 (c : Int), .slice (some ⟨g1, 0, none⟩) n n] rfl rfl HV1.out sizeRw rfl (ocm _ _ _ _ _) ?_; intro w5 HV5 HG5))
 have d0 := HV5.out.cell 0 _ rfl
 have d1 := HV5.out.cell 1 _ rfl
 have d2 := HV5.out.cell 2 _ rfl
 refine bodyPost_ret (v := mv r c (some ⟨g1, 0, none⟩) n n) (by simp [results, Tryz.results37, go_sem, d0, d1, d2, mv]) rfl ?_
 exact ⟨g1, rfl, HR1.out.kept HG5.out (by omega), by omega, qa3 HB1.out HG5.out (Nat.le_refl _)⟩
/-- The sum of the first so many. -/
def sm16 (q : Nat → Int) : Nat → Int
 | 0 => 0
 | j + 1 => sm16 q j + q j
theorem qkh {q : Nat → Int} {m : Nat} (h : ∀ i, i < m → 0 ≤ q i) : ∀ j d, j + d ≤ m → sm16 q j ≤ sm16 q (j + d) := by
 intro j d
 induction d with
 | zero => intro _; exact Int.le_refl _
 | succ d ih =>
  intro hd
  have := ih (by omega)
  have h2 := h (j + d) (by omega)
  show _ ≤ sm16 q (j + d) + q (j + d)
  omega
theorem qd0 (w : World) (m d : Nat) (b : Option Addr) (q : Nat → Int) (hm : m ≤ 64) (hb : Jl w b .i64 m q) (hq : ∀ i, i < m → 0 ≤ q i ∧ q i < 9223372036854775808) :
  Calls Tryz.prog 36 #[.slice b m d] w fun e w' => e = .returned (.bool (decide (64 < sm16 q m))) ∧ w = w' := by
 have HQ : Hid (∀ i, i < m → 0 ≤ q i ∧ q i < 9223372036854775808) := hq
 have HB : Hid (Jl w b .i64 m q) := hb
 clear hb hq
 go_enter Tryz.func36, Tryz.ntmps36
 go_wp2
 go_loopw [3, 5, 8] (fun L _ j wr => ∃ i : Nat, i ≤ m ∧ j = .int .i64 (i : Int) ∧ L = .int .i64 (64 - sm16 q i) ∧ 0 ≤ sm16 q i ∧ sm16 q i ≤ 64 ∧ w = wr) (fun _ _ j _ => m - (intOf j).toNat)
 case atStart => exact ⟨0, by omega, rfl, rfl, Int.le_refl _, by show (0 : Int) ≤ 64; omega, rfl⟩
 case round =>
  obtain ⟨i, hi, rfl, rfl, h0, h1, rfl⟩ := hrel
  by_cases hlt : i < m
  ·obtain ⟨x, o, eb, hci⟩ := HB.out i hlt
   obtain ⟨y, HY⟩ : ∃ y, Hid (q i = y) := ⟨_, rfl⟩
   rw [HY.out] at hci
   have hy := HQ.out i hlt
   rw [HY.out] at hy
   obtain ⟨z, HZ⟩ : ∃ z, Hid (64 - sm16 q i = z) := ⟨_, rfl⟩
   rw [HZ.out]
   have hz : 0 ≤ z ∧ z ≤ 64 := by have := HZ.out; omega
   have wz : IntKind.i64.wrap (z - y) = z - y := by rw [IntKind.wrap_i64]; omega
   have i0 : (0 : Int) ≤ (i : Int) := Int.natCast_nonneg _
   have i1 : (i : Int) < (m : Int) := by omega
   by_cases hg : z < y
   ·have g1 : decide (z < y) = true := by simpa using hg
    have HE : Hid (decide (64 < sm16 q m) = true) := by
     have h3 := qkh (fun t ht => (HQ.out t ht).1) (i + 1) (m - (i + 1)) (by omega)
     rw [show i + 1 + (m - (i + 1)) = m by omega] at h3
     have h4 : sm16 q (i + 1) = sm16 q i + q i := rfl
     have h5 := HY.out
     have h6 := HZ.out
     show _ = _
     simp
     omega
    subst eb
    clear h0 h1 hz hy
    go_wp2
    go_ret
    exact ⟨by rw [HE.out]; try simp, rfl⟩
   ·have g1 : decide (z < y) = false := by simpa using hg
    subst eb
    have HN : Hid (64 - sm16 q (i + 1) = z - y ∧ 0 ≤ sm16 q (i + 1) ∧ sm16 q (i + 1) ≤ 64) := by
     have h4 : sm16 q (i + 1) = sm16 q i + q i := rfl
     have h5 := HY.out
     have h6 := HZ.out
     exact ⟨by omega, by omega, by omega⟩
    clear h0 h1 hz hy
    go_wp2
    exact ⟨⟨i + 1, by omega, by go_num, by rw [HN.out.1], HN.out.2.1, HN.out.2.2, trivial⟩, by simp [intOf]; omega⟩
  ·obtain rfl : i = m := by omega
   have HE : Hid (decide (64 < sm16 q i) = false) := by show _ = _; simp; omega
   go_wp2
   go_ret
   exact ⟨by rw [HE.out]; try simp, rfl⟩
end Go.Proofs.YtmgfeepnkahkmaaGreat
