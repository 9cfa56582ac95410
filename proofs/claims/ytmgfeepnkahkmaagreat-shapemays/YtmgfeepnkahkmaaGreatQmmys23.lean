/-
  Contracts of the program's build: anyTwice.
  Contracts of the program's build: Cauchy.
-/
import Derived.Test.YtmgfeepnkahkmaaGreatQmmys00
import Derived.Test.YtmgfeepnkahkmaaGreatQmmys22
set_option maxRecDepth 100000
set_option maxHeartbeats 16000000
namespace Go.Proofs.YtmgfeepnkahkmaaGreat
open Go.RowKit
/-- The cells of an array of truth values. -/
def brow (n : Nat) (f : Nat → Bool) : Array Value := (Array.range n).map fun i => .bool (f i)
theorem qjo (n : Nat) (f : Nat → Bool) : (brow n f).size = n := by simp [brow]
theorem brow_get (n : Nat) (f : Nat → Bool) (i : Nat) (h : i < n) : (brow n f)[i]? = some (.bool (f i)) := by simp [brow, h]
theorem brow_set (n : Nat) (f : Nat → Bool) (i : Nat) (v : Bool) : (brow n f).setIfInBounds i (.bool v) = brow n (fun j => if j = i then v else f j) := by
 apply Array.ext
 ·simp [brow]
 ·intro j h1 h2
  by_cases e : i = j
  ·subst e; simp [brow]
  ·rw [Array.getElem_setIfInBounds_ne (by simpa using h1) e]; simp [brow, Ne.symm e]
theorem qhv (n : Nat) (f f' : Nat → Bool) (h : ∀ i, i < n → f i = f' i) : brow n f = brow n f' := by
 apply Array.ext
 ·simp [brow]
 ·intro j h1 h2
  simp [qjo] at h1
  simp [brow, h j h1]
theorem zero2b (w : World) : Sem.run Tryz.prog (zeroValue 148) w = .ok (.agg (brow 256 fun _ => false)) w := by kernel_rfl
def BRowAt (w : World) (b n : Nat) (f : Nat → Bool) : Prop := w.heap[b]? = some (.cells (brow n f) 148 (0, 0))
theorem BRowAt.cell {w : World} {b n : Nat} {f : Nat → Bool} (h : BRowAt w b n f) (i : Nat) (hi : i < n) : w.cell? ⟨b, i, none⟩ = some (.bool (f i)) := by
 rw [cell_of_row w b i _ _ _ h, brow_get n f i hi]
theorem BRowAt.free {w : World} {b n : Nat} {f : Nat → Bool} (h : BRowAt w b n f) (i : Nat) : w.frozen? ⟨b, i, none⟩ = false := by
 unfold BRowAt at h
 simp [World.frozen?, h]
theorem BRowAt.set {w : World} {b n : Nat} {f : Nat → Bool} (h : BRowAt w b n f) (i : Nat) (v : Bool) : BRowAt (w.setCell ⟨b, i, none⟩ (.bool v)) b n (fun j => if j = i then v else f j) := by
 unfold BRowAt at *
 rw [setCell_eq_setRow w b i _ _ (0, 0) _ h, setRow_heap w b _ _ _ (0, 0) h, brow_set]
theorem BRowAt.congr {w : World} {b n : Nat} {f f' : Nat → Bool} (h : BRowAt w b n f) (e : ∀ i, i < n → f i = f' i) : BRowAt w b n f' := by
 unfold BRowAt at *
 rw [h, qhv n f f' e]
/-- What has come up to a place. -/
def seen (E : Nat → Nat) : Nat → Nat → Bool
 | 0, _ => false
 | q + 1, v => if v = E q then true else seen E q v
theorem qgw (E : Nat → Nat) : ∀ (q v : Nat), seen E q v = true ↔ ∃ p, p < q ∧ E p = v := by
 intro q v
 induction q with
 | zero => exact ⟨fun h => (by cases h), fun ⟨p, h, _⟩ => (by omega)⟩
 | succ q ih =>
  show (if v = E q then true else seen E q v) = true ↔ _
  by_cases h : v = E q
  ·rw [if_pos h]
   exact ⟨fun _ => ⟨q, by omega, h.symm⟩, fun _ => rfl⟩
  ·rw [if_neg h, ih]
   exact ⟨fun ⟨p, h1, h2⟩ => ⟨p, by omega, h2⟩, fun ⟨p, h1, h2⟩ => ⟨p, by
    have : p ≠ q := fun e => h (by rw [← h2, e])
    omega, h2⟩⟩
theorem qgx {X Y : Nat → Nat} {n m : Nat} : Dst X n Y m ↔ ∀ i, i < n + m → seen (stf X Y n) i (stf X Y n i) = false := by
 refine ⟨fun h i hi => ?_, fun h i j hi hj e => ?_⟩
 ·cases hs : seen (stf X Y n) i (stf X Y n i) with
  | false => rfl
  | true =>
   obtain ⟨p, hp, e⟩ := (qgw _ _ _).mp hs
   exact absurd e.symm (h i p hi hp)
 ·have h1 := h i hi
  rw [(qgw _ _ _).mpr ⟨j, hj, e.symm⟩] at h1
  cases h1
def Lst2 (w : World) (g : Nat) (a : Option Addr) (n k : Nat) (b : Option Addr) (m d : Nat) : Prop := w.heap[g]? = some (.cells #[.slice a n k, .slice b m d] 22 (0, 0))
theorem Lst2.c0 {w : World} {g : Nat} {a : Option Addr} {n k : Nat} {b : Option Addr} {m d : Nat} (h : Lst2 w g a n k b m d) : w.cell? ⟨g, 0, none⟩ = some (.slice a n k) := by rw [cell_of_row w g 0 _ _ _ h]; rfl
theorem Lst2.c1 {w : World} {g : Nat} {a : Option Addr} {n k : Nat} {b : Option Addr} {m d : Nat} (h : Lst2 w g a n k b m d) : w.cell? ⟨g, 1, none⟩ = some (.slice b m d) := by rw [cell_of_row w g 1 _ _ _ h]; rfl
theorem Lst2.later {w w' : World} {g : Nat} {a : Option Addr} {n k : Nat} {b : Option Addr} {m d : Nat} (h : Lst2 w g a n k b m d) (hb : Below w.heap.size w w') : Lst2 w' g a n k b m d := by unfold Lst2; rw [hb.block g (lt_of_block h)]; exact h
theorem qjp (w : World) (g n m k d : Nat) (a b : Option Addr) (X Y : Nat → Nat) (hL : Lst2 w g a n k b m d) (ha : Sl w a n X) (hb : Sl w b m Y) (hn : n ≤ 64) (hm : m ≤ 64) :
  Calls Tryz.prog 103 #[.slice (some ⟨g, 0, none⟩) 2 2] w fun e w' => (e = .returned (.bool false) ∧ Dst X n Y m ∧ Below w.heap.size w w') ∨ (e = .returned (.bool true) ∧ ¬ Dst X n Y m ∧ Below w.heap.size w w') := by
 obtain ⟨zs, HZ⟩ : ∃ zs, Hid (zs = brow 256 fun _ => false) := ⟨_, rfl⟩
 have z : ∀ w, Sem.run Tryz.prog (zeroValue 148) w = .ok (.agg zs) w := by rw [HZ.out]; exact zero2b
 obtain ⟨E, HE⟩ : ∃ E, Hid (E = stf X Y n) := ⟨_, rfl⟩
 have HA : Hid (∀ w', Below w.heap.size w w' → Sl w' a n X) := fun w' h => ha.later h
 have HB : Hid (∀ w', Below w.heap.size w w' → Sl w' b m Y) := fun w' h => hb.later h
 have HL : Hid (∀ w', Below w.heap.size w w' → Lst2 w' g a n k b m d) := fun w' h => hL.later h
 clear ha hb hL
 go_enter Tryz.func103, Tryz.ntmps103
 go_wp2
 clear z
 go_loopw [5, 7, 10] (fun _ _ st wr => ∃ (t q : Nat), t ≤ 2 ∧ st = .int .i64 (t : Int) ∧ (t = 0 ∧ q = 0 ∨ t = 1 ∧ q = n ∨ t = 2 ∧ q = n + m) ∧ BRowAt wr w.heap.size 256 (seen E q) ∧ (∀ i, i < q → seen E i (E i) = false) ∧ Below w.heap.size w wr) (fun _ _ st _ => 2 - (intOf st).toNat)
 case atStart => exact ⟨0, 0, by omega, rfl, .inl ⟨rfl, rfl⟩, by rw [HZ.out]; exact Array.getElem?_push_size, fun i h => by omega, qa0 _ _⟩
 case round =>
  obtain ⟨t, q0, ht, rfl, htq, hr, hd, hbl⟩ := hrel
  have HR : Hid (BRowAt wr w.heap.size 256 (seen E q0)) := hr
  have HD : Hid (∀ i, i < q0 → seen E i (E i) = false) := hd
  have HW : Hid (Below w.heap.size w wr) := hbl
  clear hr hd hbl
  by_cases hlt : t < 2
  ·obtain ⟨s, l, c, hcl, HS, hl, hnx⟩ : ∃ (s : Option Addr) (l c : Nat), wr.cell? ⟨g, t, none⟩ = some (.slice s l c) ∧ Hid (∀ w', Below w.heap.size w w' → Sl w' s l (fun j => E (q0 + j))) ∧ l ≤ 64 ∧ (t + 1 = 1 ∧ q0 + l = n ∨ t + 1 = 2 ∧ q0 + l = n + m) := by
    have hL := HL.out wr HW.out
    rcases htq with ⟨rfl, rfl⟩ | ⟨rfl, rfl⟩ | ⟨rfl, _⟩
    ·exact ⟨a, n, k, hL.c0, fun w' h => (HA.out w' h).congr (fun j hj => by rw [HE.out, Nat.zero_add]; unfold stf; rw [if_pos hj]), hn, .inl ⟨rfl, by omega⟩⟩
    ·exact ⟨b, m, d, hL.c1, fun w' h => (HB.out w' h).congr (fun j hj => by rw [HE.out]; unfold stf; rw [if_neg (by omega)]; congr 1; omega), hm, .inr ⟨rfl, by omega⟩⟩
    ·omega
   have p0 : (0 : Int) ≤ (t : Int) := by omega
   have p1 : (t : Int) < 2 := by omega
   clear htq
   go_wp2
   go_loopw [7, 16] (fun _ sj wr => ∃ j : Nat, j ≤ l ∧ sj = .int .i64 (j : Int) ∧ BRowAt wr w.heap.size 256 (seen E (q0 + j)) ∧ (∀ i, i < q0 + j → seen E i (E i) = false) ∧ Below w.heap.size w wr) (fun _ sj _ => l - (intOf sj).toNat)
   case atStart => exact ⟨0, by omega, rfl, HR.out, HD.out, HW.out⟩
   case round =>
    clear HR HD HW hcl
    obtain ⟨j, hj, rfl, hr, hd, hbl⟩ := hrel
    have HR : Hid (BRowAt wr w.heap.size 256 (seen E (q0 + j))) := hr
    have HD : Hid (∀ i, i < q0 + j → seen E i (E i) = false) := hd
    have HW : Hid (Below w.heap.size w wr) := hbl
    clear hr hd hbl
    by_cases hlj : j < l
    ·obtain ⟨bs, os, es, hcs⟩ := (HS.out wr HW.out).2 j hlj
     have hx8 := (HS.out wr HW.out).1 j hlj
     subst es
     obtain ⟨x, HX⟩ : ∃ x, Hid (E (q0 + j) = x) := ⟨_, rfl⟩
     dsimp only at hcs hx8
     rw [HX.out] at hcs hx8
     have hcm := HR.out.cell x hx8
     have hfm := HR.out.free x
     have r0 : (0 : Int) ≤ (j : Int) := by omega
     have r1 : (j : Int) < (l : Int) := by omega
     have r2 : (0 : Int) ≤ (x : Int) := by omega
     have r3 : (x : Int) < 256 := by omega
     cases hs : seen E (q0 + j) x with
     | true =>
      rw [hs] at hcm
      go_wp2
      go_ret
      refine .inr ⟨rfl, fun h => ?_, HW.out⟩
      have h1 := qgx.mp h (q0 + j) (by omega)
      rw [← HE.out, HX.out, hs] at h1
      cases h1
     | false =>
      rw [hs] at hcm
      go_wp2
      refine ⟨⟨j + 1, by omega, by go_num, (HR.out.set x true).congr (fun v _ => ?_), fun i hi => ?_, HW.out.setCell (Nat.le_refl _) _⟩, by simp [intOf]; omega⟩
      ·show _ = (if v = E (q0 + j) then true else seen E (q0 + j) v)
       rw [HX.out]
      ·by_cases hiq : i < q0 + j
       ·exact HD.out i hiq
       ·obtain rfl : i = q0 + j := by omega
        rw [HX.out]; exact hs
    ·obtain rfl : j = l := by omega
     go_wp2
     refine ⟨⟨t + 1, q0 + j, by omega, by go_num, .inr hnx, HR.out, HD.out, HW.out⟩, by simp [intOf]; omega⟩
  ·obtain rfl : t = 2 := by omega
   obtain rfl : q0 = n + m := by omega
   go_wp2
   go_ret
   exact .inl ⟨rfl, qgx.mpr (by rw [← HE.out]; exact HD.out), HW.out⟩
open Go.RowKit
theorem lst2_new (w : World) (a : Option Addr) (n k : Nat) (b : Option Addr) (m d : Nat) : Lst2 (w.alloc (.cells #[.slice a n k, .slice b m d] 22)) w.heap.size a n k b m d := Array.getElem?_push_size
theorem bcau_ok (w : World) (n m N k d : Nat) (a b : Option Addr) (X Y : Nat → Nat) (ha : Mt w a n k X) (hb : Mt w b m d Y) (hn : n ≤ 64) (hm : m ≤ 64) (HN : Hid (n * m = N)) (hD : Dst X n Y m) :
  Calls Tryz.prog 81 #[.slice a n k, .slice b m d] w fun e w' => ∃ g, e = .returned (.tuple #[mv n m (some ⟨g, 0, none⟩) N N, .int .i64 0]) ∧ RowAt w' g 5 N (cauf X Y m) ∧ w.heap.size ≤ g ∧ Below w.heap.size w w' := by
 have HRt : Hid (Rt n m N) := ⟨hn, hm, HN.out⟩
 have HA : Hid (Mt w a n k X) := ha
 have HB : Hid (Mt w b m d Y) := hb
 have HD0 : Hid (Dst X n Y m) := hD
 have hnl : decide (64 < n) = false := by simp; omega
 have hml : decide (64 < m) = false := by simp; omega
 have hN4 := HRt.out.le
 have hbox : Below w.heap.size w ((w.alloc (.cells #[.int .i64 0, .int .i64 0, .slice none 0 0] 24)).alloc (.cells #[.slice a n k, .slice b m d] 22)) := qa1 (qa0 _ _) (qa0 _ _)
 have HBox : Hid (Below w.heap.size w ((w.alloc (.cells #[.int .i64 0, .int .i64 0, .slice none 0 0] 24)).alloc (.cells #[.slice a n k, .slice b m d] 22))) := hbox
 have HVb : Hid (Vr ((w.alloc (.cells #[.int .i64 0, .int .i64 0, .slice none 0 0] 24)).alloc (.cells #[.slice a n k, .slice b m d] 22)) w.heap.size (.int .i64 0) (.int .i64 0) (.slice none 0 0)) := (Vr.new w _ _ _).later (qa0 _ _)
 have HTw : Hid (Calls Tryz.prog 103 #[.slice (some ⟨w.heap.size + 1, 0, none⟩) 2 2] ((w.alloc (.cells #[.int .i64 0, .int .i64 0, .slice none 0 0] 24)).alloc (.cells #[.slice a n k, .slice b m d] 22)) fun e w' => e = .returned (.bool false) ∧ Below ((w.alloc (.cells #[.int .i64 0, .int .i64 0, .slice none 0 0] 24)).alloc (.cells #[.slice a n k, .slice b m d] 22)).heap.size ((w.alloc (.cells #[.int .i64 0, .int .i64 0, .slice none 0 0] 24)).alloc (.cells #[.slice a n k, .slice b m d] 22)) w') := by
  have hl := lst2_new (w.alloc (.cells #[.int .i64 0, .int .i64 0, .slice none 0 0] 24)) a n k b m d
  rw [World.size_alloc] at hl
  refine (qjp _ (w.heap.size + 1) n m k d a b X Y hl (ha.sl.later hbox) (hb.sl.later hbox) hn hm).mono ?_
  rintro e w' (⟨rfl, _, h2⟩ | ⟨_, hx, _⟩)
  ·exact ⟨rfl, h2⟩
  ·exact absurd hD hx
 clear ha hb hD hbox
 go_enter Tryz.func81, Tryz.ntmps81
 go_wp2_with (first
  | (go_at_call 103; refine HTw.out.mono ?_; rintro e w1 ⟨rfl, hb1⟩; have HB1 : Hid (Below w.heap.size w w1) := qa1 HBox.out hb1; have HV1 : Hid (Vr w1 w.heap.size (.int .i64 0) (.int .i64 0) (.slice none 0 0)) := HVb.out.later hb1; clear hb1)
  | (go_at_call 67; refine (qgs _ n m N hn hm HN).mono ?_; rintro e w4 ⟨g, rfl, hr4, hg4, hb4⟩; have HR4 : Hid (RowAt w4 g 5 N (fun _ => 0)) := hr4; have hg5 : w.heap.size < g := Nat.lt_of_lt_of_le HV1.out.lt hg4; have HB4 : Hid (Below w.heap.size w w4) := qa1 HB1.out hb4; have HV4 : Hid (Vr w4 w.heap.size (.int .i64 0) (.int .i64 0) (.slice none 0 0)) := HV1.out.later hb4; clear hr4 hg4 hb4))
 have HI0 : Hid (ZInv w w4 (w4.alloc (.cells #[.int .i64 (n : Int), .int .i64 (m : Int), .slice (some ⟨g, 0, none⟩) N N] 24)) g n m N (upt (cauf X Y m) 0)) := ⟨(HR4.out.later (qa0 _ _)).congr (fun i _ => (if_neg (by omega)).symm), Vr.new w4 _ _ _, HV4.out.later (qa0 _ _), qa1 HB4.out (qa0 _ _), hg5, HR4.out.lt⟩
 clear HR4 HB4 HV4 HB1 HV1 HTw HBox HVb
 go_loopw [8, 9, 10, 11, 38] (fun _ _ _ _ si wr => ∃ i : Nat, i ≤ n ∧ si = .int .i64 (i : Int) ∧ ZInv w w4 wr g n m N (upt (cauf X Y m) (i * m))) (fun _ _ _ _ si _ => n - (intOf si).toNat)
 case atStart => exact ⟨0, by omega, rfl, HI0.out.congr (fun _ _ => by rw [Nat.zero_mul])⟩
 case round =>
  clear HI0
  obtain ⟨i, hi, rfl, I⟩ := hrel
  have HI : Hid (ZInv w w4 wr g n m N (upt (cauf X Y m) (i * m))) := I
  have c2 := I.vm.c2
  by_cases hlt : i < n
  ·obtain ⟨ba, oa, ea, hca⟩ := (HA.out.later I.below).sl.2 i hlt
   subst ea
   obtain ⟨x, HX⟩ : ∃ x, Hid (X i = x) := ⟨_, rfl⟩
   have hx : x < 256 := by rw [← HX.out]; exact HA.out.sl.1 i hlt
   rw [HX.out] at hca
   have p2 : (0 : Int) ≤ (i : Int) := by omega
   have p3 : (i : Int) < (n : Int) := by omega
   clear I
   go_wp2
   go_loopw [10, 11, 45] (fun _ _ sj wr => ∃ j : Nat, j ≤ m ∧ sj = .int .i64 (j : Int) ∧ ZInv w w4 wr g n m N (upt (cauf X Y m) (i * m + j))) (fun _ _ sj _ => m - (intOf sj).toNat)
   case atStart => exact ⟨0, by omega, rfl, HI.out⟩
   case round =>
    clear HI c2 hca
    obtain ⟨j, hj, rfl, I⟩ := hrel
    have HI : Hid (ZInv w w4 wr g n m N (upt (cauf X Y m) (i * m + j))) := I
    have c2 := I.vm.c2
    by_cases hlj : j < m
    ·obtain ⟨P, HP⟩ : ∃ x, Hid (i * m + j = x) := ⟨_, rfl⟩
     have hpn : P < N := by rw [← HP.out]; exact HRt.out.at hlt hlj
     obtain ⟨bb, ob, eb, hcb⟩ := (HB.out.later I.below).sl.2 j hlj
     subst eb
     obtain ⟨y, HY⟩ : ∃ x, Hid (Y j = x) := ⟨_, rfl⟩
     have hy : y < 256 := by rw [← HY.out]; exact HB.out.sl.1 j hlj
     rw [HY.out] at hcb
     obtain ⟨u, HU⟩ : ∃ u, Hid (x ^^^ y = u) := ⟨_, rfl⟩
     have hu : u < 256 := by rw [← HU.out]; exact qbi _ _ hx hy
     obtain ⟨z, HZ⟩ : ∃ z, Hid (finv u = z) := ⟨_, rfl⟩
     obtain ⟨E, HE⟩ : ∃ z, Hid (ive u = z) := ⟨_, rfl⟩
     have HAdd : Hid (∀ w, Calls Tryz.prog 105 #[.int .u8 (x : Int), .int .u8 (y : Int)] w fun e w' => e = .returned (.int .u8 (u : Int)) ∧ w = w') := by
      rw [← HU.out, ← ixor_nat]
      exact fun w => (add_any (x : Int) (y : Int) w ⟨by omega, by omega⟩ ⟨by omega, by omega⟩).mono fun _ _ h => ⟨h.1, h.2.symm⟩
     have HInv : Hid (∀ w, Calls Tryz.prog 104 #[.int .u8 (u : Int)] w fun e w' => e = .returned (.tuple #[.int .u8 (z : Int), .int .i64 E]) ∧ Below w.heap.size w w') := by rw [← HZ.out, ← HE.out]; exact fun w => qfx u w hu
     have e1 : ((i : Int) * (m : Int)) = ((i * m : Nat) : Int) := by simp
     have hmp : i * m ≤ P := by rw [← HP.out]; omega
     have w1' : IntKind.i64.wrap ((i : Int) * (m : Int)) = (i : Int) * (m : Int) := by rw [e1, IntKind.wrap_i64]; omega
     have w2' : IntKind.i64.wrap ((i : Int) * (m : Int) + (j : Int)) = (P : Int) := by rw [e1, IntKind.wrap_i64]; have := HP.out; omega
     have p0 : (0 : Int) ≤ (P : Int) := by omega
     have p1 : (P : Int) < (N : Int) := by omega
     have p4 : (0 : Int) ≤ (j : Int) := by omega
     have p5 : (j : Int) < (m : Int) := by omega
     have HD : Hid (wr.drew.cell? ⟨w4.heap.size, 2, none⟩ = some (.slice (some ⟨g, 0, none⟩) N N)) := c2
     clear I e1
     go_wp2
     refine wp_region_held (S := fun w' => w'.cell? ⟨w4.heap.size, 2, none⟩ = some (.slice (some ⟨g, 0, none⟩) N N)) (by kernel_rfl) ?_
     change wpAnyH _ _ _ _ _ _ _ _ wr.drew
     refine wtkq 0 ?va0 rfl (by kernel_rfl) (fun _ _ _ h => h) (by rfl) ?ya0 HD.out ?za0
     case ya0 => (intro w hSw; (try dsimp only at hSw); go_simp; try with_reducible rfl)
     try simp only [mz1, mz3, Act.put, mz4, mz5, mz6]
     refine wtkq 1 ?va1 rfl (by kernel_rfl) (fun _ _ _ h => h) (by rfl) ?ya1 HD.out ?za1
     case ya1 => (intro w hSw; (try dsimp only at hSw); go_simp; try with_reducible rfl)
     try simp only [mz1, mz2, mz3, Act.put, mz4, mz5, mz6]
     refine wtkq 2 ?va2 rfl (by kernel_rfl) (fun _ _ _ h => h) (by rfl) ?ya2 HD.out ?za2
     case ya2 => (intro w hSw; (try dsimp only at hSw); go_simp; try with_reducible rfl)
     try simp only [mz1, mz2, mz3, Act.put, mz4, mz5, mz6]
     refine wtkq 3 ?va3 rfl (by kernel_rfl) (fun _ _ _ h => h) (by rfl) ?ya3 HD.out ?za3
     case ya3 => (intro w hSw; (try dsimp only at hSw); go_simp; try with_reducible rfl)
     try simp only [mz1, mz2, mz3, Act.put, mz4, mz5, mz6]
     refine wtkq 4 ?va4 rfl (by kernel_rfl) (fun _ _ _ h => h) (by rfl) ?ya4 HD.out ?za4
     case ya4 => (intro w hSw; (try dsimp only at hSw); go_simp; try with_reducible rfl)
     try simp only [mz1, mz2, mz3, Act.put, mz4, mz5, mz6]
     refine wtkq 5 ?va5 rfl (by kernel_rfl) (fun _ _ _ h => h) (by rfl) ?ya5 HD.out ?za5
     case ya5 => (intro w hSw; (try dsimp only at hSw); go_simp; try with_reducible rfl)
     try simp only [mz1, mz2, mz3, Act.put, mz4, mz5, mz6]
     refine wtkq 6 ?va6 rfl (by kernel_rfl) (fun _ _ _ h => h) (by rfl) ?ya6 HD.out ?za6
     case ya6 => (intro w hSw; (try dsimp only at hSw); go_simp; try with_reducible rfl)
     try simp only [mz1, mz2, mz3, Act.put, mz4, mz5, mz6]
     refine wtkq 7 ?va7 rfl (by kernel_rfl) (fun _ _ _ h => h) (by rfl) ?ya7 HD.out ?za7
     case ya7 => (intro w hSw; (try dsimp only at hSw); go_simp; try with_reducible rfl)
     try simp only [mz1, mz2, mz3, Act.put, mz4, mz5, mz6]
     refine wtkq 8 ?va8 rfl (by kernel_rfl) (fun _ _ _ h => h) (by rfl) ?ya8 HD.out ?za8
     case ya8 => (intro w hSw; (try dsimp only at hSw); go_simp; try with_reducible rfl)
     try simp only [mz1, mz2, mz3, Act.put, mz4, mz5, mz6]
     refine wtkq 9 ?va9 rfl (by kernel_rfl) (fun _ _ _ h => h) (by rfl) ?ya9 HD.out ?za9
     case ya9 => (intro w hSw; (try dsimp only at hSw); go_simp; try with_reducible rfl)
     try simp only [mz1, mz2, mz3, Act.put, mz4, mz5, mz6]
     refine wpAnyH_ready (rs := [10]) (by kernel_rfl) (by simp) ?_
     refine AllReadyH.cons rfl (fun K hK => ?_) AllReadyH.nil
     go_simp
     refine (HAdd.out _).mono ?_; rintro e w' ⟨rfl, rfl⟩
     refine hK.out _ _ HD.out (fun _ => ?_)
     clear hK K
     try simp only [mz1, mz2, mz3, Act.put, mz4, mz5, mz6]
     refine wpAnyH_ready (rs := [11]) (by kernel_rfl) (by simp) ?_
     refine AllReadyH.cons rfl (fun K hK => ?_) AllReadyH.nil
     go_simp
     refine (HInv.out _).mono ?_
     rintro e w7 ⟨rfl, hb7⟩
     have I7 : ZInv w w4 w7 g n m N (upt (cauf X Y m) (i * m + j)) := (HI.out.later (Below.refl _ _).drew).later hb7
     have hd := I7.row.cell P hpn
     have hf := I7.row.free P
     have HD1 : Hid (w7.cell? ⟨w4.heap.size, 2, none⟩ = some (.slice (some ⟨g, 0, none⟩) N N)) := I7.vm.c2
     have HN1 : Hid (ZInv w w4 (w7.setCell ⟨g, P, none⟩ (.int .u8 (z : Int))) g n m N (upt (cauf X Y m) (i * m + (j + 1)))) := (I7.set (p := P) (x := z)).congr (fun t _ => by
      rw [← HZ.out, ← HU.out, ← HX.out, ← HY.out, ← HP.out, ← cauf_at hlj]
      exact upt_step (cauf X Y m) (i * m + j) t)
     have HD2 : Hid ((w7.setCell ⟨g, P, none⟩ (.int .u8 (z : Int))).cell? ⟨w4.heap.size, 2, none⟩ = some (.slice (some ⟨g, 0, none⟩) N N)) := HN1.out.vm.c2
     clear I7 hb7
     refine hK.out _ _ HD1.out (fun _ => ?_)
     clear hK K
     try simp only [mz1, mz2, mz3, Act.put, mz4, mz5, mz6]
     refine wtkq 12 ?va12 rfl (by kernel_rfl) (fun _ _ _ h => h) (by rfl) ?ya12 HD1.out ?za12
     case ya12 => (intro w hSw; (try dsimp only at hSw); go_simp; try with_reducible rfl)
     try simp only [mz1, mz2, mz3, Act.put, mz4, mz5, mz6]
     refine wtkq 13 ?va13 rfl (by kernel_rfl) (fun _ _ _ h => h) (by rfl) ?ya13 HD1.out ?za13
     case ya13 => (intro w hSw; (try dsimp only at hSw); go_simp; try with_reducible rfl)
     try simp only [mz1, mz2, mz3, Act.put, mz4, mz5, mz6]
     refine wtkq 14 ?va14 rfl (by kernel_rfl) (fun _ _ _ h => h) (by rfl) ?ya14 HD1.out ?za14
     case ya14 => (intro w hSw; (try dsimp only at hSw); go_simp; try with_reducible rfl)
     try simp only [mz1, mz2, mz3, Act.put, mz4, mz5, mz6]
     refine wtkq 15 ?va15 rfl (by kernel_rfl) (fun _ _ _ h => h) (by rfl) ?ya15 HD1.out ?za15
     case ya15 => (intro w hSw; (try dsimp only at hSw); go_simp; try with_reducible rfl)
     try simp only [mz1, mz2, mz3, Act.put, mz4, mz5, mz6]
     refine wpAnyH_ready (rs := [16]) (by kernel_rfl) (by simp) ?_
     refine AllReadyH.cons rfl (fun K hK => ?_) AllReadyH.nil
     go_simp
     refine hK.out _ _ HD2.out (fun _ => ?_)
     clear hK K
     try simp only [mz1, mz2, mz3, Act.put]
     refine wpAnyH_done (by kernel_rfl) ?_ _
     go_wp2
     exact ⟨⟨j + 1, by omega, by go_num, HN1.out⟩, by simp [intOf]; omega⟩
    ·obtain rfl : j = m := by omega
     clear I
     go_wp2
     exact ⟨⟨i + 1, by omega, by go_num, HI.out.congr (fun t _ => by rw [Nat.add_mul, Nat.one_mul])⟩, by simp [intOf]; omega⟩
  ·obtain rfl : i = n := by omega
   have c0 := I.vm.c0
   have c1 := I.vm.c1
   clear I
   go_wp2_with (refine qa4 rfl _ _ rfl w.heap.size _ _ _ (.int .i64 (i : Int)) (.int .i64 (m : Int)) (.slice (some ⟨g, 0, none⟩) N N) rfl rfl HI.out.vr rfl rfl rfl ?_; intro w5 HV5 HG5)
   have d0 := HV5.out.c0
   have d1 := HV5.out.c1
   have d2 := HV5.out.c2
   refine bodyPost_ret (v := .tuple #[mv i m (some ⟨g, 0, none⟩) N N, .int .i64 0]) (by simp [results, Tryz.results81, go_sem, d0, d1, d2, mv]) rfl ?_
   exact ⟨g, rfl, (HI.out.row.kept HG5.out (by have := HI.out.lo; omega)).congr (fun t ht => upt_all _ (by rw [HN.out]; exact ht)), by have := HI.out.lo; omega, qa3 HI.out.below HG5.out (Nat.le_refl _)⟩
end Go.Proofs.YtmgfeepnkahkmaaGreat
