/-
  Contracts of the matrices' reference: Identity, Row, Same.
  Contracts of the matrices' reference: Row, Same.
  Words for the matrices' products.
  Contract of the matrices' reference: Transpose.
-/
import Derived.Test.YtblagbghpfopcaaQppts00
import Derived.Test.YtblagbghpfopcaaQppts05
import Derived.Test.YtblagbghpfopcaaQppts01
import Derived.Test.YtblagbghpfopcaaQppts06
import Derived.Deep.AppendLies
set_option maxRecDepth 100000
set_option maxHeartbeats 16000000
namespace Go.Proofs.Ytblagbghpfopcaa
open Go.RowKit
/-- Numbers of a matrix that is right. -/
structure Rt (r c n : Nat) : Prop where
 r64 : r ≤ 64
 c64 : c ≤ 64
 len : r * c = n
theorem Rt.p {r c n : Nat} (h : Rt r c n) : RightP r c n := ⟨by omega, by have := h.r64; omega, by omega, by have := h.c64; omega, by rw [← h.len]; simp⟩
theorem Rt.le {r c n : Nat} (h : Rt r c n) : n ≤ 4096 := by rw [← h.len]; exact Nat.mul_le_mul h.r64 h.c64
theorem Rt.at {r c n i j : Nat} (h : Rt r c n) (hi : i < r) (hj : j < c) : i * c + j < n := by
 rw [← h.len]
 exact Nat.lt_of_lt_of_le (show i * c + j < (i + 1) * c by rw [Nat.add_mul, Nat.one_mul]; omega) (Nat.mul_le_mul_right c hi)
theorem qgj (w : World) (r c n k i : Nat) (a : Option Addr) (F : Nat → Nat) (ha : Sl w a n F) (R : Rt r c n) (hi : i < r) :
  Calls Try.prog 13 #[mv r c a n k, .int .i64 (i : Int)] w fun e w' => ∃ v, e = .returned (.tuple #[v, .int .i64 0]) ∧ w'.ownsRow w.heap.size 5 1 v c (row c (fun j => F (i * c + j))).toList ∧ Below w.heap.size w w' := by
 obtain ⟨i0, hi0, hz0, hz1, hz2⟩ := info_parts qd9
 have hc := R.c64
 have hn := R.le
 have hr := R.r64
 have HRt : Hid (Rt r c n) := R
 obtain ⟨p, HP⟩ : ∃ p : Nat → Nat, Hid ((fun j => F (i * c + j)) = p) := ⟨_, rfl⟩
 rw [HP.out]
 obtain ⟨wb, HW⟩ : ∃ wb, Hid (wb = w.alloc (.cells #[.int .i64 (r : Int), .int .i64 (c : Int), .slice a n k] 24)) := ⟨_, rfl⟩
 have HV0 : Hid (Vr wb w.heap.size (.int .i64 (r : Int)) (.int .i64 (c : Int)) (.slice a n k)) := by rw [HW.out]; exact Vr.new w _ _ _
 have HS0 : Hid (Sl wb a n F) := by rw [HW.out]; exact ha.later (qa0 _ _)
 have HB0 : Hid (Below w.heap.size w wb) := by rw [HW.out]; exact qa0 _ _
 have g1 : decide ((i : Int) < 0) = false := by simp
 have g2 : decide (r ≤ i) = false := by simp; omega
 clear ha R
 go_enter Try.func13, Try.ntmps13
 go_wp2_with (go_at_call 25; rw [← HW.out]; refine (qam _ _ _ _ _ _ HRt.out.p).mono ?_; rintro e w1 ⟨rfl, hb1⟩; have HV1 : Hid (Vr w1 w.heap.size (.int .i64 (r : Int)) (.int .i64 (c : Int)) (.slice a n k)) := HV0.out.later hb1; have HS1 : Hid (Sl w1 a n F) := HS0.out.later hb1; have HB1 : Hid (Below w.heap.size w w1) := qa1 HB0.out hb1; have vc0 := HV1.out.c0; clear hb1)
 clear HW HV0 HS0 HB0 vc0
 go_loopw [6, 7] (fun v j wr => ∃ m : Nat, m ≤ c ∧ j = .int .i64 (m : Int) ∧ wr.ownsRow w1.heap.size 5 1 v m (row m p).toList ∧ Vr wr w.heap.size (.int .i64 (r : Int)) (.int .i64 (c : Int)) (.slice a n k) ∧ Below w1.heap.size w1 wr) (fun _ j _ => c - (intOf j).toNat)
 case atStart => exact ⟨0, by omega, rfl, by rw [qb8]; exact World.ownsRow_nil _ _ _ _, HV1.out, Below.refl _ _⟩
 case round =>
  obtain ⟨m, hm, rfl, hown, hv, hbr⟩ := hrel
  have c0 := hv.c0
  have c1 := hv.c1
  have c2 := hv.c2
  have HO : Hid (wr.ownsRow w1.heap.size 5 1 u6 m (row m p).toList) := hown
  have HB : Hid (Below w1.heap.size w1 wr) := hbr
  have HV : Hid (Vr wr w.heap.size (.int .i64 (r : Int)) (.int .i64 (c : Int)) (.slice a n k)) := hv
  by_cases hlt : m < c
  ·have HS : Hid (Sl wr a n F) := HS1.out.later hbr
   obtain ⟨x, HX⟩ : ∃ x, Hid (F (i * c + m) = x) := ⟨_, rfl⟩
   have HXp : Hid (p m = x) := by show _ = _; rw [← HX.out, ← HP.out]
   have hsz := hbr.size
   have vlt := HV1.out.lt
   have hml : m + 1 ≤ maxLen := by unfold maxLen; omega
   clear hown hbr hv
   go_wp2_with (first
    | (go_at_call 29; refine (qbx _ _ c i m n k x a F HS.out (HRt.out.at hi hlt) hn HX).mono ?_; rintro e w5 ⟨rfl, hb5⟩; have HO5 : Hid (w5.ownsRow w1.heap.size 5 1 u6 m (row m p).toList) := HO.out.kept (qa8.mpr hb5) (by cases hv : u6.ownBlock <;> simp); have HB5 : Hid (Below w1.heap.size w1 w5) := qa1 HB.out hb5; have HV5 : Hid (Vr w5 w.heap.size (.int .i64 (r : Int)) (.int .i64 (c : Int)) (.slice a n k)) := HV.out.later hb5; have hsz5 := HB5.out.size; clear hb5)
    | (at_builtin; refine wpList_append_own _ rfl _ _ 22 rfl w1.heap.size 5 i0 (.int .u8 0) 1 1 Try.underlying22 hi0 hz0 hz1 hz2 rfl (by decide) _ m _ rfl (HO5.out.alloc _) ⟨w5.heap.size, 0, none⟩ 1 1 [.int .u8 (x : Int)] rfl rfl (qgh _ _ _) (one_one _) hml (by omega) (by simp; omega) ?_; intro v' w3 hown' hgrow' _; have HO3 : Hid (w3.ownsRow w1.heap.size 5 1 v' (m + 1) ((row m p).toList ++ [.int .u8 (x : Int)])) := hown'; have HB3 : Hid (Below w1.heap.size w1 w3) := grow_step HB5.out HO5.out hgrow' rfl; have HV3 : Hid (Vr w3 w.heap.size (.int .i64 (r : Int)) (.int .i64 (c : Int)) (.slice a n k)) := (HV1.out).later HB3.out; clear hown' hgrow'))
   exact ⟨⟨m + 1, by omega, by go_num, by rw [← qf1, HXp.out]; exact HO3.out, HV3.out, HB3.out⟩, by simp [intOf]; omega⟩
  ·obtain rfl : m = c := by omega
   clear hown hbr hv
   go_wp2
   go_ret2
   have l1 := HB1.out.size
   refine ⟨_, rfl, ?_, qa1 HB1.out HB.out⟩
   have := HO.out
   refine ⟨this.1, ?_⟩
   rcases this.2 with h' | ⟨g, cap, cur, e, hb, rr⟩
   ·exact .inl h'
   ·exact .inr ⟨g, cap, cur, e, by omega, rr⟩
open Go.RowKit
/-- The sum of the first k products of row p / cb and column p % cb. -/
def prk (F G : Nat → Nat) (ca cb k p : Nat) : Nat := xs (fun t => fm (F (p / cb * ca + t)) (G (t * cb + p % cb))) k
/-- The rows so far: all before q, at q the first k products. -/
def mdf (F G : Nat → Nat) (ca cb q k p : Nat) : Nat := if p < q then prk F G ca cb ca p else if p = q then prk F G ca cb k p else 0
theorem mdf_zero (F G : Nat → Nat) (ca cb p : Nat) : mdf F G ca cb 0 0 p = 0 := by
 unfold mdf
 rw [if_neg (by omega)]
 by_cases h : p = 0
 ·rw [if_pos h]; rfl
 ·rw [if_neg h]
theorem mdf_next (F G : Nat → Nat) (ca cb q p : Nat) : mdf F G ca cb q ca p = mdf F G ca cb (q + 1) 0 p := by
 unfold mdf
 by_cases h1 : p < q
 ·rw [if_pos h1, if_pos (by omega)]
 ·by_cases h2 : p = q
  ·rw [if_neg h1, if_pos h2, if_pos (by omega)]
  ·rw [if_neg h1, if_neg h2, if_neg (by omega)]
   by_cases h3 : p = q + 1
   ·rw [if_pos h3]; rfl
   ·rw [if_neg h3]
theorem mdf_here (F G : Nat → Nat) (ca cb q k : Nat) : mdf F G ca cb q k q = prk F G ca cb k q := by
 unfold mdf
 rw [if_neg (by omega), if_pos rfl]
theorem mdf_step (F G : Nat → Nat) (ca cb q k p : Nat) : (if p = q then prk F G ca cb (k + 1) q else mdf F G ca cb q k p) = mdf F G ca cb q (k + 1) p := by
 unfold mdf
 by_cases h2 : p = q
 ·subst h2
  rw [if_pos rfl, if_neg (by omega), if_pos rfl]
 ·rw [if_neg h2, if_neg h2, if_neg h2]
theorem prk_succ (F G : Nat → Nat) (ca cb i j k : Nat) (hj : j < cb) : prk F G ca cb (k + 1) (i * cb + j) = prk F G ca cb k (i * cb + j) ^^^ fm (F (i * ca + k)) (G (k * cb + j)) := by
 have h1 : (i * cb + j) / cb = i := by rw [Nat.mul_comm, Nat.mul_add_div (by omega), Nat.div_eq_of_lt hj, Nat.add_zero]
 have h2 : (i * cb + j) % cb = j := by rw [Nat.mul_comm, Nat.mul_add_mod, Nat.mod_eq_of_lt hj]
 unfold prk
 show xs _ k ^^^ _ = _
 rw [h1, h2]
theorem prk_lt {F : Nat → Nat} (G : Nat → Nat) {ra ca cb n i j k : Nat} (hF : ∀ i, i < n → F i < 256) (R : Rt ra ca n) (hi : i < ra) (hj : j < cb) (hk : k ≤ ca) : prk F G ca cb k (i * cb + j) < 256 := by
 have h1 : (i * cb + j) / cb = i := by rw [Nat.mul_comm, Nat.mul_add_div (by omega), Nat.div_eq_of_lt hj, Nat.add_zero]
 unfold prk
 rw [h1]
 exact qfl (fun t ht => qal _ _ (hF _ (R.at hi (by omega))))
theorem keepc {w w' : World} {b o : Nat} {v : Value} (hb : Below w.heap.size w w') (h : w.cell? ⟨b, o, none⟩ = some v) : w'.cell? ⟨b, o, none⟩ = some v := by rw [hb.cell (p := ⟨b, o, none⟩) (qav h)]; exact h
theorem keepf {w w' : World} {b o : Nat} {v : Value} (hb : Below w.heap.size w w') (hc : w.cell? ⟨b, o, none⟩ = some v) (h : w.frozen? ⟨b, o, none⟩ = false) : w'.frozen? ⟨b, o, none⟩ = false := by
 unfold World.frozen? at *
 rw [hb.block b (qav hc)]; exact h
theorem keeps {w : World} {b o g p : Nat} {v x : Value} (hne : b ≠ g) (h : w.cell? ⟨b, o, none⟩ = some x) : (w.setCell ⟨g, p, none⟩ v).cell? ⟨b, o, none⟩ = some x := (qa2 w g p v).cell h (by intro e; apply hne; simpa using e)
/-- What the loops of a product keep. -/
structure MInv (w wr : World) (gd g6 ra ca rb cb na nb n ka kb : Nat) (a b : Option Addr) (fn : Nat → Nat) : Prop where
 va : Vr wr w.heap.size (.int .i64 (ra : Int)) (.int .i64 (ca : Int)) (.slice a na ka)
 vb : Vr wr (w.heap.size + 1) (.int .i64 (rb : Int)) (.int .i64 (cb : Int)) (.slice b nb kb)
 vr : Vr wr (w.heap.size + 1 + 1) (.int .i64 0) (.int .i64 0) (.slice none 0 0)
 vm : Vr wr g6 (.int .i64 (ra : Int)) (.int .i64 (cb : Int)) (.slice (some ⟨gd, 0, none⟩) n n)
 data : RowAt wr gd 5 n fn
 below : Below w.heap.size w wr
 d6 : gd ≠ g6
 dlow : w.heap.size + 1 + 1 < gd
theorem MInv.congr {w wr : World} {gd g6 ra ca rb cb na nb n ka kb : Nat} {a b : Option Addr} {fn fn' : Nat → Nat} (I : MInv w wr gd g6 ra ca rb cb na nb n ka kb a b fn) (e : ∀ p, p < n → fn p = fn' p) : MInv w wr gd g6 ra ca rb cb na nb n ka kb a b fn' :=
 ⟨I.va, I.vb, I.vr, I.vm, I.data.congr e, I.below, I.d6, I.dlow⟩
theorem MInv.later {w wr w' : World} {gd g6 ra ca rb cb na nb n ka kb : Nat} {a b : Option Addr} {fn : Nat → Nat} (I : MInv w wr gd g6 ra ca rb cb na nb n ka kb a b fn) (hb : Below wr.heap.size wr w') : MInv w w' gd g6 ra ca rb cb na nb n ka kb a b fn :=
 ⟨I.va.later hb, I.vb.later hb, I.vr.later hb, I.vm.later hb, I.data.later hb, qa1 I.below hb, I.d6, I.dlow⟩
theorem MInv.set {w wr : World} {gd g6 ra ca rb cb na nb n ka kb q v : Nat} {a b : Option Addr} {fn : Nat → Nat} (I : MInv w wr gd g6 ra ca rb cb na nb n ka kb a b fn) : MInv w (wr.setCell ⟨gd, q, none⟩ (.int .u8 (v : Int))) gd g6 ra ca rb cb na nb n ka kb a b (fun p => if p = q then v else fn p) :=
 have d := I.dlow
 ⟨I.va.kept (qa2 _ _ _ _) (by omega), I.vb.kept (qa2 _ _ _ _) (by omega), I.vr.kept (qa2 _ _ _ _) (by omega), I.vm.kept (qa2 _ _ _ _) (Ne.symm I.d6), I.data.set q v, I.below.setCell (by show w.heap.size ≤ gd; omega) _, I.d6, I.dlow⟩
open Go.RowKit
/-- The entries transposed: r rows and c columns become c rows and r columns. -/
def trf (F : Nat → Nat) (r c p : Nat) : Nat := F (p % r * c + p / r)
theorem qdw (F : Nat → Nat) (r c i j : Nat) (hi : i < r) : trf F r c (j * r + i) = F (i * c + j) := by
 unfold trf
 rw [Nat.mul_comm j r, Nat.mul_add_mod, Nat.mod_eq_of_lt hi, Nat.mul_add_div (by omega), Nat.div_eq_of_lt hi, Nat.add_zero]
theorem keepg {w w' : World} {b o : Nat} {x : Value} {row : Option Nat} (hg : w.grownBy w' row) (h : w.cell? ⟨b, o, none⟩ = some x) (hne : row ≠ some b) : w'.cell? ⟨b, o, none⟩ = some x := hg.cell h (fun e => hne e.symm)
theorem keepgf {w w' : World} {b o : Nat} {x : Value} {row : Option Nat} (hg : w.grownBy w' row) (hc : w.cell? ⟨b, o, none⟩ = some x) (h : w.frozen? ⟨b, o, none⟩ = false) (hne : row ≠ some b) : w'.frozen? ⟨b, o, none⟩ = false := by
 unfold World.frozen? at *
 rw [hg.block b (qav hc) (fun e => hne e.symm)]; exact h
theorem Vr.grown {w w' : World} {b : Nat} {x y z : Value} {row : Option Nat} (h : Vr w b x y z) (hg : w.grownBy w' row) (hne : row ≠ some b) : Vr w' b x y z := by unfold Vr; rw [hg.block b h.lt (fun e => hne e.symm)]; exact h
theorem qd3 {w : World} {base : Nat} {v : Value} {n : Nat} {ls : List Value} (h : w.ownsRow base 5 1 v n ls) : ∃ s d, v = .slice s n d ∧ n ≤ d ∧ True := by
 rcases h.2 with ⟨e, h0⟩ | ⟨g, cap, cur, e, _, _, hc, _⟩
 ·subst h0; exact ⟨none, 0, e, Nat.le_refl _, trivial⟩
 ·exact ⟨_, cap, e, hc, trivial⟩
/-- What the loops of Transpose keep. -/
structure TInv (w w1 wr : World) (g4 r c n k q : Nat) (a : Option Addr) (F : Nat → Nat) (v : Value) : Prop where
 vb : Vr wr w.heap.size (.int .i64 (r : Int)) (.int .i64 (c : Int)) (.slice a n k)
 vr : Vr wr (w.heap.size + 1) (.int .i64 0) (.int .i64 0) (.slice none 0 0)
 vt : Vr wr g4 (.int .i64 (c : Int)) (.int .i64 (r : Int)) v
 own : wr.ownsRow (g4 + 1) 5 1 v q (row q (trf F r c)).toList
 below : Below w1.heap.size w1 wr
theorem qjp {w w1 wr w5 w8 : World} {r c n k q q' p x gg cap : Nat} {a : Option Addr} {F : Nat → Nat} {v : Value} (I : TInv w w1 wr w1.heap.size r c n k q a F v) (hb5 : Below wr.heap.size wr w5)
  (ho : w5.ownsRow (w1.heap.size + 1) 5 1 v p (row p (trf F r c)).toList)
  (hown : w8.ownsRow (w1.heap.size + 1) 5 1 (.slice (some ⟨gg, 0, none⟩) (p + 1) cap) (p + 1) ((row p (trf F r c)).toList ++ [.int .u8 (x : Int)])) (hg : (w5.alloc (.cells #[.int .u8 (x : Int)] 5)).grownBy w8 v.ownBlock) (hx : trf F r c p = x) (hq : p + 1 = q') (hw : w.heap.size + 1 < w1.heap.size) :
  TInv w w1 (w8.setCell ⟨w1.heap.size, 2, none⟩ (.slice (some ⟨gg, 0, none⟩) (p + 1) cap)) w1.heap.size r c n k q' a F (.slice (some ⟨gg, 0, none⟩) (p + 1) cap) := by
 subst hq
 have base := qaf ho
 have gb := (qjm hown).1
 refine ⟨?_, ?_, ?_, ?_, ?_⟩
 ·exact (((I.vb.later hb5).later (qa0 _ _)).grown hg (fun e => by have := base _ e; omega)).kept (qa2 _ _ _ _) (by omega)
 ·exact (((I.vr.later hb5).later (qa0 _ _)).grown hg (fun e => by have := base _ e; omega)).kept (qa2 _ _ _ _) (by omega)
 ·exact Vr.set2 (((I.vt.later hb5).later (qa0 _ _)).grown hg (fun e => by have := base _ e; omega)) _
 ·rw [← qf1, hx]
  exact hown.kept (qa2 _ _ _ _) (.inr (by simp [Value.ownBlock]; omega))
 ·have b8 : Below w1.heap.size w1 w8 := ((qa1 I.below hb5).alloc (qa1 I.below hb5).size _).grown hg (by have := (qa1 I.below hb5).size; simp; omega) (fun k hk => by have := base k hk; omega)
  exact b8.setCell (Nat.le_refl _) _
theorem qjq (w : World) (r c n k : Nat) (a : Option Addr) (F : Nat → Nat) (ha : Sl w a n F) (R : Rt r c n) :
  Calls Try.prog 11 #[mv r c a n k] w fun e w' => ∃ s d, e = .returned (.tuple #[mv c r s n d, .int .i64 0]) ∧ w'.ownsRow w.heap.size 5 1 (.slice s n d) n (row n (trf F r c)).toList ∧ Below w.heap.size w w' := by
 obtain ⟨i0, hi0, hz0, hz1, hz2⟩ := info_parts qd9
 have HRt : Hid (Rt r c n) := R
 have hn := R.le
 have hr := R.r64
 have hc := R.c64
 obtain ⟨wb, HW⟩ : ∃ wb, Hid (wb = (w.alloc (.cells #[.int .i64 (r : Int), .int .i64 (c : Int), .slice a n k] 24)).alloc (.cells #[.int .i64 0, .int .i64 0, .slice none 0 0] 24)) := ⟨_, rfl⟩
 have HVb : Hid (Vr wb w.heap.size (.int .i64 (r : Int)) (.int .i64 (c : Int)) (.slice a n k)) := by rw [HW.out]; exact (Vr.new w _ _ _).later (qa0 _ _)
 have HVr : Hid (Vr wb (w.heap.size + 1) (.int .i64 0) (.int .i64 0) (.slice none 0 0)) := by show Vr _ _ _ _ _; rw [HW.out]; have := Vr.new (w.alloc (.cells #[.int .i64 (r : Int), .int .i64 (c : Int), .slice a n k] 24)) (.int .i64 0) (.int .i64 0) (.slice none 0 0); simpa using this
 have HB0 : Hid (Below w.heap.size w wb) := by rw [HW.out]; exact qa1 (qa0 _ _) (qa0 _ _)
 have HSa : Hid (Sl w a n F) := ha
 clear ha R
 go_enter Try.func11, Try.ntmps11
 go_wp2_with (go_at_call 25; rw [← HW.out]; refine (qam _ _ _ _ _ _ HRt.out.p).mono ?_; rintro e w1 ⟨rfl, hb1⟩; have HB1 : Hid (Below wb.heap.size wb w1) := hb1; have b0 := (HVb.out.later hb1).c0; have b1 := (HVb.out.later hb1).c1; clear hb1)
 have HI0 : Hid (TInv w w1 (w1.alloc (.cells #[.int .i64 (c : Int), .int .i64 (r : Int), .slice none 0 0] 24)) w1.heap.size r c n k 0 a F (.slice none 0 0)) :=
  ⟨(HVb.out.later HB1.out).later (qa0 _ _), (HVr.out.later HB1.out).later (qa0 _ _), Vr.new w1 _ _ _, by rw [qb8]; exact World.ownsRow_nil _ _ _ _, qa0 _ _⟩
 have HBw : Hid (Below w.heap.size w w1) := qa1 HB0.out HB1.out
 have l1 := HVr.out.lt
 have l2 := HB1.out.size
 have l3 := HB0.out.size
 clear HW HVb HVr HB0 HB1 b0 b1
 go_loopw [5] (fun j wr => ∃ (m : Nat) (v : Value), m ≤ c ∧ j = .int .i64 (m : Int) ∧ TInv w w1 wr w1.heap.size r c n k (m * r) a F v) (fun j _ => c - (intOf j).toNat)
 case atStart => exact ⟨0, _, by omega, rfl, by rw [Nat.zero_mul]; exact HI0.out⟩
 case round =>
  clear HI0
  obtain ⟨m, v, hm, rfl, I⟩ := hrel
  have HI : Hid (TInv w w1 wr w1.heap.size r c n k (m * r) a F v) := I
  have b1 := I.vb.c1
  clear I
  by_cases hlt : m < c
  ·go_wp2
   go_loopw [6] (fun i wi => ∃ (q : Nat) (v : Value), q ≤ r ∧ i = .int .i64 (q : Int) ∧ TInv w w1 wi w1.heap.size r c n k (m * r + q) a F v) (fun i _ => r - (intOf i).toNat)
   case atStart => exact ⟨0, v, by omega, rfl, HI.out⟩
   case round =>
    clear HI b1
    obtain ⟨q, v, hq, rfl, I⟩ := hrel
    have HI : Hid (TInv w w1 wr w1.heap.size r c n k (m * r + q) a F v) := I
    have b0 := I.vb.c0
    by_cases hlq : q < r
    ·have b1 := I.vb.c1
     have b2 := I.vb.c2
     have t2 := I.vt.c2
     have tf := I.vt.free 2
     obtain ⟨p, HP⟩ : ∃ p, Hid (m * r + q = p) := ⟨_, rfl⟩
     have hpn : p < n := by
      rw [← HP.out, ← HRt.out.len, Nat.mul_comm r c]
      exact Nat.lt_of_lt_of_le (show m * r + q < (m + 1) * r by rw [Nat.add_mul, Nat.one_mul]; omega) (Nat.mul_le_mul_right r hlt)
     obtain ⟨x, HX⟩ : ∃ x, Hid (F (q * c + m) = x) := ⟨_, rfl⟩
     have HXt : Hid (trf F r c p = x) := by show _ = _; rw [← HP.out, qdw F r c q m hlq, HX.out]
     have HO : Hid (wr.ownsRow (w1.heap.size + 1) 5 1 v p (row p (trf F r c)).toList) := by rw [← HP.out]; exact I.own
     have hml : p + 1 ≤ maxLen := by unfold maxLen; omega
     have HAt : Hid (Calls Try.prog 29 #[.agg #[.int .i64 (r : Int), .int .i64 (c : Int), .slice a n k], .int .i64 (q : Int), .int .i64 (m : Int)] wr.drew fun e w'' => e = .returned (.int .u8 (x : Int)) ∧ Below wr.drew.heap.size wr.drew w'') := qbx wr.drew _ c q m n k x a F (HSa.out.later (qa1 HBw.out (I.below.drew))) (HRt.out.at hlq hlt) hn HX
     have t2d : wr.drew.cell? ⟨w1.heap.size, 2, none⟩ = some v := t2
     have tfd : wr.drew.frozen? ⟨w1.heap.size, 2, none⟩ = false := tf
     have b0d : wr.drew.cell? ⟨w.heap.size, 0, none⟩ = some (.int .i64 (r : Int)) := b0
     have b1d : wr.drew.cell? ⟨w.heap.size, 1, none⟩ = some (.int .i64 (c : Int)) := b1
     have b2d : wr.drew.cell? ⟨w.heap.size, 2, none⟩ = some (.slice a n k) := b2
     have hsz := I.below.size
     have hg4 := I.vt.lt
     have HD : Hid ((fun w' => w'.cell? ⟨w1.heap.size, 2, none⟩ = some v ∧ w'.frozen? ⟨w1.heap.size, 2, none⟩ = false ∧ w'.cell? ⟨w.heap.size, 0, none⟩ = some (.int .i64 (r : Int)) ∧ w'.cell? ⟨w.heap.size, 1, none⟩ = some (.int .i64 (c : Int)) ∧ w'.cell? ⟨w.heap.size, 2, none⟩ = some (.slice a n k)) wr.drew) := ⟨t2, tf, b0, b1, b2⟩
     clear I
     go_wp2
     refine qbf (k := 9) (n := 9) (fun w' => w'.cell? ⟨w1.heap.size, 2, none⟩ = some v ∧ w'.frozen? ⟨w1.heap.size, 2, none⟩ = false ∧ w'.cell? ⟨w.heap.size, 0, none⟩ = some (.int .i64 (r : Int)) ∧ w'.cell? ⟨w.heap.size, 1, none⟩ = some (.int .i64 (c : Int)) ∧ w'.cell? ⟨w.heap.size, 2, none⟩ = some (.slice a n k)) (by kernel_rfl) (by kernel_rfl) (by decide) (by rfl) ?_
     refine wtkq 0 ?v0 rfl (by kernel_rfl) (fun _ _ _ h => h) (by rfl) ?y0 HD.out ?z0
     case y0 => (intro w hSw; (try dsimp only at hSw); go_simp; try with_reducible rfl)
     try simp only [mz1, mz3, Act.put, mz4, mz5, mz6]
     refine wtkq 1 ?v1 rfl (by kernel_rfl) (fun _ _ _ h => h) (by rfl) ?y1 HD.out ?z1
     case y1 => (intro w hSw; (try dsimp only at hSw); go_simp; try with_reducible rfl)
     try simp only [mz1, mz2, mz3, Act.put, mz4, mz5, mz6]
     refine wtkq 2 ?v2 rfl (by kernel_rfl) (fun _ _ _ h => h) (by rfl) ?y2 HD.out ?z2
     case y2 => (intro w hSw; (try dsimp only at hSw); go_simp; try with_reducible rfl)
     try simp only [mz1, mz2, mz3, Act.put, mz4, mz5, mz6]
     refine wtkq 3 ?v3 rfl (by kernel_rfl) (fun _ _ _ h => h) (by rfl) ?y3 HD.out ?z3
     case y3 => (intro w hSw; (try dsimp only at hSw); go_simp; try with_reducible rfl)
     try simp only [mz1, mz2, mz3, Act.put, mz4, mz5, mz6]
     refine wtkq 4 ?v4 rfl (by kernel_rfl) (fun _ _ _ h => h) (by rfl) ?y4 HD.out ?z4
     case y4 => (intro w hSw; (try dsimp only at hSw); go_simp; try with_reducible rfl)
     try simp only [mz1, mz2, mz3, Act.put, mz4, mz5, mz6]
     refine wpAnyH_ready (rs := [5]) (by kernel_rfl) (by simp) ?_
     refine AllReadyH.cons rfl (fun K hK => ?_) AllReadyH.nil
     go_simp
     refine HAt.out.mono ?_; rintro e w5 ⟨rfl, hbk⟩; have t25 := keepc hbk t2d; have tf5 := keepf hbk t2d tfd; have b05 := keepc hbk b0d; have b15 := keepc hbk b1d; have b25 := keepc hbk b2d; have HB5 : Hid (Below wr.heap.size wr w5) := qa1 (Below.refl _ _).drew hbk; have HO5 : Hid (w5.ownsRow (w1.heap.size + 1) 5 1 v p (row p (trf F r c)).toList) := HO.out.kept (qa8.mpr HB5.out) (by cases hv : v.ownBlock <;> simp); have hs5 := HB5.out.size; clear hbk; dsimp only
     refine hK.out _ _ ⟨t25, tf5, b05, b15, b25⟩ (fun _ => ?_)
     clear hK K
     try simp only [mz1, mz2, mz3, Act.put, mz4, mz5, mz6]
     refine wpAnyH_ready (rs := [6]) (by kernel_rfl) (by simp) ?_
     refine AllReadyH.cons rfl (fun K hK => ?_) AllReadyH.nil
     go_simp
     refine hK.out _ _ ⟨keepc (qa0 _ _) t25, keepf (qa0 _ _) t25 tf5, keepc (qa0 _ _) b05, keepc (qa0 _ _) b15, keepc (qa0 _ _) b25⟩ (fun _ => ?_)
     clear hK K
     try simp only [mz1, mz2, mz3, Act.put, mz4, mz5, mz6]
     refine wpAnyH_ready (rs := [7]) (by kernel_rfl) (by simp) ?_
     refine AllReadyH.cons rfl (fun K hK => ?_) AllReadyH.nil
     refine step_append_lies _ (by rfl) _ _ _ (by rfl) (w1.heap.size + 1) 5 i0 _ 1 1 Try.underlying22 hi0 hz0 hz1 hz2 rfl (by omega) v p (row p (trf F r c)).toList (by rfl) (HO5.out.alloc _) ⟨w5.heap.size, 0, none⟩ 1 1 [.int .u8 (x : Int)] (by rfl) (by rfl) (qgh _ _ _) (one_one _) (by omega) hml (by omega) (by simp; omega) (w5.heap.size + 1) (by simp) ?_; intro gg cap w8 hown8 hgrow8 hat8 hlt8; have hva : v.ownBlock ≠ some w1.heap.size := (fun e => by { have := qaf HO5.out _ e; omega }); have hvb : v.ownBlock ≠ some w.heap.size := (fun e => by { have := qaf HO5.out _ e; omega }); have hal := qa0 w5 (.cells #[.int .u8 (x : Int)] 5); have t28 := keepg hgrow8 (keepc hal t25) hva; have tf8 := keepgf hgrow8 (keepc hal t25) (keepf hal t25 tf5) hva; have b08 := keepg hgrow8 (keepc hal b05) hvb; have b18 := keepg hgrow8 (keepc hal b15) hvb; have b28 := keepg hgrow8 (keepc hal b25) hvb
     refine hK.out _ _ ⟨t28, tf8, b08, b18, b28⟩ (fun _ => ?_)
     clear hK K
     try simp only [mz1, mz2, mz3, Act.put, mz4, mz5, mz6]
     refine wtkq 8 ?v8 rfl (by kernel_rfl) (fun _ _ _ h => h) (by rfl) ?y8 ⟨t28, tf8, b08, b18, b28⟩ ?z8
     case y8 => (intro w hSw; (try dsimp only at hSw); go_simp; try with_reducible rfl)
     try simp only [mz1, mz2, mz3, Act.put, mz4, mz5, mz6]
     refine wpAnyH_done (by kernel_rfl) ?_ _
     refine qdv rfl (fun K hK => ?_)
     go_simp
     refine hK.out _ _ ?_
     clear hK K
     try simp only [mz1, mz2, mz3, Act.put, mz4, mz5, mz6]
     have HN : Hid (TInv w w1 (w8.setCell ⟨w1.heap.size, 2, none⟩ (.slice (some ⟨gg, 0, none⟩) (p + 1) cap)) w1.heap.size r c n k (m * r + (q + 1)) a F (.slice (some ⟨gg, 0, none⟩) (p + 1) cap)) := qjp HI.out HB5.out HO5.out hown8 hgrow8 HXt.out (by rw [← HP.out]; omega) (by omega)
     clear hown8 hgrow8 hat8 hlt8 t28 tf8 b08 b18 b28 hal
     go_wp2
     exact ⟨⟨q + 1, _, by omega, by go_num, HN.out⟩, by simp [intOf]; omega⟩
    ·obtain rfl : q = r := by omega
     clear I
     go_wp2
     exact ⟨⟨m + 1, v, by omega, by go_num, by rw [Nat.add_mul, Nat.one_mul]; exact HI.out⟩, by simp [intOf]; omega⟩
  ·obtain rfl : m = c := by omega
   have e1 : m * r = n := by rw [Nat.mul_comm]; exact HRt.out.len
   have hown := HI.out.own
   rw [e1] at hown
   obtain ⟨s, d, e3, _, _⟩ := qd3 hown
   subst e3
   have c0 := HI.out.vt.c0
   have c1 := HI.out.vt.c1
   have c2 := HI.out.vt.c2
   have HVr : Hid (Vr wr (w.heap.size + 1) (.int .i64 0) (.int .i64 0) (.slice none 0 0)) := HI.out.vr
   have HO : Hid (wr.ownsRow (w1.heap.size + 1) 5 1 (.slice s n d) n (row n (trf F r m)).toList) := hown
   clear hown
   go_wp2_with (refine qa4 rfl _ _ rfl (w.heap.size + 1) _ _ _ (.int .i64 (m : Int)) (.int .i64 (r : Int)) (.slice s n d) rfl rfl HVr.out rfl rfl rfl ?_; intro w4 HV4 HG4)
   have d0 := HV4.out.c0
   have d1 := HV4.out.c1
   have d2 := HV4.out.c2
   refine bodyPost_ret (v := .tuple #[mv m r s n d, .int .i64 0]) (by simp [results, Try.results11, go_sem, d0, d1, d2, mv]) rfl ?_
   have own4 := HO.out.kept HG4.out (.inr (fun e => by have := qaf HO.out _ e; omega))
   refine ⟨s, d, rfl, ⟨own4.1, ?_⟩, qa9 (qa1 HBw.out HI.out.below) HG4.out (by omega)⟩
   rcases own4.2 with h' | ⟨g, cp, cur, e, hb, rr⟩
   ·exact .inl h'
   ·exact .inr ⟨g, cp, cur, e, by omega, rr⟩
end Go.Proofs.Ytblagbghpfopcaa
