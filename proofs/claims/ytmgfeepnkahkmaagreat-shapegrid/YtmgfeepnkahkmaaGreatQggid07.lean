/-
  Contracts of the matrices' reference: Identity, Row, Same.
  Contracts of the matrices' reference: Row, Same.
  Words for the matrices' products.
  Contract of the matrices' reference: Transpose.
  Contract of the matrices' reference: Mul.
-/
import Derived.Test.YtmgfeepnkahkmaaGreatQggid00
import Derived.Test.YtmgfeepnkahkmaaGreatQggid05
import Derived.Test.YtmgfeepnkahkmaaGreatQggid03
import Derived.Test.YtmgfeepnkahkmaaGreatQggid06
import Derived.Deep.AppendLies
set_option maxRecDepth 100000
set_option maxHeartbeats 16000000
namespace Go.Proofs.YtmgfeepnkahkmaaGreat
open Go.RowKit
/-- The identity's entries, the first k rows of it. -/
def idk (n k p : Nat) : Nat := if p % (n + 1) = 0 ∧ p / (n + 1) < k then 1 else 0
/-- The identity's entries. -/
def idf (n p : Nat) : Nat := if p % (n + 1) = 0 then 1 else 0
theorem idk_step (n k j : Nat) : (if j = k * n + k then 1 else idk n k j) = idk n (k + 1) j := by
 unfold idk
 have e : k * n + k = (n + 1) * k := by rw [Nat.mul_comm k n, Nat.add_mul, Nat.one_mul]
 by_cases h : j = k * n + k
 ·rw [if_pos h, h, e, if_pos ⟨Nat.mul_mod_right _ _, by rw [Nat.mul_div_cancel_left _ (by omega)]; omega⟩]
 ·rw [if_neg h]
  by_cases h0 : j % (n + 1) = 0
  ·have hk : j / (n + 1) ≠ k := fun e2 => h (by have := Nat.div_add_mod j (n + 1); rw [h0, e2] at this; rw [e]; omega)
   by_cases h1 : j / (n + 1) < k
   ·rw [if_pos ⟨h0, h1⟩, if_pos ⟨h0, by omega⟩]
   ·rw [if_neg (fun x => h1 x.2), if_neg (fun x => by have := x.2; omega)]
  ·rw [if_neg (fun x => h0 x.1), if_neg (fun x => h0 x.1)]
theorem idk_all (n j : Nat) (hj : j < n * n) : idk n n j = idf n j := by
 unfold idk idf
 have : j / (n + 1) < n := (Nat.div_lt_iff_lt_mul (by omega)).2 (Nat.lt_of_lt_of_le hj (Nat.mul_le_mul_left n (by omega)))
 by_cases h : j % (n + 1) = 0
 ·rw [if_pos ⟨h, this⟩, if_pos h]
 ·rw [if_neg (fun x => h x.1), if_neg h]
theorem qfl (n p : Nat) : idf n p < 256 := by unfold idf; split <;> decide
open Go.RowKit
/-- Numbers of a matrix that is right. -/
structure Rt (r c n : Nat) : Prop where
 r64 : r ≤ 64
 c64 : c ≤ 64
 len : r * c = n
theorem Rt.p {r c n : Nat} (h : Rt r c n) : RightP r c n := ⟨by omega, by have := h.r64; omega, by omega, by have := h.c64; omega, by rw [← h.len]; simp⟩
theorem Rt.le {r c n : Nat} (h : Rt r c n) : n ≤ 4096 := by rw [← h.len]; exact Nat.mul_le_mul h.r64 h.c64
theorem Rt.at {r c n i j : Nat} (h : Rt r c n) (hi : i < r) (hj : j < c) : i * c + j < n := by
 rw [← h.len]
 exact Nat.lt_of_lt_of_le (show i * c + j < (i + 1) * c by rw [Nat.add_mul, Nat.one_mul]; omega) (Nat.mul_le_mul_right c hi)
theorem right_rt {r c : Int} {n : Nat} (h : RightP r c n) : ∃ r' c' : Nat, r = r' ∧ c = c' ∧ Rt r' c' n := by
 obtain ⟨h1, h2, h3, h4, h5⟩ := h
 obtain ⟨r', rfl⟩ := Int.eq_ofNat_of_zero_le h1
 obtain ⟨c', rfl⟩ := Int.eq_ofNat_of_zero_le h3
 exact ⟨r', c', rfl, rfl, by omega, by omega, by rw [← Int.natCast_mul] at h5; omega⟩
theorem qja (w : World) (r c n k i : Nat) (a : Option Addr) (F : Nat → Nat) (ha : Sl w a n F) (R : Rt r c n) (hi : i < r) :
  Calls Tryz.prog 123 #[mv r c a n k, .int .i64 (i : Int)] w fun e w' => ∃ v, e = .returned (.tuple #[v, .int .i64 0]) ∧ w'.ownsRow w.heap.size 5 1 v c (row c (fun j => F (i * c + j))).toList ∧ Below w.heap.size w w' := by
 obtain ⟨i0, hi0, hz0, hz1, hz2⟩ := info_parts qe6
 have hc := R.c64
 have hn := R.le
 have hr := R.r64
 have HRt : Hid (Rt r c n) := R
 obtain ⟨p, HP⟩ : ∃ p : Nat → Nat, Hid ((fun j => F (i * c + j)) = p) := ⟨_, rfl⟩
 rw [HP.out]
 obtain ⟨wb, HW⟩ : ∃ wb, Hid (wb = w.alloc (.cells #[.int .i64 (r : Int), .int .i64 (c : Int), .slice a n k] 24)) := ⟨_, rfl⟩
 have HV0 : Hid (Vr wb w.heap.size (.int .i64 (r : Int)) (.int .i64 (c : Int)) (.slice a n k)) := by rw [HW.out]; exact Vr.new w _ _ _
 have HS0 : Hid (Sl wb a n F) := by rw [HW.out]; exact ha.later (qa1 _ _)
 have HB0 : Hid (Below w.heap.size w wb) := by rw [HW.out]; exact qa1 _ _
 have g1 : decide ((i : Int) < 0) = false := by simp
 have g2 : decide (r ≤ i) = false := by simp; omega
 clear ha R
 go_enter Tryz.func123, Tryz.ntmps123
 go_wp2_with (go_at_call 58; rw [← HW.out]; refine (qao _ _ _ _ _ _ HRt.out.p).mono ?_; rintro e w1 ⟨rfl, hb1⟩; have HV1 : Hid (Vr w1 w.heap.size (.int .i64 (r : Int)) (.int .i64 (c : Int)) (.slice a n k)) := HV0.out.later hb1; have HS1 : Hid (Sl w1 a n F) := HS0.out.later hb1; have HB1 : Hid (Below w.heap.size w w1) := qa0 HB0.out hb1; have vc0 := HV1.out.c0; clear hb1)
 clear HW HV0 HS0 HB0 vc0
 go_loopw [6, 7] (fun v j wr => ∃ m : Nat, m ≤ c ∧ j = .int .i64 (m : Int) ∧ wr.ownsRow w1.heap.size 5 1 v m (row m p).toList ∧ Vr wr w.heap.size (.int .i64 (r : Int)) (.int .i64 (c : Int)) (.slice a n k) ∧ Below w1.heap.size w1 wr) (fun _ j _ => c - (intOf j).toNat)
 case atStart => exact ⟨0, by omega, rfl, by rw [qbe]; exact World.ownsRow_nil _ _ _ _, HV1.out, Below.refl _ _⟩
 case round =>
  obtain ⟨m, hm, rfl, hown, hv, hbr⟩ := hrel
  have c0 := hv.c0
  have c1 := hv.c1
  have c2 := hv.c2
  have HO : Hid (wr.ownsRow w1.heap.size 5 1 u6 m (row m p).toList) := hown
  have HB : Hid (Below w1.heap.size w1 wr) := hbr
  have HV : Hid (Vr wr w.heap.size (.int .i64 (r : Int)) (.int .i64 (c : Int)) (.slice a n k)) := hv
  by_cases hlt : m < c
  ·have HS : Hid (Sl wr a n F) := HS1.out.later hbr
   obtain ⟨x, HX⟩ : ∃ x, Hid (F (i * c + m) = x) := ⟨_, rfl⟩
   have HXp : Hid (p m = x) := by show _ = _; rw [← HX.out, ← HP.out]
   have hsz := hbr.size
   have vlt := HV1.out.lt
   have hml : m + 1 ≤ maxLen := by unfold maxLen; omega
   clear hown hbr hv
   go_wp2_with (first
    | (go_at_call 42; refine (qck _ _ c i m n k x a F HS.out (HRt.out.at hi hlt) hn HX).mono ?_; rintro e w5 ⟨rfl, hb5⟩; have HO5 : Hid (w5.ownsRow w1.heap.size 5 1 u6 m (row m p).toList) := HO.out.kept (qa5.mpr hb5) (by cases hv : u6.ownBlock <;> simp); have HB5 : Hid (Below w1.heap.size w1 w5) := qa0 HB.out hb5; have HV5 : Hid (Vr w5 w.heap.size (.int .i64 (r : Int)) (.int .i64 (c : Int)) (.slice a n k)) := HV.out.later hb5; have hsz5 := HB5.out.size; clear hb5)
    | (at_builtin; refine wpList_append_own _ rfl _ _ 22 rfl w1.heap.size 5 i0 (.int .u8 0) 1 1 Tryz.underlying22 hi0 hz0 hz1 hz2 rfl (by decide) _ m _ rfl (HO5.out.alloc _) ⟨w5.heap.size, 0, none⟩ 1 1 [.int .u8 (x : Int)] rfl rfl (qgd _ _ _) (one_one _) hml (by omega) (by simp; omega) ?_; intro v' w3 hown' hgrow' _; have HO3 : Hid (w3.ownsRow w1.heap.size 5 1 v' (m + 1) ((row m p).toList ++ [.int .u8 (x : Int)])) := hown'; have HB3 : Hid (Below w1.heap.size w1 w3) := grow_step HB5.out HO5.out hgrow' rfl; have HV3 : Hid (Vr w3 w.heap.size (.int .i64 (r : Int)) (.int .i64 (c : Int)) (.slice a n k)) := (HV1.out).later HB3.out; clear hown' hgrow'))
   exact ⟨⟨m + 1, by omega, by go_num, by rw [← qew, HXp.out]; exact HO3.out, HV3.out, HB3.out⟩, by simp [intOf]; omega⟩
  ·obtain rfl : m = c := by omega
   clear hown hbr hv
   go_wp2
   go_ret2
   have l1 := HB1.out.size
   refine ⟨_, rfl, ?_, qa0 HB1.out HB.out⟩
   have := HO.out
   refine ⟨this.1, ?_⟩
   rcases this.2 with h' | ⟨g, cap, cur, e, hb, rr⟩
   ·exact .inl h'
   ·exact .inr ⟨g, cap, cur, e, by omega, rr⟩
open Go.RowKit
/-- The sum of the first k products of row p / cb and column p % cb. -/
def prk (F G : Nat → Nat) (ca cb k p : Nat) : Nat := xs (fun t => fm (F (p / cb * ca + t)) (G (t * cb + p % cb))) k
/-- The rows so far: all before q, at q the first k products. -/
def mdf (F G : Nat → Nat) (ca cb q k p : Nat) : Nat := if p < q then prk F G ca cb ca p else if p = q then prk F G ca cb k p else 0
theorem mdf_zero (F G : Nat → Nat) (ca cb p : Nat) : mdf F G ca cb 0 0 p = 0 := by
 unfold mdf
 rw [if_neg (by omega)]
 by_cases h : p = 0
 ·rw [if_pos h]; rfl
 ·rw [if_neg h]
theorem mdf_next (F G : Nat → Nat) (ca cb q p : Nat) : mdf F G ca cb q ca p = mdf F G ca cb (q + 1) 0 p := by
 unfold mdf
 by_cases h1 : p < q
 ·rw [if_pos h1, if_pos (by omega)]
 ·by_cases h2 : p = q
  ·rw [if_neg h1, if_pos h2, if_pos (by omega)]
  ·rw [if_neg h1, if_neg h2, if_neg (by omega)]
   by_cases h3 : p = q + 1
   ·rw [if_pos h3]; rfl
   ·rw [if_neg h3]
theorem mdf_here (F G : Nat → Nat) (ca cb q k : Nat) : mdf F G ca cb q k q = prk F G ca cb k q := by
 unfold mdf
 rw [if_neg (by omega), if_pos rfl]
theorem mdf_step (F G : Nat → Nat) (ca cb q k p : Nat) : (if p = q then prk F G ca cb (k + 1) q else mdf F G ca cb q k p) = mdf F G ca cb q (k + 1) p := by
 unfold mdf
 by_cases h2 : p = q
 ·subst h2
  rw [if_pos rfl, if_neg (by omega), if_pos rfl]
 ·rw [if_neg h2, if_neg h2, if_neg h2]
theorem prk_succ (F G : Nat → Nat) (ca cb i j k : Nat) (hj : j < cb) : prk F G ca cb (k + 1) (i * cb + j) = prk F G ca cb k (i * cb + j) ^^^ fm (F (i * ca + k)) (G (k * cb + j)) := by
 have h1 : (i * cb + j) / cb = i := by rw [Nat.mul_comm, Nat.mul_add_div (by omega), Nat.div_eq_of_lt hj, Nat.add_zero]
 have h2 : (i * cb + j) % cb = j := by rw [Nat.mul_comm, Nat.mul_add_mod, Nat.mod_eq_of_lt hj]
 unfold prk
 show xs _ k ^^^ _ = _
 rw [h1, h2]
theorem prk_lt {F : Nat → Nat} (G : Nat → Nat) {ra ca cb n i j k : Nat} (hF : ∀ i, i < n → F i < 256) (R : Rt ra ca n) (hi : i < ra) (hj : j < cb) (hk : k ≤ ca) : prk F G ca cb k (i * cb + j) < 256 := by
 have h1 : (i * cb + j) / cb = i := by rw [Nat.mul_comm, Nat.mul_add_div (by omega), Nat.div_eq_of_lt hj, Nat.add_zero]
 unfold prk
 rw [h1]
 exact qep (fun t ht => qai _ _ (hF _ (R.at hi (by omega))))
theorem keepc {w w' : World} {b o : Nat} {v : Value} (hb : Below w.heap.size w w') (h : w.cell? ⟨b, o, none⟩ = some v) : w'.cell? ⟨b, o, none⟩ = some v := by rw [hb.cell (p := ⟨b, o, none⟩) (qar h)]; exact h
theorem keepf {w w' : World} {b o : Nat} {v : Value} (hb : Below w.heap.size w w') (hc : w.cell? ⟨b, o, none⟩ = some v) (h : w.frozen? ⟨b, o, none⟩ = false) : w'.frozen? ⟨b, o, none⟩ = false := by
 unfold World.frozen? at *
 rw [hb.block b (qar hc)]; exact h
theorem keeps {w : World} {b o g p : Nat} {v x : Value} (hne : b ≠ g) (h : w.cell? ⟨b, o, none⟩ = some x) : (w.setCell ⟨g, p, none⟩ v).cell? ⟨b, o, none⟩ = some x := (qa2 w g p v).cell h (by intro e; apply hne; simpa using e)
/-- What the loops of a product keep. -/
structure MInv (w wr : World) (gd g6 ra ca rb cb na nb n ka kb : Nat) (a b : Option Addr) (fn : Nat → Nat) : Prop where
 va : Vr wr w.heap.size (.int .i64 (ra : Int)) (.int .i64 (ca : Int)) (.slice a na ka)
 vb : Vr wr (w.heap.size + 1) (.int .i64 (rb : Int)) (.int .i64 (cb : Int)) (.slice b nb kb)
 vr : Vr wr (w.heap.size + 1 + 1) (.int .i64 0) (.int .i64 0) (.slice none 0 0)
 vm : Vr wr g6 (.int .i64 (ra : Int)) (.int .i64 (cb : Int)) (.slice (some ⟨gd, 0, none⟩) n n)
 data : RowAt wr gd 5 n fn
 below : Below w.heap.size w wr
 d6 : gd ≠ g6
 dlow : w.heap.size + 1 + 1 < gd
theorem MInv.congr {w wr : World} {gd g6 ra ca rb cb na nb n ka kb : Nat} {a b : Option Addr} {fn fn' : Nat → Nat} (I : MInv w wr gd g6 ra ca rb cb na nb n ka kb a b fn) (e : ∀ p, p < n → fn p = fn' p) : MInv w wr gd g6 ra ca rb cb na nb n ka kb a b fn' :=
 ⟨I.va, I.vb, I.vr, I.vm, I.data.congr e, I.below, I.d6, I.dlow⟩
theorem MInv.later {w wr w' : World} {gd g6 ra ca rb cb na nb n ka kb : Nat} {a b : Option Addr} {fn : Nat → Nat} (I : MInv w wr gd g6 ra ca rb cb na nb n ka kb a b fn) (hb : Below wr.heap.size wr w') : MInv w w' gd g6 ra ca rb cb na nb n ka kb a b fn :=
 ⟨I.va.later hb, I.vb.later hb, I.vr.later hb, I.vm.later hb, I.data.later hb, qa0 I.below hb, I.d6, I.dlow⟩
theorem MInv.set {w wr : World} {gd g6 ra ca rb cb na nb n ka kb q v : Nat} {a b : Option Addr} {fn : Nat → Nat} (I : MInv w wr gd g6 ra ca rb cb na nb n ka kb a b fn) : MInv w (wr.setCell ⟨gd, q, none⟩ (.int .u8 (v : Int))) gd g6 ra ca rb cb na nb n ka kb a b (fun p => if p = q then v else fn p) :=
 have d := I.dlow
 ⟨I.va.kept (qa2 _ _ _ _) (by omega), I.vb.kept (qa2 _ _ _ _) (by omega), I.vr.kept (qa2 _ _ _ _) (by omega), I.vm.kept (qa2 _ _ _ _) (Ne.symm I.d6), I.data.set q v, I.below.setCell (by show w.heap.size ≤ gd; omega) _, I.d6, I.dlow⟩
open Go.RowKit
/-- The entries transposed: r rows and c columns become c rows and r columns. -/
def trf (F : Nat → Nat) (r c p : Nat) : Nat := F (p % r * c + p / r)
theorem trf_at (F : Nat → Nat) (r c i j : Nat) (hi : i < r) : trf F r c (j * r + i) = F (i * c + j) := by
 unfold trf
 rw [Nat.mul_comm j r, Nat.mul_add_mod, Nat.mod_eq_of_lt hi, Nat.mul_add_div (by omega), Nat.div_eq_of_lt hi, Nat.add_zero]
theorem keepg {w w' : World} {b o : Nat} {x : Value} {row : Option Nat} (hg : w.grownBy w' row) (h : w.cell? ⟨b, o, none⟩ = some x) (hne : row ≠ some b) : w'.cell? ⟨b, o, none⟩ = some x := hg.cell h (fun e => hne e.symm)
theorem keepgf {w w' : World} {b o : Nat} {x : Value} {row : Option Nat} (hg : w.grownBy w' row) (hc : w.cell? ⟨b, o, none⟩ = some x) (h : w.frozen? ⟨b, o, none⟩ = false) (hne : row ≠ some b) : w'.frozen? ⟨b, o, none⟩ = false := by
 unfold World.frozen? at *
 rw [hg.block b (qar hc) (fun e => hne e.symm)]; exact h
theorem Vr.grown {w w' : World} {b : Nat} {x y z : Value} {row : Option Nat} (h : Vr w b x y z) (hg : w.grownBy w' row) (hne : row ≠ some b) : Vr w' b x y z := by unfold Vr; rw [hg.block b h.lt (fun e => hne e.symm)]; exact h
theorem qdz {w : World} {base : Nat} {v : Value} {n : Nat} {ls : List Value} (h : w.ownsRow base 5 1 v n ls) : ∃ s d, v = .slice s n d ∧ n ≤ d ∧ True := by
 rcases h.2 with ⟨e, h0⟩ | ⟨g, cap, cur, e, _, _, hc, _⟩
 ·subst h0; exact ⟨none, 0, e, Nat.le_refl _, trivial⟩
 ·exact ⟨_, cap, e, hc, trivial⟩
open Go.RowKit
theorem qh2 (w : World) (ra ca cb na nb n ka kb : Nat) (a b : Option Addr) (F G : Nat → Nat) (ha : Sl w a na F) (hb : Sl w b nb G) (RA : Rt ra ca na) (RB : Rt ca cb nb) (RC : Rt ra cb n) :
  Calls Tryz.prog 24 #[mv ra ca a na ka, mv ca cb b nb kb] w fun e w' => ∃ g, e = .returned (.tuple #[mv ra cb (some ⟨g, 0, none⟩) n n, .int .i64 0]) ∧ RowAt w' g 5 n (prk F G ca cb ca) ∧ w.heap.size ≤ g ∧ Below w.heap.size w w' := by
 have HRA : Hid (Rt ra ca na) := RA
 have HRB : Hid (Rt ca cb nb) := RB
 have HRC : Hid (Rt ra cb n) := RC
 have la := RA.le
 have lb := RB.le
 have lc := RC.le
 have ra64 := RA.r64
 have ca64 := RA.c64
 have cb64 := RB.c64
 obtain ⟨wb, HW⟩ : ∃ wb, Hid (wb = ((w.alloc (.cells #[.int .i64 (ra : Int), .int .i64 (ca : Int), .slice a na ka] 24)).alloc (.cells #[.int .i64 (ca : Int), .int .i64 (cb : Int), .slice b nb kb] 24)).alloc (.cells #[.int .i64 0, .int .i64 0, .slice none 0 0] 24)) := ⟨_, rfl⟩
 have HVa : Hid (Vr wb w.heap.size (.int .i64 (ra : Int)) (.int .i64 (ca : Int)) (.slice a na ka)) := by rw [HW.out]; exact ((Vr.new w _ _ _).later (qa1 _ _)).later (qa1 _ _)
 have HVb : Hid (Vr wb (w.heap.size + 1) (.int .i64 (ca : Int)) (.int .i64 (cb : Int)) (.slice b nb kb)) := by show Vr _ _ _ _ _; rw [HW.out]; have := (Vr.new (w.alloc (.cells #[.int .i64 (ra : Int), .int .i64 (ca : Int), .slice a na ka] 24)) (.int .i64 (ca : Int)) (.int .i64 (cb : Int)) (.slice b nb kb)).later (qa1 _ (.cells #[.int .i64 0, .int .i64 0, .slice none 0 0] 24)); simpa using this
 have HVr : Hid (Vr wb (w.heap.size + 1 + 1) (.int .i64 0) (.int .i64 0) (.slice none 0 0)) := by show Vr _ _ _ _ _; rw [HW.out]; have := Vr.new ((w.alloc (.cells #[.int .i64 (ra : Int), .int .i64 (ca : Int), .slice a na ka] 24)).alloc (.cells #[.int .i64 (ca : Int), .int .i64 (cb : Int), .slice b nb kb] 24)) (.int .i64 0) (.int .i64 0) (.slice none 0 0); simpa using this
 have HB0 : Hid (Below w.heap.size w wb) := by rw [HW.out]; exact qa0 (qa0 (qa1 _ _) (qa1 _ _)) (qa1 _ _)
 have HSa : Hid (Sl w a na F) := ha
 have HSb : Hid (Sl w b nb G) := hb
 clear ha hb RA RB RC
 go_enter Tryz.func24, Tryz.ntmps24
 go_wp2_with (first
  | (go_at_call 58; have _x := HB1; refine (qao _ _ _ _ _ _ HRB.out.p).mono ?_; rintro e w2 ⟨rfl, hb2⟩; have HB2 : Hid (Below wb.heap.size wb w2) := qa0 HB1.out hb2; have a1 := (HVa.out.later HB2.out).c1; have b0 := (HVb.out.later HB2.out).c0; have a0 := (HVa.out.later HB2.out).c0; have b1 := (HVb.out.later HB2.out).c1; clear hb2)
  | (go_at_call 58; rw [← HW.out]; refine (qao _ _ _ _ _ _ HRA.out.p).mono ?_; rintro e w1 ⟨rfl, hb1⟩; have HB1 : Hid (Below wb.heap.size wb w1) := hb1; have b0 := (HVb.out.later hb1).c0; have b1 := (HVb.out.later hb1).c1; have b2 := (HVb.out.later hb1).c2; clear hb1)
  | (go_at_call 41; refine (zero_any _ ra cb n ra64 cb64 HRC.out.len).mono ?_; rintro e w3 ⟨gd, rfl, hr3, hg3, hb3⟩; have HR3 : Hid (RowAt w3 gd 5 n (fun _ => 0)) := hr3; have HB3 : Hid (Below wb.heap.size wb w3) := qa0 HB2.out hb3; have l2 := HB2.out.size; clear hr3 hb3))
 have HI0 : Hid (MInv w (w3.alloc (.cells #[.int .i64 (ra : Int), .int .i64 (cb : Int), .slice (some ⟨gd, 0, none⟩) n n] 24)) gd w3.heap.size ra ca ca cb na nb n ka kb a b (fun _ => 0)) := by
  have l0 := HVr.out.lt
  have l3 := HR3.out.lt
  exact ⟨(HVa.out.later HB3.out).later (qa1 _ _), (HVb.out.later HB3.out).later (qa1 _ _), (HVr.out.later HB3.out).later (qa1 _ _), Vr.new w3 _ _ _, HR3.out.later (qa1 _ _), qa0 (qa0 HB0.out HB3.out) (qa1 _ _), by omega, by omega⟩
 clear HW HVa HVb HVr HB0 HB1 HB2 HR3 HB3 a0 a1 b0 b1 b2
 go_loopw [7] (fun i wr => ∃ m : Nat, m ≤ ra ∧ i = .int .i64 (m : Int) ∧ MInv w wr gd w3.heap.size ra ca ca cb na nb n ka kb a b (mdf F G ca cb (m * cb) 0)) (fun i _ => ra - (intOf i).toNat)
 case atStart => exact ⟨0, by omega, rfl, HI0.out.congr (fun p _ => by rw [Nat.zero_mul, mdf_zero])⟩
 case round =>
  clear HI0
  obtain ⟨m, hm, rfl, I⟩ := hrel
  have HI : Hid (MInv w wr gd w3.heap.size ra ca ca cb na nb n ka kb a b (mdf F G ca cb (m * cb) 0)) := I
  have a0 := I.va.c0
  clear I
  by_cases hlt : m < ra
  ·go_wp2
   go_loopw [8] (fun j wi => ∃ q : Nat, q ≤ cb ∧ j = .int .i64 (q : Int) ∧ MInv w wi gd w3.heap.size ra ca ca cb na nb n ka kb a b (mdf F G ca cb (m * cb + q) 0)) (fun j _ => cb - (intOf j).toNat)
   case atStart => exact ⟨0, by omega, rfl, HI.out⟩
   case round =>
    clear HI a0
    obtain ⟨q, hq, rfl, I⟩ := hrel
    have HI : Hid (MInv w wr gd w3.heap.size ra ca ca cb na nb n ka kb a b (mdf F G ca cb (m * cb + q) 0)) := I
    have b1 := I.vb.c1
    clear I
    by_cases hlq : q < cb
    ·go_wp2
     go_loopw [9] (fun t wk => ∃ s : Nat, s ≤ ca ∧ t = .int .i64 (s : Int) ∧ MInv w wk gd w3.heap.size ra ca ca cb na nb n ka kb a b (mdf F G ca cb (m * cb + q) s)) (fun t _ => ca - (intOf t).toNat)
     case atStart => exact ⟨0, by omega, rfl, HI.out⟩
     case round =>
      clear HI b1
      obtain ⟨s, hs, rfl, I⟩ := hrel
      have HI : Hid (MInv w wr gd w3.heap.size ra ca ca cb na nb n ka kb a b (mdf F G ca cb (m * cb + q) s)) := I
      have a0 := I.va.c0
      have a1 := I.va.c1
      have a2 := I.va.c2
      by_cases hls : s < ca
      ·have b0 := I.vb.c0
       have b1 := I.vb.c1
       have b2 := I.vb.c2
       have m1 := I.vm.c1
       have m2 := I.vm.c2
       obtain ⟨p, HP⟩ : ∃ p, Hid (m * cb + q = p) := ⟨_, rfl⟩
       have hpn : p < n := by rw [← HP.out]; exact HRC.out.at hlt hlq
       have hd := I.data.cell p hpn
       have hf := I.data.free p
       obtain ⟨x, HX⟩ : ∃ x, Hid (prk F G ca cb s p = x) := ⟨_, rfl⟩
       rw [show mdf F G ca cb (m * cb + q) s p = x from by rw [HP.out, mdf_here, HX.out]] at hd
       have hx : x < 256 := by rw [← HX.out, ← HP.out]; exact prk_lt G HSa.out.1 HRA.out hlt hlq hs
       obtain ⟨y, HY⟩ : ∃ y, Hid (F (m * ca + s) = y) := ⟨_, rfl⟩
       obtain ⟨z, HZ⟩ : ∃ z, Hid (G (s * cb + q) = z) := ⟨_, rfl⟩
       have hy : y < 256 := by rw [← HY.out]; exact HSa.out.1 _ (HRA.out.at hlt hls)
       have hz : z < 256 := by rw [← HZ.out]; exact HSb.out.1 _ (HRB.out.at hls hlq)
       obtain ⟨v, HV⟩ : ∃ v, Hid (fm y z = v) := ⟨_, rfl⟩
       have hv : v < 256 := by rw [← HV.out]; exact qai _ _ hy
       have hxo : bits .xor .u8 (x : Int) (v : Int) = ((x ^^^ v : Nat) : Int) := u8_xor_nat _ _ hx hv
       have HNx : Hid (prk F G ca cb (s + 1) p = x ^^^ v) := by show _ = _; rw [← HP.out, prk_succ F G ca cb m q s hlq, HP.out, HX.out, HY.out, HZ.out, HV.out]
       have HMul : Hid (∀ w, Calls Tryz.prog 59 #[.int .u8 (y : Int), .int .u8 (z : Int)] w fun e w' => e = .returned (.int .u8 (v : Int)) ∧ w = w') := by rw [← HV.out]; exact fun w => qge y z w hy hz
       have e1 : ((m : Int) * (cb : Int)) = ((m * cb : Nat) : Int) := by simp
       have hmp : m * cb ≤ p := by rw [← HP.out]; omega
       have w1' : IntKind.i64.wrap ((m : Int) * (cb : Int)) = (m : Int) * (cb : Int) := by rw [e1, IntKind.wrap_i64]; omega
       have w2' : IntKind.i64.wrap ((m : Int) * (cb : Int) + (q : Int)) = (p : Int) := by rw [e1, IntKind.wrap_i64]; have := HP.out; omega
       have p0 : (0 : Int) ≤ (p : Int) := by omega
       have p1 : (p : Int) < (n : Int) := by omega
       have bel : Below wr.heap.size wr wr.drew := (Below.refl _ _).drew
       have HD : Hid ((fun w' => w'.cell? ⟨w3.heap.size, 1, none⟩ = some (.int .i64 (cb : Int)) ∧ w'.cell? ⟨w3.heap.size, 2, none⟩ = some (.slice (some ⟨gd, 0, none⟩) n n) ∧ w'.cell? ⟨w.heap.size, 0, none⟩ = some (.int .i64 (ra : Int)) ∧ w'.cell? ⟨w.heap.size, 1, none⟩ = some (.int .i64 (ca : Int)) ∧ w'.cell? ⟨w.heap.size, 2, none⟩ = some (.slice a na ka) ∧ w'.cell? ⟨w.heap.size + 1, 0, none⟩ = some (.int .i64 (ca : Int)) ∧ w'.cell? ⟨w.heap.size + 1, 1, none⟩ = some (.int .i64 (cb : Int)) ∧ w'.cell? ⟨w.heap.size + 1, 2, none⟩ = some (.slice b nb kb) ∧ w'.cell? ⟨gd, p, none⟩ = some (.int .u8 (x : Int)) ∧ w'.frozen? ⟨gd, p, none⟩ = false) wr.drew) := ⟨m1, m2, a0, a1, a2, b0, b1, b2, hd, hf⟩
       have HAa : Hid (∀ w', Below wr.heap.size wr w' → Calls Tryz.prog 42 #[.agg #[.int .i64 (ra : Int), .int .i64 (ca : Int), .slice a na ka], .int .i64 (m : Int), .int .i64 (s : Int)] w' fun e w'' => e = .returned (.int .u8 (y : Int)) ∧ Below w'.heap.size w' w'') := fun w' h' => qck w' _ ca m s na ka y a F (HSa.out.later (qa0 HI.out.below h')) (HRA.out.at hlt hls) la HY
       have HAb : Hid (∀ w', (Below wr.heap.size wr w') → Calls Tryz.prog 42 #[.agg #[.int .i64 (ca : Int), .int .i64 (cb : Int), .slice b nb kb], .int .i64 (s : Int), .int .i64 (q : Int)] w' fun e w'' => e = .returned (.int .u8 (z : Int)) ∧ Below w'.heap.size w' w'') := fun w' h' => qck w' _ cb s q nb kb z b G (HSb.out.later (qa0 HI.out.below h')) (HRB.out.at hls hlq) lb HZ
       have n6 : w3.heap.size ≠ gd := Ne.symm I.d6
       have n0 : w.heap.size ≠ gd := by have := I.dlow; omega
       have n1 : w.heap.size + 1 ≠ gd := by have := I.dlow; omega
       clear I e1 bel
       go_wp2
       refine qb8 (k := 21) (n := 21) (fun w' => w'.cell? ⟨w3.heap.size, 1, none⟩ = some (.int .i64 (cb : Int)) ∧ w'.cell? ⟨w3.heap.size, 2, none⟩ = some (.slice (some ⟨gd, 0, none⟩) n n) ∧ w'.cell? ⟨w.heap.size, 0, none⟩ = some (.int .i64 (ra : Int)) ∧ w'.cell? ⟨w.heap.size, 1, none⟩ = some (.int .i64 (ca : Int)) ∧ w'.cell? ⟨w.heap.size, 2, none⟩ = some (.slice a na ka) ∧ w'.cell? ⟨w.heap.size + 1, 0, none⟩ = some (.int .i64 (ca : Int)) ∧ w'.cell? ⟨w.heap.size + 1, 1, none⟩ = some (.int .i64 (cb : Int)) ∧ w'.cell? ⟨w.heap.size + 1, 2, none⟩ = some (.slice b nb kb) ∧ w'.cell? ⟨gd, p, none⟩ = some (.int .u8 (x : Int)) ∧ w'.frozen? ⟨gd, p, none⟩ = false) (by kernel_rfl) (by kernel_rfl) (by decide) (by rfl) ?_
       refine wtkq 0 ?v0 rfl (by kernel_rfl) (fun _ _ _ h => h) (by rfl) ?y0 HD.out ?z0
       case y0 => (intro w hSw; (try dsimp only at hSw); go_simp; try with_reducible rfl)
       try simp only [mz1, mz3, Act.put, mz4, mz5, mz6]
       refine wtkq 1 ?v1 rfl (by kernel_rfl) (fun _ _ _ h => h) (by rfl) ?y1 HD.out ?z1
       case y1 => (intro w hSw; (try dsimp only at hSw); go_simp; try with_reducible rfl)
       try simp only [mz1, mz2, mz3, Act.put, mz4, mz5, mz6]
       refine wtkq 2 ?v2 rfl (by kernel_rfl) (fun _ _ _ h => h) (by rfl) ?y2 HD.out ?z2
       case y2 => (intro w hSw; (try dsimp only at hSw); go_simp; try with_reducible rfl)
       try simp only [mz1, mz2, mz3, Act.put, mz4, mz5, mz6]
       refine wtkq 3 ?v3 rfl (by kernel_rfl) (fun _ _ _ h => h) (by rfl) ?y3 HD.out ?z3
       case y3 => (intro w hSw; (try dsimp only at hSw); go_simp; try with_reducible rfl)
       try simp only [mz1, mz2, mz3, Act.put, mz4, mz5, mz6]
       refine wtkq 4 ?v4 rfl (by kernel_rfl) (fun _ _ _ h => h) (by rfl) ?y4 HD.out ?z4
       case y4 => (intro w hSw; (try dsimp only at hSw); go_simp; try with_reducible rfl)
       try simp only [mz1, mz2, mz3, Act.put, mz4, mz5, mz6]
       refine wtkq 5 ?v5 rfl (by kernel_rfl) (fun _ _ _ h => h) (by rfl) ?y5 HD.out ?z5
       case y5 => (intro w hSw; (try dsimp only at hSw); go_simp; try with_reducible rfl)
       try simp only [mz1, mz2, mz3, Act.put, mz4, mz5, mz6]
       refine wtkq 6 ?v6 rfl (by kernel_rfl) (fun _ _ _ h => h) (by rfl) ?y6 HD.out ?z6
       case y6 => (intro w hSw; (try dsimp only at hSw); go_simp; try with_reducible rfl)
       try simp only [mz1, mz2, mz3, Act.put, mz4, mz5, mz6]
       refine wtkq 7 ?v7 rfl (by kernel_rfl) (fun _ _ _ h => h) (by rfl) ?y7 HD.out ?z7
       case y7 => (intro w hSw; (try dsimp only at hSw); go_simp; try with_reducible rfl)
       try simp only [mz1, mz2, mz3, Act.put, mz4, mz5, mz6]
       refine wtkq 8 ?v8 rfl (by kernel_rfl) (fun _ _ _ h => h) (by rfl) ?y8 HD.out ?z8
       case y8 => (intro w hSw; (try dsimp only at hSw); go_simp; try with_reducible rfl)
       try simp only [mz1, mz2, mz3, Act.put, mz4, mz5, mz6]
       refine wtkq 9 ?v9 rfl (by kernel_rfl) (fun _ _ _ h => h) (by rfl) ?y9 HD.out ?z9
       case y9 => (intro w hSw; (try dsimp only at hSw); go_simp; try with_reducible rfl)
       try simp only [mz1, mz2, mz3, Act.put, mz4, mz5, mz6]
       refine wtkq 10 ?v10 rfl (by kernel_rfl) (fun _ _ _ h => h) (by rfl) ?y10 HD.out ?z10
       case y10 => (intro w hSw; (try dsimp only at hSw); go_simp; try with_reducible rfl)
       try simp only [mz1, mz2, mz3, Act.put, mz4, mz5, mz6]
       refine wtkq 11 ?v11 rfl (by kernel_rfl) (fun _ _ _ h => h) (by rfl) ?y11 HD.out ?z11
       case y11 => (intro w hSw; (try dsimp only at hSw); go_simp; try with_reducible rfl)
       try simp only [mz1, mz2, mz3, Act.put, mz4, mz5, mz6]
       refine wtkq 12 ?v12 rfl (by kernel_rfl) (fun _ _ _ h => h) (by rfl) ?y12 HD.out ?z12
       case y12 => (intro w hSw; (try dsimp only at hSw); go_simp; try with_reducible rfl)
       try simp only [mz1, mz2, mz3, Act.put, mz4, mz5, mz6]
       refine wtkq 14 ?v14 rfl (by kernel_rfl) (fun _ _ _ h => h) (by rfl) ?y14 HD.out ?z14
       case y14 => (intro w hSw; (try dsimp only at hSw); go_simp; try with_reducible rfl)
       try simp only [mz1, mz2, mz3, Act.put, mz4, mz5, mz6]
       refine wtkq 15 ?v15 rfl (by kernel_rfl) (fun _ _ _ h => h) (by rfl) ?y15 HD.out ?z15
       case y15 => (intro w hSw; (try dsimp only at hSw); go_simp; try with_reducible rfl)
       try simp only [mz1, mz2, mz3, Act.put, mz4, mz5, mz6]
       refine wtkq 16 ?v16 rfl (by kernel_rfl) (fun _ _ _ h => h) (by rfl) ?y16 HD.out ?z16
       case y16 => (intro w hSw; (try dsimp only at hSw); go_simp; try with_reducible rfl)
       try simp only [mz1, mz2, mz3, Act.put, mz4, mz5, mz6]
       refine wpAnyH_ready (rs := [13]) (by kernel_rfl) (by simp) ?_
       refine AllReadyH.cons rfl (fun K hK => ?_) AllReadyH.nil
       go_simp
       refine (HAa.out wr.drew (Below.refl _ _).drew).mono ?_; rintro e w5 ⟨rfl, hbk⟩; have HD5 : Hid ((fun w' => w'.cell? ⟨w3.heap.size, 1, none⟩ = some (.int .i64 (cb : Int)) ∧ w'.cell? ⟨w3.heap.size, 2, none⟩ = some (.slice (some ⟨gd, 0, none⟩) n n) ∧ w'.cell? ⟨w.heap.size, 0, none⟩ = some (.int .i64 (ra : Int)) ∧ w'.cell? ⟨w.heap.size, 1, none⟩ = some (.int .i64 (ca : Int)) ∧ w'.cell? ⟨w.heap.size, 2, none⟩ = some (.slice a na ka) ∧ w'.cell? ⟨w.heap.size + 1, 0, none⟩ = some (.int .i64 (ca : Int)) ∧ w'.cell? ⟨w.heap.size + 1, 1, none⟩ = some (.int .i64 (cb : Int)) ∧ w'.cell? ⟨w.heap.size + 1, 2, none⟩ = some (.slice b nb kb) ∧ w'.cell? ⟨gd, p, none⟩ = some (.int .u8 (x : Int)) ∧ w'.frozen? ⟨gd, p, none⟩ = false) w5) := ⟨keepc hbk HD.out.1, keepc hbk HD.out.2.1, keepc hbk HD.out.2.2.1, keepc hbk HD.out.2.2.2.1, keepc hbk HD.out.2.2.2.2.1, keepc hbk HD.out.2.2.2.2.2.1, keepc hbk HD.out.2.2.2.2.2.2.1, keepc hbk HD.out.2.2.2.2.2.2.2.1, keepc hbk HD.out.2.2.2.2.2.2.2.2.1, keepf hbk HD.out.2.2.2.2.2.2.2.2.1 HD.out.2.2.2.2.2.2.2.2.2⟩; have HB5 : Hid (Below wr.heap.size wr w5) := qa0 (Below.refl _ _).drew hbk; clear hbk; dsimp only
       refine hK.out _ _ HD5.out (fun _ => ?_)
       clear hK K
       try simp only [mz1, mz2, mz3, Act.put, mz4, mz5, mz6]
       refine wpAnyH_ready (rs := [17]) (by kernel_rfl) (by simp) ?_
       refine AllReadyH.cons rfl (fun K hK => ?_) AllReadyH.nil
       go_simp
       refine (HAb.out _ HB5.out).mono ?_; rintro e w6 ⟨rfl, hbk⟩; have HD6 : Hid ((fun w' => w'.cell? ⟨w3.heap.size, 1, none⟩ = some (.int .i64 (cb : Int)) ∧ w'.cell? ⟨w3.heap.size, 2, none⟩ = some (.slice (some ⟨gd, 0, none⟩) n n) ∧ w'.cell? ⟨w.heap.size, 0, none⟩ = some (.int .i64 (ra : Int)) ∧ w'.cell? ⟨w.heap.size, 1, none⟩ = some (.int .i64 (ca : Int)) ∧ w'.cell? ⟨w.heap.size, 2, none⟩ = some (.slice a na ka) ∧ w'.cell? ⟨w.heap.size + 1, 0, none⟩ = some (.int .i64 (ca : Int)) ∧ w'.cell? ⟨w.heap.size + 1, 1, none⟩ = some (.int .i64 (cb : Int)) ∧ w'.cell? ⟨w.heap.size + 1, 2, none⟩ = some (.slice b nb kb) ∧ w'.cell? ⟨gd, p, none⟩ = some (.int .u8 (x : Int)) ∧ w'.frozen? ⟨gd, p, none⟩ = false) w6) := ⟨keepc hbk HD5.out.1, keepc hbk HD5.out.2.1, keepc hbk HD5.out.2.2.1, keepc hbk HD5.out.2.2.2.1, keepc hbk HD5.out.2.2.2.2.1, keepc hbk HD5.out.2.2.2.2.2.1, keepc hbk HD5.out.2.2.2.2.2.2.1, keepc hbk HD5.out.2.2.2.2.2.2.2.1, keepc hbk HD5.out.2.2.2.2.2.2.2.2.1, keepf hbk HD5.out.2.2.2.2.2.2.2.2.1 HD5.out.2.2.2.2.2.2.2.2.2⟩; have HB6 : Hid (Below wr.heap.size wr w6) := qa0 HB5.out hbk; have hd6 := HD6.out.2.2.2.2.2.2.2.2.1; have hf6 := HD6.out.2.2.2.2.2.2.2.2.2; clear hbk; dsimp only
       refine hK.out _ _ HD6.out (fun _ => ?_)
       clear hK K
       try simp only [mz1, mz2, mz3, Act.put, mz4, mz5, mz6]
       refine wpAnyH_ready (rs := [18]) (by kernel_rfl) (by simp) ?_
       refine AllReadyH.cons rfl (fun K hK => ?_) AllReadyH.nil
       go_simp
       refine (HMul.out _).mono ?_; rintro e w' ⟨rfl, rfl⟩; dsimp only
       refine hK.out _ _ HD6.out (fun _ => ?_)
       clear hK K
       try simp only [mz1, mz2, mz3, Act.put, mz4, mz5, mz6]
       refine wtkq 19 ?v19 rfl (by kernel_rfl) (fun _ _ _ h => h) (by rfl) ?y19 HD6.out ?z19
       case y19 => (intro w hSw; (try dsimp only at hSw); go_simp; try with_reducible rfl)
       try simp only [mz1, mz2, mz3, Act.put, mz4, mz5, mz6]
       refine wtkq 20 ?v20 rfl (by kernel_rfl) (fun _ _ _ h => h) (by rfl) ?y20 HD6.out ?z20
       case y20 => (intro w hSw; (try dsimp only at hSw); go_simp; try with_reducible rfl)
       try simp only [mz1, mz2, mz3, Act.put, mz4, mz5, mz6]
       refine wpAnyH_done (by kernel_rfl) ?_ _
       refine qdy rfl (fun K hK => ?_)
       go_simp
       refine hK.out _ _ ?_
       clear hK K
       try simp only [mz1, mz2, mz3, Act.put, mz4, mz5, mz6]
       go_wp2
       exact ⟨⟨s + 1, by omega, by go_num, ((HI.out.later HB6.out).set (q := p) (v := x ^^^ v)).congr (fun t _ => by rw [← HNx.out, ← HP.out, mdf_step])⟩, by simp [intOf]; omega⟩
      ·obtain rfl : s = ca := by omega
       clear I
       go_wp2
       exact ⟨⟨q + 1, by omega, by go_num, HI.out.congr (fun p _ => mdf_next F G s cb (m * cb + q) p)⟩, by simp [intOf]; omega⟩
    ·obtain rfl : q = cb := by omega
     go_wp2
     exact ⟨⟨m + 1, by omega, by go_num, HI.out.congr (fun p _ => by rw [Nat.add_mul, Nat.one_mul])⟩, by simp [intOf]; omega⟩
  ·obtain rfl : m = ra := by omega
   have c0 := HI.out.vm.c0
   have c1 := HI.out.vm.c1
   have c2 := HI.out.vm.c2
   have HVr : Hid (Vr wr (w.heap.size + 1 + 1) (.int .i64 0) (.int .i64 0) (.slice none 0 0)) := HI.out.vr
   go_wp2_with (refine qa4 rfl _ _ rfl (w.heap.size + 1 + 1) _ _ _ (.int .i64 (m : Int)) (.int .i64 (cb : Int)) (.slice (some ⟨gd, 0, none⟩) n n) rfl rfl HVr.out rfl rfl rfl ?_; intro w4 HV4 HG4)
   have d0 := HV4.out.c0
   have d1 := HV4.out.c1
   have d2 := HV4.out.c2
   have dl := HI.out.dlow
   refine bodyPost_ret (v := .tuple #[mv m cb (some ⟨gd, 0, none⟩) n n, .int .i64 0]) (by simp [results, Tryz.results24, go_sem, d0, d1, d2, mv]) rfl ?_
   exact ⟨gd, rfl, (HI.out.data.kept HG4.out (by omega)).congr (fun p hp => by unfold mdf; rw [if_pos (by rw [HRC.out.len]; exact hp)]), by omega, qa3 HI.out.below HG4.out (by omega)⟩
end Go.Proofs.YtmgfeepnkahkmaaGreat
