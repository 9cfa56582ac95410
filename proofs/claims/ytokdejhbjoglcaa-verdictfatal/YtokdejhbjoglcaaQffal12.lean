/-
  Contracts of the matrices' reference: Identity, Row, Same.
  Contracts of the matrices' reference: Row, Same.
  Words for the matrices' products.
  Contract of the matrices' reference: Transpose.
  Contract of the matrices' reference: Mul.
  Contracts of the matrices' reference: what fails in Transpose and Mul; Apply.
  Contract of the matrices' reference: Kron.
  Contracts of the matrices' reference: what fails in Kron; Same.
  Contract of the matrices' reference: Stack.
  Contracts of the matrices' reference: what fails in Stack; Same; Copy.
-/
import Derived.Test.YtokdejhbjoglcaaQffal00
import Derived.Test.YtokdejhbjoglcaaQffal11
import Derived.Test.YtokdejhbjoglcaaQffal04
import Derived.Test.YtokdejhbjoglcaaQffal07
import Derived.Deep.AppendLies
import Derived.Laws.AppendOwnNone
set_option maxRecDepth 100000
set_option maxHeartbeats 16000000
namespace Go.Proofs.Ytokdejhbjoglcaa
open Go.RowKit
/-- The identity's entries, the first k rows of it. -/
def idk (n k p : Nat) : Nat := if p % (n + 1) = 0 ∧ p / (n + 1) < k then 1 else 0
/-- The identity's entries. -/
def idf (n p : Nat) : Nat := if p % (n + 1) = 0 then 1 else 0
theorem idk_step (n k j : Nat) : (if j = k * n + k then 1 else idk n k j) = idk n (k + 1) j := by
 unfold idk
 have e : k * n + k = (n + 1) * k := by rw [Nat.mul_comm k n, Nat.add_mul, Nat.one_mul]
 by_cases h : j = k * n + k
 ·rw [if_pos h, h, e, if_pos ⟨Nat.mul_mod_right _ _, by rw [Nat.mul_div_cancel_left _ (by omega)]; omega⟩]
 ·rw [if_neg h]
  by_cases h0 : j % (n + 1) = 0
  ·have hk : j / (n + 1) ≠ k := fun e2 => h (by have := Nat.div_add_mod j (n + 1); rw [h0, e2] at this; rw [e]; omega)
   by_cases h1 : j / (n + 1) < k
   ·rw [if_pos ⟨h0, h1⟩, if_pos ⟨h0, by omega⟩]
   ·rw [if_neg (fun x => h1 x.2), if_neg (fun x => by have := x.2; omega)]
  ·rw [if_neg (fun x => h0 x.1), if_neg (fun x => h0 x.1)]
theorem idk_all (n j : Nat) (hj : j < n * n) : idk n n j = idf n j := by
 unfold idk idf
 have : j / (n + 1) < n := (Nat.div_lt_iff_lt_mul (by omega)).2 (Nat.lt_of_lt_of_le hj (Nat.mul_le_mul_left n (by omega)))
 by_cases h : j % (n + 1) = 0
 ·rw [if_pos ⟨h, this⟩, if_pos h]
 ·rw [if_neg (fun x => h x.1), if_neg h]
/-- The identity's entry (i, j). -/
theorem idf_at (n i j : Nat) (hi : i < n) (hj : j < n) : idf n (i * n + j) = if i = j then 1 else 0 := by
 unfold idf
 by_cases h : i = j
 ·subst h
  rw [if_pos rfl, if_pos]
  rw [show i * n + i = (n + 1) * i by rw [Nat.mul_comm i n, Nat.add_mul, Nat.one_mul]]
  exact Nat.mul_mod_right _ _
 ·rw [if_neg h, if_neg]
  intro h0
  apply h
  have e := Nat.div_add_mod (i * n + j) (n + 1)
  rw [h0, Nat.add_zero] at e
  obtain ⟨q, hq⟩ : ∃ q, (i * n + j) / (n + 1) = q := ⟨_, rfl⟩
  rw [hq, Nat.add_mul, Nat.one_mul] at e
  rcases Nat.lt_trichotomy q i with hl | he | hg
  ·obtain ⟨d, rfl⟩ : ∃ d, i = q + d + 1 := ⟨i - q - 1, by omega⟩
   have h4 : (q + d + 1) * n = n * q + n * d + n := by rw [Nat.add_mul, Nat.add_mul, Nat.one_mul, Nat.mul_comm q, Nat.mul_comm d]
   have h5 : q = n * d + n + j := by omega
   have h6 : 0 ≤ n * d := Nat.zero_le _
   omega
  ·subst he
   rw [Nat.mul_comm] at e
   omega
  ·obtain ⟨d, rfl⟩ : ∃ d, q = i + d + 1 := ⟨q - i - 1, by omega⟩
   have : n * (i + d + 1) = i * n + n * d + n := by rw [Nat.mul_add, Nat.mul_add, Nat.mul_one, Nat.mul_comm n i]
   omega
open Go.RowKit
/-- Numbers of a matrix that is right. -/
structure Rt (r c n : Nat) : Prop where
 r64 : r ≤ 64
 c64 : c ≤ 64
 len : r * c = n
theorem Rt.p {r c n : Nat} (h : Rt r c n) : RightP r c n := ⟨by omega, by have := h.r64; omega, by omega, by have := h.c64; omega, by rw [← h.len]; simp⟩
theorem Rt.le {r c n : Nat} (h : Rt r c n) : n ≤ 4096 := by rw [← h.len]; exact Nat.mul_le_mul h.r64 h.c64
theorem Rt.at {r c n i j : Nat} (h : Rt r c n) (hi : i < r) (hj : j < c) : i * c + j < n := by
 rw [← h.len]
 exact Nat.lt_of_lt_of_le (show i * c + j < (i + 1) * c by rw [Nat.add_mul, Nat.one_mul]; omega) (Nat.mul_le_mul_right c hi)
theorem qik (w : World) (r c n k i : Nat) (a : Option Addr) (F : Nat → Nat) (ha : Sl w a n F) (R : Rt r c n) (hi : i < r) :
  Calls Try.prog 39 #[mv r c a n k, .int .i64 (i : Int)] w fun e w' => ∃ v, e = .returned (.tuple #[v, .int .i64 0]) ∧ w'.ownsRow w.heap.size 5 1 v c (row c (fun j => F (i * c + j))).toList ∧ Below w.heap.size w w' := by
 obtain ⟨i0, hi0, hz0, hz1, hz2⟩ := info_parts qdx
 have hc := R.c64
 have hn := R.le
 have hr := R.r64
 have HRt : Hid (Rt r c n) := R
 obtain ⟨p, HP⟩ : ∃ p : Nat → Nat, Hid ((fun j => F (i * c + j)) = p) := ⟨_, rfl⟩
 rw [HP.out]
 obtain ⟨wb, HW⟩ : ∃ wb, Hid (wb = w.alloc (.cells #[.int .i64 (r : Int), .int .i64 (c : Int), .slice a n k] 24)) := ⟨_, rfl⟩
 have HV0 : Hid (Vr wb w.heap.size (.int .i64 (r : Int)) (.int .i64 (c : Int)) (.slice a n k)) := by rw [HW.out]; exact Vr.new w _ _ _
 have HS0 : Hid (Sl wb a n F) := by rw [HW.out]; exact ha.later (qa1 _ _)
 have HB0 : Hid (Below w.heap.size w wb) := by rw [HW.out]; exact qa1 _ _
 have g1 : decide ((i : Int) < 0) = false := by simp
 have g2 : decide (r ≤ i) = false := by simp; omega
 clear ha R
 go_enter Try.func39, Try.ntmps39
 go_wp2_with (go_at_call 37; rw [← HW.out]; refine (qba _ _ _ _ _ _ HRt.out.p).mono ?_; rintro e w1 ⟨rfl, hb1⟩; have HV1 : Hid (Vr w1 w.heap.size (.int .i64 (r : Int)) (.int .i64 (c : Int)) (.slice a n k)) := HV0.out.later hb1; have HS1 : Hid (Sl w1 a n F) := HS0.out.later hb1; have HB1 : Hid (Below w.heap.size w w1) := qa0 HB0.out hb1; have vc0 := HV1.out.c0; clear hb1)
 clear HW HV0 HS0 HB0 vc0
 go_loopw [6, 7] (fun v j wr => ∃ m : Nat, m ≤ c ∧ j = .int .i64 (m : Int) ∧ wr.ownsRow w1.heap.size 5 1 v m (row m p).toList ∧ Vr wr w.heap.size (.int .i64 (r : Int)) (.int .i64 (c : Int)) (.slice a n k) ∧ Below w1.heap.size w1 wr) (fun _ j _ => c - (intOf j).toNat)
 case atStart => exact ⟨0, by omega, rfl, by rw [qbr]; exact World.ownsRow_nil _ _ _ _, HV1.out, Below.refl _ _⟩
 case round =>
  obtain ⟨m, hm, rfl, hown, hv, hbr⟩ := hrel
  have c0 := hv.c0
  have c1 := hv.c1
  have c2 := hv.c2
  have HO : Hid (wr.ownsRow w1.heap.size 5 1 u6 m (row m p).toList) := hown
  have HB : Hid (Below w1.heap.size w1 wr) := hbr
  have HV : Hid (Vr wr w.heap.size (.int .i64 (r : Int)) (.int .i64 (c : Int)) (.slice a n k)) := hv
  by_cases hlt : m < c
  ·have HS : Hid (Sl wr a n F) := HS1.out.later hbr
   obtain ⟨x, HX⟩ : ∃ x, Hid (F (i * c + m) = x) := ⟨_, rfl⟩
   have HXp : Hid (p m = x) := by show _ = _; rw [← HX.out, ← HP.out]
   have hsz := hbr.size
   have vlt := HV1.out.lt
   have hml : m + 1 ≤ maxLen := by unfold maxLen; omega
   clear hown hbr hv
   go_wp2_with (first
    | (go_at_call 41; refine (qc9 _ _ c i m n k x a F HS.out (HRt.out.at hi hlt) hn HX).mono ?_; rintro e w5 ⟨rfl, hb5⟩; have HO5 : Hid (w5.ownsRow w1.heap.size 5 1 u6 m (row m p).toList) := HO.out.kept (qa8.mpr hb5) (by cases hv : u6.ownBlock <;> simp); have HB5 : Hid (Below w1.heap.size w1 w5) := qa0 HB.out hb5; have HV5 : Hid (Vr w5 w.heap.size (.int .i64 (r : Int)) (.int .i64 (c : Int)) (.slice a n k)) := HV.out.later hb5; have hsz5 := HB5.out.size; clear hb5)
    | (at_builtin; refine wpList_append_own _ rfl _ _ 22 rfl w1.heap.size 5 i0 (.int .u8 0) 1 1 Try.underlying22 hi0 hz0 hz1 hz2 rfl (by decide) _ m _ rfl (HO5.out.alloc _) ⟨w5.heap.size, 0, none⟩ 1 1 [.int .u8 (x : Int)] rfl rfl (qif _ _ _) (one_one _) hml (by omega) (by simp; omega) ?_; intro v' w3 hown' hgrow' _; have HO3 : Hid (w3.ownsRow w1.heap.size 5 1 v' (m + 1) ((row m p).toList ++ [.int .u8 (x : Int)])) := hown'; have HB3 : Hid (Below w1.heap.size w1 w3) := grow_step HB5.out HO5.out hgrow' rfl; have HV3 : Hid (Vr w3 w.heap.size (.int .i64 (r : Int)) (.int .i64 (c : Int)) (.slice a n k)) := (HV1.out).later HB3.out; clear hown' hgrow'))
   exact ⟨⟨m + 1, by omega, by go_num, by rw [← qg9, HXp.out]; exact HO3.out, HV3.out, HB3.out⟩, by simp [intOf]; omega⟩
  ·obtain rfl : m = c := by omega
   clear hown hbr hv
   go_wp2
   go_ret2
   have l1 := HB1.out.size
   refine ⟨_, rfl, ?_, qa0 HB1.out HB.out⟩
   have := HO.out
   refine ⟨this.1, ?_⟩
   rcases this.2 with h' | ⟨g, cap, cur, e, hb, rr⟩
   ·exact .inl h'
   ·exact .inr ⟨g, cap, cur, e, by omega, rr⟩
open Go.RowKit
/-- The sum of the first k products of row p / cb and column p % cb. -/
def prk (F G : Nat → Nat) (ca cb k p : Nat) : Nat := xs (fun t => fm (F (p / cb * ca + t)) (G (t * cb + p % cb))) k
theorem keepc {w w' : World} {b o : Nat} {v : Value} (hb : Below w.heap.size w w') (h : w.cell? ⟨b, o, none⟩ = some v) : w'.cell? ⟨b, o, none⟩ = some v := by rw [hb.cell (p := ⟨b, o, none⟩) (qau h)]; exact h
theorem keeps {w : World} {b o g p : Nat} {v x : Value} (hne : b ≠ g) (h : w.cell? ⟨b, o, none⟩ = some x) : (w.setCell ⟨g, p, none⟩ v).cell? ⟨b, o, none⟩ = some x := (qa2 w g p v).cell h (by intro e; apply hne; simpa using e)
/-- What the loops of a product keep. -/
structure MInv (w wr : World) (gd g6 ra ca rb cb na nb n ka kb : Nat) (a b : Option Addr) (fn : Nat → Nat) : Prop where
 va : Vr wr w.heap.size (.int .i64 (ra : Int)) (.int .i64 (ca : Int)) (.slice a na ka)
 vb : Vr wr (w.heap.size + 1) (.int .i64 (rb : Int)) (.int .i64 (cb : Int)) (.slice b nb kb)
 vr : Vr wr (w.heap.size + 1 + 1) (.int .i64 0) (.int .i64 0) (.slice none 0 0)
 vm : Vr wr g6 (.int .i64 (ra : Int)) (.int .i64 (cb : Int)) (.slice (some ⟨gd, 0, none⟩) n n)
 data : RowAt wr gd 5 n fn
 below : Below w.heap.size w wr
 d6 : gd ≠ g6
 dlow : w.heap.size + 1 + 1 < gd
theorem MInv.congr {w wr : World} {gd g6 ra ca rb cb na nb n ka kb : Nat} {a b : Option Addr} {fn fn' : Nat → Nat} (I : MInv w wr gd g6 ra ca rb cb na nb n ka kb a b fn) (e : ∀ p, p < n → fn p = fn' p) : MInv w wr gd g6 ra ca rb cb na nb n ka kb a b fn' :=
 ⟨I.va, I.vb, I.vr, I.vm, I.data.congr e, I.below, I.d6, I.dlow⟩
theorem MInv.later {w wr w' : World} {gd g6 ra ca rb cb na nb n ka kb : Nat} {a b : Option Addr} {fn : Nat → Nat} (I : MInv w wr gd g6 ra ca rb cb na nb n ka kb a b fn) (hb : Below wr.heap.size wr w') : MInv w w' gd g6 ra ca rb cb na nb n ka kb a b fn :=
 ⟨I.va.later hb, I.vb.later hb, I.vr.later hb, I.vm.later hb, I.data.later hb, qa0 I.below hb, I.d6, I.dlow⟩
theorem MInv.set {w wr : World} {gd g6 ra ca rb cb na nb n ka kb q v : Nat} {a b : Option Addr} {fn : Nat → Nat} (I : MInv w wr gd g6 ra ca rb cb na nb n ka kb a b fn) : MInv w (wr.setCell ⟨gd, q, none⟩ (.int .u8 (v : Int))) gd g6 ra ca rb cb na nb n ka kb a b (fun p => if p = q then v else fn p) :=
 have d := I.dlow
 ⟨I.va.kept (qa2 _ _ _ _) (by omega), I.vb.kept (qa2 _ _ _ _) (by omega), I.vr.kept (qa2 _ _ _ _) (by omega), I.vm.kept (qa2 _ _ _ _) (Ne.symm I.d6), I.data.set q v, I.below.setCell (by show w.heap.size ≤ gd; omega) _, I.d6, I.dlow⟩
open Go.RowKit
/-- The entries transposed: r rows and c columns become c rows and r columns. -/
def trf (F : Nat → Nat) (r c p : Nat) : Nat := F (p % r * c + p / r)
theorem qin (F : Nat → Nat) (r c i j : Nat) (hi : i < r) : trf F r c (j * r + i) = F (i * c + j) := by
 unfold trf
 rw [Nat.mul_comm j r, Nat.mul_add_mod, Nat.mod_eq_of_lt hi, Nat.mul_add_div (by omega), Nat.div_eq_of_lt hi, Nat.add_zero]
theorem keepg {w w' : World} {b o : Nat} {x : Value} {row : Option Nat} (hg : w.grownBy w' row) (h : w.cell? ⟨b, o, none⟩ = some x) (hne : row ≠ some b) : w'.cell? ⟨b, o, none⟩ = some x := hg.cell h (fun e => hne e.symm)
theorem keepgf {w w' : World} {b o : Nat} {x : Value} {row : Option Nat} (hg : w.grownBy w' row) (hc : w.cell? ⟨b, o, none⟩ = some x) (h : w.frozen? ⟨b, o, none⟩ = false) (hne : row ≠ some b) : w'.frozen? ⟨b, o, none⟩ = false := by
 unfold World.frozen? at *
 rw [hg.block b (qau hc) (fun e => hne e.symm)]; exact h
theorem Vr.grown {w w' : World} {b : Nat} {x y z : Value} {row : Option Nat} (h : Vr w b x y z) (hg : w.grownBy w' row) (hne : row ≠ some b) : Vr w' b x y z := by unfold Vr; rw [hg.block b h.lt (fun e => hne e.symm)]; exact h
theorem qca {w : World} {base : Nat} {v : Value} {n : Nat} {ls : List Value} (h : w.ownsRow base 5 1 v n ls) : ∃ s d, v = .slice s n d ∧ n ≤ d ∧ True := by
 rcases h.2 with ⟨e, h0⟩ | ⟨g, cap, cur, e, _, _, hc, _⟩
 ·subst h0; exact ⟨none, 0, e, Nat.le_refl _, trivial⟩
 ·exact ⟨_, cap, e, hc, trivial⟩
open Go.RowKit
/-- Three boxes: two arguments and a result. -/
structure Box3 (w wb : World) (r c r' c' : Int) (n k m d : Nat) (a b : Option Addr) : Prop where
 va : Vr wb w.heap.size (.int .i64 r) (.int .i64 c) (.slice a n k)
 vb : Vr wb (w.heap.size + 1) (.int .i64 r') (.int .i64 c') (.slice b m d)
 vr : Vr wb (w.heap.size + 1 + 1) (.int .i64 0) (.int .i64 0) (.slice none 0 0)
 below : Below w.heap.size w wb
theorem box3 (w : World) (r c r' c' : Int) (n k m d : Nat) (a b : Option Addr) : Box3 w (((w.alloc (.cells #[.int .i64 r, .int .i64 c, .slice a n k] 24)).alloc (.cells #[.int .i64 r', .int .i64 c', .slice b m d] 24)).alloc (.cells #[.int .i64 0, .int .i64 0, .slice none 0 0] 24)) r c r' c' n k m d a b := by
 refine ⟨((Vr.new w _ _ _).later (qa1 _ _)).later (qa1 _ _), ?_, ?_, qa0 (qa0 (qa1 _ _) (qa1 _ _)) (qa1 _ _)⟩
 ·have := (Vr.new (w.alloc (.cells #[.int .i64 r, .int .i64 c, .slice a n k] 24)) (.int .i64 r') (.int .i64 c') (.slice b m d)).later (qa1 _ (.cells #[.int .i64 0, .int .i64 0, .slice none 0 0] 24))
  simpa using this
 ·have := Vr.new ((w.alloc (.cells #[.int .i64 r, .int .i64 c, .slice a n k] 24)).alloc (.cells #[.int .i64 r', .int .i64 c', .slice b m d] 24)) (.int .i64 0) (.int .i64 0) (.slice none 0 0)
  simpa using this
open Go.RowKit
theorem qac {ops : Array Oper} {op : Oper} {a : Act} {w : World} {K : Act → World → Prop} {Q : Exit → Act → World → Prop} (hgd : op.guard = none) (p q : Operand) (ho : op.op = .store 24 p q)
  (b : Nat) (x y z x' y' z' : Value) (hp : a.eval p = .pointer (some ⟨b, 0, none⟩)) (hq : a.eval q = .agg #[x', y', z']) (hv : Vr w b x y z) (h0 : x'.oneCell' = true) (h1 : y'.oneCell' = true) (h2 : z'.oneCell' = true)
  (h : ∀ w', Hid (Vr w' b x' y' z') → Hid (w.grownBy w' (some b)) → K (a.put op.dst undef) w') : if Region.wanted op (yielded ops a.tmps) = true then Oper.wp Try.prog op a w K Q else K (a.put op.dst undef) w := by
 have hw : Region.wanted op (yielded ops a.tmps) = true := by simp [Region.wanted, hgd]
 rw [if_pos hw]
 exact wp_store_mid 24 p q ho b 0 #[x', y', z'] hp hq hv.there size24 (by simp [h0, h1, h2]) (h _ (((hv.set0 x').set1 y').set2 z') (qay (qay (qa2 _ _ _ _) (qa2 _ _ _ _)) (qa2 _ _ _ _)))
/-- One list behind the other. -/
def stf (F G : Nat → Nat) (m p : Nat) : Nat := if p < m then F p else G (p - m)
theorem qio (F G : Nat → Nat) (m k : Nat) : (row m F).toList ++ (row k G).toList = (row (m + k) (stf F G m)).toList := by
 apply List.ext_getElem?
 intro i
 have hl : (row m F).toList.length = m := by simp [qa4]
 by_cases h1 : i < m
 ·rw [List.getElem?_append_left (by omega), Array.getElem?_toList, Array.getElem?_toList, qax m F i h1, qax (m + k) _ i (by omega)]
  unfold stf; rw [if_pos h1]
 ·rw [List.getElem?_append_right (by omega), hl, Array.getElem?_toList, Array.getElem?_toList]
  by_cases h2 : i < m + k
  ·rw [qax k G (i - m) (by omega), qax (m + k) _ i h2]
   unfold stf; rw [if_neg h1]
  ·rw [Array.getElem?_eq_none (by simp [qa4]; omega), Array.getElem?_eq_none (by simp [qa4]; omega)]
theorem qcw {ops : Array Oper} {op : Oper} {a : Act} {w : World} {K : Act → World → Prop} {Q : Exit → Act → World → Prop} (hgd : op.guard = none) (s x : Operand) (ho : op.op = .call { callee := .builtin .append, args := #[s, x], argTypes := #[22, 22] })
  (base n : Nat) (v : Value) (ls : List Value) (hs : a.eval s = v) (hown : w.ownsRow base 5 1 v n ls) (b : Option Addr) (m c : Nat) (G : Nat → Nat) (hx : a.eval x = .slice b m c) (hb : Sl w b m G) (h0 : b = none → m = 0 ∧ c = 0) (h63 : n + m ≤ 140737488351232) (hbase : base ≤ w.heap.size)
  (h : ∀ v' w', w'.ownsRow base 5 1 v' (n + m) (ls ++ (row m G).toList) → w.grownBy w' v.ownBlock → K (a.put op.dst v') w') : if Region.wanted op (yielded ops a.tmps) = true then Oper.wp Try.prog op a w K Q else K (a.put op.dst undef) w := by
 obtain ⟨i0, hi, hz0, hz1, hz2⟩ := info_parts qdx
 have hw : Region.wanted op (yielded ops a.tmps) = true := by simp [Region.wanted, hgd]
 rw [if_pos hw]
 cases b with
 | none =>
  obtain ⟨rfl, rfl⟩ := h0 rfl
  have hrun := run_append_owned_none (P := Try.prog) (w := w) base 22 op.type 5 i0 1 Try.underlying22 hi v n ls hown
  unfold Oper.wp
  simp [execOp, ho, resolve, invoke, builtin, hs, hx, hrun, Result.andThen]
  exact h v w (by rw [qbr, List.append_nil]; exact hown) ⟨rfl, rfl, rfl, Nat.le_refl _, fun _ _ _ => rfl⟩
 | some ad =>
  exact wp_append_own w s x 22 ho base 5 i0 (.int .u8 0) 1 1 Try.underlying22 hi hz0 hz1 hz2 rfl (by decide) v n ls hs hown ad m c (row m G).toList hx (by simp [qa4]) (qaz hb (Below.refl _ _)) (qb0 m G) (by unfold maxLen; omega) (by omega) hbase (fun v' w' h1 h2 _ => h v' w' h1 h2)
end Go.Proofs.Ytokdejhbjoglcaa
