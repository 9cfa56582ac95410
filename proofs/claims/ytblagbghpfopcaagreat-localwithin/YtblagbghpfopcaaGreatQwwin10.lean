/-
  Contracts of the matrices' reference: Identity, Row, Same.
  Contracts of the matrices' reference: Row, Same.
  Words for the matrices' products.
  Contract of the matrices' reference: Transpose.
  Contract of the matrices' reference: Mul.
  Contracts of the matrices' reference: what fails in Transpose and Mul; Apply.
  Contract of the matrices' reference: Kron.
  Contracts of the matrices' reference: what fails in Kron; Same.
  Contract of the matrices' reference: Stack.
  Contracts of the matrices' reference: what fails in Stack; Same; Copy.
  Contract of the matrices' reference: Pick.
  Contracts of the matrices' reference: what fails in Pick.
  Contracts of the matrices' reference: Of.
  Contracts of the matrices' reference: Of without rows; what fails in Of.
-/
import Derived.Test.YtblagbghpfopcaaGreatQwwin00
import Derived.Test.YtblagbghpfopcaaGreatQwwin09
import Derived.Test.YtblagbghpfopcaaGreatQwwin06
import Derived.Test.YtblagbghpfopcaaGreatQwwin08
import Derived.Deep.AppendLies
import Derived.Laws.AppendOwnNone
set_option maxRecDepth 100000
set_option maxHeartbeats 16000000
namespace Go.Proofs.YtblagbghpfopcaaGreat
open Go.RowKit
/-- Numbers of a matrix that is right. -/
structure Rt (r c n : Nat) : Prop where
 r64 : r ≤ 64
 c64 : c ≤ 64
 len : r * c = n
theorem Rt.p {r c n : Nat} (h : Rt r c n) : RightP r c n := ⟨by omega, by have := h.r64; omega, by omega, by have := h.c64; omega, by rw [← h.len]; simp⟩
theorem Rt.le {r c n : Nat} (h : Rt r c n) : n ≤ 4096 := by rw [← h.len]; exact Nat.mul_le_mul h.r64 h.c64
theorem Rt.at {r c n i j : Nat} (h : Rt r c n) (hi : i < r) (hj : j < c) : i * c + j < n := by
 rw [← h.len]
 exact Nat.lt_of_lt_of_le (show i * c + j < (i + 1) * c by rw [Nat.add_mul, Nat.one_mul]; omega) (Nat.mul_le_mul_right c hi)
theorem right_rt {r c : Int} {n : Nat} (h : RightP r c n) : ∃ r' c' : Nat, r = r' ∧ c = c' ∧ Rt r' c' n := by
 obtain ⟨h1, h2, h3, h4, h5⟩ := h
 obtain ⟨r', rfl⟩ := Int.eq_ofNat_of_zero_le h1
 obtain ⟨c', rfl⟩ := Int.eq_ofNat_of_zero_le h3
 exact ⟨r', c', rfl, rfl, by omega, by omega, by rw [← Int.natCast_mul] at h5; omega⟩
theorem ql4 (w : World) (r c n k i : Nat) (a : Option Addr) (F : Nat → Nat) (ha : Sl w a n F) (R : Rt r c n) (hi : i < r) :
  Calls Tryz.prog 38 #[mv r c a n k, .int .i64 (i : Int)] w fun e w' => ∃ v, e = .returned (.tuple #[v, .int .i64 0]) ∧ w'.ownsRow w.heap.size 5 1 v c (row c (fun j => F (i * c + j))).toList ∧ Below w.heap.size w w' := by
 obtain ⟨i0, hi0, hz0, hz1, hz2⟩ := info_parts qee
 have hc := R.c64
 have hn := R.le
 have hr := R.r64
 have HRt : Hid (Rt r c n) := R
 obtain ⟨p, HP⟩ : ∃ p : Nat → Nat, Hid ((fun j => F (i * c + j)) = p) := ⟨_, rfl⟩
 rw [HP.out]
 obtain ⟨wb, HW⟩ : ∃ wb, Hid (wb = w.alloc (.cells #[.int .i64 (r : Int), .int .i64 (c : Int), .slice a n k] 24)) := ⟨_, rfl⟩
 have HV0 : Hid (Vr wb w.heap.size (.int .i64 (r : Int)) (.int .i64 (c : Int)) (.slice a n k)) := by rw [HW.out]; exact Vr.new w _ _ _
 have HS0 : Hid (Sl wb a n F) := by rw [HW.out]; exact ha.later (qa1 _ _)
 have HB0 : Hid (Below w.heap.size w wb) := by rw [HW.out]; exact qa1 _ _
 have g1 : decide ((i : Int) < 0) = false := by simp
 have g2 : decide (r ≤ i) = false := by simp; omega
 clear ha R
 go_enter Tryz.func38, Tryz.ntmps38
 go_wp2_with (go_at_call 68; rw [← HW.out]; refine (qbb _ _ _ _ _ _ HRt.out.p).mono ?_; rintro e w1 ⟨rfl, hb1⟩; have HV1 : Hid (Vr w1 w.heap.size (.int .i64 (r : Int)) (.int .i64 (c : Int)) (.slice a n k)) := HV0.out.later hb1; have HS1 : Hid (Sl w1 a n F) := HS0.out.later hb1; have HB1 : Hid (Below w.heap.size w w1) := qa0 HB0.out hb1; have vc0 := HV1.out.c0; clear hb1)
 clear HW HV0 HS0 HB0 vc0
 go_loopw [6, 7] (fun v j wr => ∃ m : Nat, m ≤ c ∧ j = .int .i64 (m : Int) ∧ wr.ownsRow w1.heap.size 5 1 v m (row m p).toList ∧ Vr wr w.heap.size (.int .i64 (r : Int)) (.int .i64 (c : Int)) (.slice a n k) ∧ Below w1.heap.size w1 wr) (fun _ j _ => c - (intOf j).toNat)
 case atStart => exact ⟨0, by omega, rfl, by rw [qbn]; exact World.ownsRow_nil _ _ _ _, HV1.out, Below.refl _ _⟩
 case round =>
  obtain ⟨m, hm, rfl, hown, hv, hbr⟩ := hrel
  have c0 := hv.c0
  have c1 := hv.c1
  have c2 := hv.c2
  have HO : Hid (wr.ownsRow w1.heap.size 5 1 u6 m (row m p).toList) := hown
  have HB : Hid (Below w1.heap.size w1 wr) := hbr
  have HV : Hid (Vr wr w.heap.size (.int .i64 (r : Int)) (.int .i64 (c : Int)) (.slice a n k)) := hv
  by_cases hlt : m < c
  ·have HS : Hid (Sl wr a n F) := HS1.out.later hbr
   obtain ⟨x, HX⟩ : ∃ x, Hid (F (i * c + m) = x) := ⟨_, rfl⟩
   have HXp : Hid (p m = x) := by show _ = _; rw [← HX.out, ← HP.out]
   have hsz := hbr.size
   have vlt := HV1.out.lt
   have hml : m + 1 ≤ maxLen := by unfold maxLen; omega
   clear hown hbr hv
   go_wp2_with (first
    | (go_at_call 69; refine (qef _ _ c i m n k x a F HS.out (HRt.out.at hi hlt) hn HX).mono ?_; rintro e w5 ⟨rfl, hb5⟩; have HO5 : Hid (w5.ownsRow w1.heap.size 5 1 u6 m (row m p).toList) := HO.out.kept (qa8.mpr hb5) (by cases hv : u6.ownBlock <;> simp); have HB5 : Hid (Below w1.heap.size w1 w5) := qa0 HB.out hb5; have HV5 : Hid (Vr w5 w.heap.size (.int .i64 (r : Int)) (.int .i64 (c : Int)) (.slice a n k)) := HV.out.later hb5; have hsz5 := HB5.out.size; clear hb5)
    | (at_builtin; refine wpList_append_own _ rfl _ _ 22 rfl w1.heap.size 5 i0 (.int .u8 0) 1 1 Tryz.underlying22 hi0 hz0 hz1 hz2 rfl (by decide) _ m _ rfl (HO5.out.alloc _) ⟨w5.heap.size, 0, none⟩ 1 1 [.int .u8 (x : Int)] rfl rfl (qkz _ _ _) (one_one _) hml (by omega) (by simp; omega) ?_; intro v' w3 hown' hgrow' _; have HO3 : Hid (w3.ownsRow w1.heap.size 5 1 v' (m + 1) ((row m p).toList ++ [.int .u8 (x : Int)])) := hown'; have HB3 : Hid (Below w1.heap.size w1 w3) := grow_step HB5.out HO5.out hgrow' rfl; have HV3 : Hid (Vr w3 w.heap.size (.int .i64 (r : Int)) (.int .i64 (c : Int)) (.slice a n k)) := (HV1.out).later HB3.out; clear hown' hgrow'))
   exact ⟨⟨m + 1, by omega, by go_num, by rw [← qi8, HXp.out]; exact HO3.out, HV3.out, HB3.out⟩, by simp [intOf]; omega⟩
  ·obtain rfl : m = c := by omega
   clear hown hbr hv
   go_wp2
   go_ret2
   have l1 := HB1.out.size
   refine ⟨_, rfl, ?_, qa0 HB1.out HB.out⟩
   have := HO.out
   refine ⟨this.1, ?_⟩
   rcases this.2 with h' | ⟨g, cap, cur, e, hb, rr⟩
   ·exact .inl h'
   ·exact .inr ⟨g, cap, cur, e, by omega, rr⟩
open Go.RowKit
theorem keepc {w w' : World} {b o : Nat} {v : Value} (hb : Below w.heap.size w w') (h : w.cell? ⟨b, o, none⟩ = some v) : w'.cell? ⟨b, o, none⟩ = some v := by rw [hb.cell (p := ⟨b, o, none⟩) (qas h)]; exact h
theorem keeps {w : World} {b o g p : Nat} {v x : Value} (hne : b ≠ g) (h : w.cell? ⟨b, o, none⟩ = some x) : (w.setCell ⟨g, p, none⟩ v).cell? ⟨b, o, none⟩ = some x := (qa3 w g p v).cell h (by intro e; apply hne; simpa using e)
open Go.RowKit
/-- The entries transposed: r rows and c columns become c rows and r columns. -/
def trf (F : Nat → Nat) (r c p : Nat) : Nat := F (p % r * c + p / r)
theorem qf8 (F : Nat → Nat) (r c i j : Nat) (hi : i < r) : trf F r c (j * r + i) = F (i * c + j) := by
 unfold trf
 rw [Nat.mul_comm j r, Nat.mul_add_mod, Nat.mod_eq_of_lt hi, Nat.mul_add_div (by omega), Nat.div_eq_of_lt hi, Nat.add_zero]
theorem keepg {w w' : World} {b o : Nat} {x : Value} {row : Option Nat} (hg : w.grownBy w' row) (h : w.cell? ⟨b, o, none⟩ = some x) (hne : row ≠ some b) : w'.cell? ⟨b, o, none⟩ = some x := hg.cell h (fun e => hne e.symm)
theorem keepgf {w w' : World} {b o : Nat} {x : Value} {row : Option Nat} (hg : w.grownBy w' row) (hc : w.cell? ⟨b, o, none⟩ = some x) (h : w.frozen? ⟨b, o, none⟩ = false) (hne : row ≠ some b) : w'.frozen? ⟨b, o, none⟩ = false := by
 unfold World.frozen? at *
 rw [hg.block b (qas hc) (fun e => hne e.symm)]; exact h
theorem Vr.grown {w w' : World} {b : Nat} {x y z : Value} {row : Option Nat} (h : Vr w b x y z) (hg : w.grownBy w' row) (hne : row ≠ some b) : Vr w' b x y z := by unfold Vr; rw [hg.block b h.lt (fun e => hne e.symm)]; exact h
theorem qeg {w : World} {base : Nat} {v : Value} {n : Nat} {ls : List Value} (h : w.ownsRow base 5 1 v n ls) : ∃ s d, v = .slice s n d ∧ n ≤ d ∧ True := by
 rcases h.2 with ⟨e, h0⟩ | ⟨g, cap, cur, e, _, _, hc, _⟩
 ·subst h0; exact ⟨none, 0, e, Nat.le_refl _, trivial⟩
 ·exact ⟨_, cap, e, hc, trivial⟩
open Go.RowKit
theorem qaq {ops : Array Oper} {op : Oper} {a : Act} {w : World} {K : Act → World → Prop} {Q : Exit → Act → World → Prop} (hgd : op.guard = none) (p q : Operand) (ho : op.op = .store 24 p q)
  (b : Nat) (x y z x' y' z' : Value) (hp : a.eval p = .pointer (some ⟨b, 0, none⟩)) (hq : a.eval q = .agg #[x', y', z']) (hv : Vr w b x y z) (h0 : x'.oneCell' = true) (h1 : y'.oneCell' = true) (h2 : z'.oneCell' = true)
  (h : ∀ w', Hid (Vr w' b x' y' z') → Hid (w.grownBy w' (some b)) → K (a.put op.dst undef) w') : if Region.wanted op (yielded ops a.tmps) = true then Oper.wp Tryz.prog op a w K Q else K (a.put op.dst undef) w := by
 have hw : Region.wanted op (yielded ops a.tmps) = true := by simp [Region.wanted, hgd]
 rw [if_pos hw]
 exact wp_store_mid 24 p q ho b 0 #[x', y', z'] hp hq hv.there size24 (by simp [h0, h1, h2]) (h _ (((hv.set0 x').set1 y').set2 z') (qba (qba (qa3 _ _ _ _) (qa3 _ _ _ _)) (qa3 _ _ _ _)))
/-- One list behind the other. -/
def stf (F G : Nat → Nat) (m p : Nat) : Nat := if p < m then F p else G (p - m)
theorem row_stf (F G : Nat → Nat) (m k : Nat) : (row m F).toList ++ (row k G).toList = (row (m + k) (stf F G m)).toList := by
 apply List.ext_getElem?
 intro i
 have hl : (row m F).toList.length = m := by simp [qa5]
 by_cases h1 : i < m
 ·rw [List.getElem?_append_left (by omega), Array.getElem?_toList, Array.getElem?_toList, qb9 m F i h1, qb9 (m + k) _ i (by omega)]
  unfold stf; rw [if_pos h1]
 ·rw [List.getElem?_append_right (by omega), hl, Array.getElem?_toList, Array.getElem?_toList]
  by_cases h2 : i < m + k
  ·rw [qb9 k G (i - m) (by omega), qb9 (m + k) _ i h2]
   unfold stf; rw [if_neg h1]
  ·rw [Array.getElem?_eq_none (by simp [qa5]; omega), Array.getElem?_eq_none (by simp [qa5]; omega)]
theorem qdp {ops : Array Oper} {op : Oper} {a : Act} {w : World} {K : Act → World → Prop} {Q : Exit → Act → World → Prop} (hgd : op.guard = none) (s x : Operand) (ho : op.op = .call { callee := .builtin .append, args := #[s, x], argTypes := #[22, 22] })
  (base n : Nat) (v : Value) (ls : List Value) (hs : a.eval s = v) (hown : w.ownsRow base 5 1 v n ls) (b : Option Addr) (m c : Nat) (G : Nat → Nat) (hx : a.eval x = .slice b m c) (hb : Sl w b m G) (h0 : b = none → m = 0 ∧ c = 0) (h63 : n + m ≤ 140737488351232) (hbase : base ≤ w.heap.size)
  (h : ∀ v' w', w'.ownsRow base 5 1 v' (n + m) (ls ++ (row m G).toList) → w.grownBy w' v.ownBlock → K (a.put op.dst v') w') : if Region.wanted op (yielded ops a.tmps) = true then Oper.wp Tryz.prog op a w K Q else K (a.put op.dst undef) w := by
 obtain ⟨i0, hi, hz0, hz1, hz2⟩ := info_parts qee
 have hw : Region.wanted op (yielded ops a.tmps) = true := by simp [Region.wanted, hgd]
 rw [if_pos hw]
 cases b with
 | none =>
  obtain ⟨rfl, rfl⟩ := h0 rfl
  have hrun := run_append_owned_none (P := Tryz.prog) (w := w) base 22 op.type 5 i0 1 Tryz.underlying22 hi v n ls hown
  unfold Oper.wp
  simp [execOp, ho, resolve, invoke, builtin, hs, hx, hrun, Result.andThen]
  exact h v w (by rw [qbn, List.append_nil]; exact hown) ⟨rfl, rfl, rfl, Nat.le_refl _, fun _ _ _ => rfl⟩
 | some ad =>
  exact wp_append_own w s x 22 ho base 5 i0 (.int .u8 0) 1 1 Tryz.underlying22 hi hz0 hz1 hz2 rfl (by decide) v n ls hs hown ad m c (row m G).toList hx (by simp [qa5]) (qca hb (Below.refl _ _)) (qcb m G) (by unfold maxLen; omega) (by omega) hbase (fun v' w' h1 h2 _ => h v' w' h1 h2)
open Go.RowKit
/-- A slice of ints reads as q 0, q 1, .. -/
def Il (w : World) (b : Option Addr) (m : Nat) (q : Nat → Int) : Prop := ∀ i, i < m → ∃ x o, b = some ⟨x, o, none⟩ ∧ w.cell? ⟨x, o + i, none⟩ = some (.int .i64 (q i))
theorem Il.later {w w' : World} {b : Option Addr} {m : Nat} {q : Nat → Int} (h : Il w b m q) (hb : Below w.heap.size w w') : Il w' b m q := fun i hi => by
 obtain ⟨x, o, e, hc⟩ := h i hi
 exact ⟨x, o, e, by rw [hb.cell (p := ⟨x, o + i, none⟩) (qas hc)]; exact hc⟩
/-- The picked rows' entries. -/
def pkf (F : Nat → Nat) (z : Nat → Nat) (c p : Nat) : Nat := F (z (p / c) * c + p % c)
theorem qf9 (F : Nat → Nat) (z : Nat → Nat) (c i j : Nat) (hj : j < c) : pkf F z c (i * c + j) = F (z i * c + j) := by
 unfold pkf
 rw [Nat.mul_comm i c, Nat.mul_add_div (by omega), Nat.div_eq_of_lt hj, Nat.add_zero, Nat.mul_add_mod, Nat.mod_eq_of_lt hj]
theorem row_pkf (F : Nat → Nat) (z : Nat → Nat) (c i : Nat) : (row (i * c) (pkf F z c)).toList ++ (row c (fun j => F (z i * c + j))).toList = (row ((i + 1) * c) (pkf F z c)).toList := by
 rw [row_stf, Nat.add_mul, Nat.one_mul]
 congr 1
 apply qed
 intro p hp
 unfold stf
 by_cases h : p < i * c
 ·rw [if_pos h]
 ·rw [if_neg h]; show F (z i * c + (p - i * c)) = _; rw [← qf9 F z c i (p - i * c) (by omega)]
  congr 1; omega
theorem qbf {ops : Array Oper} {rest : List Oper} {op : Oper} {a : Act} {w : World} {Q : Exit → Act → World → Prop} (hgd : op.guard = none) (s x : Operand) (ho : op.op = .call { callee := .builtin .append, args := #[s, x], argTypes := #[22, 22] })
  (base n : Nat) (v : Value) (ls : List Value) (hs : a.eval s = v) (hown : w.ownsRow base 5 1 v n ls) (b : Option Addr) (m c : Nat) (G : Nat → Nat) (hx : a.eval x = .slice b m c) (hb : Sl w b m G) (h0 : b = none → m = 0 ∧ c = 0) (h63 : n + m ≤ 140737488351232) (hbase : base ≤ w.heap.size)
  (h : ∀ v' w', w'.ownsRow base 5 1 v' (n + m) (ls ++ (row m G).toList) → w.grownBy w' v.ownBlock → wpList Tryz.prog ops Q rest (a.put op.dst v') w') : wpList Tryz.prog ops Q (op :: rest) a w :=
 wpList_plain hgd fun K hK => by
  have := qdp (ops := ops) (K := K) (Q := Q) hgd s x ho base n v ls hs hown b m c G hx hb h0 h63 hbase (fun v' w' h1 h2 => hK _ _ (h v' w' h1 h2))
  rwa [if_pos (by simp [Region.wanted, hgd])] at this
theorem qcl {w : World} {base n d : Nat} {s : Option Addr} {ls : List Value} (h : w.ownsRow base 5 1 (.slice s n d) n ls) : s = none → n = 0 ∧ d = 0 := by
 intro e
 rcases h.2 with ⟨e', h0⟩ | ⟨g, cap, cur, e', _⟩
 ·simp at e'; exact ⟨h0, e'.2.2⟩
 ·rw [e] at e'; simp at e'
/-- What the loops of Pick keep. -/
structure UInv (w w1 wr : World) (g4 r c n k m q : Nat) (a : Option Addr) (G : Nat → Nat) (v : Value) : Prop where
 vb : Vr wr w.heap.size (.int .i64 (r : Int)) (.int .i64 (c : Int)) (.slice a n k)
 vr : Vr wr (w.heap.size + 1) (.int .i64 0) (.int .i64 0) (.slice none 0 0)
 vt : Vr wr g4 (.int .i64 (m : Int)) (.int .i64 (c : Int)) v
 own : wr.ownsRow (g4 + 1) 5 1 v q (row q G).toList
 below : Below w1.heap.size w1 wr
theorem UInv.later {w w1 wr w5 : World} {r c n k m q : Nat} {a : Option Addr} {G : Nat → Nat} {v : Value} (I : UInv w w1 wr w1.heap.size r c n k m q a G v) (hb5 : Below wr.heap.size wr w5) : UInv w w1 w5 w1.heap.size r c n k m q a G v :=
 ⟨I.vb.later hb5, I.vr.later hb5, I.vt.later hb5, I.own.kept (qa8.mpr hb5) (by cases hv : v.ownBlock <;> simp), qa0 I.below hb5⟩
theorem UInv.grown {w w1 w5 w8 : World} {r c n k m q q' cap : Nat} {gg : Option Addr} {a : Option Addr} {G : Nat → Nat} {v : Value} (I : UInv w w1 w5 w1.heap.size r c n k m q a G v)
  (hown : w8.ownsRow (w1.heap.size + 1) 5 1 (.slice gg q' cap) q' (row q' G).toList) (hg : w5.grownBy w8 v.ownBlock) (hw : w.heap.size + 1 < w1.heap.size) :
  UInv w w1 (w8.setCell ⟨w1.heap.size, 2, none⟩ (.slice gg q' cap)) w1.heap.size r c n k m q' a G (.slice gg q' cap) := by
 have base := qag I.own
 refine ⟨?_, ?_, ?_, ?_, ?_⟩
 ·exact (I.vb.grown hg (fun e => by have := base _ e; omega)).kept (qa3 _ _ _ _) (by omega)
 ·exact (I.vr.grown hg (fun e => by have := base _ e; omega)).kept (qa3 _ _ _ _) (by omega)
 ·exact Vr.set2 (I.vt.grown hg (fun e => by have := base _ e; omega)) _
 ·exact hown.kept (qa3 _ _ _ _) (.inr (fun e => by have := qag hown _ e; omega))
 ·have b8 : Below w1.heap.size w1 w8 := I.below.grown hg I.below.size (fun k hk => by have := base k hk; omega)
  exact b8.setCell (Nat.le_refl _) _
theorem qdx (w : World) (r c n k m d N : Nat) (a b : Option Addr) (F z : Nat → Nat) (ha : Sl w a n F) (R : Rt r c n) (hb : Il w b m (fun i => (z i : Int))) (hz : ∀ i, i < m → z i < r) (hm : m ≤ 64) (HN : Hid (m * c = N)) :
  Calls Tryz.prog 37 #[mv r c a n k, .slice b m d] w fun e w' => ∃ s d, e = .returned (.tuple #[mv m c s N d, .int .i64 0]) ∧ w'.ownsRow w.heap.size 5 1 (.slice s N d) N (row N (pkf F z c)).toList ∧ Below w.heap.size w w' := by
 have HRt : Hid (Rt r c n) := R
 have hn := R.le
 have hr := R.r64
 have hc := R.c64
 obtain ⟨wb, HW⟩ : ∃ wb, Hid (wb = (w.alloc (.cells #[.int .i64 (r : Int), .int .i64 (c : Int), .slice a n k] 24)).alloc (.cells #[.int .i64 0, .int .i64 0, .slice none 0 0] 24)) := ⟨_, rfl⟩
 have HVb : Hid (Vr wb w.heap.size (.int .i64 (r : Int)) (.int .i64 (c : Int)) (.slice a n k)) := by rw [HW.out]; exact (Vr.new w _ _ _).later (qa1 _ _)
 have HVr : Hid (Vr wb (w.heap.size + 1) (.int .i64 0) (.int .i64 0) (.slice none 0 0)) := by show Vr _ _ _ _ _; rw [HW.out]; have := Vr.new (w.alloc (.cells #[.int .i64 (r : Int), .int .i64 (c : Int), .slice a n k] 24)) (.int .i64 0) (.int .i64 0) (.slice none 0 0); simpa using this
 have HB0 : Hid (Below w.heap.size w wb) := by rw [HW.out]; exact qa0 (qa1 _ _) (qa1 _ _)
 have HSa : Hid (Sl w a n F) := ha
 have HSb : Hid (Il w b m (fun i => (z i : Int))) := hb
 have HZ : Hid (∀ i, i < m → z i < r) := hz
 clear ha R hb hz
 go_enter Tryz.func37, Tryz.ntmps37
 go_wp2_with (go_at_call 68; rw [← HW.out]; refine (qbb _ _ _ _ _ _ HRt.out.p).mono ?_; rintro e w0 ⟨rfl, hb1⟩; have HB1 : Hid (Below wb.heap.size wb w0) := hb1; clear hb1)
 have HBw0 : Hid (Below w.heap.size w w0) := qa0 HB0.out HB1.out
 have HV0 : Hid (Vr w0 w.heap.size (.int .i64 (r : Int)) (.int .i64 (c : Int)) (.slice a n k)) := HVb.out.later HB1.out
 have HR0 : Hid (Vr w0 (w.heap.size + 1) (.int .i64 0) (.int .i64 0) (.slice none 0 0)) := HVr.out.later HB1.out
 clear HW HVb HVr HB0 HB1
 go_loopw [6] (fun j wr => ∃ q : Nat, q ≤ m ∧ j = .int .i64 (q : Int) ∧ Below w0.heap.size w0 wr) (fun j _ => m - (intOf j).toNat)
 case atStart => exact ⟨0, by omega, rfl, Below.refl _ _⟩
 case round =>
  obtain ⟨q, hq, rfl, hbr⟩ := hrel
  have HB : Hid (Below w0.heap.size w0 wr) := hbr
  clear hbr
  by_cases hlt : q < m
  ·obtain ⟨x, o, eb, hcell⟩ := HSb.out.later (qa0 HBw0.out HB.out) q hlt
   have zr := HZ.out q hlt
   dsimp only at hcell
   obtain ⟨y, HY⟩ : ∃ y, Hid (z q = y) := ⟨_, rfl⟩
   rw [HY.out] at hcell zr
   have b0 := (HV0.out.later HB.out).c0
   have g1 : decide ((y : Int) < 0) = false := by simp
   have g2 : decide (r ≤ y) = false := by simp; omega
   subst eb
   go_wp2
   go_region
   go_wp2
   exact ⟨⟨q + 1, by omega, by go_num, by first | exact HB.out | exact HB.out.drew⟩, by simp [intOf]; omega⟩
  ·obtain rfl : q = m := by omega
   have b1 := (HV0.out.later HB.out).c1
   have g3 : decide (64 < q) = false := by simp; omega
   have HBw : Hid (Below w.heap.size w wr) := qa0 HBw0.out HB.out
   have HVb : Hid (Vr wr w.heap.size (.int .i64 (r : Int)) (.int .i64 (c : Int)) (.slice a n k)) := HV0.out.later HB.out
   have HVr : Hid (Vr wr (w.heap.size + 1) (.int .i64 0) (.int .i64 0) (.slice none 0 0)) := HR0.out.later HB.out
   have hlw := HVr.out.lt
   go_wp2
   have HI0 : Hid (UInv w wr (wr.alloc (.cells #[.int .i64 (q : Int), .int .i64 (c : Int), .slice none 0 0] 24)) wr.heap.size r c n k q 0 a (pkf F z c) (.slice none 0 0)) :=
    ⟨HVb.out.later (qa1 _ _), HVr.out.later (qa1 _ _), Vr.new wr _ _ _, by rw [qbn]; exact World.ownsRow_nil _ _ _ _, qa1 _ _⟩
   clear HV0 HR0 HB HVb HVr b1 hlt hq HBw0
   obtain ⟨w1, HW1⟩ : ∃ w1, Hid (w1 = wr) := ⟨_, rfl⟩
   rw [← HW1.out] at HI0 HBw hlw
   rw [← HW1.out]
   clear HW1
   go_loopw [8, 9, 10] (fun j _ _ wr => ∃ (t : Nat) (v : Value), t ≤ q ∧ j = .int .i64 (t : Int) ∧ UInv w w1 wr w1.heap.size r c n k q (t * c) a (pkf F z c) v) (fun j _ _ _ => q - (intOf j).toNat)
   case atStart => exact ⟨0, _, by omega, rfl, by rw [Nat.zero_mul]; exact HI0.out⟩
   case round =>
    clear HI0
    obtain ⟨t, v, ht, rfl, I⟩ := hrel
    have HI : Hid (UInv w w1 wr w1.heap.size r c n k q (t * c) a (pkf F z c) v) := I
    clear I
    by_cases hlt : t < q
    ·obtain ⟨x, o, eb, hcell⟩ := HSb.out.later (qa0 HBw.out HI.out.below) t hlt
     have zr := HZ.out t hlt
     dsimp only at hcell
     obtain ⟨y, HY⟩ : ∃ y, Hid (z t = y) := ⟨_, rfl⟩
     rw [HY.out] at hcell zr
     have b0 := HI.out.vb.c0
     have b1 := HI.out.vb.c1
     have b2 := HI.out.vb.c2
     have HRow : Hid (∀ w', Below wr.heap.size wr w' → Calls Tryz.prog 38 #[.agg #[.int .i64 (r : Int), .int .i64 (c : Int), .slice a n k], .int .i64 (y : Int)] w' fun e w'' => ∃ v, e = .returned (.tuple #[v, .int .i64 0]) ∧ w''.ownsRow w'.heap.size 5 1 v c (row c (fun j => F (y * c + j))).toList ∧ Below w'.heap.size w' w'') := fun w' h' => ql4 w' r c n k y a F (HSa.out.later (qa0 (qa0 HBw.out HI.out.below) h')) HRt.out zr
     have hsz := HI.out.below.size
     have hFb : Hid (∀ j, j < c → F (y * c + j) < 256) := fun j hj => HSa.out.1 _ (HRt.out.at zr hj)
     subst eb
     go_wp2
     go_region_with (go_at_call 38; refine (HRow.out _ (by first | exact Below.refl _ _ | exact (Below.refl _ _).drew)).mono ?_; rintro e w5 ⟨v5, rfl, ho5, hbk⟩; obtain ⟨s5, d5, e5, hsl5, hfr5⟩ := ql1 ho5 hFb.out; subst e5; have HN5 : Hid (s5 = none → c = 0 ∧ d5 = 0) := qcl ho5; have HS5 : Hid (Sl w5 s5 c (fun j => F (y * c + j))) := hsl5; have HI5 : Hid (UInv w w1 w5 w1.heap.size r c n k q (t * c) a (pkf F z c) v) := HI.out.later (by first | exact hbk | exact qa0 (Below.refl _ _).drew hbk); have t2 := HI5.out.vt.c2; have tf := HI5.out.vt.free 2; clear ho5 hsl5 hfr5 hbk)
     go_wp2_with (refine qbf rfl _ _ rfl (w1.heap.size + 1) (t * c) v _ rfl HI5.out.own s5 c d5 _ rfl HS5.out HN5.out (by have : t * c ≤ 64 * 64 := Nat.mul_le_mul (by omega) hc; omega) (by have := HI5.out.vt.lt; omega) ?_; intro v8 w8 hown8 hgrow8; have HO8 : Hid (w8.ownsRow (w1.heap.size + 1) 5 1 v8 ((t + 1) * c) (row ((t + 1) * c) (pkf F z c)).toList) := (by show World.ownsRow _ _ _ _ _ _ _; rw [← row_pkf, HY.out, Nat.add_mul, Nat.one_mul]; exact hown8); have HG8 : Hid (w5.grownBy w8 v.ownBlock) := hgrow8; have tf8 := keepgf hgrow8 t2 tf (fun e => by { have := qag HI5.out.own _ e; omega }); have t28 := keepg hgrow8 t2 (fun e => by { have := qag HI5.out.own _ e; omega }); clear hown8 hgrow8; obtain ⟨s8, d8, e8, _, _⟩ := qeg HO8.out; subst e8)
     all_goals exact ⟨⟨t + 1, _, by omega, by go_num, HI5.out.grown HO8.out HG8.out hlw⟩, by simp [intOf]; omega⟩
    ·obtain rfl : t = q := by omega
     have hown := HI.out.own
     rw [HN.out] at hown
     obtain ⟨s, e, e3, _, _⟩ := qeg hown
     subst e3
     have c0 := HI.out.vt.c0
     have c1 := HI.out.vt.c1
     have c2 := HI.out.vt.c2
     have HVr : Hid (Vr wr (w.heap.size + 1) (.int .i64 0) (.int .i64 0) (.slice none 0 0)) := HI.out.vr
     have HO : Hid (wr.ownsRow (w1.heap.size + 1) 5 1 (.slice s N e) N (row N (pkf F z c)).toList) := hown
     have hsz := HBw.out.size
     clear hown
     go_wp2_with (refine qa6 rfl _ _ rfl (w.heap.size + 1) _ _ _ (.int .i64 (t : Int)) (.int .i64 (c : Int)) (.slice s N e) rfl rfl HVr.out rfl rfl rfl ?_; intro w4 HV4 HG4)
     have d0 := HV4.out.c0
     have d1 := HV4.out.c1
     have d2 := HV4.out.c2
     refine bodyPost_ret (v := .tuple #[mv t c s N e, .int .i64 0]) (by simp [results, Tryz.results37, go_sem, d0, d1, d2, mv]) rfl ?_
     have own4 := HO.out.kept HG4.out (.inr (fun h => by have := qag HO.out _ h; omega))
     exact ⟨s, e, rfl, qd2 own4 (by omega), qa9 (qa0 HBw.out HI.out.below) HG4.out (by omega)⟩
open Go.RowKit
/-- Two boxes: an argument and a result. -/
structure Box2 (w wb : World) (r c : Int) (n k : Nat) (a : Option Addr) : Prop where
 va : Vr wb w.heap.size (.int .i64 r) (.int .i64 c) (.slice a n k)
 vr : Vr wb (w.heap.size + 1) (.int .i64 0) (.int .i64 0) (.slice none 0 0)
 below : Below w.heap.size w wb
theorem box2 (w : World) (r c : Int) (n k : Nat) (a : Option Addr) : Box2 w ((w.alloc (.cells #[.int .i64 r, .int .i64 c, .slice a n k] 24)).alloc (.cells #[.int .i64 0, .int .i64 0, .slice none 0 0] 24)) r c n k a := by
 refine ⟨(Vr.new w _ _ _).later (qa1 _ _), ?_, qa0 (qa1 _ _) (qa1 _ _)⟩
 have := Vr.new (w.alloc (.cells #[.int .i64 r, .int .i64 c, .slice a n k] 24)) (.int .i64 0) (.int .i64 0) (.slice none 0 0)
 simpa using this
open Go.RowKit
/-- The rows' entries, one behind the other. -/
def off (f : Nat → Nat → Nat) (c p : Nat) : Nat := f (p / c) (p % c)
end Go.Proofs.YtblagbghpfopcaaGreat
