/-
  Contracts of Scale, Mac.
  Contracts of the reference's Dot, Scale, Mac.
  Contract of the reference's Mac.
  From what a law's shell tells of a slice that came in to what the contracts ask.
  Contracts of the reference's Copy and Spoil.
  Contracts of the matrices' reference: Right, At, Zero, Make, Like.
  Lists that are not the same: the reference's Same, exactly.
  Contracts of the matrices' reference: Make, Same of lists, Like, Identity, Row.
-/
import Derived.Test.YtnfbbddoaeofgaaGreatQmmde00
import Derived.Test.YtnfbbddoaeofgaaGreatQmmde07
import Derived.Deep.QuietTactic
import Derived.BigQuiet
import Derived.Deep.RegionHeld3
import Derived.Deep.AppendLies
import Derived.Laws.AppendOwnNone
import Derived.Deep.MidRow
import Derived.Test.YtnfbbddoaeofgaaGreatQmmde06
import Derived.Lib.Bytes
set_option maxRecDepth 100000
set_option maxHeartbeats 16000000
namespace Go.Proofs.YtnfbbddoaeofgaaGreat
open Go.RowKit
theorem below_grown {w w1 w2 : World} (h1 : Below w.heap.size w w1) (h2 : w1.grownBy w2 (some w.heap.size)) : Below w.heap.size w w2 :=
 h1.grown h2 h1.size (fun k hk => by cases hk; exact Nat.le_refl _)
theorem qjs (w : World) (a : Option Addr) (n c ca : Nat) (h : Nat → Nat) (hc : c < 256) (ha : Sl w a n h) (hn : n ≤ 140737488351232) :
  Calls Tryz.prog 130 #[.int .u8 (c : Int), .slice a n ca] w fun e w' => e = .returned (.slice (some ⟨w.heap.size, 0, none⟩) n n) ∧ RowAt w' w.heap.size 5 n (fun i => fm c (h i)) ∧ Below w.heap.size w w' := by
 obtain ⟨i0, hi, hz0, hz1, hz2⟩ := info_parts qcp
 have hml : n ≤ maxLen := by unfold maxLen; omega
 have HA : Hid (Sl w a n h) := ha
 clear ha
 go_enter Tryz.func130, Tryz.ntmps130
 go_wp2_with (first
  | (at_make; refine wpList_make_full _ rfl _ _ 22 rfl w.heap.size 5 i0 (.int .u8 0) 1 Tryz.underlying22 hi hz0 hz1 .i64 .i64 _ _ n rfl rfl rfl rfl (by rw [hz2]; omega) hml (Nat.le_refl _) ?_; intro w1 hown hgrow; have HR : Hid _ := qcq hown; have HB : Hid _ := qa6.mp hgrow; clear hown hgrow)
  | (go_at_call 152; refine (qhg _ w.heap.size n n c ca a (fun _ => 0) h hc HR.out (fun _ _ => by decide) (HA.out.later HB.out) (qfr HA.out (Nat.le_refl _)) hn).mono ?_; rintro e w2 ⟨rfl, hr2, hg2⟩))
 go_ret
 exact ⟨rfl, RowAt.congr (by assumption) (fun i _ => Nat.zero_xor _), below_grown HB.out (by assumption)⟩
theorem qjt (w : World) (a b : Option Addr) (n c ca cb : Nat) (f h : Nat → Nat) (hc : c < 256) (ha : Sl w a n f) (hb : Sl w b n h) (hn : n ≤ 140737488351232) :
  Calls Tryz.prog 170 #[.slice a n ca, .int .u8 (c : Int), .slice b n cb] w fun e w' => e = .returned (.tuple #[.slice (some ⟨w.heap.size, 0, none⟩) n n, .int .i64 0]) ∧ RowAt w' w.heap.size 5 n (fun i => f i ^^^ fm c (h i)) ∧ Below w.heap.size w w' := by
 have HA : Hid (Sl w a n f) := ha
 have HS : Hid (Sl w b n h) := hb
 clear ha hb
 go_enter Tryz.func170, Tryz.ntmps170
 go_wp2_with (first
  | (go_at_call 193; refine (copy_any _ _ _ _ f HA.out hn).mono ?_; rintro e w1 ⟨rfl, hr1, hb1⟩; have HR : Hid _ := hr1; have HB : Hid _ := hb1; clear hr1 hb1)
  | (go_at_call 152; refine (qhg _ w.heap.size n n c cb b f h hc HR.out HA.out.1 (HS.out.later HB.out) (qfr HS.out (Nat.le_refl _)) hn).mono ?_; rintro e w2 ⟨rfl, hr2, hg2⟩))
 go_ret2
 exact ⟨rfl, by assumption, below_grown HB.out (by assumption)⟩
open Go.RowKit
theorem qb7 (k : Nat) (f : Nat → Nat) : (row k f).toList ++ [.int .u8 (f k : Nat)] = (row (k + 1) f).toList := by
 simp [row, List.range_succ]
theorem qb2 (f : Nat → Nat) : (row 0 f).toList = [] := by simp [row]
theorem qa9 {w : World} {base : Nat} {e : TypeId} {s : Nat} {v : Value} {n : Nat} {xs : List Value} (h : w.ownsRow base e s v n xs) : ∀ k, v.ownBlock = some k → base ≤ k := by
 intro k hk
 rcases h.2 with ⟨rfl, _⟩ | ⟨g, cap, cur, rfl, hb, _⟩
 ·simp [Value.ownBlock] at hk
 ·simp [Value.ownBlock] at hk; omega
theorem qbd (w : World) (t : TypeId) (x : Nat) : ∀ j u, [Value.int .u8 (x : Int)][j]? = some u → (w.alloc (.cells #[.int .u8 (x : Int)] t)).cell? ((⟨w.heap.size, 0, none⟩ : Addr).add j) = some u := by
 intro j u hj
 match j, hj with
 | 0, hj => simp at hj; subst hj; simp [Addr.add]
theorem one_one (x : Nat) : ∀ u ∈ [Value.int .u8 (x : Int)], u.oneCell' = true := by intro u hu; simp at hu; subst hu; rfl
theorem qe7 (a b : Nat) (w : World) (ha : a < 256) (hb : b < 256) : Calls Tryz.prog 70 #[.int .u8 (a : Int), .int .u8 (b : Int)] w fun e w' => e = .returned (.int .u8 (fm a b : Nat)) ∧ w = w' :=
 (qdh a b w ha hb).mono fun _ _ h => ⟨h.1, h.2.symm⟩
theorem grow_step {w wr w3 : World} {o : Obj} {base : Nat} {e : TypeId} {s n : Nat} {v : Value} {xs : List Value} (hb : Below w.heap.size w wr) (ho : wr.ownsRow w.heap.size e s v n xs) (hg : (wr.alloc o).grownBy w3 v.ownBlock) (_h : base = 0) : Below w.heap.size w w3 :=
 (hb.alloc hb.size o).grown hg (by have := hb.size; simp; omega) (qa9 ho)
theorem qir (w : World) (a : Option Addr) (n c ca : Nat) (h : Nat → Nat) (hc : c < 256) (ha : Sl w a n h) (hn : n ≤ 140737488351232) :
  Calls Tryz.prog 187 #[.int .u8 (c : Int), .slice a n ca] w fun e w' => ∃ v, e = .returned v ∧ w'.ownsRow w.heap.size 5 1 v n (row n (fun i => fm c (h i))).toList ∧ Below w.heap.size w w' := by
 obtain ⟨i0, hi, hz0, hz1, hz2⟩ := info_parts qcp
 have HA : Hid (Sl w a n h) := ha
 clear ha
 obtain ⟨p, HP⟩ : ∃ p : Nat → Nat, Hid ((fun i => fm c (h i)) = p) := ⟨_, rfl⟩
 rw [HP.out]
 go_enter Tryz.func187, Tryz.ntmps187
 go_wp2
 go_loopw [5, 6] (fun v i wr => ∃ k : Nat, k ≤ n ∧ i = .int .i64 (k : Int) ∧ wr.ownsRow w.heap.size 5 1 v k (row k p).toList ∧ Below w.heap.size w wr) (fun _ i _ => n - (intOf i).toNat)
 case atStart => exact ⟨0, by omega, rfl, by rw [qb2]; exact World.ownsRow_nil _ _ _ _, Below.refl _ _⟩
 case round =>
  obtain ⟨k, hk, rfl, hown, hbr⟩ := hrel
  by_cases hlt : k < n
  ·obtain ⟨ba, oa, ea, hca⟩ := (HA.out.later hbr).2 k hlt
   have hx := HA.out.1 k hlt
   have HPk : Hid (fm c (h k) = p k) := congrFun HP.out k
   have HO : Hid (wr.ownsRow w.heap.size 5 1 u5 k (row k p).toList) := hown
   have HB : Hid (Below w.heap.size w wr) := hbr
   have hsz := hbr.size
   have hml : k + 1 ≤ maxLen := by unfold maxLen; omega
   have HMul : Hid (∀ w, Calls Tryz.prog 70 #[.int .u8 (c : Int), .int .u8 (h k : Int)] w fun e w' => e = .returned (.int .u8 (p k : Int)) ∧ w = w') := by rw [← HPk.out]; exact fun w => qe7 c (h k) w hc hx
   clear HA hown hbr
   subst ea
   go_wp2_with (first
    | (go_at_call 70; refine (HMul.out _).mono ?_; rintro e w' ⟨rfl, rfl⟩)
    | (at_builtin; refine wpList_append_own _ rfl _ _ 22 rfl w.heap.size 5 i0 (.int .u8 0) 1 1 Tryz.underlying22 hi hz0 hz1 hz2 rfl (by decide) _ k _ rfl (HO.out.alloc _) ⟨wr.heap.size, 0, none⟩ 1 1 [.int .u8 (p k : Nat)] rfl rfl (qbd _ _ _) (one_one _) hml (by omega) (by simp; omega) ?_; intro v' w3 hown' hgrow' _; have HO3 : Hid _ := hown'; have HB3 : Hid _ := grow_step HB.out HO.out hgrow' rfl; clear hown' hgrow'))
   exact ⟨⟨k + 1, by omega, by go_num, by rw [← qb7]; exact HO3.out, HB3.out⟩, by simp [intOf]; omega⟩
  ·obtain rfl : k = n := by omega
   go_wp2
   go_ret
   exact ⟨_, rfl, hown, hbr⟩
open Go.RowKit
/-- What is owned reads as a list. -/
theorem own_sl {w : World} {base : Nat} {v : Value} {n : Nat} {f : Nat → Nat} (h : w.ownsRow base 5 1 v n (row n f).toList) (hf : ∀ i, i < n → f i < 256) : ∃ a c, v = .slice a n c ∧ Sl w a n f ∧ From base a := by
 rcases h.2 with ⟨rfl, rfl⟩ | ⟨g, cap, cur, rfl, hb, hg, _, _, _, htake⟩
 ·exact ⟨none, 0, rfl, Sl.nil _ _ _, fun x hx => by cases hx⟩
 ·refine ⟨_, cap, rfl, ⟨hf, fun i hi => ⟨g, 0, rfl, ?_⟩⟩, fun x hx => by cases hx; exact hb⟩
  rw [Nat.zero_add, cell_of_row w g i cur _ _ hg]
  have e : (cur.toList.take (n * 1))[i]? = (row n f).toList[i]? := by rw [htake]
  rw [List.getElem?_take, if_pos (by omega)] at e
  rw [Array.getElem?_toList, Array.getElem?_toList, qbb n f i hi] at e
  exact e
open Go.RowKit
/-! ### The calls, told by what their answers read as -/
theorem xor_byte {f h : Nat → Nat} {n : Nat} (hf : ∀ i, i < n → f i < 256) (hh : ∀ i, i < n → h i < 256) : ∀ i, i < n → f i ^^^ h i < 256 := fun i hi => qb1 _ _ (hf i hi) (hh i hi)
theorem mac_sl (w : World) (a b : Option Addr) (n c ca cb : Nat) (f h : Nat → Nat) (hc : c < 256) (ha : Sl w a n f) (hb : Sl w b n h) (hn : n ≤ 140737488351232) :
  Calls Tryz.prog 170 #[.slice a n ca, .int .u8 (c : Int), .slice b n cb] w fun e w' => ∃ s k, e = .returned (.tuple #[.slice s n k, .int .i64 0]) ∧ Sl w' s n (fun i => f i ^^^ fm c (h i)) ∧ Below w.heap.size w w' :=
 (qjt w a b n c ca cb f h hc ha hb hn).mono fun _ _ H => ⟨_, _, H.1, H.2.1.sl (xor_byte ha.1 fun _ _ => qam _ _ hc), H.2.2⟩
open Go.RowKit
theorem qbe {w w1 : World} {n : Nat} {f : Nat → Nat} {ad : Addr} (ha : Sl w (some ad) n f) (hb : Below w.heap.size w w1) : ∀ j u, (row n f).toList[j]? = some u → w1.cell? (ad.add j) = some u := by
 intro j v hj
 obtain ⟨hjn, rfl⟩ := qbt n f j v hj
 obtain ⟨b', o', e', hc⟩ := (ha.later hb).2 j hjn
 cases e'
 have hplain : (⟨b', o', none⟩ : Addr).add j = ⟨b', o' + j, none⟩ := by unfold Addr.add; split <;> simp_all
 rw [hplain]
 exact hc
theorem qbf (n : Nat) (f : Nat → Nat) : ∀ u ∈ (row n f).toList, u.oneCell' = true := by
 intro v hv
 obtain ⟨j, hj⟩ := List.getElem?_of_mem hv
 rw [(qbt n f j v hj).2]; rfl
theorem qcv (w : World) (a : Option Addr) (n c : Nat) (f : Nat → Nat) (ha : Sl w a n f) (hn : n ≤ 140737488351232) (h0 : a = none → n = 0 ∧ c = 0) :
  Calls Tryz.prog 101 #[.slice a n c] w fun e w' => ∃ v, e = .returned v ∧ w'.ownsRow w.heap.size 5 1 v n (row n f).toList ∧ Below w.heap.size w w' := by
 obtain ⟨i0, hi, hz0, hz1, hz2⟩ := info_parts qcp
 have hml : 0 + n ≤ maxLen := by unfold maxLen; omega
 have HA : Hid (Sl w a n f) := ha
 obtain ⟨xs, HX⟩ : ∃ xs, Hid (xs = (row n f).toList) := ⟨_, rfl⟩
 have hlen : xs.length = n * 1 := by rw [HX.out]; simp [qa7]
 have HO0 : Hid ((w.alloc (.cells #[] 5)).ownsRow w.heap.size 5 1 (.slice (some ⟨w.heap.size, 0, none⟩) 0 0) 0 []) := World.ownsRow_lit w #[] 0 (Nat.le_refl _) (by unfold maxLen; omega) rfl
 have HB0 : Hid (Below w.heap.size w (w.alloc (.cells #[] 5))) := (Below.refl _ _).alloc (Nat.le_refl _) _
 rw [← HX.out]
 cases a with
 | none =>
  obtain ⟨rfl, rfl⟩ := h0 rfl
  have HE : Hid (xs = []) := List.eq_nil_of_length_eq_zero (by simpa using hlen)
  clear ha h0 hlen
  go_enter Tryz.func101, Tryz.ntmps101
  go_wp2_with (at_builtin; refine wpList_append_own_none rfl _ _ 22 rfl w.heap.size 5 i0 1 Tryz.underlying22 hi _ 0 [] rfl HO0.out rfl ?_)
  go_ret
  exact ⟨_, rfl, by rw [HE.out]; exact HO0.out, HB0.out⟩
 | some ad =>
  have HN : Hid (∀ j u, xs[j]? = some u → (w.alloc (.cells #[] 5)).cell? (ad.add j) = some u) := by rw [HX.out]; exact qbe ha HB0.out
  have H1 : Hid (∀ u ∈ xs, u.oneCell' = true) := by rw [HX.out]; exact qbf n f
  clear ha h0
  go_enter Tryz.func101, Tryz.ntmps101
  go_wp2_with (at_builtin; refine wpList_append_own _ rfl _ _ 22 rfl w.heap.size 5 i0 (.int .u8 0) 1 1 Tryz.underlying22 hi hz0 hz1 hz2 rfl (by decide) _ 0 [] rfl HO0.out ad n c xs rfl hlen HN.out H1.out hml (by omega) (by simp) ?_; intro v' w3 hown' hgrow' _; have HO3 : Hid (w3.ownsRow w.heap.size 5 1 v' (0 + n) ([] ++ xs)) := hown'; have HG3 : Hid ((w.alloc (.cells #[] 5)).grownBy w3 (some w.heap.size)) := hgrow'; clear hown' hgrow')
  go_ret
  exact ⟨_, rfl, by simpa using HO3.out, HB0.out.grown HG3.out (by simp) (fun k hk => by cases hk; exact Nat.le_refl _)⟩
theorem qf8 {w : World} {base n c : Nat} {e : TypeId} {s : Option Addr} {xs : List Value} (h : w.ownsRow base e 1 (.slice s n c) n xs) (hn : 0 < n) : ∃ g, s = some ⟨g, 0, none⟩ := by
 rcases h.2 with ⟨_, h0⟩ | ⟨g, cap, cur, hv, _⟩
 ·omega
 ·cases hv; exact ⟨g, rfl⟩
theorem grown_at {w wr : World} {row : Option Nat} {g i : Nat} {v : Value} (h : w.grownBy wr row) (hg : row = some g ∨ w.heap.size ≤ g) : w.grownBy (wr.setCell ⟨g, i, none⟩ v) row :=
 ⟨h.os, h.tape, h.output, by simpa using h.size, fun k hk hn => by
  rw [Below.heap_setCell wr ⟨g, i, none⟩ v k (by
   intro e
   rcases hg with hg | hg
   ·apply hn; rw [hg]; simpa using e
   ·have : k = g := e
    omega)]
  exact h.block k hk hn⟩
/-- What stays behind a Spoil of another block. -/
theorem Sl.beside {w w' : World} {a : Option Addr} {n : Nat} {f : Nat → Nat} {g : Nat} (h : Sl w a n f) (hg : w.grownBy w' (some g)) (ho : 0 < n → Off g a) : Sl w' a n f := by
 by_cases hn : 0 < n
 ·exact h.kept hg (ho hn)
 ·obtain rfl : n = 0 := by omega
  exact Sl.nil _ _ _
theorem qa2 {w w1 w2 : World} {g : Nat} (h : Below w.heap.size w w1) (hg : w1.grownBy w2 (some g)) (hb : w.heap.size ≤ g) : Below w.heap.size w w2 :=
 h.grown hg h.size (fun k hk => by cases hk; exact hb)
/-! Lists of the call's own. -/
theorem own_set {w : World} {base g n cp j v : Nat} {f : Nat → Nat} (h : w.ownsRow base 5 1 (.slice (some ⟨g, 0, none⟩) n cp) n (row n f).toList) :
  (w.setCell ⟨g, j, none⟩ (.int .u8 (v : Int))).ownsRow base 5 1 (.slice (some ⟨g, 0, none⟩) n cp) n (row n (fun i => if i = j then v else f i)).toList := by
 have := (h.stored j (.int .u8 (v : Int))).1
 rw [← qjn, Array.toList_setIfInBounds]
 exact this
theorem own_cong {w : World} {base n : Nat} {v : Value} {f f' : Nat → Nat} (h : w.ownsRow base 5 1 v n (row n f).toList) (e : ∀ i, i < n → f i = f' i) : w.ownsRow base 5 1 v n (row n f').toList := by
 rw [← qbc n f f' e]; exact h
theorem own_byte {w : World} {base g n cp j : Nat} {f : Nat → Nat} (h : w.ownsRow base 5 1 (.slice (some ⟨g, 0, none⟩) n cp) n (row n f).toList) (hj : j < n) : w.cell? ⟨g, j, none⟩ = some (.int .u8 (f j : Nat)) := by
 rw [h.cellAt j (by omega), Array.getElem?_toList, qbb n f j hj]
theorem qcg {w : World} {B B' n : Nat} {v : Value} {xs : List Value} (h : w.ownsRow B 5 1 v n xs) (hB : B' ≤ B) : w.ownsRow B' 5 1 v n xs := by
 refine ⟨h.1, ?_⟩
 rcases h.2 with h' | ⟨g, cap, cur, e, hb, r⟩
 ·exact .inl h'
 ·exact .inr ⟨g, cap, cur, e, by omega, r⟩
open Go.RowKit
/-- A matrix as a value. -/
abbrev mv (r c : Int) (a : Option Addr) (n k : Nat) : Value := .agg #[.int .i64 r, .int .i64 c, .slice a n k]
/-- Right, in numbers. -/
def RightP (r c : Int) (n : Nat) : Prop := 0 ≤ r ∧ r ≤ 64 ∧ 0 ≤ c ∧ c ≤ 64 ∧ (n : Int) = r * c
theorem qft {r c : Int} (h1 : 0 ≤ r) (h2 : r ≤ 64) (h3 : 0 ≤ c) (h4 : c ≤ 64) : 0 ≤ r * c ∧ r * c ≤ 4096 :=
 ⟨Int.mul_nonneg h1 h3, Int.le_trans (Int.mul_le_mul_of_nonneg_right h2 h3) (by omega)⟩
theorem qa0 (w : World) (o : Obj) : Below w.heap.size w (w.alloc o) := (Below.refl _ _).alloc (Nat.le_refl _) _
/-- A variable of three cells: a matrix's. -/
def Vr (w : World) (b : Nat) (x y z : Value) : Prop := w.heap[b]? = some (.cells #[x, y, z] 24 (0, 0))
theorem Vr.lt {w : World} {b : Nat} {x y z : Value} (h : Vr w b x y z) : b < w.heap.size := lt_of_block h
theorem Vr.c0 {w : World} {b : Nat} {x y z : Value} (h : Vr w b x y z) : w.cell? ⟨b, 0, none⟩ = some x := by rw [cell_of_row w b 0 _ _ _ h]; rfl
theorem Vr.c1 {w : World} {b : Nat} {x y z : Value} (h : Vr w b x y z) : w.cell? ⟨b, 1, none⟩ = some y := by rw [cell_of_row w b 1 _ _ _ h]; rfl
theorem Vr.c2 {w : World} {b : Nat} {x y z : Value} (h : Vr w b x y z) : w.cell? ⟨b, 2, none⟩ = some z := by rw [cell_of_row w b 2 _ _ _ h]; rfl
theorem Vr.free {w : World} {b : Nat} {x y z : Value} (h : Vr w b x y z) (i : Nat) : w.frozen? ⟨b, i, none⟩ = false := by
 unfold Vr at h
 simp [World.frozen?, h]
theorem Vr.later {w w' : World} {b : Nat} {x y z : Value} (h : Vr w b x y z) (hb : Below w.heap.size w w') : Vr w' b x y z := by unfold Vr; rw [hb.block b h.lt]; exact h
theorem Vr.kept {w w' : World} {b g : Nat} {x y z : Value} (h : Vr w b x y z) (hg : w.grownBy w' (some g)) (hne : b ≠ g) : Vr w' b x y z := by unfold Vr; rw [hg.block b h.lt (by simpa using hne)]; exact h
theorem Vr.new (w : World) (x y z : Value) : Vr (w.alloc (.cells #[x, y, z] 24)) w.heap.size x y z := qbw w _
theorem size24 : (Tryz.prog.info? 24).map (·.size) = some 3 := by kernel_rfl
theorem Vr.set0 {w : World} {b : Nat} {x y z : Value} (h : Vr w b x y z) (v : Value) : Vr (w.setCell ⟨b, 0, none⟩ v) b v y z := by
 unfold Vr at *
 rw [setCell_eq_setRow w b 0 _ _ (0, 0) _ h, setRow_heap w b _ _ _ (0, 0) h]; rfl
theorem Vr.set1 {w : World} {b : Nat} {x y z : Value} (h : Vr w b x y z) (v : Value) : Vr (w.setCell ⟨b, 1, none⟩ v) b x v z := by
 unfold Vr at *
 rw [setCell_eq_setRow w b 1 _ _ (0, 0) _ h, setRow_heap w b _ _ _ (0, 0) h]; rfl
theorem Vr.set2 {w : World} {b : Nat} {x y z : Value} (h : Vr w b x y z) (v : Value) : Vr (w.setCell ⟨b, 2, none⟩ v) b x y v := by
 unfold Vr at *
 rw [setCell_eq_setRow w b 2 _ _ (0, 0) _ h, setRow_heap w b _ _ _ (0, 0) h]; rfl
theorem Vr.there {w : World} {b : Nat} {x y z : Value} (h : Vr w b x y z) : w.there b 0 3 := by
 intro j hj
 rcases (by omega : j = 0 ∨ j = 1 ∨ j = 2) with rfl | rfl | rfl
 ·exact ⟨by rw [Nat.zero_add, h.c0]; rfl, h.free _⟩
 ·exact ⟨by rw [Nat.zero_add, h.c1]; rfl, h.free _⟩
 ·exact ⟨by rw [Nat.zero_add, h.c2]; rfl, h.free _⟩
theorem qa5 {ops : Array Oper} {rest : List Oper} {op : Oper} {a : Act} {w : World} {Q : Exit → Act → World → Prop} (hgd : op.guard = none) (p q : Operand) (ho : op.op = .store 24 p q)
  (b : Nat) (x y z x' y' z' : Value) (hp : a.eval p = .pointer (some ⟨b, 0, none⟩)) (hq : a.eval q = .agg #[x', y', z']) (hv : Vr w b x y z) (h0 : x'.oneCell' = true) (h1 : y'.oneCell' = true) (h2 : z'.oneCell' = true)
  (h : ∀ w', Hid (Vr w' b x' y' z') → Hid (w.grownBy w' (some b)) → wpList Tryz.prog ops Q rest (a.put op.dst undef) w') : wpList Tryz.prog ops Q (op :: rest) a w :=
 wpList_store_mid hgd 24 p q ho b 0 #[x', y', z'] hp hq hv.there size24 (by simp [h0, h1, h2]) (h _ (((hv.set0 x').set1 y').set2 z') (qaf (qaf (qa3 _ _ _ _) (qa3 _ _ _ _)) (qa3 _ _ _ _)))
theorem qau (w : World) (r c : Int) (a : Option Addr) (n k : Nat) (h : RightP r c n) :
  Calls Tryz.prog 69 #[mv r c a n k] w fun e w' => e = .returned (.bool true) ∧ Below w.heap.size w w' := by
 obtain ⟨h1, h2, h3, h4, h5⟩ := h
 have hm := qft h1 h2 h3 h4
 have hw : IntKind.i64.wrap (r * c) = r * c := by rw [IntKind.wrap_i64]; omega
 have g1 : decide (0 ≤ r) = true := by simpa using h1
 have g2 : decide (r ≤ 64) = true := by simpa using h2
 have g3 : decide (0 ≤ c) = true := by simpa using h3
 have g4 : decide (c ≤ 64) = true := by simpa using h4
 have g5 : ((n : Int) == r * c) = true := by simpa using h5
 clear h5 hm
 go_enter Tryz.func69, Tryz.ntmps69
 go_wp2
 go_ret
 exact ⟨rfl, qa0 _ _⟩
theorem qc0 (w : World) (r : Int) (c i j n k v : Nat) (a : Option Addr) (f : Nat → Nat) (h : Sl w a n f) (hi : i * c + j < n) (hn : n ≤ 4096) (HV : Hid (f (i * c + j) = v)) :
  Calls Tryz.prog 59 #[mv r c a n k, .int .i64 (i : Int), .int .i64 (j : Int)] w fun e w' => e = .returned (.int .u8 (v : Int)) ∧ Below w.heap.size w w' := by
 obtain ⟨b, o, ea, hcl⟩ := h.2 _ hi
 rw [HV.out] at hcl
 have hlt := qak hcl
 obtain ⟨p, HP⟩ : ∃ p, Hid (i * c + j = p) := ⟨_, rfl⟩
 rw [HP.out] at hcl hi
 have hb : i * c ≤ p := by rw [← HP.out]; omega
 have e1 : ((i : Int) * (c : Int)) = ((i * c : Nat) : Int) := by simp
 have w1 : IntKind.i64.wrap ((i : Int) * (c : Int)) = (i : Int) * (c : Int) := by rw [e1, IntKind.wrap_i64]; omega
 have w2 : IntKind.i64.wrap ((i : Int) * (c : Int) + (j : Int)) = (p : Int) := by rw [e1, IntKind.wrap_i64]; have := HP.out; omega
 have hcl2 : (w.alloc (.cells #[.int .i64 r, .int .i64 (c : Int), .slice (some ⟨b, o, none⟩) n k] 24)).cell? ⟨b, o + p, none⟩ = some (.int .u8 (v : Int)) := by rw [(qa0 w _).cell (p := ⟨b, o + p, none⟩) hlt]; exact hcl
 clear h hcl e1
 subst ea
 go_enter Tryz.func59, Tryz.ntmps59
 go_wp2
 go_ret
 exact ⟨rfl, qa0 _ _⟩
theorem qdi (w : World) (r c n : Nat) (hr : r ≤ 64) (hc : c ≤ 64) (HN : Hid (r * c = n)) :
  Calls Tryz.prog 58 #[.int .i64 (r : Int), .int .i64 (c : Int)] w fun e w' => ∃ g, e = .returned (mv r c (some ⟨g, 0, none⟩) n n) ∧ RowAt w' g 5 n (fun _ => 0) ∧ w.heap.size ≤ g ∧ Below w.heap.size w w' := by
 obtain ⟨i0, hi, hz0, hz1, hz2⟩ := info_parts qcp
 have hn : n ≤ 4096 := by rw [← HN.out]; exact Nat.mul_le_mul hr hc
 have e1 : ((r : Int) * (c : Int)) = (n : Int) := by rw [← HN.out]; simp
 have hw : IntKind.i64.wrap (n : Int) = (n : Int) := by rw [IntKind.wrap_i64]; omega
 have hml : n ≤ maxLen := by unfold maxLen; omega
 go_enter Tryz.func58, Tryz.ntmps58
 go_wp2_with (first
  | (at_make; refine wpList_make_full _ rfl _ _ 22 rfl (w.heap.size + 1) 5 i0 (.int .u8 0) 1 Tryz.underlying22 hi hz0 hz1 .i64 .i64 _ _ n rfl rfl rfl rfl (by rw [hz2]; omega) hml (by simp) ?_; intro w1 hown hgrow; have HR : Hid (RowAt w1 (w.heap.size + 1) 5 n (fun _ => 0)) := by { show RowAt _ _ _ _ _; have := qcq hown; simpa using this }; have HB : Hid (Below w.heap.size w w1) := qa1 (qa0 _ _) (qa6.mp hgrow); have HV : Hid (Vr w1 w.heap.size (.int .i64 0) (.int .i64 0) (.slice none 0 0)) := (Vr.new w _ _ _).later (qa6.mp hgrow); clear hown hgrow)
  | (refine qa5 rfl _ _ rfl w.heap.size _ _ _ (.int .i64 (r : Int)) (.int .i64 (c : Int)) (.slice (some ⟨w.heap.size + 1, 0, none⟩) n n) rfl rfl HV.out rfl rfl rfl ?_; intro w2 HV2 HG2))
 have c0 := HV2.out.c0
 have c1 := HV2.out.c1
 have c2 := HV2.out.c2
 refine bodyPost_ret (v := mv r c (some ⟨w.heap.size + 1, 0, none⟩) n n) (by simp [results, Tryz.results58, go_sem, c0, c1, c2, mv]) rfl ?_
 exact ⟨_, rfl, HR.out.kept HG2.out (by omega), by omega, qa2 HB.out HG2.out (Nat.le_refl _)⟩
open Go.RowKit
/-! Lists that are not the same. -/
/-- Are two lists the same? -/
def sameB (n m : Nat) (f h : Nat → Nat) : Bool := decide (n = m ∧ ∀ i, i < n → f i = h i)
theorem u8_inj {x y : Nat} (hx : x < 256) (hy : y < 256) (e : UInt8.ofNat x = UInt8.ofNat y) : x = y := by
 have := congrArg UInt8.toNat e
 simp at this
 omega
theorem qhh (n : Nat) (f : Nat → Nat) : (strOf n f).toList = (List.range n).map fun i => UInt8.ofNat (f i) := by
 unfold strOf
 rw [Go.Lib.strOfNums_toList]
 simp [Go.Lib.bytesOf]
theorem qju {n m : Nat} {f h : Nat → Nat} (hf : ∀ i, i < n → f i < 256) (hh : ∀ i, i < m → h i < 256) : ((strOf n f).toList == (strOf m h).toList) = sameB n m f h := by
 rw [qhh, qhh, Bool.eq_iff_iff]
 unfold sameB
 rw [decide_eq_true_iff, beq_iff_eq]
 constructor
 ·intro e
  have hl : n = m := by simpa using congrArg List.length e
  subst hl
  refine ⟨rfl, fun i hi => ?_⟩
  have := congrArg (fun l => l[i]?) e
  simp [hi] at this
  exact u8_inj (hf i hi) (hh i hi) (by simpa using this)
 ·rintro ⟨rfl, e⟩
  apply List.map_congr_left
  intro i hi
  rw [e i (by simpa using hi)]
theorem qis (w : World) (a b : Option Addr) (n m c d : Nat) (f h : Nat → Nat) (ha : Sl w a n f) (hb : Sl w b m h) :
  Calls Tryz.prog 30 #[.slice a n c, .slice b m d] w fun e w' => e = .returned (.bool (sameB n m f h)) ∧ w = w' := by
 have h1 : (convert 22 9 (.slice a n c)).run Tryz.prog w = .ok (.string (strOf n f)) w := qfs ha
 have h2 : (convert 22 9 (.slice b m d)).run Tryz.prog w = .ok (.string (strOf m h)) w := qfs hb
 rw [← qju ha.1 hb.1]
 obtain ⟨s, hs⟩ : ∃ s, strOf n f = s := ⟨_, rfl⟩
 obtain ⟨t, ht⟩ : ∃ s, strOf m h = s := ⟨_, rfl⟩
 rw [hs, ht]
 rw [hs] at h1
 rw [ht] at h2
 clear hs ht ha hb
 go_enter Tryz.func30, Tryz.ntmps30
 go_wp2
 go_ret
 exact ⟨rfl, rfl⟩
open Go.RowKit
theorem qhi (w : World) (r c n : Nat) (hr : r ≤ 64) (hc : c ≤ 64) (HN : Hid (r * c = n)) :
  Calls Tryz.prog 115 #[.int .i64 (r : Int), .int .i64 (c : Int)] w fun e w' => ∃ g, e = .returned (.tuple #[mv r c (some ⟨g, 0, none⟩) n n, .int .i64 0]) ∧ RowAt w' g 5 n (fun _ => 0) ∧ w.heap.size ≤ g ∧ Below w.heap.size w w' := by
 have g1 : decide ((r : Int) < 0) = false := by simp
 have g2 : decide ((64 : Int) < (r : Int)) = false := by simp; omega
 have g3 : decide ((c : Int) < 0) = false := by simp
 have g4 : decide ((64 : Int) < (c : Int)) = false := by simp; omega
 go_enter Tryz.func115, Tryz.ntmps115
 go_wp2_with (first
  | (go_at_call 58; refine (qdi _ r c n hr hc HN).mono ?_; rintro e w1 ⟨g, rfl, hr1, hg1, hb1⟩; have HR : Hid (RowAt w1 g 5 n (fun _ => 0)) := hr1; have hg2 : w.heap.size + 1 ≤ g := by { have := hg1; simpa using this }; have HB : Hid (Below w.heap.size w w1) := qa1 (qa0 _ _) hb1; have HV : Hid (Vr w1 w.heap.size (.int .i64 0) (.int .i64 0) (.slice none 0 0)) := (Vr.new w _ _ _).later hb1; clear hr1 hg1 hb1)
  | (refine qa5 rfl _ _ rfl w.heap.size _ _ _ (.int .i64 (r : Int)) (.int .i64 (c : Int)) (.slice (some ⟨g, 0, none⟩) n n) rfl rfl HV.out rfl rfl rfl ?_; intro w2 HV2 HG2))
 have c0 := HV2.out.c0
 have c1 := HV2.out.c1
 have c2 := HV2.out.c2
 refine bodyPost_ret (v := .tuple #[mv r c (some ⟨g, 0, none⟩) n n, .int .i64 0]) (by simp [results, Tryz.results115, go_sem, c0, c1, c2, mv]) rfl ?_
 exact ⟨g, rfl, HR.out.kept HG2.out (by omega), by omega, qa2 HB.out HG2.out (Nat.le_refl _)⟩
/-- Alike, in numbers. -/
def likeB (r c r' c' : Int) (n m : Nat) (f h : Nat → Nat) : Bool := (r == r') && ((c == c') && sameB n m f h)
theorem qit (w : World) (r c r' c' : Int) (a b : Option Addr) (n m k d : Nat) (f h : Nat → Nat) (ha : Sl w a n f) (hb : Sl w b m h) :
  Calls Tryz.prog 68 #[mv r c a n k, mv r' c' b m d] w fun e w' => e = .returned (.bool (likeB r c r' c' n m f h)) ∧ Below w.heap.size w w' := by
 have HA : Hid (Sl ((w.alloc (.cells #[.int .i64 r, .int .i64 c, .slice a n k] 24)).alloc (.cells #[.int .i64 r', .int .i64 c', .slice b m d] 24)) a n f) := (ha.later (qa0 _ _)).later (qa0 _ _)
 have HB : Hid (Sl ((w.alloc (.cells #[.int .i64 r, .int .i64 c, .slice a n k] 24)).alloc (.cells #[.int .i64 r', .int .i64 c', .slice b m d] 24)) b m h) := (hb.later (qa0 _ _)).later (qa0 _ _)
 obtain ⟨s, HS⟩ : ∃ s, Hid (sameB n m f h = s) := ⟨_, rfl⟩
 clear ha hb
 cases g1 : (r == r') with
 | false =>
  rw [show likeB r c r' c' n m f h = false from by unfold likeB; rw [g1]; rfl]
  go_enter Tryz.func68, Tryz.ntmps68
  go_wp2
  go_ret
  exact ⟨rfl, qa1 (qa0 _ _) (qa0 _ _)⟩
 | true =>
  cases g2 : (c == c') with
  | false =>
   rw [show likeB r c r' c' n m f h = false from by unfold likeB; rw [g1, g2]; rfl]
   go_enter Tryz.func68, Tryz.ntmps68
   go_wp2
   go_ret
   exact ⟨rfl, qa1 (qa0 _ _) (qa0 _ _)⟩
  | true =>
   rw [show likeB r c r' c' n m f h = s from by unfold likeB; rw [g1, g2, HS.out]; rfl]
   go_enter Tryz.func68, Tryz.ntmps68
   go_wp2_with (go_at_call 30; refine (qis _ _ _ _ _ _ _ f h HA.out HB.out).mono ?_; rw [HS.out]; rintro e w' ⟨rfl, rfl⟩)
   go_ret
   exact ⟨rfl, qa1 (qa0 _ _) (qa0 _ _)⟩
end Go.Proofs.YtnfbbddoaeofgaaGreat
