/-
  Contracts of the reference's Copy and Spoil.
  Contracts of the matrices' reference: Right, At, Zero, Make, Like.
  Lists that are not the same: the reference's Same, exactly.
  Contracts of the matrices' reference: Make, Same of lists, Like, Identity, Row.
-/
import Derived.Test.YtblagbghpfopcaaGreatQllst00
import Derived.Test.YtblagbghpfopcaaGreatQllst03
import Derived.Laws.AppendOwnNone
import Derived.Deep.MidRow
import Derived.Test.YtblagbghpfopcaaGreatQllst02
import Derived.Lib.Bytes
set_option maxRecDepth 100000
set_option maxHeartbeats 16000000
namespace Go.Proofs.YtblagbghpfopcaaGreat
open Go.RowKit
theorem qca {w w1 : World} {n : Nat} {f : Nat → Nat} {ad : Addr} (ha : Sl w (some ad) n f) (hb : Below w.heap.size w w1) : ∀ j u, (row n f).toList[j]? = some u → w1.cell? (ad.add j) = some u := by
 intro j v hj
 obtain ⟨hjn, rfl⟩ := qbw n f j v hj
 obtain ⟨b', o', e', hc⟩ := (ha.later hb).2 j hjn
 cases e'
 have hplain : (⟨b', o', none⟩ : Addr).add j = ⟨b', o' + j, none⟩ := by unfold Addr.add; split <;> simp_all
 rw [hplain]
 exact hc
theorem qcb (n : Nat) (f : Nat → Nat) : ∀ u ∈ (row n f).toList, u.oneCell' = true := by
 intro v hv
 obtain ⟨j, hj⟩ := List.getElem?_of_mem hv
 rw [(qbw n f j v hj).2]; rfl
theorem qkh (w : World) (a : Option Addr) (n c : Nat) (f : Nat → Nat) (ha : Sl w a n f) (hn : n ≤ 140737488351232) (h0 : a = none → n = 0 ∧ c = 0) :
  Calls Tryz.prog 56 #[.slice a n c] w fun e w' => ∃ v, e = .returned v ∧ w'.ownsRow w.heap.size 5 1 v n (row n f).toList ∧ Below w.heap.size w w' := by
 obtain ⟨i0, hi, hz0, hz1, hz2⟩ := info_parts qd2
 have hml : 0 + n ≤ maxLen := by unfold maxLen; omega
 have HA : Hid (Sl w a n f) := ha
 obtain ⟨xs, HX⟩ : ∃ xs, Hid (xs = (row n f).toList) := ⟨_, rfl⟩
 have hlen : xs.length = n * 1 := by rw [HX.out]; simp [qa4]
 have HO0 : Hid ((w.alloc (.cells #[] 5)).ownsRow w.heap.size 5 1 (.slice (some ⟨w.heap.size, 0, none⟩) 0 0) 0 []) := World.ownsRow_lit w #[] 0 (Nat.le_refl _) (by unfold maxLen; omega) rfl
 have HB0 : Hid (Below w.heap.size w (w.alloc (.cells #[] 5))) := (Below.refl _ _).alloc (Nat.le_refl _) _
 rw [← HX.out]
 cases a with
 | none =>
  obtain ⟨rfl, rfl⟩ := h0 rfl
  have HE : Hid (xs = []) := List.eq_nil_of_length_eq_zero (by simpa using hlen)
  clear ha h0 hlen
  go_enter Tryz.func56, Tryz.ntmps56
  go_wp2_with (at_builtin; refine wpList_append_own_none rfl _ _ 22 rfl w.heap.size 5 i0 1 Tryz.underlying22 hi _ 0 [] rfl HO0.out rfl ?_)
  go_ret
  exact ⟨_, rfl, by rw [HE.out]; exact HO0.out, HB0.out⟩
 | some ad =>
  have HN : Hid (∀ j u, xs[j]? = some u → (w.alloc (.cells #[] 5)).cell? (ad.add j) = some u) := by rw [HX.out]; exact qca ha HB0.out
  have H1 : Hid (∀ u ∈ xs, u.oneCell' = true) := by rw [HX.out]; exact qcb n f
  clear ha h0
  go_enter Tryz.func56, Tryz.ntmps56
  go_wp2_with (at_builtin; refine wpList_append_own _ rfl _ _ 22 rfl w.heap.size 5 i0 (.int .u8 0) 1 1 Tryz.underlying22 hi hz0 hz1 hz2 rfl (by decide) _ 0 [] rfl HO0.out ad n c xs rfl hlen HN.out H1.out hml (by omega) (by simp) ?_; intro v' w3 hown' hgrow' _; have HO3 : Hid (w3.ownsRow w.heap.size 5 1 v' (0 + n) ([] ++ xs)) := hown'; have HG3 : Hid ((w.alloc (.cells #[] 5)).grownBy w3 (some w.heap.size)) := hgrow'; clear hown' hgrow')
  go_ret
  exact ⟨_, rfl, by simpa using HO3.out, HB0.out.grown HG3.out (by simp) (fun k hk => by cases hk; exact Nat.le_refl _)⟩
theorem qfv {w : World} {base n c : Nat} {e : TypeId} {s : Option Addr} {xs : List Value} (h : w.ownsRow base e 1 (.slice s n c) n xs) (hn : 0 < n) : ∃ g, s = some ⟨g, 0, none⟩ := by
 rcases h.2 with ⟨_, h0⟩ | ⟨g, cap, cur, hv, _⟩
 ·omega
 ·cases hv; exact ⟨g, rfl⟩
/-- What stays behind a Spoil of another block. -/
theorem Sl.beside {w w' : World} {a : Option Addr} {n : Nat} {f : Nat → Nat} {g : Nat} (h : Sl w a n f) (hg : w.grownBy w' (some g)) (ho : 0 < n → Off g a) : Sl w' a n f := by
 by_cases hn : 0 < n
 ·exact h.kept hg (ho hn)
 ·obtain rfl : n = 0 := by omega
  exact Sl.nil _ _ _
theorem qa6 {w w1 w2 : World} {g : Nat} (h : Below w.heap.size w w1) (hg : w1.grownBy w2 (some g)) (hb : w.heap.size ≤ g) : Below w.heap.size w w2 :=
 h.grown hg h.size (fun k hk => by cases hk; exact hb)
/-! Lists of the call's own. -/
theorem own_set {w : World} {base g n cp j v : Nat} {f : Nat → Nat} (h : w.ownsRow base 5 1 (.slice (some ⟨g, 0, none⟩) n cp) n (row n f).toList) :
  (w.setCell ⟨g, j, none⟩ (.int .u8 (v : Int))).ownsRow base 5 1 (.slice (some ⟨g, 0, none⟩) n cp) n (row n (fun i => if i = j then v else f i)).toList := by
 have := (h.stored j (.int .u8 (v : Int))).1
 rw [← qka, Array.toList_setIfInBounds]
 exact this
theorem own_cong {w : World} {base n : Nat} {v : Value} {f f' : Nat → Nat} (h : w.ownsRow base 5 1 v n (row n f).toList) (e : ∀ i, i < n → f i = f' i) : w.ownsRow base 5 1 v n (row n f').toList := by
 rw [← qd0 n f f' e]; exact h
theorem own_byte {w : World} {base g n cp j : Nat} {f : Nat → Nat} (h : w.ownsRow base 5 1 (.slice (some ⟨g, 0, none⟩) n cp) n (row n f).toList) (hj : j < n) : w.cell? ⟨g, j, none⟩ = some (.int .u8 (f j : Nat)) := by
 rw [h.cellAt j (by omega), Array.getElem?_toList, qbe n f j hj]
theorem qki {w : World} {base g n cp : Nat} {xs : List Value} (h : w.ownsRow base 5 1 (.slice (some ⟨g, 0, none⟩) n cp) n xs) : base ≤ g ∧ g < w.heap.size := by
 rcases h.2 with ⟨h', _⟩ | ⟨g', cap', cur, h', hb, hg, _⟩
 ·simp at h'
 ·simp only [Value.slice.injEq, Option.some.injEq, Addr.mk.injEq, and_true, true_and] at h'
  obtain ⟨rfl, rfl⟩ := h'
  exact ⟨hb, lt_of_block hg⟩
theorem qfw {w w' : World} {base n g : Nat} {v : Value} {xs : List Value} (h : w.ownsRow base 5 1 v n xs) (hg : w.grownBy w' (some g)) (hne : v.ownBlock ≠ some g) : w'.ownsRow base 5 1 v n xs :=
 h.kept hg (.inr hne)
theorem qd3 {w : World} {B B' n : Nat} {v : Value} {xs : List Value} (h : w.ownsRow B 5 1 v n xs) (hB : B' ≤ B) : w.ownsRow B' 5 1 v n xs := by
 refine ⟨h.1, ?_⟩
 rcases h.2 with h' | ⟨g, cap, cur, e, hb, r⟩
 ·exact .inl h'
 ·exact .inr ⟨g, cap, cur, e, by omega, r⟩
theorem own_lt {w : World} {B n : Nat} {v : Value} {xs : List Value} (h : w.ownsRow B 5 1 v n xs) : v.ownBlock ≠ some w.heap.size := by
 rcases h.2 with ⟨rfl, _⟩ | ⟨g, cap, cur, rfl, hb, hg, _⟩
 ·simp [Value.ownBlock]
 ·have := lt_of_block hg
  simp [Value.ownBlock]; omega
open Go.RowKit
/-- A matrix as a value. -/
abbrev mv (r c : Int) (a : Option Addr) (n k : Nat) : Value := .agg #[.int .i64 r, .int .i64 c, .slice a n k]
/-- Right, in numbers. -/
def RightP (r c : Int) (n : Nat) : Prop := 0 ≤ r ∧ r ≤ 64 ∧ 0 ≤ c ∧ c ≤ 64 ∧ (n : Int) = r * c
theorem qd4 {r c : Int} (h1 : 0 ≤ r) (h2 : r ≤ 64) (h3 : 0 ≤ c) (h4 : c ≤ 64) : 0 ≤ r * c ∧ r * c ≤ 4096 :=
 ⟨Int.mul_nonneg h1 h3, Int.le_trans (Int.mul_le_mul_of_nonneg_right h2 h3) (by omega)⟩
theorem qa1 (w : World) (o : Obj) : Below w.heap.size w (w.alloc o) := (Below.refl _ _).alloc (Nat.le_refl _) _
/-- A variable of three cells: a matrix's. -/
def Vr (w : World) (b : Nat) (x y z : Value) : Prop := w.heap[b]? = some (.cells #[x, y, z] 24 (0, 0))
theorem Vr.lt {w : World} {b : Nat} {x y z : Value} (h : Vr w b x y z) : b < w.heap.size := lt_of_block h
theorem Vr.c0 {w : World} {b : Nat} {x y z : Value} (h : Vr w b x y z) : w.cell? ⟨b, 0, none⟩ = some x := by rw [cell_of_row w b 0 _ _ _ h]; rfl
theorem Vr.c1 {w : World} {b : Nat} {x y z : Value} (h : Vr w b x y z) : w.cell? ⟨b, 1, none⟩ = some y := by rw [cell_of_row w b 1 _ _ _ h]; rfl
theorem Vr.c2 {w : World} {b : Nat} {x y z : Value} (h : Vr w b x y z) : w.cell? ⟨b, 2, none⟩ = some z := by rw [cell_of_row w b 2 _ _ _ h]; rfl
theorem Vr.free {w : World} {b : Nat} {x y z : Value} (h : Vr w b x y z) (i : Nat) : w.frozen? ⟨b, i, none⟩ = false := by
 unfold Vr at h
 simp [World.frozen?, h]
theorem Vr.later {w w' : World} {b : Nat} {x y z : Value} (h : Vr w b x y z) (hb : Below w.heap.size w w') : Vr w' b x y z := by unfold Vr; rw [hb.block b h.lt]; exact h
theorem Vr.kept {w w' : World} {b g : Nat} {x y z : Value} (h : Vr w b x y z) (hg : w.grownBy w' (some g)) (hne : b ≠ g) : Vr w' b x y z := by unfold Vr; rw [hg.block b h.lt (by simpa using hne)]; exact h
theorem Vr.new (w : World) (x y z : Value) : Vr (w.alloc (.cells #[x, y, z] 24)) w.heap.size x y z := qd1 w _
theorem size24 : (Tryz.prog.info? 24).map (·.size) = some 3 := by kernel_rfl
theorem Vr.set0 {w : World} {b : Nat} {x y z : Value} (h : Vr w b x y z) (v : Value) : Vr (w.setCell ⟨b, 0, none⟩ v) b v y z := by
 unfold Vr at *
 rw [setCell_eq_setRow w b 0 _ _ (0, 0) _ h, setRow_heap w b _ _ _ (0, 0) h]; rfl
theorem Vr.set1 {w : World} {b : Nat} {x y z : Value} (h : Vr w b x y z) (v : Value) : Vr (w.setCell ⟨b, 1, none⟩ v) b x v z := by
 unfold Vr at *
 rw [setCell_eq_setRow w b 1 _ _ (0, 0) _ h, setRow_heap w b _ _ _ (0, 0) h]; rfl
theorem Vr.set2 {w : World} {b : Nat} {x y z : Value} (h : Vr w b x y z) (v : Value) : Vr (w.setCell ⟨b, 2, none⟩ v) b x y v := by
 unfold Vr at *
 rw [setCell_eq_setRow w b 2 _ _ (0, 0) _ h, setRow_heap w b _ _ _ (0, 0) h]; rfl
theorem Vr.there {w : World} {b : Nat} {x y z : Value} (h : Vr w b x y z) : w.there b 0 3 := by
 intro j hj
 rcases (by omega : j = 0 ∨ j = 1 ∨ j = 2) with rfl | rfl | rfl
 ·exact ⟨by rw [Nat.zero_add, h.c0]; rfl, h.free _⟩
 ·exact ⟨by rw [Nat.zero_add, h.c1]; rfl, h.free _⟩
 ·exact ⟨by rw [Nat.zero_add, h.c2]; rfl, h.free _⟩
theorem qa8 {ops : Array Oper} {rest : List Oper} {op : Oper} {a : Act} {w : World} {Q : Exit → Act → World → Prop} (hgd : op.guard = none) (p q : Operand) (ho : op.op = .store 24 p q)
  (b : Nat) (x y z x' y' z' : Value) (hp : a.eval p = .pointer (some ⟨b, 0, none⟩)) (hq : a.eval q = .agg #[x', y', z']) (hv : Vr w b x y z) (h0 : x'.oneCell' = true) (h1 : y'.oneCell' = true) (h2 : z'.oneCell' = true)
  (h : ∀ w', Hid (Vr w' b x' y' z') → Hid (w.grownBy w' (some b)) → wpList Tryz.prog ops Q rest (a.put op.dst undef) w') : wpList Tryz.prog ops Q (op :: rest) a w :=
 wpList_store_mid hgd 24 p q ho b 0 #[x', y', z'] hp hq hv.there size24 (by simp [h0, h1, h2]) (h _ (((hv.set0 x').set1 y').set2 z') (qbf (qbf (qa2 _ _ _ _) (qa2 _ _ _ _)) (qa2 _ _ _ _)))
theorem qaq (w : World) (r c : Int) (a : Option Addr) (n k : Nat) (h : RightP r c n) :
  Calls Tryz.prog 68 #[mv r c a n k] w fun e w' => e = .returned (.bool true) ∧ Below w.heap.size w w' := by
 obtain ⟨h1, h2, h3, h4, h5⟩ := h
 have hm := qd4 h1 h2 h3 h4
 have hw : IntKind.i64.wrap (r * c) = r * c := by rw [IntKind.wrap_i64]; omega
 have g1 : decide (0 ≤ r) = true := by simpa using h1
 have g2 : decide (r ≤ 64) = true := by simpa using h2
 have g3 : decide (0 ≤ c) = true := by simpa using h3
 have g4 : decide (c ≤ 64) = true := by simpa using h4
 have g5 : ((n : Int) == r * c) = true := by simpa using h5
 clear h5 hm
 go_enter Tryz.func68, Tryz.ntmps68
 go_wp2
 go_ret
 exact ⟨rfl, qa1 _ _⟩
theorem right_no (w : World) (r c : Int) (a : Option Addr) (n k : Nat) (h : ¬ RightP r c n) :
  Calls Tryz.prog 68 #[mv r c a n k] w fun e w' => e = .returned (.bool false) ∧ Below w.heap.size w w' := by
 by_cases h1 : 0 ≤ r
 ·by_cases h2 : r ≤ 64
  ·by_cases h3 : 0 ≤ c
   ·by_cases h4 : c ≤ 64
    ·have h5 : ¬ ((n : Int) = r * c) := fun e => h ⟨h1, h2, h3, h4, e⟩
     have hm := qd4 h1 h2 h3 h4
     have hw : IntKind.i64.wrap (r * c) = r * c := by rw [IntKind.wrap_i64]; omega
     have g1 : decide (0 ≤ r) = true := by simpa using h1
     have g2 : decide (r ≤ 64) = true := by simpa using h2
     have g3 : decide (0 ≤ c) = true := by simpa using h3
     have g4 : decide (c ≤ 64) = true := by simpa using h4
     have g5 : ((n : Int) == r * c) = false := by simpa using h5
     clear h h5 hm
     go_enter Tryz.func68, Tryz.ntmps68
     go_wp2
     go_ret
     exact ⟨rfl, qa1 _ _⟩
    ·have g4 : decide (c ≤ 64) = false := by simpa using h4
     clear h
     go_enter Tryz.func68, Tryz.ntmps68
     go_wp2
     go_ret
     exact ⟨rfl, qa1 _ _⟩
   ·have g3 : decide (0 ≤ c) = false := by simpa using h3
    clear h
    go_enter Tryz.func68, Tryz.ntmps68
    go_wp2
    go_ret
    exact ⟨rfl, qa1 _ _⟩
  ·have g2 : decide (r ≤ 64) = false := by simpa using h2
   clear h
   go_enter Tryz.func68, Tryz.ntmps68
   go_wp2
   go_ret
   exact ⟨rfl, qa1 _ _⟩
 ·have g1 : decide (0 ≤ r) = false := by simpa using h1
  clear h
  go_enter Tryz.func68, Tryz.ntmps68
  go_wp2
  go_ret
  exact ⟨rfl, qa1 _ _⟩
theorem qdh (w : World) (r : Int) (c i j n k v : Nat) (a : Option Addr) (f : Nat → Nat) (h : Sl w a n f) (hi : i * c + j < n) (hn : n ≤ 4096) (HV : Hid (f (i * c + j) = v)) :
  Calls Tryz.prog 69 #[mv r c a n k, .int .i64 (i : Int), .int .i64 (j : Int)] w fun e w' => e = .returned (.int .u8 (v : Int)) ∧ Below w.heap.size w w' := by
 obtain ⟨b, o, ea, hcl⟩ := h.2 _ hi
 rw [HV.out] at hcl
 have hlt := qav hcl
 obtain ⟨p, HP⟩ : ∃ p, Hid (i * c + j = p) := ⟨_, rfl⟩
 rw [HP.out] at hcl hi
 have hb : i * c ≤ p := by rw [← HP.out]; omega
 have e1 : ((i : Int) * (c : Int)) = ((i * c : Nat) : Int) := by simp
 have w1 : IntKind.i64.wrap ((i : Int) * (c : Int)) = (i : Int) * (c : Int) := by rw [e1, IntKind.wrap_i64]; omega
 have w2 : IntKind.i64.wrap ((i : Int) * (c : Int) + (j : Int)) = (p : Int) := by rw [e1, IntKind.wrap_i64]; have := HP.out; omega
 have hcl2 : (w.alloc (.cells #[.int .i64 r, .int .i64 (c : Int), .slice (some ⟨b, o, none⟩) n k] 24)).cell? ⟨b, o + p, none⟩ = some (.int .u8 (v : Int)) := by rw [(qa1 w _).cell (p := ⟨b, o + p, none⟩) hlt]; exact hcl
 clear h hcl e1
 subst ea
 go_enter Tryz.func69, Tryz.ntmps69
 go_wp2
 go_ret
 exact ⟨rfl, qa1 _ _⟩
end Go.Proofs.YtblagbghpfopcaaGreat
