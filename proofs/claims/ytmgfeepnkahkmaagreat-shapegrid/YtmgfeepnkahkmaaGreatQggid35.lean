/-
  bytes.Repeat of one byte.
  Codes by their numbers: Reed, Cross, Local, Pyramid, and what fails of the numbers.
-/
import Derived.Test.YtmgfeepnkahkmaaGreatQggid00
import Derived.Test.YtmgfeepnkahkmaaGreatQggid32
import Derived.Laws.Bits64b
import Derived.Laws.Externs
import Derived.Lib.MakeNoZero
import Derived.Lib.SlBuf
import Derived.Lib.MinMax
import Derived.Deep.RegionHeld3
import Derived.Test.YtmgfeepnkahkmaaGreatQggid34
set_option maxRecDepth 100000
set_option maxHeartbeats 16000000
namespace Go.Proofs.YtmgfeepnkahkmaaGreat
open Go.RowKit
theorem qki (k : Nat) (hk : k ≤ 64) (w : World) : Calls Tryz.prog 112 #[.int .u64 1, .int .u64 (k : Int)] w fun e w' => e = .returned (.tuple #[.int .u64 0, .int .u64 (k : Int)]) ∧ w = w' := by
 have a1 : bits .and .u64 (k : Int) 4294967295 = (k : Int) := by
  have h := bits_and_u64_nat k 4294967295 (by omega) (by omega)
  rw [show k &&& 4294967295 = k % 4294967296 from Nat.and_two_pow_sub_one_eq_mod k 32, Nat.mod_eq_of_lt (by omega)] at h
  exact h
 have a2 : bits .and .u64 1 4294967295 = 1 := by rfl
 have a3 : bits .and .u64 0 4294967295 = 0 := by rfl
 have d1 : (k : Int) / 4294967296 = 0 := by omega
 have wk : IntKind.u64.wrap (k : Int) = (k : Int) := by rw [IntKind.wrap_u64]; omega
 have m1 : (1 : Int) * (k : Int) = (k : Int) := Int.one_mul _
 have w0 : IntKind.u64.wrap 0 = 0 := by rfl
 go_enter Tryz.func112, Tryz.ntmps112
 go_wp2
 go_ret2
 exact ⟨rfl, rfl⟩
theorem rep_mul (k : Nat) (hk : k ≤ 64) (w : World) : Calls Tryz.prog 86 #[.int .u64 1, .int .u64 (k : Int)] w fun e w' => e = .returned (.tuple #[.int .u64 0, .int .u64 (k : Int)]) ∧ w = w' := by
 go_enter Tryz.func86, Tryz.ntmps86
 go_wp2_with (go_at_call 112; refine (qki k hk _).mono ?_; rintro e w' ⟨rfl, rfl⟩)
 go_ret2
 exact ⟨rfl, rfl⟩
/-- A block whose first cells are 1. -/
structure On1 (w : World) (g M k : Nat) : Prop where
 ex : ∃ cur : Array Value, w.heap[g]? = some (.cells cur 5 (0, 0)) ∧ cur.size = M ∧ ∀ i, i < k → cur[i]? = some (.int .u8 1)
theorem On1.cell {w : World} {g M k : Nat} (h : On1 w g M k) (i : Nat) (hi : i < k) : w.cell? ⟨g, i, none⟩ = some (.int .u8 1) := by
 obtain ⟨cur, h1, _, h3⟩ := h.ex
 rw [cell_of_row w g i _ _ _ h1]
 exact h3 i hi
theorem On1.later {w w' : World} {g M k : Nat} (h : On1 w g M k) (hb : Below w.heap.size w w') : On1 w' g M k := by
 obtain ⟨cur, h1, h2, h3⟩ := h.ex
 exact ⟨cur, by rw [hb.block g (lt_of_block h1)]; exact h1, h2, h3⟩
/-- A run of ones is copied behind the first ones. -/
theorem On1.copy {w : World} {g M k c : Nat} (h : On1 w g M k) (hfit : k + c ≤ M) (D dc : Nat) (s : Addr) (n sc : Nat) (ty : TypeId) (hc : Nat.min n D = c) (hsrc : ∀ j, j < c → w.cell? (s.add j) = some (.int .u8 1)) :
  ∃ w', (Builtin.copy_ #[22, 22] ty #[.slice (some ⟨g, k, none⟩) D dc, .slice (some s) n sc]).run Tryz.prog w = .ok (goInt c) w' ∧ On1 w' g M (k + c) ∧ w.grownBy w' (some g) := by
 obtain ⟨cur, h1, h2, h3⟩ := h.ex
 have hl : (List.replicate c (Value.int .u8 1)).length = c := List.length_replicate
 have hrun := run_copy_row (P := Tryz.prog) w 22 22 ty 5 g k D dc s n sc cur 5 (List.replicate c (.int .u8 1)) Tryz.underlying22 qi7 h1 (by rw [hl, hc]) (fun j v hj => by
  have hjc : j < c := by
   have := (List.getElem?_eq_some_iff.1 hj).1
   omega
  rw [hsrc j hjc]
  rw [List.getElem?_replicate, if_pos hjc] at hj
  exact hj) (by rw [hl, h2]; exact hfit) (fun v hv => by rw [(List.mem_replicate.1 hv).2]; rfl)
 rw [hl] at hrun
 refine ⟨_, hrun, ⟨_, setRow_heap w g _ _ _ _ h1, ?_, ?_⟩, qas _ _ _⟩
 ·simp [h2]; omega
 ·intro i hi
  rw [List.getElem?_toArray, List.append_assoc]
  by_cases h4 : i < k
  ·rw [List.getElem?_append_left (by simp; omega), List.getElem?_take, if_pos h4]
   rw [Array.getElem?_toList]
   exact h3 i h4
  ·rw [List.getElem?_append_right (by simp; omega), List.getElem?_append_left (by simp; omega), List.getElem?_replicate, if_pos (by simp; omega)]
theorem rep16 (k : Nat) (h1 : 1 ≤ k) (hk : k ≤ 64) (w : World) (b c : Nat) (hb : w.cell? ⟨b, 0, none⟩ = some (.int .u8 1)) :
  Calls Tryz.prog 55 #[.slice (some ⟨b, 0, none⟩) 1 c, .int .i64 (k : Int)] w fun e w' => ∃ g, e = .returned (.slice (some ⟨g, 0, none⟩) k k) ∧ Mt w' (some ⟨g, 0, none⟩) k k (fun _ => 1) ∧ w.heap.size ≤ g ∧ Below w.heap.size w w' := by
 have wk : IntKind.u64.wrap (k : Int) = (k : Int) := by rw [IntKind.wrap_u64]; omega
 have wk2 : IntKind.i64.wrap (k : Int) = (k : Int) := by rw [IntKind.wrap_i64]; omega
 have g1 : ((k : Int) == 0) = false := by simp; omega
 have g2 : decide ((k : Int) < 0) = false := by simp
 have g3 : decide ((9223372036854775807 : Int) < (k : Int)) = false := by simp; omega
 have g4 : decide ((8192 : Int) < (k : Int)) = false := by simp; omega
 obtain ⟨cs, hrunM, hle, _⟩ := Lib.run_makeNoZero (P := Tryz.prog) w #[3] 22 5 Tryz.underlying22 k (by omega)
 have hcall : (callFunc 87 #[.int .i64 (k : Int)]).run Tryz.prog w = .ok (.value (.slice (some ⟨w.heap.size, 0, none⟩) k cs.size)) ((w.alloc (.cells cs 5)).drewN 2) := by
  rw [run_callFunc_extern Tryz.func87 (by kernel_rfl) (by kernel_rfl) (by kernel_rfl) (e := Extern.BytealgMakeNoZero.makeNoZero #[3] #[22]) (by kernel_rfl), hrunM]
  rfl
 clear hrunM
 obtain ⟨wm, HWm⟩ : ∃ wm, Hid ((w.alloc (.cells cs 5)).drewN 2 = wm) := ⟨_, rfl⟩
 rw [HWm.out] at hcall
 have HO0 : Hid (On1 wm w.heap.size cs.size 0) := by rw [← HWm.out]; exact ⟨cs, qby w _, rfl, fun i hi => by omega⟩
 have HB0 : Hid (Below w.heap.size w wm) := by rw [← HWm.out]; exact ⟨rfl, rfl, rfl, by simp, fun k hk => Go.heap_alloc_old w _ hk⟩
 obtain ⟨w1, hr1, ho1, hgr1⟩ := HO0.out.copy (c := 1) (by omega) k k ⟨b, 0, none⟩ 1 c 3 (by show min 1 k = 1; omega) (fun j hj => by
  obtain rfl : j = 0 := by omega
  rw [add_plain]
  exact keepc HB0.out hb)
 have HO1 : Hid (On1 w1 w.heap.size cs.size 1) := by rw [show 1 = 0 + 1 from rfl]; exact ho1
 have HB1 : Hid (Below w.heap.size w w1) := qa3 HB0.out hgr1 (Nat.le_refl _)
 have i1 : (k : Int) ≤ (cs.size : Int) := by omega
 clear ho1 hgr1 hb
 go_enter Tryz.func55, Tryz.ntmps55
 go_wp2_with (first
  | (go_at_call 86; refine (rep_mul k hk _).mono ?_; rintro e w' ⟨rfl, rfl⟩)
  | (refine Lib.wpList_copy_run _ rfl _ _ 22 22 rfl _ _ rfl rfl hr1 ?_))
 go_loopw [10, 11] (fun B _ wr => ∃ j : Nat, 1 ≤ j ∧ j ≤ k ∧ B = .int .i64 (j : Int) ∧ On1 wr w.heap.size cs.size j ∧ Below w.heap.size w wr) (fun B _ _ => k - (intOf B).toNat)
 case atStart => exact ⟨1, by omega, by omega, rfl, HO1.out, HB1.out⟩
 case round =>
  clear hr1 HO1 HB1 hcall
  obtain ⟨j, hj1, hjk, rfl, hon, hbw⟩ := hrel
  have HO : Hid (On1 wr w.heap.size cs.size j) := hon
  have HB : Hid (Below w.heap.size w wr) := hbw
  clear hon hbw
  by_cases hlt : j < k
  ·obtain ⟨c2, HC⟩ : ∃ c2, Hid (Nat.min j (k - j) = c2) := ⟨_, rfl⟩
   have hc2 : 1 ≤ c2 ∧ c2 ≤ j ∧ c2 ≤ k - j := by have : min j (k - j) = c2 := HC.out; omega
   obtain ⟨w2, hr2, ho2, hgr2⟩ := (On1.later HO.out (w' := wr.drew) ⟨rfl, rfl, rfl, Nat.le_refl _, fun _ _ => rfl⟩).copy (c := c2) (by omega) (k - j) (k - j) ⟨w.heap.size, 0, none⟩ j k 3 HC.out (fun i hi => by
    rw [add_plain, Nat.zero_add]
    exact HO.out.cell i (by omega))
   have HO2 : Hid (On1 w2 w.heap.size cs.size (j + c2)) := ho2
   have HB2 : Hid (Below w.heap.size w w2) := qa3 (qa0 HB.out (qbp _)) hgr2 (Nat.le_refl _)
   have mn : min (j : Int) (k : Int) = (j : Int) := by omega
   have wj : IntKind.i64.wrap ((j : Int) + (c2 : Int)) = ((j + c2 : Nat) : Int) := by rw [IntKind.wrap_i64]; omega
   have hne : ¬ k = j := by omega
   have j0 : (0 : Int) ≤ (j : Int) := Int.natCast_nonneg _
   have j1 : (j : Int) ≤ (k : Int) := by omega
   have hjz : (j : Int) < (k : Int) := by omega
   clear ho2 hgr2
   go_wp2
   go_region_held3 (fun _ => True)
    (trivial)
    ((rw [if_pos (by simp [Region.wanted])]; refine Lib.wp_copy_run _ _ _ 22 22 rfl _ _ rfl rfl hr2 ?_))
   go_wp2
   exact ⟨⟨j + c2, by omega, by omega, by go_num, HO2.out, HB2.out⟩, by simp [intOf]; omega⟩
  ·obtain rfl : j = k := by omega
   go_wp2
   go_ret
   refine ⟨w.heap.size, rfl, ⟨⟨fun i _ => by show 1 < 256; omega, fun i hi => ⟨_, _, rfl, ?_⟩⟩, Nat.le_refl _, fun e => by cases e⟩, Nat.le_refl _, HB.out⟩
   rw [Nat.zero_add]
   exact HO.out.cell i hi
open Go.RowKit
/-- A code and an error are answered. -/
def CAns (w w' : World) (e : Ending) (R C : Int) (N : Nat) (f : Nat → Nat) (M : Nat) (q : Nat → Nat) (E : Int) : Prop := ∃ s d s2 d2, e = .returned (.tuple #[cv R C s N d s2 M d2, .int .i64 E]) ∧ Mt w' s N d f ∧ Jl w' s2 .u64 M (fun i => (q i : Int)) ∧ Below w.heap.size w w'
theorem Vq.set {w : World} {b : Nat} {T : TypeId} {xs : Array Value} (h : Vq w b T xs) (i : Nat) (v : Value) : Vq (w.setCell ⟨b, i, none⟩ v) b T (xs.setIfInBounds i v) := by
 unfold Vq at *
 rw [setCell_eq_setRow w b i _ _ (0, 0) _ h, setRow_heap w b _ _ _ (0, 0) h]
theorem qba {w : World} {b : Nat} {T : TypeId} {a0 a1 a2 a3 : Value} (h : Vq w b T #[a0, a1, a2, a3]) (x0 x1 x2 x3 : Value) : Vq ((((w.setCell ⟨b, 0, none⟩ x0).setCell ⟨b, 1, none⟩ x1).setCell ⟨b, 2, none⟩ x2).setCell ⟨b, 3, none⟩ x3) b T #[x0, x1, x2, x3] ∧ w.grownBy ((((w.setCell ⟨b, 0, none⟩ x0).setCell ⟨b, 1, none⟩ x1).setCell ⟨b, 2, none⟩ x2).setCell ⟨b, 3, none⟩ x3) (some b) :=
 ⟨(((h.set 0 x0).set 1 x1).set 2 x2).set 3 x3, qaa (qaa (qaa (qa2 _ _ _ _) (qa2 _ _ _ _)) (qa2 _ _ _ _)) (qa2 _ _ _ _)⟩
theorem qhi {w : World} {g b n : Nat} {f : Nat → Nat} {xs : Array Value} (h : RowAt w g 5 n f) (hv : Vq w b 27 xs) : g ≠ b := fun e => by
 subst e
 unfold RowAt at h
 unfold Vq at hv
 rw [h] at hv
 simp at hv
theorem jat_ne16 {w : World} {g b n : Nat} {f : Nat → Nat} {xs : Array Value} (h : JAt w g 52 .u64 n f) (hv : Vq w b 27 xs) : g ≠ b := fun e => by
 subst e
 unfold JAt at h
 unfold Vq at hv
 rw [h] at hv
 simp at hv
theorem jat_jl16 {w : World} {g n : Nat} {f : Nat → Nat} (h : JAt w g 52 .u64 n f) : Jl w (some ⟨g, 0, none⟩) .u64 n (fun i => (f i : Int)) := fun i hi => ⟨g, 0, rfl, by rw [Nat.zero_add]; exact h.cell i hi⟩
theorem qhj (k p : Nat) : crf k p < 256 := by
 unfold crf stf
 split
 ·exact qfl k p
 ·exact qac _
theorem ptf_lt {k l s : Nat} {W X : Nat → Nat} (_hK : l * s = k) (_hl : 1 ≤ l) (hW : ∀ j, W j < 256) (hX : ∀ j, X j < 256) (q : Nat) : ptf k l s W X q < 256 := by
 unfold ptf
 split
 ·exact qfl k q
 ·split
  ·split
   ·exact hW _
   ·omega
  ·exact hX _
theorem port_mod {k l s : Nat} (h : l * s = k) : (k : Int) % (l : Int) = 0 := by
 rw [← h, Int.natCast_mul]
 exact Int.mul_emod_right _ _
/-- The numbers of a code of portions. -/
def PortP (k l m : Int) : Prop := 1 ≤ k ∧ 1 ≤ l ∧ k % l = 0 ∧ 0 ≤ m
/-- What fails of them. -/
def PfP (k l m E : Int) : Prop := (¬ PortP k l m ∧ E = 2) ∨ (PortP k l m ∧ 64 < k + l + m ∧ E = 4) ∨ (PortP k l m ∧ k + l + m ≤ 64 ∧ E = 0)
def tw16 (x y : Int) (i : Nat) : Int := if i = 0 then x else y
def th16 (x y z : Int) (i : Nat) : Int := if i = 0 then x else if i = 1 then y else z
theorem qkl (w : World) (T : TypeId) (x y : Int) : Jl (w.alloc (.cells #[.int .i64 x, .int .i64 y] T)) (some ⟨w.heap.size, 0, none⟩) .i64 2 (tw16 x y) := fun i hi => ⟨_, _, rfl, by
 rcases (by omega : i = 0 ∨ i = 1) with rfl | rfl
 ·exact (Vq.new w T _).cell 0 _ rfl
 ·exact (Vq.new w T _).cell 1 _ rfl⟩
theorem qkm (w : World) (T : TypeId) (x y z : Int) : Jl (w.alloc (.cells #[.int .i64 x, .int .i64 y, .int .i64 z] T)) (some ⟨w.heap.size, 0, none⟩) .i64 3 (th16 x y z) := fun i hi => ⟨_, _, rfl, by
 rcases (by omega : i = 0 ∨ i = 1 ∨ i = 2) with rfl | rfl | rfl
 ·exact (Vq.new w T _).cell 0 _ rfl
 ·exact (Vq.new w T _).cell 1 _ rfl
 ·exact (Vq.new w T _).cell 2 _ rfl⟩
theorem th16_all {x y z : Int} {p : Int → Prop} (hx : p x) (hy : p y) (hz : p z) : ∀ i, i < 3 → p (th16 x y z i) := fun i hi => by
 rcases (by omega : i = 0 ∨ i = 1 ∨ i = 2) with rfl | rfl | rfl
 ·exact hx
 ·exact hy
 ·exact hz
theorem qhk (x y z : Int) : sm16 (th16 x y z) 3 = x + y + z := by show 0 + x + y + z = _; omega
theorem pfail (w : World) (k l m E : Int) (hk : k < 9223372036854775808) (hl : l < 9223372036854775808) (hm : m < 9223372036854775808) (h : PfP k l m E) :
  Calls Tryz.prog 52 #[.int .i64 k, .int .i64 l, .int .i64 m] w fun e w' => e = .returned (.int .i64 E) ∧ Below w.heap.size w w' := by
 have HE : Hid (PfP k l m E) := h
 clear h
 by_cases h1 : k < 1
 ·obtain rfl : E = 2 := by rcases HE.out with ⟨_, h⟩ | ⟨⟨h, _⟩, _⟩ | ⟨⟨h, _⟩, _⟩ <;> omega
  have g1 : decide (k < 1) = true := by simpa using h1
  clear HE h1
  go_enter Tryz.func52, Tryz.ntmps52
  go_wp2
  go_ret
  exact ⟨rfl, Below.refl _ _⟩
 ·have g1 : decide (k < 1) = false := by simpa using h1
  by_cases h2 : l < 1
  ·obtain rfl : E = 2 := by rcases HE.out with ⟨_, h⟩ | ⟨⟨_, h, _⟩, _⟩ | ⟨⟨_, h, _⟩, _⟩ <;> omega
   have g2 : decide (l < 1) = true := by simpa using h2
   clear HE h1 h2
   go_enter Tryz.func52, Tryz.ntmps52
   go_wp2
   go_ret
   exact ⟨rfl, Below.refl _ _⟩
  ·have g2 : decide (l < 1) = false := by simpa using h2
   have w5 : k.tmod l = k % l := Int.tmod_eq_emod_of_nonneg (by omega)
   have hlz : ¬ l = 0 := by omega
   have glz : (l == 0) = false := by simpa using hlz
   by_cases h3 : k % l = 0
   ·have h3' : k.tmod l = 0 := by rw [w5]; exact h3
    have q3 : (k.tmod l != 0) = false := by simp [h3']
    have q4 : (k % l != 0) = false := by simp [h3]
    by_cases h4 : m < 0
    ·obtain rfl : E = 2 := by rcases HE.out with ⟨_, h⟩ | ⟨⟨_, _, _, h⟩, _⟩ | ⟨⟨_, _, _, h⟩, _⟩ <;> omega
     have g4 : decide (m < 0) = true := by simpa using h4
     clear HE h1 h2 h4 w5 h3 h3'
     go_enter Tryz.func52, Tryz.ntmps52
     go_wp2
     go_ret
     exact ⟨rfl, Below.refl _ _⟩
    ·have g4 : decide (m < 0) = false := by simpa using h4
     have HP : Hid (∀ i, i < 3 → 0 ≤ th16 k l m i ∧ th16 k l m i < 9223372036854775808) := th16_all (p := fun x => 0 ≤ x ∧ x < 9223372036854775808) ⟨by omega, hk⟩ ⟨by omega, hl⟩ ⟨by omega, hm⟩
     have hP : PortP k l m := ⟨by omega, by omega, h3, by omega⟩
     by_cases h5 : 64 < k + l + m
     ·obtain rfl : E = 4 := by rcases HE.out with ⟨h, _⟩ | ⟨_, _, h⟩ | ⟨_, h, _⟩ <;> first | exact absurd hP h | omega
      have HTm : Hid (decide (64 < sm16 (th16 k l m) 3) = true) := by show _ = _; rw [qhk]; simpa using h5
      clear HE h1 h2 h4 w5 h3 h3' hP h5
      go_enter Tryz.func52, Tryz.ntmps52
      go_wp2_with (go_at_call 36; refine (qd0 _ 3 3 _ (th16 k l m) (by omega) (qkm _ _ _ _ _) HP.out).mono ?_; rw [HTm.out]; rintro e w' ⟨rfl, rfl⟩)
      go_ret
      exact ⟨rfl, qa1 _ _⟩
     ·obtain rfl : E = 0 := by rcases HE.out with ⟨h, _⟩ | ⟨_, h, _⟩ | ⟨_, _, h⟩ <;> first | exact absurd hP h | omega
      have HTm : Hid (decide (64 < sm16 (th16 k l m) 3) = false) := by show _ = _; rw [qhk]; simpa using h5
      clear HE h1 h2 h4 w5 h3 h3' hP h5
      go_enter Tryz.func52, Tryz.ntmps52
      go_wp2_with (go_at_call 36; refine (qd0 _ 3 3 _ (th16 k l m) (by omega) (qkm _ _ _ _ _) HP.out).mono ?_; rw [HTm.out]; rintro e w' ⟨rfl, rfl⟩)
      go_ret
      exact ⟨rfl, qa1 _ _⟩
   ·obtain rfl : E = 2 := by rcases HE.out with ⟨_, h⟩ | ⟨⟨_, _, h, _⟩, _⟩ | ⟨⟨_, _, h, _⟩, _⟩ <;> first | exact h | exact absurd h h3
    have w0 : 0 ≤ k % l := Int.emod_nonneg _ (by omega)
    have w1 : k % l < l := Int.emod_lt_of_pos _ (by omega)
    have w2 : -9223372036854775808 ≤ k % l := by omega
    have w3 : k % l ≤ 9223372036854775807 := by omega
    have q3 : (k % l != 0) = true := by simp [h3]
    clear HE h1 h2
    go_enter Tryz.func52, Tryz.ntmps52
    go_wp2
    go_ret
    exact ⟨rfl, Below.refl _ _⟩
end Go.Proofs.YtmgfeepnkahkmaaGreat
