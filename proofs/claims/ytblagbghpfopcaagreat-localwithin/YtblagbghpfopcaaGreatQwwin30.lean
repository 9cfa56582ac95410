/-
  The library's functions that the program calls: their contracts at this program.
  The reduction's words: what is changed, rows that are slices of one list, grids.
  The changes: rows exchanged, multiplied, put to others.
  The changes: a row multiplied; a row's multiple put to another.
-/
import Derived.Test.YtblagbghpfopcaaGreatQwwin00
import Derived.Shelf.Slices.Turned
import Derived.Shelf.Bytes.SlClone
import Derived.Shelf.Bytes.SlJoin
import Derived.Test.YtblagbghpfopcaaGreatQwwin29
import Derived.Test.YtblagbghpfopcaaGreatQwwin28
set_option maxRecDepth 100000
set_option maxHeartbeats 16000000
namespace Go.Proofs.YtblagbghpfopcaaGreat
open Go.RowKit
def renI : Go.Shelf.Ren := ⟨fun | 107 => 153 | 108 => 165 | n => n, fun | 28 => 34 | 3 => 3 | 4 => 4 | 0 => 0 | n => n, fun | n => n⟩
theorem laysI : Go.Proofs.Lays.n107 Tryz.prog renI := {
 mixed := by kernel_rfl
 f107 := Tryz.func153.trans (congrArg some (by kernel_rfl))
 f108 := Tryz.func165.trans (congrArg some (by kernel_rfl))
 t0 := Tryz.underlying0
 a0 := Tryz.isAgg0
 z0 := Tryz.sizeOf0
 v0 := Tryz.zeroValue0
 t3 := Tryz.underlying3
 a3 := Tryz.isAgg3
 z3 := Tryz.sizeOf3
 v3 := Tryz.zeroValue3
 t4 := Tryz.underlying4
 a4 := Tryz.isAgg4
 z4 := Tryz.sizeOf4
 v4 := Tryz.zeroValue4
 t28 := Tryz.underlying34
 a28 := Tryz.isAgg34
 z28 := Tryz.sizeOf34
 v28 := Tryz.zeroValue34 }
def renC : Go.Shelf.Ren := ⟨fun | 4 => 65 | n => n, fun | 22 => 22 | 4 => 4 | 5 => 5 | n => n, fun | n => n⟩
theorem laysC : Go.Proofs.SlLaysK.n4 Tryz.prog renC := {
 mixed := by kernel_rfl
 f4 := Tryz.func65.trans (congrArg some (by kernel_rfl))
 t4 := Tryz.underlying4
 a4 := Tryz.isAgg4
 z4 := Tryz.sizeOf4
 v4 := Tryz.zeroValue4
 t22 := Tryz.underlying22
 a22 := Tryz.isAgg22
 z22 := Tryz.sizeOf22
 v22 := Tryz.zeroValue22
 t5 := Tryz.underlying5
 i5 := by kernel_rfl }
def renJ : Go.Shelf.Ren := ⟨fun | 14 => 112 | 15 => 130 | n => n, fun | 26 => 120 | 22 => 22 | 3 => 3 | 4 => 4 | 0 => 0 | 9 => 9 | 20 => 20 | 5 => 5 | n => n, fun | n => n⟩
theorem laysJ : Go.Proofs.SlLaysJ.n14 Tryz.prog renJ := {
 mixed := by kernel_rfl
 f14 := Tryz.func112.trans (congrArg some (by kernel_rfl))
 f15 := Tryz.func130.trans (congrArg some (by kernel_rfl))
 t0 := Tryz.underlying0
 a0 := Tryz.isAgg0
 z0 := Tryz.sizeOf0
 v0 := Tryz.zeroValue0
 t3 := Tryz.underlying3
 a3 := Tryz.isAgg3
 z3 := Tryz.sizeOf3
 v3 := Tryz.zeroValue3
 t4 := Tryz.underlying4
 a4 := Tryz.isAgg4
 z4 := Tryz.sizeOf4
 v4 := Tryz.zeroValue4
 t9 := Tryz.underlying9
 a9 := Tryz.isAgg9
 z9 := Tryz.sizeOf9
 v9 := Tryz.zeroValue9
 t20 := Tryz.underlying20
 a20 := Tryz.isAgg20
 z20 := Tryz.sizeOf20
 v20 := Tryz.zeroValue20
 t22 := Tryz.underlying22
 a22 := Tryz.isAgg22
 z22 := Tryz.sizeOf22
 v22 := Tryz.zeroValue22
 t26 := Tryz.underlying120
 a26 := Tryz.isAgg120
 z26 := Tryz.sizeOf120
 v26 := Tryz.zeroValue120
 t5 := Tryz.underlying5
 z5 := Tryz.sizeOf5
 i5 := by kernel_rfl }
/-- bytes.Clone of a list with room. -/
theorem clone_sl (w : World) (a : Option Addr) (n k : Nat) (F : Nat → Nat) (h : Sl w a n F) (hn : n ≤ 4096) : Calls Tryz.prog 65 #[.slice a n k] w fun e w' => ∃ s d, e = .returned (.slice s n d) ∧ Ob w' w.heap.size (.slice s n d) n F ∧ (s = none → n = 0 ∧ d = 0) ∧ Below w.heap.size w w' := by
 cases a with
 | none =>
  obtain rfl : n = 0 := Decidable.byContradiction fun hne => by
   obtain ⟨b, o, e, _⟩ := h.2 0 (by omega)
   cases e
  refine (Any.bytes_Clone_nil laysC 0 k w).mono (fun e w' h => ?_)
  obtain ⟨rfl, rfl⟩ := h
  refine ⟨none, 0, rfl, ?_, fun _ => ⟨rfl, rfl⟩, Below.refl _ _⟩
  unfold Ob
  rw [qbn]
  exact World.ownsRow_nil _ _ _ _
 | some x =>
  refine (Any.bytes_Clone_at laysC x n k ((List.range n).map fun i => ((F i : Nat) : Int)) w (by simp) (by omega) (fun i hi => ?_)).mono (fun e w' h => ?_)
  ·obtain ⟨b, o, e, hc⟩ := h.2 i hi
   cases e
   rw [add_plain, hc]
   simp [hi]
  ·obtain ⟨v, rfl, ho, _, hb⟩ := h
   have e1 : ((List.range n).map fun i => ((F i : Nat) : Int)).map (Value.int .u8) = (row n F).toList := by simp [row]
   rw [e1] at ho
   have ho' : Ob w' w.heap.size v n F := ho
   obtain ⟨s, d, rfl, h0⟩ : ∃ s d, v = .slice s n d ∧ (s = none → n = 0 ∧ d = 0) := by
    rcases ho'.2 with ⟨e, h0⟩ | ⟨g, cap, cur, e, _⟩
    ·exact ⟨none, 0, by rw [e, h0], fun _ => ⟨h0, rfl⟩⟩
    ·exact ⟨_, _, e, fun x => by cases x⟩
   exact ⟨s, d, rfl, ho', h0, hb⟩
/-- slices.Contains of a list of numbers. -/
theorem qer (w : World) (s : Option Addr) (n d j : Nat) (q : Nat → Nat) (h : Il w s n (fun i => (q i : Int))) (hn : n ≤ 64) : Calls Tryz.prog 153 #[.slice s n d, .int .i64 (j : Int)] w fun e w' => e = .returned (.bool (pvt q n j)) ∧ w = w' := by
 cases n with
 | zero =>
  refine (Any.slices_Contains_int_empty laysI s d j w).mono (fun e w' h => ?_)
  obtain ⟨rfl, rfl⟩ := h
  exact ⟨by simp [pvt], rfl⟩
 | succ n =>
  obtain ⟨x, o, rfl, _⟩ := h 0 (by omega)
  refine (Any.slices_Contains_int laysI x o (n + 1) d ((List.range (n + 1)).map fun i => ((q i : Nat) : Int)) j w (by simp) (by omega) (fun i hi => ?_)).mono (fun e w' h => ?_)
  ·have hi' : i < n + 1 := by simpa using hi
   obtain ⟨x', o', e, hc⟩ := h i hi'
   cases e
   rw [hc]
   simp [hi']
  ·obtain ⟨rfl, rfl⟩ := h
   refine ⟨?_, rfl⟩
   have e1 : ((List.range (n + 1)).map fun i => ((q i : Nat) : Int)).take (n + 1) = (List.range (n + 1)).map fun i => ((q i : Nat) : Int) := List.take_of_length_le (by simp)
   rw [e1]
   congr 2
   rw [Bool.eq_iff_iff, qbu]
   simp only [List.contains_iff_mem, List.mem_map, List.mem_range]
   constructor
   ·rintro ⟨a, h1, h2⟩; exact ⟨a, h1, by omega⟩
   ·rintro ⟨a, h1, h2⟩; exact ⟨a, h1, by omega⟩
open Go.RowKit
/-- Of the blocks that were there only those of S are changed. -/
structure Chg (w w' : World) (S : Nat → Prop) : Prop where
 os : w'.os = w.os
 tape : w'.tape = w.tape
 output : w'.output = w.output
 size : w.heap.size ≤ w'.heap.size
 block : ∀ k, k < w.heap.size → ¬ S k → w'.heap[k]? = w.heap[k]?
theorem Chg.refl (w : World) (S : Nat → Prop) : Chg w w S := ⟨rfl, rfl, rfl, Nat.le_refl _, fun _ _ _ => rfl⟩
theorem Chg.of_below {w w' : World} {S : Nat → Prop} (h : Below w.heap.size w w') : Chg w w' S := ⟨h.os, h.tape, h.output, h.size, fun k hk _ => h.block k hk⟩
theorem Chg.of_grown {w w' : World} {S : Nat → Prop} {g : Nat} (h : w.grownBy w' (some g)) (hs : S g) : Chg w w' S := ⟨h.os, h.tape, h.output, h.size, fun k hk hn => h.block k hk (fun e => hn (by cases e; exact hs))⟩
theorem Chg.trans {a b c : World} {S : Nat → Prop} (h : Chg a b S) (k : Chg b c S) : Chg a c S :=
 ⟨k.os.trans h.os, k.tape.trans h.tape, k.output.trans h.output, Nat.le_trans h.size k.size, fun i hi hn => (k.block i (Nat.lt_of_lt_of_le hi h.size) hn).trans (h.block i hi hn)⟩
theorem Chg.mono {a b : World} {S T : Nat → Prop} (h : Chg a b S) (hST : ∀ k, S k → T k) : Chg a b T := ⟨h.os, h.tape, h.output, h.size, fun i hi hn => h.block i hi (fun hs => hn (hST i hs))⟩
theorem Chg.at {w w' : World} {S : Nat → Prop} (h : Chg w w' S) {g : Nat} {o : Obj} (hg : w.heap[g]? = some o) (hn : ¬ S g) : w'.heap[g]? = some o := by rw [h.block g (lt_of_block hg) hn]; exact hg
theorem Chg.low {w w' : World} {S : Nat → Prop} (h : Chg w w' S) {B : Nat} (hB : B ≤ w.heap.size) (hS : ∀ k, S k → B ≤ k) : Below B w w' := ⟨h.os, h.tape, h.output, h.size, fun k hk => h.block k (Nat.lt_of_lt_of_le hk hB) (fun hs => by have := hS k hs; omega)⟩
theorem qhf {w w' : World} {S : Nat → Prop} {B : Nat} {e : TypeId} {s : Nat} {v : Value} {n : Nat} {xs : List Value} (h : w.ownsRow B e s v n xs) (hc : Chg w w' S) (hn : ∀ g, v.ownBlock = some g → ¬ S g) : w'.ownsRow B e s v n xs := by
 refine ⟨h.1, ?_⟩
 rcases h.2 with h0 | ⟨g, cap, cur, e1, hb, hg, r⟩
 ·exact .inl h0
 ·exact .inr ⟨g, cap, cur, e1, hb, hc.at hg (hn g (by rw [e1]; rfl)), r⟩
theorem Sl.chg {w w' : World} {S : Nat → Prop} {a : Option Addr} {n : Nat} {f : Nat → Nat} (h : Sl w a n f) (hc : Chg w w' S) (hn : ∀ x, a = some x → ¬ S x.block) : Sl w' a n f :=
 ⟨h.1, fun i hi => by
  obtain ⟨b, o, e, hcl⟩ := h.2 i hi
  refine ⟨b, o, e, ?_⟩
  rw [← hcl]
  exact World.cell?_of_block (hc.block b (qas hcl) (hn _ e))⟩
theorem qdj {w : World} {a b : Nat} {x y : Array Value} {t u : TypeId} {i j : Nat × Nat} (h : w.heap[a]? = some (.cells x t i)) (h2 : w.heap[b]? = some (.cells y u j)) (hne : t ≠ u) : a ≠ b := by
 intro e
 subst e
 rw [h] at h2
 have := Option.some.inj h2
 injection this with _ h3
 exact hne h3
theorem ownb {w : World} {B : Nat} {e : TypeId} {s : Nat} {v : Value} {n g : Nat} {xs : List Value} (h : w.ownsRow B e s v n xs) (hg : v.ownBlock = some g) : ∃ cur, w.heap[g]? = some (.cells cur e (0, 0)) := by
 rcases h.2 with ⟨e1, _⟩ | ⟨g', cap, cur, e1, hb, hg', r⟩
 ·rw [e1] at hg; simp [Value.ownBlock] at hg
 ·rw [e1] at hg
  have : g' = g := by simpa [Value.ownBlock] using hg
  subst this
  exact ⟨cur, hg'⟩
/-- The cells of a list of n rows, of k elements each. -/
def srow (n : Nat) (A : Nat → Option Addr) (k : Nat) : Array Value := (Array.range n).map fun i => .slice (A i) k k
theorem srow_get (n : Nat) (A : Nat → Option Addr) (k i : Nat) (h : i < n) : (srow n A k)[i]? = some (.slice (A i) k k) := by simp [srow, h]
theorem qlv (n : Nat) (A : Nat → Option Addr) (k : Nat) : (srow n A k).size = n := by simp [srow]
theorem srow_set (n : Nat) (A : Nat → Option Addr) (k i : Nat) (a : Option Addr) : (srow n A k).setIfInBounds i (.slice a k k) = srow n (fun j => if j = i then a else A j) k := by
 apply Array.ext
 ·simp [srow]
 ·intro j h1 h2
  by_cases e : i = j
  ·subst e; simp [srow]
  ·rw [Array.getElem_setIfInBounds_ne (by simpa using h1) e]; simp [srow, Ne.symm e]
def SRowAt (w : World) (g n : Nat) (A : Nat → Option Addr) (k : Nat) : Prop := w.heap[g]? = some (.cells (srow n A k) 22 (0, 0))
theorem SRowAt.cell {w : World} {g n k : Nat} {A : Nat → Option Addr} (h : SRowAt w g n A k) {i : Nat} (hi : i < n) : w.cell? ⟨g, i, none⟩ = some (.slice (A i) k k) := by
 rw [cell_of_row w g i _ _ _ h, srow_get n A k i hi]
theorem SRowAt.free {w : World} {g n k : Nat} {A : Nat → Option Addr} (h : SRowAt w g n A k) (i : Nat) : w.frozen? ⟨g, i, none⟩ = false := by
 unfold SRowAt at h
 simp [World.frozen?, h]
theorem SRowAt.lt {w : World} {g n k : Nat} {A : Nat → Option Addr} (h : SRowAt w g n A k) : g < w.heap.size := lt_of_block h
theorem SRowAt.set {w : World} {g n k : Nat} {A : Nat → Option Addr} (h : SRowAt w g n A k) (i : Nat) (a : Option Addr) : SRowAt (w.setCell ⟨g, i, none⟩ (.slice a k k)) g n (fun j => if j = i then a else A j) k := by
 unfold SRowAt at *
 rw [setCell_eq_setRow w g i _ _ (0, 0) _ h, setRow_heap w g _ _ _ (0, 0) h, srow_set]
theorem SRowAt.congr {w : World} {g n k : Nat} {A A' : Nat → Option Addr} (h : SRowAt w g n A k) (e : ∀ i, i < n → A i = A' i) : SRowAt w g n A' k := by
 have : srow n A k = srow n A' k := by
  apply Array.ext
  ·simp [srow]
  ·intro j h1 h2
   have hj : j < n := by simpa [qlv] using h1
   simp [srow, e j hj]
 unfold SRowAt at *
 rw [h, this]
/-- A list of n rows of k elements, all slices of one list: F's. -/
structure Grid (w : World) (B gr gd n k : Nat) (F : Nat → Nat → Nat) : Prop where
 base : B ≤ gr
 el : ∀ i l, i < n → l < k → F i l < 256
 ex : ∃ A : Nat → Option Addr, SRowAt w gr n A k ∧ (0 < k → 0 < n → ∃ (z D : Nat → Nat) (d : Nat), (∀ i, i < n → z i < n) ∧ (∀ i j, i < n → j < n → z i = z j → i = j) ∧ (∀ i, i < n → A i = some ⟨gd, z i * k, none⟩) ∧ Ob w B (.slice (some ⟨gd, 0, none⟩) (n * k) d) (n * k) D ∧ ∀ i l, i < n → l < k → D (z i * k + l) = F i l)
theorem Grid.congr {w : World} {B gr gd n k : Nat} {F G : Nat → Nat → Nat} (h : Grid w B gr gd n k F) (e : ∀ i l, i < n → l < k → F i l = G i l) : Grid w B gr gd n k G := by
 obtain ⟨A, hA, h2⟩ := h.ex
 refine ⟨h.base, fun i l hi hl => by rw [← e i l hi hl]; exact h.el i l hi hl, A, hA, fun hk hn => ?_⟩
 obtain ⟨z, D, d, h3, h4, h5, h6, h7⟩ := h2 hk hn
 exact ⟨z, D, d, h3, h4, h5, h6, fun i l hi hl => by rw [h7 i l hi hl]; exact e i l hi hl⟩
theorem Grid.blk {w : World} {B gr gd n k : Nat} {F : Nat → Nat → Nat} (h : Grid w B gr gd n k F) : ∃ cs, w.heap[gr]? = some (.cells cs 22 (0, 0)) := by
 obtain ⟨A, hA, _⟩ := h.ex
 exact ⟨_, hA⟩
theorem Grid.lt {w : World} {B gr gd n k : Nat} {F : Nat → Nat → Nat} (h : Grid w B gr gd n k F) : gr < w.heap.size := by
 obtain ⟨cs, hc⟩ := h.blk
 exact lt_of_block hc
theorem Grid.dat {w : World} {B gr gd n k : Nat} {F : Nat → Nat → Nat} (h : Grid w B gr gd n k F) (hk : 0 < k) (hn : 0 < n) : B ≤ gd ∧ gd < w.heap.size ∧ ∃ cs, w.heap[gd]? = some (.cells cs 5 (0, 0)) := by
 obtain ⟨A, hA, h2⟩ := h.ex
 obtain ⟨z, D, d, h3, h4, h5, h6, h7⟩ := h2 hk hn
 obtain ⟨cs, hc⟩ := ownb h6 rfl
 exact ⟨(h6.base rfl).1, lt_of_block hc, cs, hc⟩
theorem Grid.chg {w w' : World} {S : Nat → Prop} {B gr gd n k : Nat} {F : Nat → Nat → Nat} (h : Grid w B gr gd n k F) (hc : Chg w w' S) (h1 : ¬ S gr) (h2 : 0 < k → 0 < n → ¬ S gd) : Grid w' B gr gd n k F := by
 obtain ⟨A, hA, hx⟩ := h.ex
 refine ⟨h.base, h.el, A, hc.at hA h1, fun hk hn => ?_⟩
 obtain ⟨z, D, d, h3, h4, h5, h6, h7⟩ := hx hk hn
 exact ⟨z, D, d, h3, h4, h5, qhf h6 hc (fun g hg => by cases hg; exact h2 hk hn), h7⟩
theorem Grid.later {w w' : World} {B gr gd n k : Nat} {F : Nat → Nat → Nat} (h : Grid w B gr gd n k F) (hb : Below w.heap.size w w') : Grid w' B gr gd n k F := h.chg (S := fun _ => False) (Chg.of_below hb) (fun x => x) (fun _ _ x => x)
theorem Grid.drew {w : World} {B gr gd n k : Nat} {F : Nat → Nat → Nat} (h : Grid w B gr gd n k F) : Grid w.drew B gr gd n k F := h.later (Below.refl _ _).drew
theorem qdz {i n k : Nat} (h : i < n) : i * k + k ≤ n * k := by
 have := Nat.mul_le_mul_right k (show i + 1 ≤ n from h)
 rwa [Nat.add_mul, Nat.one_mul] at this
/-- A row of it. -/
theorem Grid.row {w : World} {B gr gd n k : Nat} {F : Nat → Nat → Nat} (h : Grid w B gr gd n k F) {i : Nat} (hi : i < n) : ∃ a, w.cell? ⟨gr, i, none⟩ = some (.slice a k k) ∧ Sl w a k (F i) ∧ (0 < k → ∃ o, a = some ⟨gd, o, none⟩) := by
 obtain ⟨A, hA, hx⟩ := h.ex
 refine ⟨A i, hA.cell hi, ⟨fun l hl => h.el i l hi hl, fun l hl => ?_⟩, fun hk => ?_⟩
 ·obtain ⟨z, D, d, h3, h4, h5, h6, h7⟩ := hx (by omega) (by omega)
  refine ⟨gd, z i * k, h5 i hi, ?_⟩
  rw [← h7 i l hi hl]
  exact h6.cell (by have := qdz (k := k) (h3 i hi); omega)
 ·obtain ⟨z, D, d, h3, h4, h5, h6, h7⟩ := hx hk (by omega)
  exact ⟨_, h5 i hi⟩
theorem spot_ne {a b k p q : Nat} (hab : a ≠ b) (hp : p < k) (hq : q < k) : a * k + p ≠ b * k + q := by
 intro e
 have h1 : (a * k + p) / k = a := by rw [Nat.mul_comm, Nat.mul_add_div (by omega), Nat.div_eq_of_lt hp, Nat.add_zero]
 have h2 : (b * k + q) / k = b := by rw [Nat.mul_comm, Nat.mul_add_div (by omega), Nat.div_eq_of_lt hq, Nat.add_zero]
 rw [e, h2] at h1
 exact hab h1.symm
/-- A row is laid open to be written. -/
theorem Grid.open {w : World} {B gr gd n k : Nat} {F : Nat → Nat → Nat} (h : Grid w B gr gd n k F) (hk : 0 < k) {i : Nat} (hi : i < n) : ∃ (o d : Nat) (D : Nat → Nat), w.cell? ⟨gr, i, none⟩ = some (.slice (some ⟨gd, o, none⟩) k k) ∧ Ob w B (.slice (some ⟨gd, 0, none⟩) (n * k) d) (n * k) D ∧ o + k ≤ n * k ∧ Sl w (some ⟨gd, o, none⟩) k (F i) ∧
  ∀ (w1 w' : World) (y : Nat → Nat), Below w.heap.size w w1 → (∀ l, l < k → y l < 256) → Ob w' B (.slice (some ⟨gd, 0, none⟩) (n * k) d) (n * k) (cpf D y o k) → w1.grownBy w' (some gd) → Grid w' B gr gd n k (rw1 F i y) := by
 obtain ⟨A, hA, hx⟩ := h.ex
 obtain ⟨z, D, d, h3, h4, h5, h6, h7⟩ := hx hk (by omega)
 have hfit := qdz (k := k) (h3 i hi)
 refine ⟨z i * k, d, D, by rw [hA.cell hi, h5 i hi], h6, hfit, ?_, fun w1 w' y hb hy ho hg => ?_⟩
 ·refine ⟨fun l hl => h.el i l hi hl, fun l hl => ⟨gd, z i * k, rfl, ?_⟩⟩
  rw [← h7 i l hi hl]
  exact h6.cell (by omega)
 ·obtain ⟨cs, hcs⟩ := ownb h6 rfl
  have hne : gr ≠ gd := qdj hA hcs (by decide)
  have hA1 : SRowAt w1 gr n A k := by
   unfold SRowAt
   rw [hb.block gr hA.lt]; exact hA
  refine ⟨h.base, fun t l ht hl => ?_, A, ?_, fun _ _ => ⟨z, _, d, h3, h4, h5, ho, fun t l ht hl => ?_⟩⟩
  ·unfold rw1
   split
   ·exact hy l hl
   ·exact h.el t l ht hl
  ·unfold SRowAt
   rw [hg.block gr hA1.lt (by simpa using hne)]; exact hA1
  ·unfold cpf rw1
   by_cases e : t = i
   ·subst e
    rw [if_pos rfl, if_pos (by omega)]
    congr 1
    omega
   ·rw [if_neg e, if_neg, h7 t l ht hl]
    rintro ⟨ha, hb'⟩
    have hq : z t * k + l - z i * k < k := by omega
    exact spot_ne (fun e2 => e (h4 t i ht hi e2)) hl hq (by omega)
theorem qlw (a b t : Nat) : zsw a b (zsw a b t) = t := by
 unfold zsw
 split
 ·rename_i h
  split
  ·rename_i h2; omega
  ·rw [if_pos rfl, h]
 ·rename_i h
  split
  ·rename_i h2; rw [if_pos rfl, h2]
  ·rfl
/-- Two rows change places: the slices alone. -/
theorem Grid.swap {w : World} {B gr gd n k a b : Nat} {F : Nat → Nat → Nat} (h : Grid w B gr gd n k F) (ha : a < n) (hb : b < n) : ∃ x y, w.cell? ⟨gr, a, none⟩ = some (.slice x k k) ∧ w.cell? ⟨gr, b, none⟩ = some (.slice y k k) ∧ (∀ i, w.frozen? ⟨gr, i, none⟩ = false) ∧ (∃ z, (w.setCell ⟨gr, a, none⟩ (.slice y k k)).cell? ⟨gr, b, none⟩ = some z) ∧ (w.setCell ⟨gr, a, none⟩ (.slice y k k)).frozen? ⟨gr, b, none⟩ = false ∧
  Grid ((w.setCell ⟨gr, a, none⟩ (.slice y k k)).setCell ⟨gr, b, none⟩ (.slice x k k)) B gr gd n k (swp F a b) := by
 obtain ⟨A, hA, hx⟩ := h.ex
 refine ⟨A a, A b, hA.cell ha, hA.cell hb, hA.free, ⟨_, (hA.set a (A b)).cell hb⟩, (hA.set a (A b)).free b, ?_⟩
 have hS := (hA.set a (A b)).set b (A a)
 have e : ∀ i, i < n → (if i = b then A a else if i = a then A b else A i) = A (zsw a b i) := fun i _ => by
  unfold zsw
  by_cases e1 : i = b
  ·subst e1
   rw [if_pos rfl]
   by_cases e2 : i = a
   ·rw [if_pos e2, e2]
   ·rw [if_neg e2, if_pos rfl]
  ·rw [if_neg e1]
   by_cases e2 : i = a
   ·rw [if_pos e2, if_pos e2]
   ·rw [if_neg e2, if_neg e2, if_neg e1]
 have es : ∀ i l, swp F a b i l = F (zsw a b i) l := fun i l => by
  unfold swp zsw
  by_cases e1 : i = a
  ·rw [if_pos e1, if_pos e1]
  ·rw [if_neg e1, if_neg e1]
   by_cases e2 : i = b
   ·rw [if_pos e2, if_pos e2]
   ·rw [if_neg e2, if_neg e2]
 refine ⟨h.base, fun i l hi hl => by rw [es]; exact h.el _ l (qco ha hb hi) hl, _, hS.congr e, fun hk hn => ?_⟩
 obtain ⟨z, D, d, h3, h4, h5, h6, h7⟩ := hx hk hn
 obtain ⟨cs, hcs⟩ := ownb h6 rfl
 have hne : gd ≠ gr := (qdj hA hcs (by decide)).symm
 refine ⟨fun i => z (zsw a b i), D, d, fun i hi => h3 _ (qco ha hb hi), fun i j hi hj hz => ?_, fun i hi => h5 _ (qco ha hb hi), ?_, fun i l hi hl => by rw [es]; exact h7 _ l (qco ha hb hi) hl⟩
 ·have := h4 _ _ (qco ha hb hi) (qco ha hb hj) hz
  rw [← qlw a b i, this, qlw]
 ·exact (h6.kept (qa3 _ _ _ _) (.inr (by simpa [Value.ownBlock] using hne))).kept (qa3 _ _ _ _) (.inr (by simpa [Value.ownBlock] using hne))
open Go.RowKit
theorem mkf : ∀ (fn : Fn) (first cap : Array Value) (w : World), (Instr.makeFunc fn first cap).run Tryz.prog w = .ok (.func fn first cap) w := fun _ _ _ _ => rfl
/-- A variable of one cell. -/
def V1 (w : World) (g : Nat) (v : Value) (t : TypeId) : Prop := w.heap[g]? = some (.cells #[v] t (0, 0))
theorem V1.cell {w : World} {g : Nat} {v : Value} {t : TypeId} (h : V1 w g v t) : w.cell? ⟨g, 0, none⟩ = some v := by rw [cell_of_row w g 0 _ _ _ h]; rfl
theorem V1.lt {w : World} {g : Nat} {v : Value} {t : TypeId} (h : V1 w g v t) : g < w.heap.size := lt_of_block h
theorem V1.later {w w' : World} {g : Nat} {v : Value} {t : TypeId} (h : V1 w g v t) (hb : Below w.heap.size w w') : V1 w' g v t := by unfold V1; rw [hb.block g h.lt]; exact h
theorem V1.chg {w w' : World} {S : Nat → Prop} {g : Nat} {v : Value} {t : TypeId} (h : V1 w g v t) (hc : Chg w w' S) (hn : ¬ S g) : V1 w' g v t := hc.at h hn
theorem V1.new (w : World) (v : Value) (t : TypeId) : V1 (w.alloc (.cells #[v] t)) w.heap.size v t := qbz w _
theorem exch_mk (w : World) (i j : Nat) : Calls Tryz.prog 108 #[.int .i64 (i : Int), .int .i64 (j : Int)] w fun e w' => ∃ gi gj, e = .returned (.func (.func 125) #[] #[.pointer (some ⟨gj, 0, none⟩), .pointer (some ⟨gi, 0, none⟩)]) ∧ V1 w' gi (.int .i64 (i : Int)) 3 ∧ V1 w' gj (.int .i64 (j : Int)) 3 ∧ w.heap.size ≤ gi ∧ w.heap.size ≤ gj ∧ Below w.heap.size w w' := by
 have hmf := mkf
 go_enter Tryz.func108, Tryz.ntmps108
 go_wp2
 go_ret
 refine ⟨w.heap.size, w.heap.size + 1, rfl, (V1.new w _ _).later (qa1 _ _), ?_, Nat.le_refl _, by omega, qa0 (qa1 _ _) (qa1 _ _)⟩
 have := V1.new (w.alloc (.cells #[.int .i64 (i : Int)] 3)) (.int .i64 (j : Int)) 3
 simpa using this
theorem qlx (w : World) (i c : Nat) : Calls Tryz.prog 110 #[.int .i64 (i : Int), .int .u8 (c : Int)] w fun e w' => ∃ gi gc, e = .returned (.func (.func 127) #[] #[.pointer (some ⟨gi, 0, none⟩), .pointer (some ⟨gc, 0, none⟩)]) ∧ V1 w' gi (.int .i64 (i : Int)) 3 ∧ V1 w' gc (.int .u8 (c : Int)) 5 ∧ w.heap.size ≤ gi ∧ w.heap.size ≤ gc ∧ Below w.heap.size w w' := by
 have hmf := mkf
 go_enter Tryz.func110, Tryz.ntmps110
 go_wp2
 go_ret
 refine ⟨w.heap.size, w.heap.size + 1, rfl, (V1.new w _ _).later (qa1 _ _), ?_, Nat.le_refl _, by omega, qa0 (qa1 _ _) (qa1 _ _)⟩
 have := V1.new (w.alloc (.cells #[.int .i64 (i : Int)] 3)) (.int .u8 (c : Int)) 5
 simpa using this
theorem put_mk (w : World) (i c j : Nat) : Calls Tryz.prog 129 #[.int .i64 (i : Int), .int .u8 (c : Int), .int .i64 (j : Int)] w fun e w' => ∃ gi gc gj, e = .returned (.func (.func 140) #[] #[.pointer (some ⟨gi, 0, none⟩), .pointer (some ⟨gc, 0, none⟩), .pointer (some ⟨gj, 0, none⟩)]) ∧ V1 w' gi (.int .i64 (i : Int)) 3 ∧ V1 w' gc (.int .u8 (c : Int)) 5 ∧ V1 w' gj (.int .i64 (j : Int)) 3 ∧ w.heap.size ≤ gi ∧ w.heap.size ≤ gc ∧ w.heap.size ≤ gj ∧ Below w.heap.size w w' := by
 have hmf := mkf
 go_enter Tryz.func129, Tryz.ntmps129
 go_wp2
 go_ret
 refine ⟨w.heap.size, w.heap.size + 1, w.heap.size + 2, rfl, ((V1.new w _ _).later (qa1 _ _)).later (qa1 _ _), ?_, ?_, Nat.le_refl _, by omega, by omega, qa0 (qa0 (qa1 _ _) (qa1 _ _)) (qa1 _ _)⟩
 ·have := (V1.new (w.alloc (.cells #[.int .i64 (i : Int)] 3)) (.int .u8 (c : Int)) 5).later (qa1 _ (.cells #[.int .i64 (j : Int)] 3))
  simpa using this
 ·have := V1.new ((w.alloc (.cells #[.int .i64 (i : Int)] 3)).alloc (.cells #[.int .u8 (c : Int)] 5)) (.int .i64 (j : Int)) 3
  simpa using this
theorem exch_do (w : World) (B gr gd n k i j gi gj : Nat) (F : Nat → Nat → Nat) (G : Grid w B gr gd n k F) (hi : i < n) (hj : j < n) (nj : gr ≠ gj) (ci : w.cell? ⟨gi, 0, none⟩ = some (.int .i64 (i : Int))) (cj : w.cell? ⟨gj, 0, none⟩ = some (.int .i64 (j : Int))) :
  Calls Tryz.prog 125 #[.slice (some ⟨gr, 0, none⟩) n n, .pointer (some ⟨gj, 0, none⟩), .pointer (some ⟨gi, 0, none⟩)] w fun e w' => e = .returned (.tuple #[]) ∧ Grid w' B gr gd n k (swp F i j) ∧ Chg w w' (fun b => b = gr ∨ b = gd) := by
 obtain ⟨x, y, cx, cy, hf, ⟨z, cz⟩, fz, hG⟩ := G.swap hi hj
 have HG : Hid (Grid ((w.setCell ⟨gr, i, none⟩ (.slice y k k)).setCell ⟨gr, j, none⟩ (.slice x k k)) B gr gd n k (swp F i j)) := hG
 have hf1 := hf i
 have hf2 := hf j
 clear hG G hf
 go_enter Tryz.func125, Tryz.ntmps125
 go_wp2
 go_region
 all_goals go_end0
 all_goals exact ⟨rfl, HG.out.drew, ((Chg.of_grown (qa3 _ _ _ _) (.inl rfl)).trans (Chg.of_grown (qa3 _ _ _ _) (.inl rfl))).trans (Chg.of_below (Below.refl _ _).drew)⟩
open Go.RowKit
theorem qjo {op : Oper} {a : Act} {w : World} {K : Act → World → Prop} {Q : Exit → Act → World → Prop} (d s : Operand) (ho : op.op = .call { callee := .builtin .copy, args := #[d, s], argTypes := #[22, 22] })
  (B g p n c dn dc sc b o : Nat) (f h : Nat → Nat) (hd : a.eval d = .slice (some ⟨g, p, none⟩) c dc) (hs : a.eval s = .slice (some ⟨b, o, none⟩) c sc) (hr : Ob w B (.slice (some ⟨g, 0, none⟩) n dn) n f) (hsl : Sl w (some ⟨b, o, none⟩) c h) (hfit : p + c ≤ n)
  (k : ∀ w', Hid (Ob w' B (.slice (some ⟨g, 0, none⟩) n dn) n (cpf f h p c)) → Hid (w.grownBy w' (some g)) → K (a.put op.dst (goInt c)) w') : Oper.wp Tryz.prog op a w K Q := by
 rcases hr.2 with ⟨e, _⟩ | ⟨g', cap, cur, e, hb, hg, hcap, hmax, hsz, ht⟩
 ·cases e
 ·cases e
  have hlen : (row c h).toList.length = c := by simp [qa5]
  have hsrc : ∀ j v, (row c h).toList[j]? = some v → w.cell? ((⟨b, o, none⟩ : Addr).add j) = some v := qca hsl (Below.refl _ _)
  have hrun := run_copy_row (P := Tryz.prog) w 22 22 op.type 5 g p c dc ⟨b, o, none⟩ c sc cur 5 (row c h).toList Tryz.underlying22 size8 hg (by rw [hlen]; exact (Nat.min_self c).symm) hsrc (by rw [hlen]; omega) (qcb c h)
  rw [hlen, List.append_assoc] at hrun
  unfold Oper.wp
  simp [execOp, ho, resolve, invoke, builtin, hd, hs, hrun, Result.andThen]
  refine k _ ⟨by simp [qa5], .inr ⟨g, dn, _, rfl, hb, setRow_heap w g _ _ _ _ hg, hcap, hmax, by simp [qa5]; omega, ?_⟩⟩ (qcc _ _ _)
  rw [Nat.mul_one] at ht ⊢
  rw [← qhd n p c f h hfit, ← ht]
  have hpn : p ≤ n := by omega
  rw [List.take_append, List.take_append, List.take_take, List.take_take, Nat.min_eq_right hpn, Nat.min_eq_left hpn]
  have l1 : (List.take p cur.toList).length = p := by simp; omega
  rw [l1, hlen, List.take_of_length_le (l := (row c h).toList) (by rw [hlen]; omega), List.drop_take, Nat.sub_sub]
theorem qgs {ops : Array Oper} {op : Oper} {a : Act} {w : World} {K : Act → World → Prop} {Q : Exit → Act → World → Prop} {E : Prop} (hgd : op.guard = none) (d s : Operand) (ho : op.op = .call { callee := .builtin .copy, args := #[d, s], argTypes := #[22, 22] })
  (B g p n c dn dc sc b o : Nat) (f h : Nat → Nat) (hd : a.eval d = .slice (some ⟨g, p, none⟩) c dc) (hs : a.eval s = .slice (some ⟨b, o, none⟩) c sc) (hr : Ob w B (.slice (some ⟨g, 0, none⟩) n dn) n f) (hsl : Sl w (some ⟨b, o, none⟩) c h) (hfit : p + c ≤ n)
  (k : ∀ w', Hid (Ob w' B (.slice (some ⟨g, 0, none⟩) n dn) n (cpf f h p c)) → Hid (w.grownBy w' (some g)) → K (a.put op.dst (goInt c)) w') : if Region.wanted op (yielded ops a.tmps) = true then Oper.wp Tryz.prog op a w K Q else E := by
 have hw : Region.wanted op (yielded ops a.tmps) = true := by simp [Region.wanted, hgd]
 rw [if_pos hw]
 exact qjo d s ho B g p n c dn dc sc b o f h hd hs hr hsl hfit k
theorem undrew {w w1 : World} (h : Below w.drew.heap.size w.drew w1) : Below w.heap.size w w1 := qa0 (Below.refl _ _).drew h
theorem qff {w w' : World} {g b o : Nat} {v : Value} (hg : w.grownBy w' (some g)) (h : w.cell? ⟨b, o, none⟩ = some v) (hne : b ≠ g) : w'.cell? ⟨b, o, none⟩ = some v := hg.cell h (by simpa using hne)
theorem qah {w w' : World} {b o : Nat} {v : Value} (hb : Below w.heap.size w w') (h : w.cell? ⟨b, o, none⟩ = some v) : w'.cell? ⟨b, o, none⟩ = some v := by rw [← h]; exact World.cell?_of_block (hb.block b (qas h))
theorem mult_do (w : World) (B gr gd n k i c gi gc : Nat) (F : Nat → Nat → Nat) (G : Grid w B gr gd n k F) (hk : 0 < k) (hk6 : k ≤ 64) (hi : i < n) (hc : c < 256) (ni : gi ≠ gd) (nc : gc ≠ gd) (ci : w.cell? ⟨gi, 0, none⟩ = some (.int .i64 (i : Int))) (cc : w.cell? ⟨gc, 0, none⟩ = some (.int .u8 (c : Int))) :
  Calls Tryz.prog 127 #[.slice (some ⟨gr, 0, none⟩) n n, .pointer (some ⟨gi, 0, none⟩), .pointer (some ⟨gc, 0, none⟩)] w fun e w' => e = .returned (.tuple #[]) ∧ Grid w' B gr gd n k (mu1 F i c) ∧ Chg w w' (fun b => b = gr ∨ b = gd) := by
 obtain ⟨o, d, D, co, ho, hfit, hs, hclose⟩ := G.open hk hi
 have nr : gr ≠ gd := by
  obtain ⟨cs, h1⟩ := G.blk
  obtain ⟨_, _, cs2, h2⟩ := G.dat hk (by omega)
  exact qdj h1 h2 (by decide)
 have HO : Hid (Ob w B (.slice (some ⟨gd, 0, none⟩) (n * k) d) (n * k) D) := ho
 have HS : Hid (Sl w (some ⟨gd, o, none⟩) k (F i)) := hs
 have HC : Hid (∀ (w1 w' : World) (y : Nat → Nat), Below w.heap.size w w1 → (∀ l, l < k → y l < 256) → Ob w' B (.slice (some ⟨gd, 0, none⟩) (n * k) d) (n * k) (cpf D y o k) → w1.grownBy w' (some gd) → Grid w' B gr gd n k (rw1 F i y)) := hclose
 have HD : Hid (w.cell? ⟨gi, 0, none⟩ = some (.int .i64 (i : Int)) ∧ w.cell? ⟨gc, 0, none⟩ = some (.int .u8 (c : Int)) ∧ w.cell? ⟨gr, i, none⟩ = some (.slice (some ⟨gd, o, none⟩) k k)) := ⟨ci, cc, co⟩
 have HDr : Hid (w.drew.cell? ⟨gi, 0, none⟩ = some (.int .i64 (i : Int)) ∧ w.drew.cell? ⟨gc, 0, none⟩ = some (.int .u8 (c : Int)) ∧ w.drew.cell? ⟨gr, i, none⟩ = some (.slice (some ⟨gd, o, none⟩) k k)) := HD.out
 have HSr : Hid (Sl w.drew (some ⟨gd, o, none⟩) k (F i)) := hs
 clear G ho hs hclose
 go_enter Tryz.func127, Tryz.ntmps127
 go_wp2_with fail
 refine wp_region_held (S := fun w' => w'.cell? ⟨gi, 0, none⟩ = some (.int .i64 (i : Int)) ∧ w'.cell? ⟨gc, 0, none⟩ = some (.int .u8 (c : Int)) ∧ w'.cell? ⟨gr, i, none⟩ = some (.slice (some ⟨gd, o, none⟩) k k)) (by kernel_rfl) ?_
 refine wtkq 0 ?va0 rfl (by kernel_rfl) (fun _ _ _ h => h) (by rfl) ?ya0 HD.out ?za0
 case ya0 => (intro w hSw; (try dsimp only at hSw); go_simp; try with_reducible rfl)
 try simp only [mz1, mz3, Act.put, mz4, mz5, mz6]
 refine wtkq 1 ?va1 rfl (by kernel_rfl) (fun _ _ _ h => h) (by rfl) ?ya1 HD.out ?za1
 case ya1 => (intro w hSw; (try dsimp only at hSw); go_simp; try with_reducible rfl)
 try simp only [mz1, mz2, mz3, Act.put, mz4, mz5, mz6]
 refine wtkq 2 ?va2 rfl (by kernel_rfl) (fun _ _ _ h => h) (by rfl) ?ya2 HD.out ?za2
 case ya2 => (intro w hSw; (try dsimp only at hSw); go_simp; try with_reducible rfl)
 try simp only [mz1, mz2, mz3, Act.put, mz4, mz5, mz6]
 refine wtkq 3 ?va3 rfl (by kernel_rfl) (fun _ _ _ h => h) (by rfl) ?ya3 HD.out ?za3
 case ya3 => (intro w hSw; (try dsimp only at hSw); go_simp; try with_reducible rfl)
 try simp only [mz1, mz2, mz3, Act.put, mz4, mz5, mz6]
 refine wtkq 4 ?va4 rfl (by kernel_rfl) (fun _ _ _ h => h) (by rfl) ?ya4 HD.out ?za4
 case ya4 => (intro w hSw; (try dsimp only at hSw); go_simp; try with_reducible rfl)
 try simp only [mz1, mz2, mz3, Act.put, mz4, mz5, mz6]
 refine wtkq 5 ?va5 rfl (by kernel_rfl) (fun _ _ _ h => h) (by rfl) ?ya5 HD.out ?za5
 case ya5 => (intro w hSw; (try dsimp only at hSw); go_simp; try with_reducible rfl)
 try simp only [mz1, mz2, mz3, Act.put, mz4, mz5, mz6]
 refine wtkq 6 ?va6 rfl (by kernel_rfl) (fun _ _ _ h => h) (by rfl) ?ya6 HD.out ?za6
 case ya6 => (intro w hSw; (try dsimp only at hSw); go_simp; try with_reducible rfl)
 try simp only [mz1, mz2, mz3, Act.put, mz4, mz5, mz6]
 refine wtkq 7 ?va7 rfl (by kernel_rfl) (fun _ _ _ h => h) (by rfl) ?ya7 HD.out ?za7
 case ya7 => (intro w hSw; (try dsimp only at hSw); go_simp; try with_reducible rfl)
 try simp only [mz1, mz2, mz3, Act.put, mz4, mz5, mz6]
 refine wtkq 8 ?va8 rfl (by kernel_rfl) (fun _ _ _ h => h) (by rfl) ?ya8 HD.out ?za8
 case ya8 => (intro w hSw; (try dsimp only at hSw); go_simp; try with_reducible rfl)
 try simp only [mz1, mz2, mz3, Act.put, mz4, mz5, mz6]
 refine wpAnyH_ready (rs := [9]) (by kernel_rfl) (by simp) ?_
 refine AllReadyH.cons rfl (fun K hK => ?_) AllReadyH.nil
 go_simp
 refine (qky _ (some ⟨gd, o, none⟩) k c k _ hc HSr.out (by omega)).mono ?_
 rintro e w1 ⟨rfl, hr1, hb0⟩
 have hb1 := undrew hb0
 have HB1 : Hid (Below w.heap.size w w1) := hb1
 have HR1 : Hid (Sl w1 (some ⟨w.heap.size, 0, none⟩) k (fun l => fm c (F i l))) := RowAt.sl hr1 (fun l _ => qat _ _ hc)
 have HO1 : Hid (Ob w1 B (.slice (some ⟨gd, 0, none⟩) (n * k) d) (n * k) D) := HO.out.later hb1
 have HD1 : Hid (w1.cell? ⟨gi, 0, none⟩ = some (.int .i64 (i : Int)) ∧ w1.cell? ⟨gc, 0, none⟩ = some (.int .u8 (c : Int)) ∧ w1.cell? ⟨gr, i, none⟩ = some (.slice (some ⟨gd, o, none⟩) k k)) := ⟨qah hb1 ci, qah hb1 cc, qah hb1 co⟩
 clear hr1 hb0 hb1
 refine hK.out _ _ HD1.out (fun _ => ?_)
 clear hK K
 try simp only [mz1, mz2, mz3, Act.put, mz4, mz5, mz6]
 refine wpAnyH_ready (rs := [10]) (by kernel_rfl) (by simp) ?_
 refine AllReadyH.cons rfl (fun K hK => ?_) AllReadyH.nil
 refine qgs rfl _ _ rfl B gd o (n * k) k d k k w.heap.size 0 D _ rfl rfl HO1.out HR1.out hfit ?_
 intro w2 HO2 HG2
 have HD2 : Hid (w2.cell? ⟨gi, 0, none⟩ = some (.int .i64 (i : Int)) ∧ w2.cell? ⟨gc, 0, none⟩ = some (.int .u8 (c : Int)) ∧ w2.cell? ⟨gr, i, none⟩ = some (.slice (some ⟨gd, o, none⟩) k k)) := ⟨qff HG2.out HD1.out.1 ni, qff HG2.out HD1.out.2.1 nc, qff HG2.out HD1.out.2.2 nr⟩
 refine hK.out _ _ HD2.out (fun _ => ?_)
 clear hK K
 try simp only [mz1, mz2, mz3, Act.put, mz4, mz5, mz6]
 refine wpAnyH_done (by kernel_rfl) ?_ _
 go_wp2
 go_end0
 exact ⟨rfl, HC.out w1 w2 _ HB1.out (fun l _ => qat _ _ hc) HO2.out HG2.out, (Chg.of_below HB1.out).trans (Chg.of_grown HG2.out (.inr rfl))⟩
theorem put_do (w : World) (B gr gd n k i j c gi gc gj : Nat) (F : Nat → Nat → Nat) (G : Grid w B gr gd n k F) (hk : 0 < k) (hk6 : k ≤ 64) (hi : i < n) (hj : j < n) (hc : c < 256) (ci : w.cell? ⟨gi, 0, none⟩ = some (.int .i64 (i : Int))) (cc : w.cell? ⟨gc, 0, none⟩ = some (.int .u8 (c : Int))) (cj : w.cell? ⟨gj, 0, none⟩ = some (.int .i64 (j : Int))) :
  Calls Tryz.prog 140 #[.slice (some ⟨gr, 0, none⟩) n n, .pointer (some ⟨gi, 0, none⟩), .pointer (some ⟨gc, 0, none⟩), .pointer (some ⟨gj, 0, none⟩)] w fun e w' => e = .returned (.tuple #[]) ∧ Grid w' B gr gd n k (ad1 F i c j) ∧ Chg w w' (fun b => b = gr ∨ b = gd) := by
 obtain ⟨o, d, D, co, ho, hfit, hs, hclose⟩ := G.open hk hi
 obtain ⟨a2, ca, hs2, hx2⟩ := G.row hj
 obtain ⟨o2, rfl⟩ := hx2 hk
 have HO : Hid (Ob w B (.slice (some ⟨gd, 0, none⟩) (n * k) d) (n * k) D) := ho
 have HS : Hid (Sl w (some ⟨gd, o, none⟩) k (F i)) := hs
 have HS2 : Hid (Sl w (some ⟨gd, o2, none⟩) k (F j)) := hs2
 have HE : Hid (∀ l, l < k → F i l < 256) := fun l hl => G.el i l hi hl
 have HC : Hid (∀ (w1 w' : World) (y : Nat → Nat), Below w.heap.size w w1 → (∀ l, l < k → y l < 256) → Ob w' B (.slice (some ⟨gd, 0, none⟩) (n * k) d) (n * k) (cpf D y o k) → w1.grownBy w' (some gd) → Grid w' B gr gd n k (rw1 F i y)) := hclose
 have HD : Hid (w.cell? ⟨gi, 0, none⟩ = some (.int .i64 (i : Int)) ∧ w.cell? ⟨gc, 0, none⟩ = some (.int .u8 (c : Int)) ∧ w.cell? ⟨gr, i, none⟩ = some (.slice (some ⟨gd, o, none⟩) k k) ∧ w.cell? ⟨gj, 0, none⟩ = some (.int .i64 (j : Int)) ∧ w.cell? ⟨gr, j, none⟩ = some (.slice (some ⟨gd, o2, none⟩) k k)) := ⟨ci, cc, co, cj, ca⟩
 have HSr : Hid (Sl w.drew (some ⟨gd, o, none⟩) k (F i)) := hs
 have HSr2 : Hid (Sl w.drew (some ⟨gd, o2, none⟩) k (F j)) := hs2
 clear G ho hs hs2 hclose
 go_enter Tryz.func140, Tryz.ntmps140
 go_wp2_with fail
 refine wp_region_held (S := fun w' => w'.cell? ⟨gi, 0, none⟩ = some (.int .i64 (i : Int)) ∧ w'.cell? ⟨gc, 0, none⟩ = some (.int .u8 (c : Int)) ∧ w'.cell? ⟨gr, i, none⟩ = some (.slice (some ⟨gd, o, none⟩) k k) ∧ w'.cell? ⟨gj, 0, none⟩ = some (.int .i64 (j : Int)) ∧ w'.cell? ⟨gr, j, none⟩ = some (.slice (some ⟨gd, o2, none⟩) k k)) (by kernel_rfl) ?_
 refine wtkq 0 ?vb0 rfl (by kernel_rfl) (fun _ _ _ h => h) (by rfl) ?yb0 HD.out ?zb0
 case yb0 => (intro w hSw; (try dsimp only at hSw); go_simp; try with_reducible rfl)
 try simp only [mz1, mz3, Act.put, mz4, mz5, mz6]
 refine wtkq 1 ?vb1 rfl (by kernel_rfl) (fun _ _ _ h => h) (by rfl) ?yb1 HD.out ?zb1
 case yb1 => (intro w hSw; (try dsimp only at hSw); go_simp; try with_reducible rfl)
 try simp only [mz1, mz2, mz3, Act.put, mz4, mz5, mz6]
 refine wtkq 2 ?vb2 rfl (by kernel_rfl) (fun _ _ _ h => h) (by rfl) ?yb2 HD.out ?zb2
 case yb2 => (intro w hSw; (try dsimp only at hSw); go_simp; try with_reducible rfl)
 try simp only [mz1, mz2, mz3, Act.put, mz4, mz5, mz6]
 refine wtkq 3 ?vb3 rfl (by kernel_rfl) (fun _ _ _ h => h) (by rfl) ?yb3 HD.out ?zb3
 case yb3 => (intro w hSw; (try dsimp only at hSw); go_simp; try with_reducible rfl)
 try simp only [mz1, mz2, mz3, Act.put, mz4, mz5, mz6]
 refine wtkq 4 ?vb4 rfl (by kernel_rfl) (fun _ _ _ h => h) (by rfl) ?yb4 HD.out ?zb4
 case yb4 => (intro w hSw; (try dsimp only at hSw); go_simp; try with_reducible rfl)
 try simp only [mz1, mz2, mz3, Act.put, mz4, mz5, mz6]
 refine wtkq 5 ?vb5 rfl (by kernel_rfl) (fun _ _ _ h => h) (by rfl) ?yb5 HD.out ?zb5
 case yb5 => (intro w hSw; (try dsimp only at hSw); go_simp; try with_reducible rfl)
 try simp only [mz1, mz2, mz3, Act.put, mz4, mz5, mz6]
 refine wtkq 6 ?vb6 rfl (by kernel_rfl) (fun _ _ _ h => h) (by rfl) ?yb6 HD.out ?zb6
 case yb6 => (intro w hSw; (try dsimp only at hSw); go_simp; try with_reducible rfl)
 try simp only [mz1, mz2, mz3, Act.put, mz4, mz5, mz6]
 refine wtkq 7 ?vb7 rfl (by kernel_rfl) (fun _ _ _ h => h) (by rfl) ?yb7 HD.out ?zb7
 case yb7 => (intro w hSw; (try dsimp only at hSw); go_simp; try with_reducible rfl)
 try simp only [mz1, mz2, mz3, Act.put, mz4, mz5, mz6]
 refine wtkq 8 ?vb8 rfl (by kernel_rfl) (fun _ _ _ h => h) (by rfl) ?yb8 HD.out ?zb8
 case yb8 => (intro w hSw; (try dsimp only at hSw); go_simp; try with_reducible rfl)
 try simp only [mz1, mz2, mz3, Act.put, mz4, mz5, mz6]
 refine wpAnyH_ready (rs := [9]) (by kernel_rfl) (by simp) ?_
 refine AllReadyH.cons rfl (fun K hK => ?_) AllReadyH.nil
 go_simp
 refine (mac_any _ (some ⟨gd, o, none⟩) (some ⟨gd, o2, none⟩) k c k k _ _ hc HSr.out HSr2.out (by omega)).mono ?_
 rintro e w1 ⟨rfl, hr1, hb0⟩
 have hb1 := undrew hb0
 have HB1 : Hid (Below w.heap.size w w1) := hb1
 have HR1 : Hid (Sl w1 (some ⟨w.heap.size, 0, none⟩) k (fun l => F i l ^^^ fm c (F j l))) := RowAt.sl hr1 (fun l hl => qbd _ _ (HE.out l hl) (qat _ _ hc))
 have HO1 : Hid (Ob w1 B (.slice (some ⟨gd, 0, none⟩) (n * k) d) (n * k) D) := HO.out.later hb1
 have HD1 : Hid (w1.cell? ⟨gi, 0, none⟩ = some (.int .i64 (i : Int)) ∧ w1.cell? ⟨gc, 0, none⟩ = some (.int .u8 (c : Int)) ∧ w1.cell? ⟨gr, i, none⟩ = some (.slice (some ⟨gd, o, none⟩) k k) ∧ w1.cell? ⟨gj, 0, none⟩ = some (.int .i64 (j : Int)) ∧ w1.cell? ⟨gr, j, none⟩ = some (.slice (some ⟨gd, o2, none⟩) k k)) := ⟨qah hb1 ci, qah hb1 cc, qah hb1 co, qah hb1 cj, qah hb1 ca⟩
 have ci1 := HD1.out.1
 have co1 := HD1.out.2.2.1
 clear hr1 hb0 hb1
 refine hK.out _ _ HD1.out (fun _ => ?_)
 clear hK K
 try simp only [mz1, mz2, mz3, Act.put, mz4, mz5, mz6]
 refine wtkq 10 ?vb10 rfl (by kernel_rfl) (fun _ _ _ h => h) (by rfl) ?yb10 HD1.out ?zb10
 case yb10 => (intro w hSw; (try dsimp only at hSw); go_simp; try with_reducible rfl)
 try simp only [mz1, mz2, mz3, Act.put, mz4, mz5, mz6]
 refine wtkq 11 ?vb11 rfl (by kernel_rfl) (fun _ _ _ h => h) (by rfl) ?yb11 HD1.out ?zb11
 case yb11 => (intro w hSw; (try dsimp only at hSw); go_simp; try with_reducible rfl)
 try simp only [mz1, mz2, mz3, Act.put, mz4, mz5, mz6]
 refine wtkq 12 ?vb12 rfl (by kernel_rfl) (fun _ _ _ h => h) (by rfl) ?yb12 HD1.out ?zb12
 case yb12 => (intro w hSw; (try dsimp only at hSw); go_simp; try with_reducible rfl)
 try simp only [mz1, mz2, mz3, Act.put, mz4, mz5, mz6]
 refine wtkq 13 ?vb13 rfl (by kernel_rfl) (fun _ _ _ h => h) (by rfl) ?yb13 HD1.out ?zb13
 case yb13 => (intro w hSw; (try dsimp only at hSw); go_simp; try with_reducible rfl)
 try simp only [mz1, mz2, mz3, Act.put, mz4, mz5, mz6]
 refine wtkq 14 ?vb14 rfl (by kernel_rfl) (fun _ _ _ h => h) (by rfl) ?yb14 HD1.out ?zb14
 case yb14 => (intro w hSw; (try dsimp only at hSw); go_simp; try with_reducible rfl)
 try simp only [mz1, mz2, mz3, Act.put, mz4, mz5, mz6]
 refine wpAnyH_done (by kernel_rfl) ?_ _
 go_wp2_with (refine qcp rfl _ _ rfl B gd o (n * k) k k d k k w.heap.size 0 D _ rfl rfl HO1.out HR1.out (Nat.le_refl _) hfit ?_; intro w2 HO2 HG2)
 go_end0
 exact ⟨rfl, HC.out w1 w2 _ HB1.out (fun l hl => qbd _ _ (HE.out l hl) (qat _ _ hc)) HO2.out HG2.out, (Chg.of_below HB1.out).trans (Chg.of_grown HG2.out (.inr rfl))⟩
end Go.Proofs.YtblagbghpfopcaaGreat
