/-
  The library's functions that the program calls: their contracts at this program.
  The reduction's words: what is changed, rows that are slices of one list, grids.
  The changes: rows exchanged, multiplied, put to others.
-/
import Derived.Test.YtblagbghpfopcaaQppts00
import Derived.Shelf.Slices.Turned
import Derived.Shelf.Bytes.SlClone
import Derived.Shelf.Bytes.SlJoin
import Derived.Test.YtblagbghpfopcaaQppts24
import Derived.Test.YtblagbghpfopcaaQppts26
set_option maxRecDepth 100000
set_option maxHeartbeats 16000000
namespace Go.Proofs.Ytblagbghpfopcaa
open Go.RowKit
def renC : Go.Shelf.Ren := ⟨fun | 4 => 44 | n => n, fun | 22 => 22 | 4 => 4 | 5 => 5 | n => n, fun | n => n⟩
theorem laysC : Go.Proofs.SlLaysK.n4 Try.prog renC := {
 mixed := by kernel_rfl
 f4 := Try.func44.trans (congrArg some (by kernel_rfl))
 t4 := Try.underlying4
 a4 := Try.isAgg4
 z4 := Try.sizeOf4
 v4 := Try.zeroValue4
 t22 := Try.underlying22
 a22 := Try.isAgg22
 z22 := Try.sizeOf22
 v22 := Try.zeroValue22
 t5 := Try.underlying5
 i5 := by kernel_rfl }
def renJ : Go.Shelf.Ren := ⟨fun | 14 => 70 | 15 => 85 | n => n, fun | 26 => 85 | 22 => 22 | 3 => 3 | 4 => 4 | 0 => 0 | 9 => 9 | 20 => 20 | 5 => 5 | n => n, fun | n => n⟩
theorem laysJ : Go.Proofs.SlLaysJ.n14 Try.prog renJ := {
 mixed := by kernel_rfl
 f14 := Try.func70.trans (congrArg some (by kernel_rfl))
 f15 := Try.func85.trans (congrArg some (by kernel_rfl))
 t0 := Try.underlying0
 a0 := Try.isAgg0
 z0 := Try.sizeOf0
 v0 := Try.zeroValue0
 t3 := Try.underlying3
 a3 := Try.isAgg3
 z3 := Try.sizeOf3
 v3 := Try.zeroValue3
 t4 := Try.underlying4
 a4 := Try.isAgg4
 z4 := Try.sizeOf4
 v4 := Try.zeroValue4
 t9 := Try.underlying9
 a9 := Try.isAgg9
 z9 := Try.sizeOf9
 v9 := Try.zeroValue9
 t20 := Try.underlying20
 a20 := Try.isAgg20
 z20 := Try.sizeOf20
 v20 := Try.zeroValue20
 t22 := Try.underlying22
 a22 := Try.isAgg22
 z22 := Try.sizeOf22
 v22 := Try.zeroValue22
 t26 := Try.underlying85
 a26 := Try.isAgg85
 z26 := Try.sizeOf85
 v26 := Try.zeroValue85
 t5 := Try.underlying5
 z5 := Try.sizeOf5
 i5 := by kernel_rfl }
/-- bytes.Clone of a list with room. -/
theorem clone_sl (w : World) (a : Option Addr) (n k : Nat) (F : Nat → Nat) (h : Sl w a n F) (hn : n ≤ 4096) : Calls Try.prog 44 #[.slice a n k] w fun e w' => ∃ s d, e = .returned (.slice s n d) ∧ Ob w' w.heap.size (.slice s n d) n F ∧ (s = none → n = 0 ∧ d = 0) ∧ Below w.heap.size w w' := by
 cases a with
 | none =>
  obtain rfl : n = 0 := Decidable.byContradiction fun hne => by
   obtain ⟨b, o, e, _⟩ := h.2 0 (by omega)
   cases e
  refine (Any.bytes_Clone_nil laysC 0 k w).mono (fun e w' h => ?_)
  obtain ⟨rfl, rfl⟩ := h
  refine ⟨none, 0, rfl, ?_, fun _ => ⟨rfl, rfl⟩, Below.refl _ _⟩
  unfold Ob
  rw [qb8]
  exact World.ownsRow_nil _ _ _ _
 | some x =>
  refine (Any.bytes_Clone_at laysC x n k ((List.range n).map fun i => ((F i : Nat) : Int)) w (by simp) (by omega) (fun i hi => ?_)).mono (fun e w' h => ?_)
  ·obtain ⟨b, o, e, hc⟩ := h.2 i hi
   cases e
   rw [add_plain, hc]
   simp [hi]
  ·obtain ⟨v, rfl, ho, _, hb⟩ := h
   have e1 : ((List.range n).map fun i => ((F i : Nat) : Int)).map (Value.int .u8) = (row n F).toList := by simp [row]
   rw [e1] at ho
   have ho' : Ob w' w.heap.size v n F := ho
   obtain ⟨s, d, rfl, h0⟩ : ∃ s d, v = .slice s n d ∧ (s = none → n = 0 ∧ d = 0) := by
    rcases ho'.2 with ⟨e, h0⟩ | ⟨g, cap, cur, e, _⟩
    ·exact ⟨none, 0, by rw [e, h0], fun _ => ⟨h0, rfl⟩⟩
    ·exact ⟨_, _, e, fun x => by cases x⟩
   exact ⟨s, d, rfl, ho', h0, hb⟩
open Go.RowKit
/-- Of the blocks that were there only those of S are changed. -/
structure Chg (w w' : World) (S : Nat → Prop) : Prop where
 os : w'.os = w.os
 tape : w'.tape = w.tape
 output : w'.output = w.output
 size : w.heap.size ≤ w'.heap.size
 block : ∀ k, k < w.heap.size → ¬ S k → w'.heap[k]? = w.heap[k]?
theorem Chg.refl (w : World) (S : Nat → Prop) : Chg w w S := ⟨rfl, rfl, rfl, Nat.le_refl _, fun _ _ _ => rfl⟩
theorem Chg.of_below {w w' : World} {S : Nat → Prop} (h : Below w.heap.size w w') : Chg w w' S := ⟨h.os, h.tape, h.output, h.size, fun k hk _ => h.block k hk⟩
theorem Chg.of_grown {w w' : World} {S : Nat → Prop} {g : Nat} (h : w.grownBy w' (some g)) (hs : S g) : Chg w w' S := ⟨h.os, h.tape, h.output, h.size, fun k hk hn => h.block k hk (fun e => hn (by cases e; exact hs))⟩
theorem Chg.trans {a b c : World} {S : Nat → Prop} (h : Chg a b S) (k : Chg b c S) : Chg a c S :=
 ⟨k.os.trans h.os, k.tape.trans h.tape, k.output.trans h.output, Nat.le_trans h.size k.size, fun i hi hn => (k.block i (Nat.lt_of_lt_of_le hi h.size) hn).trans (h.block i hi hn)⟩
theorem Chg.mono {a b : World} {S T : Nat → Prop} (h : Chg a b S) (hST : ∀ k, S k → T k) : Chg a b T := ⟨h.os, h.tape, h.output, h.size, fun i hi hn => h.block i hi (fun hs => hn (hST i hs))⟩
theorem Chg.at {w w' : World} {S : Nat → Prop} (h : Chg w w' S) {g : Nat} {o : Obj} (hg : w.heap[g]? = some o) (hn : ¬ S g) : w'.heap[g]? = some o := by rw [h.block g (lt_of_block hg) hn]; exact hg
theorem Chg.low {w w' : World} {S : Nat → Prop} (h : Chg w w' S) {B : Nat} (hB : B ≤ w.heap.size) (hS : ∀ k, S k → B ≤ k) : Below B w w' := ⟨h.os, h.tape, h.output, h.size, fun k hk => h.block k (Nat.lt_of_lt_of_le hk hB) (fun hs => by have := hS k hs; omega)⟩
theorem qgr {w w' : World} {S : Nat → Prop} {B : Nat} {e : TypeId} {s : Nat} {v : Value} {n : Nat} {xs : List Value} (h : w.ownsRow B e s v n xs) (hc : Chg w w' S) (hn : ∀ g, v.ownBlock = some g → ¬ S g) : w'.ownsRow B e s v n xs := by
 refine ⟨h.1, ?_⟩
 rcases h.2 with h0 | ⟨g, cap, cur, e1, hb, hg, r⟩
 ·exact .inl h0
 ·exact .inr ⟨g, cap, cur, e1, hb, hc.at hg (hn g (by rw [e1]; rfl)), r⟩
theorem Sl.chg {w w' : World} {S : Nat → Prop} {a : Option Addr} {n : Nat} {f : Nat → Nat} (h : Sl w a n f) (hc : Chg w w' S) (hn : ∀ x, a = some x → ¬ S x.block) : Sl w' a n f :=
 ⟨h.1, fun i hi => by
  obtain ⟨b, o, e, hcl⟩ := h.2 i hi
  refine ⟨b, o, e, ?_⟩
  rw [← hcl]
  exact World.cell?_of_block (hc.block b (qav hcl) (hn _ e))⟩
theorem qdb {w : World} {a b : Nat} {x y : Array Value} {t u : TypeId} {i j : Nat × Nat} (h : w.heap[a]? = some (.cells x t i)) (h2 : w.heap[b]? = some (.cells y u j)) (hne : t ≠ u) : a ≠ b := by
 intro e
 subst e
 rw [h] at h2
 have := Option.some.inj h2
 injection this with _ h3
 exact hne h3
theorem ownb {w : World} {B : Nat} {e : TypeId} {s : Nat} {v : Value} {n g : Nat} {xs : List Value} (h : w.ownsRow B e s v n xs) (hg : v.ownBlock = some g) : ∃ cur, w.heap[g]? = some (.cells cur e (0, 0)) := by
 rcases h.2 with ⟨e1, _⟩ | ⟨g', cap, cur, e1, hb, hg', r⟩
 ·rw [e1] at hg; simp [Value.ownBlock] at hg
 ·rw [e1] at hg
  have : g' = g := by simpa [Value.ownBlock] using hg
  subst this
  exact ⟨cur, hg'⟩
/-- The cells of a list of n rows, of k elements each. -/
def srow (n : Nat) (A : Nat → Option Addr) (k : Nat) : Array Value := (Array.range n).map fun i => .slice (A i) k k
theorem srow_get (n : Nat) (A : Nat → Option Addr) (k i : Nat) (h : i < n) : (srow n A k)[i]? = some (.slice (A i) k k) := by simp [srow, h]
theorem qkv (n : Nat) (A : Nat → Option Addr) (k : Nat) : (srow n A k).size = n := by simp [srow]
theorem srow_set (n : Nat) (A : Nat → Option Addr) (k i : Nat) (a : Option Addr) : (srow n A k).setIfInBounds i (.slice a k k) = srow n (fun j => if j = i then a else A j) k := by
 apply Array.ext
 ·simp [srow]
 ·intro j h1 h2
  by_cases e : i = j
  ·subst e; simp [srow]
  ·rw [Array.getElem_setIfInBounds_ne (by simpa using h1) e]; simp [srow, Ne.symm e]
def SRowAt (w : World) (g n : Nat) (A : Nat → Option Addr) (k : Nat) : Prop := w.heap[g]? = some (.cells (srow n A k) 22 (0, 0))
theorem SRowAt.cell {w : World} {g n k : Nat} {A : Nat → Option Addr} (h : SRowAt w g n A k) {i : Nat} (hi : i < n) : w.cell? ⟨g, i, none⟩ = some (.slice (A i) k k) := by
 rw [cell_of_row w g i _ _ _ h, srow_get n A k i hi]
theorem SRowAt.free {w : World} {g n k : Nat} {A : Nat → Option Addr} (h : SRowAt w g n A k) (i : Nat) : w.frozen? ⟨g, i, none⟩ = false := by
 unfold SRowAt at h
 simp [World.frozen?, h]
theorem SRowAt.lt {w : World} {g n k : Nat} {A : Nat → Option Addr} (h : SRowAt w g n A k) : g < w.heap.size := lt_of_block h
theorem SRowAt.set {w : World} {g n k : Nat} {A : Nat → Option Addr} (h : SRowAt w g n A k) (i : Nat) (a : Option Addr) : SRowAt (w.setCell ⟨g, i, none⟩ (.slice a k k)) g n (fun j => if j = i then a else A j) k := by
 unfold SRowAt at *
 rw [setCell_eq_setRow w g i _ _ (0, 0) _ h, setRow_heap w g _ _ _ (0, 0) h, srow_set]
theorem SRowAt.congr {w : World} {g n k : Nat} {A A' : Nat → Option Addr} (h : SRowAt w g n A k) (e : ∀ i, i < n → A i = A' i) : SRowAt w g n A' k := by
 have : srow n A k = srow n A' k := by
  apply Array.ext
  ·simp [srow]
  ·intro j h1 h2
   have hj : j < n := by simpa [qkv] using h1
   simp [srow, e j hj]
 unfold SRowAt at *
 rw [h, this]
/-- A list of n rows of k elements, all slices of one list: F's. -/
structure Grid (w : World) (B gr gd n k : Nat) (F : Nat → Nat → Nat) : Prop where
 base : B ≤ gr
 el : ∀ i l, i < n → l < k → F i l < 256
 ex : ∃ A : Nat → Option Addr, SRowAt w gr n A k ∧ (0 < k → 0 < n → ∃ (z D : Nat → Nat) (d : Nat), (∀ i, i < n → z i < n) ∧ (∀ i j, i < n → j < n → z i = z j → i = j) ∧ (∀ i, i < n → A i = some ⟨gd, z i * k, none⟩) ∧ Ob w B (.slice (some ⟨gd, 0, none⟩) (n * k) d) (n * k) D ∧ ∀ i l, i < n → l < k → D (z i * k + l) = F i l)
theorem Grid.congr {w : World} {B gr gd n k : Nat} {F G : Nat → Nat → Nat} (h : Grid w B gr gd n k F) (e : ∀ i l, i < n → l < k → F i l = G i l) : Grid w B gr gd n k G := by
 obtain ⟨A, hA, h2⟩ := h.ex
 refine ⟨h.base, fun i l hi hl => by rw [← e i l hi hl]; exact h.el i l hi hl, A, hA, fun hk hn => ?_⟩
 obtain ⟨z, D, d, h3, h4, h5, h6, h7⟩ := h2 hk hn
 exact ⟨z, D, d, h3, h4, h5, h6, fun i l hi hl => by rw [h7 i l hi hl]; exact e i l hi hl⟩
theorem Grid.blk {w : World} {B gr gd n k : Nat} {F : Nat → Nat → Nat} (h : Grid w B gr gd n k F) : ∃ cs, w.heap[gr]? = some (.cells cs 22 (0, 0)) := by
 obtain ⟨A, hA, _⟩ := h.ex
 exact ⟨_, hA⟩
theorem Grid.lt {w : World} {B gr gd n k : Nat} {F : Nat → Nat → Nat} (h : Grid w B gr gd n k F) : gr < w.heap.size := by
 obtain ⟨cs, hc⟩ := h.blk
 exact lt_of_block hc
theorem Grid.dat {w : World} {B gr gd n k : Nat} {F : Nat → Nat → Nat} (h : Grid w B gr gd n k F) (hk : 0 < k) (hn : 0 < n) : B ≤ gd ∧ gd < w.heap.size ∧ ∃ cs, w.heap[gd]? = some (.cells cs 5 (0, 0)) := by
 obtain ⟨A, hA, h2⟩ := h.ex
 obtain ⟨z, D, d, h3, h4, h5, h6, h7⟩ := h2 hk hn
 obtain ⟨cs, hc⟩ := ownb h6 rfl
 exact ⟨(h6.base rfl).1, lt_of_block hc, cs, hc⟩
theorem Grid.chg {w w' : World} {S : Nat → Prop} {B gr gd n k : Nat} {F : Nat → Nat → Nat} (h : Grid w B gr gd n k F) (hc : Chg w w' S) (h1 : ¬ S gr) (h2 : 0 < k → 0 < n → ¬ S gd) : Grid w' B gr gd n k F := by
 obtain ⟨A, hA, hx⟩ := h.ex
 refine ⟨h.base, h.el, A, hc.at hA h1, fun hk hn => ?_⟩
 obtain ⟨z, D, d, h3, h4, h5, h6, h7⟩ := hx hk hn
 exact ⟨z, D, d, h3, h4, h5, qgr h6 hc (fun g hg => by cases hg; exact h2 hk hn), h7⟩
theorem Grid.later {w w' : World} {B gr gd n k : Nat} {F : Nat → Nat → Nat} (h : Grid w B gr gd n k F) (hb : Below w.heap.size w w') : Grid w' B gr gd n k F := h.chg (S := fun _ => False) (Chg.of_below hb) (fun x => x) (fun _ _ x => x)
theorem Grid.drew {w : World} {B gr gd n k : Nat} {F : Nat → Nat → Nat} (h : Grid w B gr gd n k F) : Grid w.drew B gr gd n k F := h.later (Below.refl _ _).drew
theorem qdl {i n k : Nat} (h : i < n) : i * k + k ≤ n * k := by
 have := Nat.mul_le_mul_right k (show i + 1 ≤ n from h)
 rwa [Nat.add_mul, Nat.one_mul] at this
/-- A row of it. -/
theorem Grid.row {w : World} {B gr gd n k : Nat} {F : Nat → Nat → Nat} (h : Grid w B gr gd n k F) {i : Nat} (hi : i < n) : ∃ a, w.cell? ⟨gr, i, none⟩ = some (.slice a k k) ∧ Sl w a k (F i) ∧ (0 < k → ∃ o, a = some ⟨gd, o, none⟩) := by
 obtain ⟨A, hA, hx⟩ := h.ex
 refine ⟨A i, hA.cell hi, ⟨fun l hl => h.el i l hi hl, fun l hl => ?_⟩, fun hk => ?_⟩
 ·obtain ⟨z, D, d, h3, h4, h5, h6, h7⟩ := hx (by omega) (by omega)
  refine ⟨gd, z i * k, h5 i hi, ?_⟩
  rw [← h7 i l hi hl]
  exact h6.cell (by have := qdl (k := k) (h3 i hi); omega)
 ·obtain ⟨z, D, d, h3, h4, h5, h6, h7⟩ := hx hk (by omega)
  exact ⟨_, h5 i hi⟩
theorem spot_ne {a b k p q : Nat} (hab : a ≠ b) (hp : p < k) (hq : q < k) : a * k + p ≠ b * k + q := by
 intro e
 have h1 : (a * k + p) / k = a := by rw [Nat.mul_comm, Nat.mul_add_div (by omega), Nat.div_eq_of_lt hp, Nat.add_zero]
 have h2 : (b * k + q) / k = b := by rw [Nat.mul_comm, Nat.mul_add_div (by omega), Nat.div_eq_of_lt hq, Nat.add_zero]
 rw [e, h2] at h1
 exact hab h1.symm
/-- A row is laid open to be written. -/
theorem Grid.open {w : World} {B gr gd n k : Nat} {F : Nat → Nat → Nat} (h : Grid w B gr gd n k F) (hk : 0 < k) {i : Nat} (hi : i < n) : ∃ (o d : Nat) (D : Nat → Nat), w.cell? ⟨gr, i, none⟩ = some (.slice (some ⟨gd, o, none⟩) k k) ∧ Ob w B (.slice (some ⟨gd, 0, none⟩) (n * k) d) (n * k) D ∧ o + k ≤ n * k ∧ Sl w (some ⟨gd, o, none⟩) k (F i) ∧
  ∀ (w1 w' : World) (y : Nat → Nat), Below w.heap.size w w1 → (∀ l, l < k → y l < 256) → Ob w' B (.slice (some ⟨gd, 0, none⟩) (n * k) d) (n * k) (cpf D y o k) → w1.grownBy w' (some gd) → Grid w' B gr gd n k (rw1 F i y) := by
 obtain ⟨A, hA, hx⟩ := h.ex
 obtain ⟨z, D, d, h3, h4, h5, h6, h7⟩ := hx hk (by omega)
 have hfit := qdl (k := k) (h3 i hi)
 refine ⟨z i * k, d, D, by rw [hA.cell hi, h5 i hi], h6, hfit, ?_, fun w1 w' y hb hy ho hg => ?_⟩
 ·refine ⟨fun l hl => h.el i l hi hl, fun l hl => ⟨gd, z i * k, rfl, ?_⟩⟩
  rw [← h7 i l hi hl]
  exact h6.cell (by omega)
 ·obtain ⟨cs, hcs⟩ := ownb h6 rfl
  have hne : gr ≠ gd := qdb hA hcs (by decide)
  have hA1 : SRowAt w1 gr n A k := by
   unfold SRowAt
   rw [hb.block gr hA.lt]; exact hA
  refine ⟨h.base, fun t l ht hl => ?_, A, ?_, fun _ _ => ⟨z, _, d, h3, h4, h5, ho, fun t l ht hl => ?_⟩⟩
  ·unfold rw1
   split
   ·exact hy l hl
   ·exact h.el t l ht hl
  ·unfold SRowAt
   rw [hg.block gr hA1.lt (by simpa using hne)]; exact hA1
  ·unfold cpf rw1
   by_cases e : t = i
   ·subst e
    rw [if_pos rfl, if_pos (by omega)]
    congr 1
    omega
   ·rw [if_neg e, if_neg, h7 t l ht hl]
    rintro ⟨ha, hb'⟩
    have hq : z t * k + l - z i * k < k := by omega
    exact spot_ne (fun e2 => e (h4 t i ht hi e2)) hl hq (by omega)
theorem qkw (a b t : Nat) : zsw a b (zsw a b t) = t := by
 unfold zsw
 split
 ·rename_i h
  split
  ·rename_i h2; omega
  ·rw [if_pos rfl, h]
 ·rename_i h
  split
  ·rename_i h2; rw [if_pos rfl, h2]
  ·rfl
/-- Two rows change places: the slices alone. -/
theorem Grid.swap {w : World} {B gr gd n k a b : Nat} {F : Nat → Nat → Nat} (h : Grid w B gr gd n k F) (ha : a < n) (hb : b < n) : ∃ x y, w.cell? ⟨gr, a, none⟩ = some (.slice x k k) ∧ w.cell? ⟨gr, b, none⟩ = some (.slice y k k) ∧ (∀ i, w.frozen? ⟨gr, i, none⟩ = false) ∧ (∃ z, (w.setCell ⟨gr, a, none⟩ (.slice y k k)).cell? ⟨gr, b, none⟩ = some z) ∧ (w.setCell ⟨gr, a, none⟩ (.slice y k k)).frozen? ⟨gr, b, none⟩ = false ∧
  Grid ((w.setCell ⟨gr, a, none⟩ (.slice y k k)).setCell ⟨gr, b, none⟩ (.slice x k k)) B gr gd n k (swp F a b) := by
 obtain ⟨A, hA, hx⟩ := h.ex
 refine ⟨A a, A b, hA.cell ha, hA.cell hb, hA.free, ⟨_, (hA.set a (A b)).cell hb⟩, (hA.set a (A b)).free b, ?_⟩
 have hS := (hA.set a (A b)).set b (A a)
 have e : ∀ i, i < n → (if i = b then A a else if i = a then A b else A i) = A (zsw a b i) := fun i _ => by
  unfold zsw
  by_cases e1 : i = b
  ·subst e1
   rw [if_pos rfl]
   by_cases e2 : i = a
   ·rw [if_pos e2, e2]
   ·rw [if_neg e2, if_pos rfl]
  ·rw [if_neg e1]
   by_cases e2 : i = a
   ·rw [if_pos e2, if_pos e2]
   ·rw [if_neg e2, if_neg e2, if_neg e1]
 have es : ∀ i l, swp F a b i l = F (zsw a b i) l := fun i l => by
  unfold swp zsw
  by_cases e1 : i = a
  ·rw [if_pos e1, if_pos e1]
  ·rw [if_neg e1, if_neg e1]
   by_cases e2 : i = b
   ·rw [if_pos e2, if_pos e2]
   ·rw [if_neg e2, if_neg e2]
 refine ⟨h.base, fun i l hi hl => by rw [es]; exact h.el _ l (qcf ha hb hi) hl, _, hS.congr e, fun hk hn => ?_⟩
 obtain ⟨z, D, d, h3, h4, h5, h6, h7⟩ := hx hk hn
 obtain ⟨cs, hcs⟩ := ownb h6 rfl
 have hne : gd ≠ gr := (qdb hA hcs (by decide)).symm
 refine ⟨fun i => z (zsw a b i), D, d, fun i hi => h3 _ (qcf ha hb hi), fun i j hi hj hz => ?_, fun i hi => h5 _ (qcf ha hb hi), ?_, fun i l hi hl => by rw [es]; exact h7 _ l (qcf ha hb hi) hl⟩
 ·have := h4 _ _ (qcf ha hb hi) (qcf ha hb hj) hz
  rw [← qkw a b i, this, qkw]
 ·exact (h6.kept (qa2 _ _ _ _) (.inr (by simpa [Value.ownBlock] using hne))).kept (qa2 _ _ _ _) (.inr (by simpa [Value.ownBlock] using hne))
open Go.RowKit
theorem mkf : ∀ (fn : Fn) (first cap : Array Value) (w : World), (Instr.makeFunc fn first cap).run Try.prog w = .ok (.func fn first cap) w := fun _ _ _ _ => rfl
/-- A variable of one cell. -/
def V1 (w : World) (g : Nat) (v : Value) (t : TypeId) : Prop := w.heap[g]? = some (.cells #[v] t (0, 0))
theorem V1.cell {w : World} {g : Nat} {v : Value} {t : TypeId} (h : V1 w g v t) : w.cell? ⟨g, 0, none⟩ = some v := by rw [cell_of_row w g 0 _ _ _ h]; rfl
theorem V1.lt {w : World} {g : Nat} {v : Value} {t : TypeId} (h : V1 w g v t) : g < w.heap.size := lt_of_block h
theorem V1.later {w w' : World} {g : Nat} {v : Value} {t : TypeId} (h : V1 w g v t) (hb : Below w.heap.size w w') : V1 w' g v t := by unfold V1; rw [hb.block g h.lt]; exact h
theorem V1.chg {w w' : World} {S : Nat → Prop} {g : Nat} {v : Value} {t : TypeId} (h : V1 w g v t) (hc : Chg w w' S) (hn : ¬ S g) : V1 w' g v t := hc.at h hn
theorem V1.new (w : World) (v : Value) (t : TypeId) : V1 (w.alloc (.cells #[v] t)) w.heap.size v t := qbu w _
theorem exch_mk (w : World) (i j : Nat) : Calls Try.prog 66 #[.int .i64 (i : Int), .int .i64 (j : Int)] w fun e w' => ∃ gi gj, e = .returned (.func (.func 80) #[] #[.pointer (some ⟨gj, 0, none⟩), .pointer (some ⟨gi, 0, none⟩)]) ∧ V1 w' gi (.int .i64 (i : Int)) 3 ∧ V1 w' gj (.int .i64 (j : Int)) 3 ∧ w.heap.size ≤ gi ∧ w.heap.size ≤ gj ∧ Below w.heap.size w w' := by
 have hmf := mkf
 go_enter Try.func66, Try.ntmps66
 go_wp2
 go_ret
 refine ⟨w.heap.size, w.heap.size + 1, rfl, (V1.new w _ _).later (qa0 _ _), ?_, Nat.le_refl _, by omega, qa1 (qa0 _ _) (qa0 _ _)⟩
 have := V1.new (w.alloc (.cells #[.int .i64 (i : Int)] 3)) (.int .i64 (j : Int)) 3
 simpa using this
theorem qkx (w : World) (i c : Nat) : Calls Try.prog 68 #[.int .i64 (i : Int), .int .u8 (c : Int)] w fun e w' => ∃ gi gc, e = .returned (.func (.func 82) #[] #[.pointer (some ⟨gi, 0, none⟩), .pointer (some ⟨gc, 0, none⟩)]) ∧ V1 w' gi (.int .i64 (i : Int)) 3 ∧ V1 w' gc (.int .u8 (c : Int)) 5 ∧ w.heap.size ≤ gi ∧ w.heap.size ≤ gc ∧ Below w.heap.size w w' := by
 have hmf := mkf
 go_enter Try.func68, Try.ntmps68
 go_wp2
 go_ret
 refine ⟨w.heap.size, w.heap.size + 1, rfl, (V1.new w _ _).later (qa0 _ _), ?_, Nat.le_refl _, by omega, qa1 (qa0 _ _) (qa0 _ _)⟩
 have := V1.new (w.alloc (.cells #[.int .i64 (i : Int)] 3)) (.int .u8 (c : Int)) 5
 simpa using this
theorem put_mk (w : World) (i c j : Nat) : Calls Try.prog 84 #[.int .i64 (i : Int), .int .u8 (c : Int), .int .i64 (j : Int)] w fun e w' => ∃ gi gc gj, e = .returned (.func (.func 95) #[] #[.pointer (some ⟨gi, 0, none⟩), .pointer (some ⟨gc, 0, none⟩), .pointer (some ⟨gj, 0, none⟩)]) ∧ V1 w' gi (.int .i64 (i : Int)) 3 ∧ V1 w' gc (.int .u8 (c : Int)) 5 ∧ V1 w' gj (.int .i64 (j : Int)) 3 ∧ w.heap.size ≤ gi ∧ w.heap.size ≤ gc ∧ w.heap.size ≤ gj ∧ Below w.heap.size w w' := by
 have hmf := mkf
 go_enter Try.func84, Try.ntmps84
 go_wp2
 go_ret
 refine ⟨w.heap.size, w.heap.size + 1, w.heap.size + 2, rfl, ((V1.new w _ _).later (qa0 _ _)).later (qa0 _ _), ?_, ?_, Nat.le_refl _, by omega, by omega, qa1 (qa1 (qa0 _ _) (qa0 _ _)) (qa0 _ _)⟩
 ·have := (V1.new (w.alloc (.cells #[.int .i64 (i : Int)] 3)) (.int .u8 (c : Int)) 5).later (qa0 _ (.cells #[.int .i64 (j : Int)] 3))
  simpa using this
 ·have := V1.new ((w.alloc (.cells #[.int .i64 (i : Int)] 3)).alloc (.cells #[.int .u8 (c : Int)] 5)) (.int .i64 (j : Int)) 3
  simpa using this
theorem exch_do (w : World) (B gr gd n k i j gi gj : Nat) (F : Nat → Nat → Nat) (G : Grid w B gr gd n k F) (hi : i < n) (hj : j < n) (nj : gr ≠ gj) (ci : w.cell? ⟨gi, 0, none⟩ = some (.int .i64 (i : Int))) (cj : w.cell? ⟨gj, 0, none⟩ = some (.int .i64 (j : Int))) :
  Calls Try.prog 80 #[.slice (some ⟨gr, 0, none⟩) n n, .pointer (some ⟨gj, 0, none⟩), .pointer (some ⟨gi, 0, none⟩)] w fun e w' => e = .returned (.tuple #[]) ∧ Grid w' B gr gd n k (swp F i j) ∧ Chg w w' (fun b => b = gr ∨ b = gd) := by
 obtain ⟨x, y, cx, cy, hf, ⟨z, cz⟩, fz, hG⟩ := G.swap hi hj
 have HG : Hid (Grid ((w.setCell ⟨gr, i, none⟩ (.slice y k k)).setCell ⟨gr, j, none⟩ (.slice x k k)) B gr gd n k (swp F i j)) := hG
 have hf1 := hf i
 have hf2 := hf j
 clear hG G hf
 go_enter Try.func80, Try.ntmps80
 go_wp2
 go_region
 all_goals go_end0
 all_goals exact ⟨rfl, HG.out.drew, ((Chg.of_grown (qa2 _ _ _ _) (.inl rfl)).trans (Chg.of_grown (qa2 _ _ _ _) (.inl rfl))).trans (Chg.of_below (Below.refl _ _).drew)⟩
end Go.Proofs.Ytblagbghpfopcaa
