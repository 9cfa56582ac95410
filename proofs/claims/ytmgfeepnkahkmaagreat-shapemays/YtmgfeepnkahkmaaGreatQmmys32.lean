/-
  Codes of portions: the entries of their generators and their groups, as numbers.
  Contracts of the program's build: Systematic.
  Contracts of the program's build: Vandermonde.
  Contracts of the program's build: Reed, Cross, Check.
  The program's gauss and the reference's, together.
  The checks' own anchors.
  Ranks: of the matrix transposed, of the reduced one, and the free columns.
  Contracts of the program's build: Check.
  What the laws about generators ask: two answers are alike; the program's answers and the document's, in pairs.
  Rows of a code: a row as it stands, noughts, counts that are too many, a piece copied into a greater one.
-/
import Derived.Test.YtmgfeepnkahkmaaGreatQmmys00
import Derived.Test.YtmgfeepnkahkmaaGreatQmmys20
import Derived.Test.YtmgfeepnkahkmaaGreatQmmys21
import Derived.Test.YtmgfeepnkahkmaaGreatQmmys23
import Derived.Test.YtmgfeepnkahkmaaGreatQmmys31
import Derived.Test.YtmgfeepnkahkmaaGreatQmmys22
import Derived.Test.YtmgfeepnkahkmaaGreatQmmys24
import Derived.Test.YtmgfeepnkahkmaaGreatQmmys18
import Derived.Test.YtmgfeepnkahkmaaGreatQmmys09
set_option maxRecDepth 100000
set_option maxHeartbeats 16000000
namespace Go.Proofs.YtmgfeepnkahkmaaGreat
open Go.RowKit
/-- The entries of a code of portions: the identity, a row a portion, further rows. -/
def ptf (k l s : Nat) (W X : Nat → Nat) (q : Nat) : Nat :=
 if q < k * k then idf k q else if q < (k + l) * k then (if q % k / s = q / k - k then W (q % k) else 0) else X (q - (k + l) * k)
/-- Where the blocks of a portion's group stand. -/
def gpq (k s p i : Nat) : Nat := if i = s then k + p else p * s + i
/-- A portion's group. -/
def gpf (k s p : Nat) : Nat := ofs (gpq k s p) (s + 1)
theorem qeu {k l s p : Nat} (h : l * s = k) (hp : p < l) : p * s + s ≤ k := by
 rw [← h]
 exact Nat.le_trans (Nat.le_of_eq (show p * s + s = (p + 1) * s by rw [Nat.add_mul, Nat.one_mul])) (Nat.mul_le_mul_right s hp)
theorem gpq_lt {k l s p i : Nat} (h : l * s = k) (hp : p < l) (hk : k + l ≤ 64) (hi : i < s + 1) : gpq k s p i < 64 := by
 unfold gpq
 have := qeu h hp
 split <;> omega
theorem qjj (m x : Nat) : bt (2 ^ m - 1) x = if x < m then 1 else 0 := by
 have h := Nat.testBit_two_pow_sub_one m x
 rw [Nat.testBit_eq_decide_div_mod_eq] at h
 have h2 := bt_lt (2 ^ m - 1) x
 unfold bt at *
 by_cases e : x < m
 ·rw [if_pos e]; simpa [e] using h
 ·rw [if_neg e]
  have : ¬ (2 ^ m - 1) / 2 ^ x % 2 = 1 := by simpa [e] using h
  omega
theorem qg0 (m : Nat) : ∀ x, x ≤ m → cn (2 ^ m - 1) x = x := by
 intro x
 induction x with
 | zero => intro _; rfl
 | succ x ih => intro h; rw [qbk, ih (by omega), qjj, if_pos (by omega)]
/-- The list of all numbers below m. -/
theorem lf_ones {m t : Nat} (hm : m ≤ 64) (ht : t < m) : lf (2 ^ m - 1) 64 t = t := by
 have hc := qia 64 m hm
 obtain ⟨_, h2, h3⟩ := qas (s := 2 ^ m - 1) (i := 64) (t := t) (by omega)
 rw [qjj] at h2
 by_cases hx : lf (2 ^ m - 1) 64 t < m
 ·rw [qg0 m _ (by omega)] at h3; exact h3
 ·rw [if_neg hx] at h2; omega
open Go.RowKit
theorem Mt.congr {w : World} {a : Option Addr} {n k : Nat} {F G : Nat → Nat} (h : Mt w a n k F) (e : ∀ i, i < n → F i = G i) : Mt w a n k G := ⟨h.sl.congr e, h.room, h.nil⟩
theorem Rk.uniq {A : Nat → Nat → Nat} {r s t : Nat} (h : Rk A r s) (hA : El2 A) (h2 : Rk A r t) : s = t := h.unique h2 (SpEq.refl hA r)
open Go.RowKit
theorem ZInv.fill {w w1 wr w' : World} {g r c m : Nat} {f f' : Nat → Nat} (I : ZInv w w1 wr g r c m f) (hr : RowAt w' g 5 m f') (hg : wr.grownBy w' (some g)) : ZInv w w1 w' g r c m f' :=
 ⟨hr, I.vm.kept hg (by have := I.hi; omega), I.vr.kept hg (by have := I.lo; omega), qa3 I.below hg (by have := I.lo; omega), I.lo, I.hi⟩
open Go.RowKit
theorem qjy (w : World) (k m A B : Nat) (hk : 1 ≤ k) (h : k + m ≤ 64) (HA : Hid (k * k = A)) (HB : Hid (m * k = B)) :
  Calls Tryz.prog 53 #[.int .i64 (k : Int), .int .i64 (m : Int)] w fun e w' => ∃ s d, e = .returned (.tuple #[mv ((k + m : Nat) : Int) k s (A + B) d, .int .i64 0]) ∧ Mt w' s (A + B) d (crf k) ∧ Below w.heap.size w w' := by
 have HRA : Hid (Rt k k A) := ⟨by omega, by omega, HA.out⟩
 have HRB : Hid (Rt m k B) := ⟨by omega, by omega, HB.out⟩
 have HKm : Hid (k + m ≤ 64) := h
 have HV0 : Hid (Vr (w.alloc (.cells #[.int .i64 0, .int .i64 0, .slice none 0 0] 24)) w.heap.size (.int .i64 0) (.int .i64 0) (.slice none 0 0)) := Vr.new w _ _ _
 obtain ⟨r, HRR⟩ : ∃ r, Hid (k + m = r) := ⟨_, rfl⟩
 have hrr := HRR.out
 rw [hrr] at h ⊢
 have e1 : IntKind.i64.wrap ((k : Int) + (m : Int)) = (r : Int) := by rw [IntKind.wrap_i64]; omega
 have hk64 : k ≤ 64 := by omega
 have hm64 : m ≤ 64 := by omega
 have HE1 : Hid (∀ w, Calls Tryz.prog 82 #[.int .i64 (k : Int), .int .i64 (r : Int)] w fun e w' => ∃ s d, e = .returned (.slice s m d) ∧ Mt w' s m d (fun i => k + i) ∧ Below w.heap.size w w') := fun w => (qgv w k r m HRR h).mono (fun _ _ ⟨s, d, h1, h2, h3⟩ => ⟨s, d, h1, ob_mt h2 (fun i hi => by show k + i < 256; omega), h3⟩)
 have HE2 : Hid (∀ w, Calls Tryz.prog 82 #[.int .i64 0, .int .i64 (k : Int)] w fun e w' => ∃ s d, e = .returned (.slice s k d) ∧ Mt w' s k d (fun i => i) ∧ Below w.heap.size w w') := fun w => (qgv w 0 k k (Nat.zero_add k) hk64).mono (fun _ _ ⟨s, d, h1, h2, h3⟩ => ⟨s, d, h1, (ob_mt h2 (fun i hi => by show 0 + i < 256; omega)).congr (fun i _ => Nat.zero_add i), h3⟩)
 clear hrr
 go_enter Tryz.func53, Tryz.ntmps53
 go_wp2_with (first
  | (go_at_call 79; refine (cnt_yes5 _ k m hk HKm.out).mono ?_; rintro e w' ⟨rfl, rfl⟩)
  | (go_at_call 80; refine (qfc _ k A hk64 HA).mono ?_; rintro e w1 ⟨g1, rfl, hr1, hg1, hb1⟩; have HM1 : Hid (Mt (w1.alloc (.cells #[.int .i64 (k : Int), .int .i64 (k : Int), .slice (some ⟨g1, 0, none⟩) A A] 24)) (some ⟨g1, 0, none⟩) A A (idf k)) := (hr1.mt (fun p _ => qf7 k p)).later (qa0 _ _); have HB1 : Hid (Below w.heap.size w (w1.alloc (.cells #[.int .i64 (k : Int), .int .i64 (k : Int), .slice (some ⟨g1, 0, none⟩) A A] 24))) := qa1 (qa1 (qa0 _ _) hb1) (qa0 _ _); have HV1 : Hid (Vr (w1.alloc (.cells #[.int .i64 (k : Int), .int .i64 (k : Int), .slice (some ⟨g1, 0, none⟩) A A] 24)) w.heap.size (.int .i64 0) (.int .i64 0) (.slice none 0 0)) := (HV0.out.later hb1).later (qa0 _ _); have HT1 : Hid (Vr (w1.alloc (.cells #[.int .i64 (k : Int), .int .i64 (k : Int), .slice (some ⟨g1, 0, none⟩) A A] 24)) w1.heap.size (.int .i64 (k : Int)) (.int .i64 (k : Int)) (.slice (some ⟨g1, 0, none⟩) A A)) := Vr.new w1 _ _ _; clear hr1 hg1 hb1)
  | (go_at_call 82; have _x := HT1; refine (HE1.out _).mono ?_; rintro e w2 ⟨s2, d2, rfl, hm2, hb2⟩; have HM2 : Hid (Mt w2 s2 m d2 (fun i => k + i)) := hm2; have HB2 : Hid (Below (w1.alloc (.cells #[.int .i64 (k : Int), .int .i64 (k : Int), .slice (some ⟨g1, 0, none⟩) A A] 24)).heap.size (w1.alloc (.cells #[.int .i64 (k : Int), .int .i64 (k : Int), .slice (some ⟨g1, 0, none⟩) A A] 24)) w2) := hb2; clear hm2 hb2 HE1)
  | (go_at_call 82; have _x := HB2; refine (HE2.out _).mono ?_; rintro e w3 ⟨s3, d3, rfl, hm3, hb3⟩; have HM3 : Hid (Mt w3 s3 k d3 (fun i => i)) := hm3; have HM2' : Hid (Mt w3 s2 m d2 (fun i => k + i)) := HM2.out.later hb3; have HB3 : Hid (Below (w1.alloc (.cells #[.int .i64 (k : Int), .int .i64 (k : Int), .slice (some ⟨g1, 0, none⟩) A A] 24)).heap.size (w1.alloc (.cells #[.int .i64 (k : Int), .int .i64 (k : Int), .slice (some ⟨g1, 0, none⟩) A A] 24)) w3) := qa1 HB2.out hb3; clear hm3 hb3 HE2)
  | (go_at_call 81; have _x := HB3; refine (bcau_ok _ m k B d2 d3 s2 s3 _ _ HM2'.out HM3.out hm64 hk64 HB (dst_crs k m)).mono ?_; rintro e w4 ⟨g4, rfl, hr4, hg4, hb4⟩; have HM4 : Hid (Mt (w4.alloc (.cells #[.int .i64 (m : Int), .int .i64 (k : Int), .slice (some ⟨g4, 0, none⟩) B B] 24)) (some ⟨g4, 0, none⟩) B B (cauf (fun p => k + p) (fun p => p) k)) := (hr4.mt (fun p _ => qaa _)).later (qa0 _ _); have HB4 : Hid (Below (w1.alloc (.cells #[.int .i64 (k : Int), .int .i64 (k : Int), .slice (some ⟨g1, 0, none⟩) A A] 24)).heap.size (w1.alloc (.cells #[.int .i64 (k : Int), .int .i64 (k : Int), .slice (some ⟨g1, 0, none⟩) A A] 24)) (w4.alloc (.cells #[.int .i64 (m : Int), .int .i64 (k : Int), .slice (some ⟨g4, 0, none⟩) B B] 24))) := qa1 (qa1 HB3.out hb4) (qa0 _ _); have HT4 := HT1.out.later HB4.out; have y0 := HT4.c0; have y1 := HT4.c1; have y2 := HT4.c2; clear hr4 hg4 hb4 HT4)
  | (go_at_call 83; have _x := HB4; refine (qjn _ k m k A B r (A + B) A B _ _ _ _ (HM1.out.later HB4.out) HM4.out HRA.out HRB.out HRR.out h rfl).mono ?_; rintro e w5 ⟨g5, rfl, hr5, hg5, hb5⟩; have HR5 : Hid (RowAt w5 g5 5 (A + B) (stf (idf k) (cauf (fun p => k + p) (fun p => p) k) A)) := hr5; have HB5 : Hid (Below w.heap.size w w5) := qa1 (qa1 HB1.out HB4.out) hb5; have HV5 : Hid (Vr w5 w.heap.size (.int .i64 0) (.int .i64 0) (.slice none 0 0)) := (HV1.out.later HB4.out).later hb5; have hg6 : w.heap.size < g5 := Nat.lt_of_lt_of_le (HV1.out.later HB4.out).lt hg5; clear hr5 hg5 hb5)
  | (refine qa4 rfl _ _ rfl w.heap.size _ _ _ (.int .i64 (r : Int)) (.int .i64 (k : Int)) (.slice (some ⟨g5, 0, none⟩) (A + B) (A + B)) rfl rfl HV5.out rfl rfl rfl ?_; intro w6 HV6 HG6))
 have d0 := HV6.out.c0
 have d1 := HV6.out.c1
 have d2 := HV6.out.c2
 refine bodyPost_ret (v := .tuple #[mv (r : Int) k (some ⟨g5, 0, none⟩) (A + B) (A + B), .int .i64 0]) (by simp [results, Tryz.results53, go_sem, d0, d1, d2, mv]) rfl ?_
 refine ⟨_, _, rfl, ?_, qa3 HB5.out HG6.out (Nat.le_refl _)⟩
 unfold crf
 rw [HA.out]
 exact (HR5.out.kept HG6.out (by omega)).mt (stf_lt6 (fun p _ => qf7 k p) (fun p _ => qaa _))
open Go.RowKit
/-- A variable of several cells. -/
def Vq (w : World) (b : Nat) (T : TypeId) (xs : Array Value) : Prop := w.heap[b]? = some (.cells xs T (0, 0))
theorem Vq.new (w : World) (T : TypeId) (xs : Array Value) : Vq (w.alloc (.cells xs T)) w.heap.size T xs := qbq w _
theorem Vq.lt {w : World} {b : Nat} {T : TypeId} {xs : Array Value} (h : Vq w b T xs) : b < w.heap.size := lt_of_block h
theorem Vq.later {w w' : World} {b : Nat} {T : TypeId} {xs : Array Value} (h : Vq w b T xs) (hb : Below w.heap.size w w') : Vq w' b T xs := by unfold Vq; rw [hb.block b h.lt]; exact h
theorem Vq.kept {w w' : World} {b g : Nat} {T : TypeId} {xs : Array Value} (h : Vq w b T xs) (hg : w.grownBy w' (some g)) (hne : b ≠ g) : Vq w' b T xs := by unfold Vq; rw [hg.block b h.lt (by simpa using hne)]; exact h
theorem Vq.cell {w : World} {b : Nat} {T : TypeId} {xs : Array Value} (h : Vq w b T xs) (i : Nat) (v : Value) (hv : xs[i]? = some v) : w.cell? ⟨b, i, none⟩ = some v := by rw [cell_of_row w b i _ _ _ h]; exact hv
theorem Vq.free {w : World} {b : Nat} {T : TypeId} {xs : Array Value} (h : Vq w b T xs) (i : Nat) : w.frozen? ⟨b, i, none⟩ = false := by
 unfold Vq at h
 simp [World.frozen?, h]
theorem Vq.row {w : World} {b : Nat} {T : TypeId} {xs : Array Value} (h : Vq w b T xs) (ys : Array Value) : Vq (w.setRow b ys) b T ys := setRow_heap w b _ _ _ (0, 0) h
theorem qaj (w : World) (o : Obj) : (w.alloc o).heap.size = w.heap.size + 1 := by simp
theorem Vq.new1 (w : World) (o : Obj) (T : TypeId) (xs : Array Value) : Vq ((w.alloc o).alloc (.cells xs T)) (w.heap.size + 1) T xs := by
 have := Vq.new (w.alloc o) T xs
 rwa [qaj] at this
theorem Vq.new2 (w : World) (o o2 : Obj) (T : TypeId) (xs : Array Value) : Vq (((w.alloc o).alloc o2).alloc (.cells xs T)) (w.heap.size + 2) T xs := by
 have := Vq.new1 (w.alloc o) o2 T xs
 rwa [qaj] at this
theorem Vq.new3 (w : World) (o o2 o3 : Obj) (T : TypeId) (xs : Array Value) : Vq ((((w.alloc o).alloc o2).alloc o3).alloc (.cells xs T)) (w.heap.size + 3) T xs := by
 have := Vq.new2 (w.alloc o) o2 o3 T xs
 rwa [qaj] at this
theorem sizeRw : (Tryz.prog.info? 63).map (·.size) = some 3 := by kernel_rfl
theorem sizeCo : (Tryz.prog.info? 27).map (·.size) = some 4 := by kernel_rfl
/-- A whole variable is written. -/
theorem qb1 {ops : Array Oper} {rest : List Oper} {op : Oper} {a : Act} {w : World} {Q : Exit → Act → World → Prop} (hgd : op.guard = none) (T : TypeId) (p q : Operand) (ho : op.op = .store T p q)
  (b : Nat) (xs ys : Array Value) (hp : a.eval p = .pointer (some ⟨b, 0, none⟩)) (hq : a.eval q = .agg ys) (hv : Vq w b T xs) (hi : (Tryz.prog.info? T).map (·.size) = some ys.size) (hsz : xs.size = ys.size) (h1 : ys.all (·.oneCell') = true)
  (h : ∀ w', Hid (Vq w' b T ys) → Hid (w.grownBy w' (some b)) → wpList Tryz.prog ops Q rest (a.put op.dst undef) w') : wpList Tryz.prog ops Q (op :: rest) a w :=
 wpList_store_row hgd T p q ho b ys hp hq T xs hv hi hsz h1 (h _ (hv.row ys) (qam w b ys))
theorem ocm (r c : Int) (a : Option Addr) (n k : Nat) : (#[.int .i64 r, .int .i64 c, .slice a n k] : Array Value).all (·.oneCell') = true := by simp [Value.oneCell']
theorem occ (r c : Int) (a : Option Addr) (n k : Nat) (b : Option Addr) (m d : Nat) : (#[.int .i64 r, .int .i64 c, .slice a n k, .slice b m d] : Array Value).all (·.oneCell') = true := by simp [Value.oneCell']
theorem qcn (w : World) : Below w.heap.size w w.drew := ⟨rfl, rfl, rfl, Nat.le_refl _, fun _ _ => rfl⟩
/-- A code as a value. -/
abbrev cv (r c : Int) (a : Option Addr) (n k : Nat) (b : Option Addr) (m d : Nat) : Value := .agg #[.int .i64 r, .int .i64 c, .slice a n k, .slice b m d]
theorem qhz {op : Oper} {a : Act} {w : World} {K : Act → World → Prop} {Q : Exit → Act → World → Prop} (d s : Operand) (ho : op.op = .call { callee := .builtin .copy, args := #[d, s], argTypes := #[22, 22] })
  (g p n c D dc sc : Nat) (sp : Option Addr) (f h : Nat → Nat) (hc : 0 < c) (hD : c ≤ D) (hd : a.eval d = .slice (some ⟨g, p, none⟩) D dc) (hs : a.eval s = .slice sp c sc) (hr : RowAt w g 5 n f) (hsl : Sl w sp c h) (hfit : p + c ≤ n)
  (k : ∀ w', Hid (RowAt w' g 5 n (cpf f h p c)) → Hid (w.grownBy w' (some g)) → K (a.put op.dst (goInt c)) w') : Oper.wp Tryz.prog op a w K Q := by
 obtain ⟨b, o, e, _⟩ := hsl.2 0 (by omega)
 subst e
 have hsrc : ∀ j v, (row c h).toList[j]? = some v → w.cell? ((⟨b, o, none⟩ : Addr).add j) = some v := qb7 hsl (Below.refl _ _)
 have hrun := run_copy_row (P := Tryz.prog) w 22 22 op.type 5 g p D dc ⟨b, o, none⟩ c sc (row n f) 5 (row c h).toList Tryz.underlying22 qhp hr (by simp [qa5]; exact (Nat.min_eq_left hD).symm) hsrc (by simp [qa5]; exact hfit) (qb8 c h)
 have hlen : (row c h).toList.length = c := by simp [qa5]
 rw [hlen, List.append_assoc, qen n p c f h hfit] at hrun
 unfold Oper.wp
 simp [execOp, ho, resolve, invoke, builtin, hd, hs, hrun, Result.andThen]
 exact k _ (setRow_heap w g _ _ _ _ hr) (qam _ _ _)
theorem qcv {ops : Array Oper} {op : Oper} {a : Act} {w : World} {K : Act → World → Prop} {Q : Exit → Act → World → Prop} {E : Prop} (hgd : op.guard = none) (d s : Operand) (ho : op.op = .call { callee := .builtin .copy, args := #[d, s], argTypes := #[22, 22] })
  (g p n c D dc sc : Nat) (sp : Option Addr) (f h : Nat → Nat) (hc : 0 < c) (hD : c ≤ D) (hd : a.eval d = .slice (some ⟨g, p, none⟩) D dc) (hs : a.eval s = .slice sp c sc) (hr : RowAt w g 5 n f) (hsl : Sl w sp c h) (hfit : p + c ≤ n)
  (k : ∀ w', Hid (RowAt w' g 5 n (cpf f h p c)) → Hid (w.grownBy w' (some g)) → K (a.put op.dst (goInt c)) w') : if Region.wanted op (yielded ops a.tmps) = true then Oper.wp Tryz.prog op a w K Q else E := by
 have hw : Region.wanted op (yielded ops a.tmps) = true := by simp [Region.wanted, hgd]
 rw [if_pos hw]
 exact qhz d s ho g p n c D dc sc sp f h hc hD hd hs hr hsl hfit k
theorem qg4 (w : World) (r : Int) (c n k i p : Nat) (a s : Option Addr) (h0 : a = none → n = 0 ∧ k = 0) (hk : n ≤ k) (hfit : p + c ≤ n) (hn : n ≤ 4096) (hi : i ≤ 4096) (HP : Hid (i * c = p)) (HS : Hid (pc a p c = s)) :
  Calls Tryz.prog 68 #[mv r c a n k, .int .i64 (i : Int)] w fun e w' => e = .returned (.slice s c c) ∧ Below w.heap.size w w' := by
 have e1 : ((i : Int) * (c : Int)) = (p : Int) := by rw [← HP.out]; simp
 have e2 : (((i : Int) + 1) * (c : Int)) = ((p + c : Nat) : Int) := by rw [Int.add_mul, e1]; simp
 have w1 : IntKind.i64.wrap (p : Int) = (p : Int) := by rw [IntKind.wrap_i64]; omega
 have w3 : IntKind.i64.wrap ((i : Int) + 1) = (i : Int) + 1 := by rw [IntKind.wrap_i64]; omega
 obtain ⟨q, HQ⟩ : ∃ q, Hid (p + c = q) := ⟨_, rfl⟩
 rw [HQ.out] at e2
 have w2 : IntKind.i64.wrap (q : Int) = (q : Int) := by rw [IntKind.wrap_i64]; have := HQ.out; omega
 have y0 := (Vq.new w 63 #[.int .i64 r, .int .i64 (c : Int), .slice a n k]).cell 1 (.int .i64 (c : Int)) rfl
 by_cases hc0 : c = 0
 ·subst hc0
  obtain rfl : p = q := by have := HQ.out; omega
  obtain rfl : a = s := by have := HS.out; simpa [pc] using this
  clear HS HQ h0
  go_enter Tryz.func68, Tryz.ntmps68
  go_wp2
  go_region
  go_wp2
  go_ret
  exact ⟨by simp, qa1 (qa0 _ _) (qcn _)⟩
 ·cases a with
  | none => have := (h0 rfl).1; omega
  | some x =>
   obtain rfl : some (x.add p) = s := by have := HS.out; rw [← this]; unfold pc; rw [if_neg hc0]; rfl
   have hq := HQ.out
   have hpq : p < q := by omega
   have hqn : q ≤ k := by omega
   have hcq : q - p = c := by omega
   clear HS HQ h0
   go_enter Tryz.func68, Tryz.ntmps68
   go_wp2
   go_region
   go_wp2
   go_ret
   exact ⟨by simp, qa1 (qa0 _ _) (qcn _)⟩
theorem qh1 (w : World) (r c n : Nat) (hr : r ≤ 64) (hc : c ≤ 64) (HN : Hid (r * c = n)) :
  Calls Tryz.prog 37 #[.int .i64 (r : Int), .int .i64 (c : Int)] w fun e w' => ∃ g, e = .returned (mv r c (some ⟨g, 0, none⟩) n n) ∧ RowAt w' g 5 n (fun _ => 0) ∧ w.heap.size ≤ g ∧ Below w.heap.size w w' := by
 have HV0 : Hid (Vq (w.alloc (.cells #[.int .i64 0, .int .i64 0, .slice none 0 0] 63)) w.heap.size 63 #[.int .i64 0, .int .i64 0, .slice none 0 0]) := Vq.new w _ _
 go_enter Tryz.func37, Tryz.ntmps37
 go_wp2_with (first
  | (go_at_call 67; refine (qgs _ r c n hr hc HN).mono ?_; rintro e w1 ⟨g1, rfl, hr1, hg1, hb1⟩; have HR1 : Hid (RowAt (w1.alloc (.cells #[.int .i64 (r : Int), .int .i64 (c : Int), .slice (some ⟨g1, 0, none⟩) n n] 24)) g1 5 n (fun _ => 0)) := hr1.later (qa0 _ _); have HB1 : Hid (Below w.heap.size w (w1.alloc (.cells #[.int .i64 (r : Int), .int .i64 (c : Int), .slice (some ⟨g1, 0, none⟩) n n] 24))) := qa1 (qa1 (qa0 _ _) hb1) (qa0 _ _); have HV1 : Hid (Vq (w1.alloc (.cells #[.int .i64 (r : Int), .int .i64 (c : Int), .slice (some ⟨g1, 0, none⟩) n n] 24)) w.heap.size 63 #[.int .i64 0, .int .i64 0, .slice none 0 0]) := (HV0.out.later hb1).later (qa0 _ _); have hg2 : w.heap.size < g1 := Nat.lt_of_lt_of_le HV0.out.lt hg1; clear hr1 hg1 hb1)
  | (refine qb1 rfl 63 _ _ rfl w.heap.size _ #[.int .i64 (r : Int), .int .i64 (c : Int), .slice (some ⟨g1, 0, none⟩) n n] rfl rfl HV1.out sizeRw rfl (ocm _ _ _ _ _) ?_; intro w5 HV5 HG5))
 have d0 := HV5.out.cell 0 _ rfl
 have d1 := HV5.out.cell 1 _ rfl
 have d2 := HV5.out.cell 2 _ rfl
 refine bodyPost_ret (v := mv r c (some ⟨g1, 0, none⟩) n n) (by simp [results, Tryz.results37, go_sem, d0, d1, d2, mv]) rfl ?_
 exact ⟨g1, rfl, HR1.out.kept HG5.out (by omega), by omega, qa3 HB1.out HG5.out (Nat.le_refl _)⟩
/-- The sum of the first so many. -/
def sm16 (q : Nat → Int) : Nat → Int
 | 0 => 0
 | j + 1 => sm16 q j + q j
theorem qjz {q : Nat → Int} {m : Nat} (h : ∀ i, i < m → 0 ≤ q i) : ∀ j d, j + d ≤ m → sm16 q j ≤ sm16 q (j + d) := by
 intro j d
 induction d with
 | zero => intro _; exact Int.le_refl _
 | succ d ih =>
  intro hd
  have := ih (by omega)
  have h2 := h (j + d) (by omega)
  show _ ≤ sm16 q (j + d) + q (j + d)
  omega
theorem qff (w : World) (m d : Nat) (b : Option Addr) (q : Nat → Int) (hm : m ≤ 64) (hb : Jl w b .i64 m q) (hq : ∀ i, i < m → 0 ≤ q i ∧ q i < 9223372036854775808) :
  Calls Tryz.prog 36 #[.slice b m d] w fun e w' => e = .returned (.bool (decide (64 < sm16 q m))) ∧ w = w' := by
 have HQ : Hid (∀ i, i < m → 0 ≤ q i ∧ q i < 9223372036854775808) := hq
 have HB : Hid (Jl w b .i64 m q) := hb
 clear hb hq
 go_enter Tryz.func36, Tryz.ntmps36
 go_wp2
 go_loopw [3, 5, 8] (fun L _ j wr => ∃ i : Nat, i ≤ m ∧ j = .int .i64 (i : Int) ∧ L = .int .i64 (64 - sm16 q i) ∧ 0 ≤ sm16 q i ∧ sm16 q i ≤ 64 ∧ w = wr) (fun _ _ j _ => m - (intOf j).toNat)
 case atStart => exact ⟨0, by omega, rfl, rfl, Int.le_refl _, by show (0 : Int) ≤ 64; omega, rfl⟩
 case round =>
  obtain ⟨i, hi, rfl, rfl, h0, h1, rfl⟩ := hrel
  by_cases hlt : i < m
  ·obtain ⟨x, o, eb, hci⟩ := HB.out i hlt
   obtain ⟨y, HY⟩ : ∃ y, Hid (q i = y) := ⟨_, rfl⟩
   rw [HY.out] at hci
   have hy := HQ.out i hlt
   rw [HY.out] at hy
   obtain ⟨z, HZ⟩ : ∃ z, Hid (64 - sm16 q i = z) := ⟨_, rfl⟩
   rw [HZ.out]
   have hz : 0 ≤ z ∧ z ≤ 64 := by have := HZ.out; omega
   have wz : IntKind.i64.wrap (z - y) = z - y := by rw [IntKind.wrap_i64]; omega
   have i0 : (0 : Int) ≤ (i : Int) := Int.natCast_nonneg _
   have i1 : (i : Int) < (m : Int) := by omega
   by_cases hg : z < y
   ·have g1 : decide (z < y) = true := by simpa using hg
    have HE : Hid (decide (64 < sm16 q m) = true) := by
     have h3 := qjz (fun t ht => (HQ.out t ht).1) (i + 1) (m - (i + 1)) (by omega)
     rw [show i + 1 + (m - (i + 1)) = m by omega] at h3
     have h4 : sm16 q (i + 1) = sm16 q i + q i := rfl
     have h5 := HY.out
     have h6 := HZ.out
     show _ = _
     simp
     omega
    subst eb
    clear h0 h1 hz hy
    go_wp2
    go_ret
    exact ⟨by rw [HE.out]; try simp, rfl⟩
   ·have g1 : decide (z < y) = false := by simpa using hg
    subst eb
    have HN : Hid (64 - sm16 q (i + 1) = z - y ∧ 0 ≤ sm16 q (i + 1) ∧ sm16 q (i + 1) ≤ 64) := by
     have h4 : sm16 q (i + 1) = sm16 q i + q i := rfl
     have h5 := HY.out
     have h6 := HZ.out
     exact ⟨by omega, by omega, by omega⟩
    clear h0 h1 hz hy
    go_wp2
    exact ⟨⟨i + 1, by omega, by go_num, by rw [HN.out.1], HN.out.2.1, HN.out.2.2, trivial⟩, by simp [intOf]; omega⟩
  ·obtain rfl : i = m := by omega
   have HE : Hid (decide (64 < sm16 q i) = false) := by show _ = _; simp; omega
   go_wp2
   go_ret
   exact ⟨by rw [HE.out]; try simp, rfl⟩
end Go.Proofs.YtmgfeepnkahkmaaGreat
