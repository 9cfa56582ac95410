/-
  Contracts of the program's parse: the function that tells tokens one by one, the reader's take.
  Contracts of the program's parse: the reader's small methods.
  Contracts of the program's parse: the reader's methods that ask; where tokens do not go on.
  Contracts of the program's parse: the kinds of signs, an expression of parts.
  Contracts of the program's tree: memory of its own; each over expressions, stripExpr, stripExprs.
  What is read, in new memory; the tokens that are left; lists of one and of two expressions.
-/
import Derived.Test.YtnjcpmkfghcogaaGreatDoorQbbks00
import Derived.Test.YtnjcpmkfghcogaaGreatDoorQbbks16
import Derived.WalkLawsBesides
import Derived.Lib.LazyBuf
import Derived.Deep.Upon
import Derived.Test.YtnjcpmkfghcogaaGreatDoorQbbks26
import Derived.Test.YtnjcpmkfghcogaaGreatDoorQbbks15
import Derived.Laws.MakeOwn
import Derived.Test.YtnjcpmkfghcogaaGreatDoorQbbks17
import Derived.Great.BuildSlice
set_option maxRecDepth 100000
set_option maxHeartbeats 16000000
namespace Go.Proofs.YtnjcpmkfghcogaaGreatDoor
open Go.RowKit
def tvq (t : TV) : Array Value := #[.int .u8 (t.k : Int), .string t.tx, .int .i64 t.n, .int .i64 t.ln, .int .i64 t.cl]
structure Rk where
 r : Nat
 bt : Nat
 bl : Nat
 be : Nat
 a : Option Addr
 d : Nat
 n : Nat
 g : Nat → TV
structure Rc (K : Rk) (w : World) (k : Nat) : Prop where
 le : k ≤ K.n
 few : K.n ≤ 1000000000
 told : Vn w K.bt 3 #[.int .i64 (k : Int)]
 lst : Vn w K.bl 69 #[.slice K.a K.n K.d]
 en : Vn w K.be 104 (tvq (K.g K.n))
 tok : ∀ i, i < K.n → TvAt w K.a i (K.g i)
 nb : ∀ b o, K.a = some ⟨b, o, none⟩ → b ≠ K.r ∧ b ≠ K.bt
def fnx (K : Rk) : Value := .func (.func 152) #[] #[.pointer (some ⟨K.bt, 0, none⟩), .pointer (some ⟨K.bl, 0, none⟩), .pointer (some ⟨K.be, 0, none⟩)]
theorem TvAt.keptBy {w w' : World} {x : Option Addr} {i : Nat} {v : TV} {P : Nat → Prop} (h : TvAt w x i v) (hb : ∀ b, b < w.heap.size → P b → w'.heap[b]? = w.heap[b]?) (hn : ∀ b o, x = some ⟨b, o, none⟩ → P b) : TvAt w' x i v := by
 obtain ⟨b, o, e, h0, h1, h2, h3, h4⟩ := h
 have hl := qdz h0
 have he : ∀ q, w'.cell? ⟨b, q, none⟩ = w.cell? ⟨b, q, none⟩ := fun q => by unfold World.cell?; rw [hb b hl (hn b o e)]
 exact ⟨b, o, e, by rw [he]; exact h0, by rw [he]; exact h1, by rw [he]; exact h2, by rw [he]; exact h3, by rw [he]; exact h4⟩
theorem Vn.keptBy {w w' : World} {b : Nat} {T : TypeId} {xs : Array Value} (h : Vn w b T xs) (hb : w'.heap[b]? = w.heap[b]?) : Vn w' b T xs := by
 unfold Vn at *
 rw [hb]
 exact h
theorem Vn.keptG {w w' : World} {b : Nat} {T : TypeId} {xs : Array Value} {row : Option Nat} (h : Vn w b T xs) (hg : w.grownBy w' row) (hne : some b ≠ row) : Vn w' b T xs := h.keptBy (hg.block b h.lt hne)
theorem Vn.ne {w : World} {b c : Nat} {T U : TypeId} {xs ys : Array Value} (h : Vn w b T xs) (g : Vn w c U ys) (hTU : T ≠ U) : b ≠ c := fun e => by
 subst e
 unfold Vn at h g
 rw [h] at g
 cases g
 exact hTU rfl
theorem qbk : (Tryz.prog.info? 3).map (·.size) = some 1 := by kernel_rfl
theorem qj0 (K : Rk) (w : World) (k : Nat) (HC : Hid (Rc K w k)) (hk : k = K.n) : Calls Tryz.prog 152 #[.pointer (some ⟨K.bt, 0, none⟩), .pointer (some ⟨K.bl, 0, none⟩), .pointer (some ⟨K.be, 0, none⟩)] w fun e w' => e = .returned (.agg (tvq (K.g k))) ∧ Below w.heap.size w w' := by
 subst hk
 have hb := jlow w (.cells #[.int .u8 0, .string ⟨#[]⟩, .int .i64 0, .int .i64 0, .int .i64 0] 104)
 have c0 := (HC.out.told.later hb).cell 0 (.int .i64 (K.n : Int)) rfl
 have c1 := (HC.out.lst.later hb).cell 0 (.slice K.a K.n K.d) rfl
 have hE := HC.out.en.later hb
 have HB := qa0 hb
 clear HC hb
 generalize K.g K.n = t at *
 have e0 := hE.cell 0 (.int .u8 (t.k : Int)) rfl
 have e1 := hE.cell 1 (.string t.tx) rfl
 have e2 := hE.cell 2 (.int .i64 t.n) rfl
 have e3 := hE.cell 3 (.int .i64 t.ln) rfl
 have e4 := hE.cell 4 (.int .i64 t.cl) rfl
 clear hE
 unfold tvq
 obtain ⟨tk, tx, tn, tl, tc⟩ := t
 have HR0 := qa0 (Vn.new w 104 #[.int .u8 0, .string ⟨#[]⟩, .int .i64 0, .int .i64 0, .int .i64 0])
 generalize K.n = n at *
 generalize K.bt = bt at *
 generalize K.bl = bl at *
 generalize K.be = be at *
 generalize K.a = a at *
 generalize K.d = d at *
 go_enter Tryz.func152, Tryz.ntmps152
 go_wp2_with (refine qa1 rfl 104 _ _ rfl w.heap.size _ #[.int .u8 (tk : Int), .string tx, .int .i64 tn, .int .i64 tl, .int .i64 tc] rfl rfl HR0.out sizeTok rfl (all5 rfl rfl rfl rfl rfl) ?_; intro w8 HV8 hg8)
 have d0 := HV8.out.cell 0 (.int .u8 (tk : Int)) rfl
 have d1 := HV8.out.cell 1 (.string tx) rfl
 have d2 := HV8.out.cell 2 (.int .i64 tn) rfl
 have d3 := HV8.out.cell 3 (.int .i64 tl) rfl
 have d4 := HV8.out.cell 4 (.int .i64 tc) rfl
 refine bodyPost_ret (v := .agg #[.int .u8 (tk : Int), .string tx, .int .i64 tn, .int .i64 tl, .int .i64 tc]) (by simp [results, Tryz.results152, go_sem, d0, d1, d2, d3, d4]) rfl ?_
 exact ⟨rfl, HB.out.trans (jbelow hg8.out HB.out.size (fun g e => by cases e; omega))⟩
theorem qj1 (K : Rk) (w : World) (k : Nat) (HC : Hid (Rc K w k)) (hk : k < K.n) : Calls Tryz.prog 152 #[.pointer (some ⟨K.bt, 0, none⟩), .pointer (some ⟨K.bl, 0, none⟩), .pointer (some ⟨K.be, 0, none⟩)] w fun e w' => e = .returned (.agg (tvq (K.g k))) ∧ Vn w' K.bt 3 #[.int .i64 ((k + 1 : Nat) : Int)] ∧ w.grownBy w' (some K.bt) := by
 have hb := jlow w (.cells #[.int .u8 0, .string ⟨#[]⟩, .int .i64 0, .int .i64 0, .int .i64 0] 104)
 have HT := qa0 (HC.out.told.later hb)
 have c0 := HT.out.cell 0 (.int .i64 (k : Int)) rfl
 have c1 := (HC.out.lst.later hb).cell 0 (.slice K.a K.n K.d) rfl
 have HL := qa0 (HC.out.lst.later hb)
 have HB := qa0 hb
 have hf := HC.out.few
 have hlt := HC.out.told.lt
 have hne : K.bl ≠ K.bt := HC.out.lst.ne HC.out.told (by decide)
 obtain ⟨g, o, ha, h0, h1, h2, h3, h4⟩ := (HC.out.tok k hk).later hb
 have hgn := (HC.out.nb g o ha).2
 have HG : Hid (g < w.heap.size) := by
  obtain ⟨g', o', ha', h0', _⟩ := HC.out.tok k hk
  rw [ha] at ha'
  cases ha'
  exact qdz h0'
 clear HC hb
 rw [ha] at c1 HL
 generalize K.g k = t at *
 unfold tvq
 obtain ⟨tk, tx, tn, tl, tc⟩ := t
 have HR0 := qa0 (Vn.new w 104 #[.int .u8 0, .string ⟨#[]⟩, .int .i64 0, .int .i64 0, .int .i64 0])
 have HCells : Hid (∀ w' : World, w'.heap[g]? = (w.alloc (.cells #[.int .u8 0, .string ⟨#[]⟩, .int .i64 0, .int .i64 0, .int .i64 0] 104)).heap[g]? → w'.cell? ⟨g, o + k * 5, none⟩ = some (.int .u8 (tk : Int)) ∧ w'.cell? ⟨g, o + k * 5 + 1, none⟩ = some (.string tx) ∧ w'.cell? ⟨g, o + k * 5 + 2, none⟩ = some (.int .i64 tn) ∧ w'.cell? ⟨g, o + k * 5 + 3, none⟩ = some (.int .i64 tl) ∧ w'.cell? ⟨g, o + k * 5 + 4, none⟩ = some (.int .i64 tc)) := fun w' he => by
  have hc : ∀ q, w'.cell? ⟨g, q, none⟩ = (w.alloc (.cells #[.int .u8 0, .string ⟨#[]⟩, .int .i64 0, .int .i64 0, .int .i64 0] 104)).cell? ⟨g, q, none⟩ := fun q => by unfold World.cell?; rw [he]
  rw [hc, hc, hc, hc, hc]
  exact ⟨h0, h1, h2, h3, h4⟩
 clear h0 h1 h2 h3 h4 ha
 have q0 : ((k : Int) == (K.n : Int)) = false := by simp; omega
 generalize K.n = n at *
 generalize K.bt = bt at *
 generalize K.bl = bl at *
 generalize K.be = be at *
 generalize K.d = d at *
 have M1 : True := trivial
 go_enter Tryz.func152, Tryz.ntmps152
 go_wp2_with (first
  | (clear M1; refine wpList_store_one rfl 3 _ _ rfl bt 0 3 _ (.int .i64 ((k : Int) + 1)) rfl rfl qbk rfl rfl HT.out (by show 0 < 1; omega) ?_; intro w2 HT2 hg2; replace HT2 : Hid (Vn w2 bt 3 #[.int .i64 ((k : Int) + 1)]) := HT2; have HR2 := qa0 (HR0.out.keptG hg2.out (by simp; omega)); have k0 := HT2.out.cell 0 (.int .i64 ((k : Int) + 1)) rfl; have k1 := (HL.out.keptG hg2.out (by simp; omega)).cell 0 (.slice (some ⟨g, o, none⟩) n d) rfl; obtain ⟨h0, h1, h2, h3, h4⟩ := HCells.out w2 (hg2.out.block g (Nat.lt_of_lt_of_le HG.out HB.out.size) (by simp; omega)))
  | (refine qa1 rfl 104 _ _ rfl w.heap.size _ #[.int .u8 (tk : Int), .string tx, .int .i64 tn, .int .i64 tl, .int .i64 tc] rfl rfl HR2.out sizeTok rfl (all5 rfl rfl rfl rfl rfl) ?_; intro w8 HV8 hg8))
 have d0 := HV8.out.cell 0 (.int .u8 (tk : Int)) rfl
 have d1 := HV8.out.cell 1 (.string tx) rfl
 have d2 := HV8.out.cell 2 (.int .i64 tn) rfl
 have d3 := HV8.out.cell 3 (.int .i64 tl) rfl
 have d4 := HV8.out.cell 4 (.int .i64 tc) rfl
 refine bodyPost_ret (v := .agg #[.int .u8 (tk : Int), .string tx, .int .i64 tn, .int .i64 tl, .int .i64 tc]) (by simp [results, Tryz.results152, go_sem, d0, d1, d2, d3, d4]) rfl ?_
 refine ⟨rfl, HT2.out.keptG hg8.out (by simp; omega), ?_⟩
 have g1 := jgrown.mpr HB.out
 have s1 := HB.out.size
 refine ⟨?_, ?_, ?_, ?_, ?_⟩
 ·rw [hg8.out.os, hg2.out.os, HB.out.os]
 ·rw [hg8.out.tape, hg2.out.tape, HB.out.tape]
 ·rw [hg8.out.output, hg2.out.output, HB.out.output]
 ·exact Nat.le_trans s1 (Nat.le_trans hg2.out.size hg8.out.size)
 ·intro b hb hn
  rw [hg8.out.block b (by have := hg2.out.size; omega) (by simp; omega), hg2.out.block b (by omega) hn, HB.out.block b hb]
open Go.RowKit
structure Rr (K : Rk) (w : World) (j : Nat) : Prop where
 le : j ≤ K.n
 fn : Rc K w (min (j + 1) K.n)
 var : Vn w K.r 120 #[fnx K, .int .u8 ((K.g j).k : Int), .string (K.g j).tx, .int .i64 (K.g j).n, .int .i64 (K.g j).ln, .int .i64 (K.g j).cl]
structure Gk (K : Rk) (w w' : World) : Prop where
 os : w'.os = w.os
 tape : w'.tape = w.tape
 output : w'.output = w.output
 size : w.heap.size ≤ w'.heap.size
 block : ∀ b, b < w.heap.size → b ≠ K.r → b ≠ K.bt → w'.heap[b]? = w.heap[b]?
theorem Gk.refl (K : Rk) (w : World) : Gk K w w := ⟨rfl, rfl, rfl, Nat.le_refl _, fun _ _ _ _ => rfl⟩
theorem Gk.trans {K : Rk} {a b c : World} (h : Gk K a b) (k : Gk K b c) : Gk K a c :=
 ⟨k.os.trans h.os, k.tape.trans h.tape, k.output.trans h.output, Nat.le_trans h.size k.size, fun i hi h1 h2 => (k.block i (Nat.lt_of_lt_of_le hi h.size) h1 h2).trans (h.block i hi h1 h2)⟩
theorem Gk.of {K : Rk} {w w' : World} (h : Below w.heap.size w w') : Gk K w w' := ⟨h.os, h.tape, h.output, h.size, fun b hb _ _ => h.block b hb⟩
theorem Gk.by_ {K : Rk} {w w' : World} {row : Nat} (h : w.grownBy w' (some row)) (hr : row = K.r ∨ row = K.bt ∨ w.heap.size ≤ row) : Gk K w w' :=
 ⟨h.os, h.tape, h.output, h.size, fun b hb h1 h2 => h.block b hb (fun e => by cases e; omega)⟩
theorem Rc.step {K : Rk} {w0 w w' : World} {k0 k : Nat} (h0 : Rc K w0 k0) (h : Rc K w k) (hb : ∀ b, b < w0.heap.size → b ≠ K.r → w'.heap[b]? = w.heap[b]?) (h1 : K.bt ≠ K.r) (h2 : K.bl ≠ K.r) (h3 : K.be ≠ K.r) : Rc K w' k :=
 ⟨h.le, h.few, h.told.keptBy (hb _ h0.told.lt h1), h.lst.keptBy (hb _ h0.lst.lt h2), h.en.keptBy (hb _ h0.en.lt h3), fun i hi => by
  obtain ⟨g, o, e, c0, _⟩ := h0.tok i hi
  have hl := qdz c0
  exact (h.tok i hi).keptBy (P := fun b => b = g) (fun b _ hn => by subst hn; exact hb b hl (h.nb b o e).1) (fun b o' e' => by rw [e] at e'; cases e'; rfl), h.nb⟩
theorem Rc.later {K : Rk} {w w' : World} {k : Nat} (h : Rc K w k) (hb : Below w.heap.size w w') : Rc K w' k :=
 ⟨h.le, h.few, h.told.later hb, h.lst.later hb, h.en.later hb, fun i hi => (h.tok i hi).later hb, h.nb⟩
theorem Rr.later {K : Rk} {w w' : World} {j : Nat} (h : Rr K w j) (hb : Below w.heap.size w w') : Rr K w' j := ⟨h.le, h.fn.later hb, h.var.later hb⟩
theorem rnext (K : Rk) (w : World) (k : Nat) (HC : Hid (Rc K w k)) : Calls Tryz.prog 152 #[.pointer (some ⟨K.bt, 0, none⟩), .pointer (some ⟨K.bl, 0, none⟩), .pointer (some ⟨K.be, 0, none⟩)] w fun e w' => e = .returned (.agg (tvq (K.g k))) ∧ Rc K w' (min (k + 1) K.n) ∧ w.grownBy w' (some K.bt) := by
 have hle := HC.out.le
 rcases Nat.lt_or_ge k K.n with hk | hk
 ·refine (qj1 K w k HC hk).mono ?_
  rintro e w' ⟨rfl, hv, hg⟩
  have h := HC.out
  have n1 : K.bl ≠ K.bt := h.lst.ne h.told (by decide)
  have n2 : K.be ≠ K.bt := h.en.ne h.told (by decide)
  refine ⟨rfl, ⟨by omega, h.few, ?_, h.lst.keptG hg (by simp; omega), h.en.keptG hg (by simp; omega), fun i hi => (h.tok i hi).keptBy (P := fun b => b ≠ K.bt) (fun b hb hn => hg.block b hb (by simp; omega)) (fun b o e => (h.nb b o e).2), h.nb⟩, hg⟩
  rw [show min (k + 1) K.n = k + 1 by omega]
  exact hv
 ·have e : k = K.n := by omega
  refine (qj0 K w k HC e).mono ?_
  rintro e' w' ⟨rfl, hb⟩
  refine ⟨rfl, ?_, jgrown.mpr hb |>.os, (jgrown.mpr hb).tape, (jgrown.mpr hb).output, hb.size, fun b h _ => hb.block b h⟩
  rw [show min (k + 1) K.n = k by omega]
  exact HC.out.later hb
theorem qgi (w : World) (b o : Nat) (vs : List Value) : w.grownBy (w.setCells b o vs) (some b) := by
 have h := Go.below_setCells (Nat.zero_le b) vs o w (Below.refl 0 w)
 exact ⟨h.os, h.tape, h.output, h.size, fun k hk hn => World.heap_setCells_other w b o vs hk (fun e => hn (by rw [e]))⟩
theorem Vn.five {w : World} {b : Nat} {T : TypeId} {x a0 a1 a2 a3 a4 b0 b1 b2 b3 b4 : Value} (h : Vn w b T #[x, a0, a1, a2, a3, a4]) : Vn (w.setCells b 1 [b0, b1, b2, b3, b4]) b T #[x, b0, b1, b2, b3, b4] :=
 ((((h.set 1 b0).set 2 b1).set 3 b2).set 4 b3).set 5 b4
theorem qdg {ops : Array Oper} {rest : List Oper} {op : Oper} {a : Act} {w : World} {Q : Exit → Act → World → Prop} (hgd : op.guard = none) (p q : Operand) (ho : op.op = .store 104 p q)
  (b : Nat) (x a0 a1 a2 a3 a4 b0 b1 b2 b3 b4 : Value) (hp : a.eval p = .pointer (some ⟨b, 1, none⟩)) (hq : a.eval q = .agg #[b0, b1, b2, b3, b4]) (hV : Vn w b 120 #[x, a0, a1, a2, a3, a4]) (h1 : (#[b0, b1, b2, b3, b4] : Array Value).all (·.oneCell') = true)
  (h : ∀ w', Hid (Vn w' b 120 #[x, b0, b1, b2, b3, b4]) → Hid (w.grownBy w' (some b)) → wpList Tryz.prog ops Q rest (a.put op.dst undef) w') : wpList Tryz.prog ops Q (op :: rest) a w :=
 wpList_plain hgd fun _ hK => wp_store_mid 104 p q ho b 1 #[b0, b1, b2, b3, b4] hp hq (fun j hj => ⟨by have h6 : 1 + j < (#[x, a0, a1, a2, a3, a4] : Array Value).size := (by have : j < 5 := hj; show 1 + j < 6; omega); rw [hV.cell (1 + j) (#[x, a0, a1, a2, a3, a4][1 + j]'h6) (Array.getElem?_eq_getElem h6)]; rfl, hV.free _⟩) sizeTok h1 (hK _ _ (h _ hV.five (qgi _ _ _ _)))
theorem rtake (K : Rk) (w : World) (j : Nat) (HR : Hid (Rr K w j)) : Calls Tryz.prog 84 #[.pointer (some ⟨K.r, 0, none⟩)] w fun e w' => e = .returned (.agg (tvq (K.g j))) ∧ Rr K w' (min (j + 1) K.n) ∧ Gk K w w' := by
 have hb := jtwo (jlow w (.cells #[.int .u8 0, .string ⟨#[]⟩, .int .i64 0, .int .i64 0, .int .i64 0] 104)) (jlow _ (.cells #[.int .u8 ((K.g j).k : Int), .string (K.g j).tx, .int .i64 (K.g j).n, .int .i64 (K.g j).ln, .int .i64 (K.g j).cl] 104))
 have hrt : K.bt ≠ K.r := HR.out.fn.told.ne HR.out.var (by decide)
 have hrl : K.bl ≠ K.r := HR.out.fn.lst.ne HR.out.var (by decide)
 have hre : K.be ≠ K.r := HR.out.fn.en.ne HR.out.var (by decide)
 have hl1 := HR.out.var.lt
 have hl2 := HR.out.fn.told.lt
 have hle := HR.out.le
 have HN := qa0 (rnext K _ _ (qa0 (HR.out.fn.later hb)))
 have HV0 := qa0 (HR.out.var.later (jlow w (.cells #[.int .u8 0, .string ⟨#[]⟩, .int .i64 0, .int .i64 0, .int .i64 0] 104)))
 have HV1 := qa0 (HR.out.var.later hb)
 have HX0 := qa0 ((Vn.new w 104 #[.int .u8 0, .string ⟨#[]⟩, .int .i64 0, .int .i64 0, .int .i64 0]).later (jlow _ (.cells #[.int .u8 ((K.g j).k : Int), .string (K.g j).tx, .int .i64 (K.g j).n, .int .i64 (K.g j).ln, .int .i64 (K.g j).cl] 104)))
 have HX1 := qa0 (Vn.new (w.alloc (.cells #[.int .u8 0, .string ⟨#[]⟩, .int .i64 0, .int .i64 0, .int .i64 0] 104)) 104 #[.int .u8 ((K.g j).k : Int), .string (K.g j).tx, .int .i64 (K.g j).n, .int .i64 (K.g j).ln, .int .i64 (K.g j).cl])
 have hz : (w.alloc (.cells #[.int .u8 0, .string ⟨#[]⟩, .int .i64 0, .int .i64 0, .int .i64 0] 104)).heap.size = w.heap.size + 1 := Array.size_push _
 rw [hz] at HX1
 have HB := qa0 hb
 have HF0 := qa0 HR.out.fn
 clear hb HR
 obtain ⟨j2, HJ⟩ : ∃ j2, Hid (min (j + 1) K.n = j2) := ⟨_, rfl⟩
 rw [HJ.out] at HN ⊢
 unfold tvq
 generalize K.g j = t at *
 obtain ⟨tk, tx, tn, tl, tc⟩ := t
 obtain ⟨u, HU⟩ : ∃ u, Hid (K.g j2 = u) := ⟨_, rfl⟩
 unfold tvq at HN
 rw [HU.out] at HN
 unfold fnx at HV0 HV1
 have c1 := HV0.out.cell 1 (.int .u8 (tk : Int)) rfl
 have c2 := HV0.out.cell 2 (.string tx) rfl
 have c3 := HV0.out.cell 3 (.int .i64 tn) rfl
 have c4 := HV0.out.cell 4 (.int .i64 tl) rfl
 have c5 := HV0.out.cell 5 (.int .i64 tc) rfl
 have f0 := HV1.out.cell 0 (.func (.func 152) #[] #[.pointer (some ⟨K.bt, 0, none⟩), .pointer (some ⟨K.bl, 0, none⟩), .pointer (some ⟨K.be, 0, none⟩)]) rfl
 clear HV0 hz
 obtain ⟨r, Hr⟩ : ∃ r, Hid (K.r = r) := ⟨_, rfl⟩
 obtain ⟨bt, Hbt⟩ : ∃ bt, Hid (K.bt = bt) := ⟨_, rfl⟩
 obtain ⟨bl, Hbl⟩ : ∃ bl, Hid (K.bl = bl) := ⟨_, rfl⟩
 obtain ⟨be, Hbe⟩ : ∃ be, Hid (K.be = be) := ⟨_, rfl⟩
 rw [Hbt.out, Hbl.out, Hbe.out] at HN f0 HV1
 rw [Hr.out] at c1 c2 c3 c4 c5 f0 HV1 ⊢
 rw [Hr.out] at hl1
 go_enter Tryz.func84, Tryz.ntmps84
 go_wp2_with (first
  | (go_at_call 152; refine HN.out.mono ?_; rintro e w1 ⟨rfl, hc1, hg1⟩; have HC1 := qa0 hc1; have HG1 := qa0 hg1; have HW1 := qa0 (HV1.out.keptG hg1 (by simp; have := Hr.out; have := Hbt.out; omega)); clear hc1 hg1)
  | (refine qdg rfl _ _ rfl r _ _ _ _ _ _ (.int .u8 (u.k : Int)) (.string u.tx) (.int .i64 u.n) (.int .i64 u.ln) (.int .i64 u.cl) rfl rfl HW1.out (all5 rfl rfl rfl rfl rfl) ?_; intro w2 HW2 HG2; have HY := qa0 ((HX1.out.keptG HG1.out (by simp; have := Hbt.out; omega)).keptG HG2.out (by simp; omega)); have HZ := qa0 ((HX0.out.keptG HG1.out (by simp; have := Hbt.out; omega)).keptG HG2.out (by simp; omega)); have m0 := HY.out.cell 0 (.int .u8 (tk : Int)) rfl; have m1 := HY.out.cell 1 (.string tx) rfl; have m2 := HY.out.cell 2 (.int .i64 tn) rfl; have m3 := HY.out.cell 3 (.int .i64 tl) rfl; have m4 := HY.out.cell 4 (.int .i64 tc) rfl)
  | (refine qa1 rfl 104 _ _ rfl w.heap.size _ #[.int .u8 (tk : Int), .string tx, .int .i64 tn, .int .i64 tl, .int .i64 tc] rfl rfl HZ.out sizeTok rfl (all5 rfl rfl rfl rfl rfl) ?_; intro w8 HV8 hg8))
 have d0 := HV8.out.cell 0 (.int .u8 (tk : Int)) rfl
 have d1 := HV8.out.cell 1 (.string tx) rfl
 have d2 := HV8.out.cell 2 (.int .i64 tn) rfl
 have d3 := HV8.out.cell 3 (.int .i64 tl) rfl
 have d4 := HV8.out.cell 4 (.int .i64 tc) rfl
 refine bodyPost_ret (v := .agg #[.int .u8 (tk : Int), .string tx, .int .i64 tn, .int .i64 tl, .int .i64 tc]) (by simp [results, Tryz.results84, go_sem, d0, d1, d2, d3, d4]) rfl ?_
 have hs1 := HB.out.size
 have hs2 := HG1.out.size
 have hs3 := HG2.out.size
 have hs4 := hg8.out.size
 have hr := Hr.out
 have hbt := Hbt.out
 refine ⟨rfl, ⟨by have := HJ.out; omega, ?_, ?_⟩, ?_⟩
 ·exact HF0.out.step HC1.out (fun b hb hn => by rw [hg8.out.block b (by omega) (by simp; omega), HG2.out.block b (by omega) (by simp; omega)]) hrt hrl hre
 ·rw [HU.out, hr]
  unfold fnx
  rw [hbt, Hbl.out, Hbe.out]
  exact HW2.out.keptG hg8.out (by simp; omega)
 ·refine ⟨?_, ?_, ?_, by omega, fun b hb h1 h2 => ?_⟩
  ·rw [hg8.out.os, HG2.out.os, HG1.out.os, HB.out.os]
  ·rw [hg8.out.tape, HG2.out.tape, HG1.out.tape, HB.out.tape]
  ·rw [hg8.out.output, HG2.out.output, HG1.out.output, HB.out.output]
  ·rw [hg8.out.block b (by omega) (by simp; omega), HG2.out.block b (by omega) (by simp; omega), HG1.out.block b (by omega) (by simp; omega), HB.out.block b hb]
open Go.RowKit
def mis (t : TV) : Ending := .panicked [{ v := .iface 96 (.agg (tvq t)), recovered := false }]
theorem rended (K : Rk) (w : World) (j : Nat) (HR : Hid (Rr K w j)) : Calls Tryz.prog 58 #[.pointer (some ⟨K.r, 0, none⟩)] w fun e w' => e = .returned (.bool (decide ((K.g j).k = 0))) ∧ w = w' := by
 have c1 := HR.out.var.cell 1 (.int .u8 ((K.g j).k : Int)) rfl
 clear HR
 generalize K.g j = t at *
 generalize K.r = r at *
 obtain ⟨tk, tx, tn, tl, tc⟩ := t
 have h0 : ((tk : Int) == 0) = decide (tk = 0) := by by_cases h : tk = 0 <;> simp [h]
 go_enter Tryz.func58, Tryz.ntmps58
 go_wp2
 go_ret
 exact ⟨by rw [← h0]; rfl, rfl⟩
theorem rend (K : Rk) (w : World) (j : Nat) (HR : Hid (Rr K w j)) : Calls Tryz.prog 56 #[.pointer (some ⟨K.r, 0, none⟩)] w fun e w' => e = (if (K.g j).k = 0 then .returned (.tuple #[]) else mis (K.g j)) ∧ w = w' := by
 have hE := qa0 (rended K w j HR)
 have c1 := HR.out.var.cell 1 (.int .u8 ((K.g j).k : Int)) rfl
 have c2 := HR.out.var.cell 2 (.string (K.g j).tx) rfl
 have c3 := HR.out.var.cell 3 (.int .i64 (K.g j).n) rfl
 have c4 := HR.out.var.cell 4 (.int .i64 (K.g j).ln) rfl
 have c5 := HR.out.var.cell 5 (.int .i64 (K.g j).cl) rfl
 clear HR
 unfold mis tvq
 generalize K.g j = t at *
 generalize K.r = r at *
 obtain ⟨tk, tx, tn, tl, tc⟩ := t
 by_cases h : tk = 0
 ·rw [if_pos h]
  have hd : decide (tk = 0) = true := by simp [h]
  rw [hd] at hE
  go_enter Tryz.func56, Tryz.ntmps56
  go_wp2_with (go_at_call 58; refine hE.out.mono ?_; rintro e w' ⟨rfl, rfl⟩)
  go_end0
  exact ⟨rfl, rfl⟩
 ·rw [if_neg h]
  have hd : decide (tk = 0) = false := by simp [h]
  rw [hd] at hE
  go_enter Tryz.func56, Tryz.ntmps56
  go_wp2_with (go_at_call 58; refine hE.out.mono ?_; rintro e w' ⟨rfl, rfl⟩)
  exact ⟨rfl, rfl, rfl⟩
theorem rsign (K : Rk) (w : World) (j : Nat) (c : ByteArray) (HR : Hid (Rr K w j)) : Calls Tryz.prog 121 #[.pointer (some ⟨K.r, 0, none⟩), .string c] w fun e w' => (if (K.g j).tx = c then e = .returned (.tuple #[]) ∧ Rr K w' (min (j + 1) K.n) else e = mis (K.g j)) ∧ Gk K w w' := by
 have HT := qa0 (rtake K w j HR)
 have hl1 := HR.out.var.lt
 have hl2 := HR.out.fn.told.lt
 clear HR
 unfold mis
 unfold tvq at HT ⊢
 generalize K.g j = t at *
 generalize min (j + 1) K.n = j2 at *
 obtain ⟨tk, tx, tn, tl, tc⟩ := t
 by_cases h : tx = c
 ·simp only [if_pos h]
  subst h
  go_enter Tryz.func121, Tryz.ntmps121
  go_wp2_with (go_at_call 84; refine HT.out.mono ?_; rintro e w1 ⟨rfl, hr, hg⟩; have HR1 := qa0 hr; have HG1 := qa0 hg; clear hr hg; have hV := Vn.new w1 104 #[.int .u8 (tk : Int), .string tx, .int .i64 tn, .int .i64 tl, .int .i64 tc]; have m0 := hV.cell 0 (.int .u8 (tk : Int)) rfl; have m1 := hV.cell 1 (.string tx) rfl; have m2 := hV.cell 2 (.int .i64 tn) rfl; have m3 := hV.cell 3 (.int .i64 tl) rfl; have m4 := hV.cell 4 (.int .i64 tc) rfl; clear hV)
  go_end0
  exact ⟨⟨rfl, HR1.out.later (jlow _ _)⟩, HG1.out.trans (Gk.of (jlow _ _))⟩
 ·simp only [if_neg h]
  have hd := qhq h
  go_enter Tryz.func121, Tryz.ntmps121
  go_wp2_with (go_at_call 84; refine HT.out.mono ?_; rintro e w1 ⟨rfl, hr, hg⟩; have HR1 := qa0 hr; have HG1 := qa0 hg; clear hr hg; have hV := Vn.new w1 104 #[.int .u8 (tk : Int), .string tx, .int .i64 tn, .int .i64 tl, .int .i64 tc]; have m0 := hV.cell 0 (.int .u8 (tk : Int)) rfl; have m1 := hV.cell 1 (.string tx) rfl; have m2 := hV.cell 2 (.int .i64 tn) rfl; have m3 := hV.cell 3 (.int .i64 tl) rfl; have m4 := hV.cell 4 (.int .i64 tc) rfl; clear hV)
  exact ⟨rfl, rfl, HG1.out.trans (Gk.of (jlow _ _))⟩
theorem rmore (K : Rk) (w : World) (j : Nat) (c : ByteArray) (HR : Hid (Rr K w j)) : Calls Tryz.prog 134 #[.pointer (some ⟨K.r, 0, none⟩), .string c] w fun e w' => (if (K.g j).tx = c then e = .returned (.bool true) ∧ Rr K w' (min (j + 1) K.n) else e = .returned (.bool false) ∧ Rr K w' j) ∧ Gk K w w' := by
 have HT := qa0 (rtake K w j HR)
 have c2 := HR.out.var.cell 2 (.string (K.g j).tx) rfl
 by_cases h : (K.g j).tx = c
 ·simp only [if_pos h]
  clear HR
  unfold tvq at HT
  generalize K.g j = t at *
  generalize min (j + 1) K.n = j2 at *
  obtain ⟨tk, tx, tn, tl, tc⟩ := t
  simp only at h
  subst h
  go_enter Tryz.func134, Tryz.ntmps134
  go_wp2_with (go_at_call 84; refine HT.out.mono ?_; rintro e w1 ⟨rfl, hr, hg⟩; have HR1 := qa0 hr; have HG1 := qa0 hg; clear hr hg)
  go_ret
  exact ⟨⟨rfl, HR1.out⟩, HG1.out⟩
 ·simp only [if_neg h]
  have hd := qhq h
  generalize (K.g j).tx = tx at *
  go_enter Tryz.func134, Tryz.ntmps134
  go_wp2
  go_ret
  exact ⟨⟨rfl, HR.out⟩, Gk.refl _ _⟩
theorem rname (K : Rk) (w : World) (j : Nat) (HR : Hid (Rr K w j)) : Calls Tryz.prog 153 #[.pointer (some ⟨K.r, 0, none⟩)] w fun e w' => (if (K.g j).k = 1 then e = .returned (.string (K.g j).tx) ∧ Rr K w' (min (j + 1) K.n) else e = mis (K.g j)) ∧ Gk K w w' := by
 have HT := qa0 (rtake K w j HR)
 clear HR
 unfold mis
 unfold tvq at HT ⊢
 generalize K.g j = t at *
 generalize min (j + 1) K.n = j2 at *
 obtain ⟨tk, tx, tn, tl, tc⟩ := t
 by_cases h : tk = 1
 ·simp only [if_pos h]
  subst h
  go_enter Tryz.func153, Tryz.ntmps153
  go_wp2_with (go_at_call 84; refine HT.out.mono ?_; rintro e w1 ⟨rfl, hr, hg⟩; have HR1 := qa0 hr; have HG1 := qa0 hg; clear hr hg; have hV := Vn.new w1 104 #[.int .u8 1, .string tx, .int .i64 tn, .int .i64 tl, .int .i64 tc]; have m0 := hV.cell 0 (.int .u8 1) rfl; have m1 := hV.cell 1 (.string tx) rfl; have m2 := hV.cell 2 (.int .i64 tn) rfl; have m3 := hV.cell 3 (.int .i64 tl) rfl; have m4 := hV.cell 4 (.int .i64 tc) rfl; clear hV)
  go_ret
  exact ⟨⟨rfl, HR1.out.later (jlow _ _)⟩, HG1.out.trans (Gk.of (jlow _ _))⟩
 ·simp only [if_neg h]
  have hd : ((tk : Int) == 1) = false := by simp; omega
  go_enter Tryz.func153, Tryz.ntmps153
  go_wp2_with (go_at_call 84; refine HT.out.mono ?_; rintro e w1 ⟨rfl, hr, hg⟩; have HR1 := qa0 hr; have HG1 := qa0 hg; clear hr hg; have hV := Vn.new w1 104 #[.int .u8 (tk : Int), .string tx, .int .i64 tn, .int .i64 tl, .int .i64 tc]; have m0 := hV.cell 0 (.int .u8 (tk : Int)) rfl; have m1 := hV.cell 1 (.string tx) rfl; have m2 := hV.cell 2 (.int .i64 tn) rfl; have m3 := hV.cell 3 (.int .i64 tl) rfl; have m4 := hV.cell 4 (.int .i64 tc) rfl; clear hV)
  exact ⟨rfl, rfl, HG1.out.trans (Gk.of (jlow _ _))⟩
open Go.RowKit
theorem qb9 : (Tryz.prog.info? 37).map (·.size) = some 6 := by kernel_rfl
theorem qfc {x y z u v t : Value} (h0 : x.oneCell' = true) (h1 : y.oneCell' = true) (h2 : z.oneCell' = true) (h3 : u.oneCell' = true) (h4 : v.oneCell' = true) (h5 : t.oneCell' = true) : (#[x, y, z, u, v, t] : Array Value).all (·.oneCell') = true := by simp [h0, h1, h2, h3, h4, h5]
theorem qba {x : ByteArray} {l : List UInt8} (h : x ≠ ⟨⟨l⟩⟩) : (x.toList == l) = false := by
 have := qhq h
 rw [ByteArray.toList_eq (bs := ⟨⟨l⟩⟩)] at this
 exact this
theorem rksum (w : World) (t : TV) : Calls Tryz.prog 83 #[.agg (tvq t)] w fun e w' => e = .returned (.int .u8 (ksum t : Int)) ∧ Below w.heap.size w w' := by
 have hV := Vn.new w 104 #[.int .u8 (t.k : Int), .string t.tx, .int .i64 t.n, .int .i64 t.ln, .int .i64 t.cl]
 have m1 := hV.cell 1 (.string t.tx) rfl
 clear hV
 unfold tvq ksum
 obtain ⟨tk, tx, tn, tl, tc⟩ := t
 by_cases h0 : tx = ⟨#[43]⟩
 ·rw [if_pos h0]
  subst h0
  go_enter Tryz.func83, Tryz.ntmps83
  go_wp2
  go_ret
  exact ⟨rfl, jlow _ _⟩
 rw [if_neg h0]
 have q0 := qba h0
 by_cases h1 : tx = ⟨#[45]⟩
 ·rw [if_pos h1]
  subst h1
  go_enter Tryz.func83, Tryz.ntmps83
  go_wp2
  go_ret
  exact ⟨rfl, jlow _ _⟩
 rw [if_neg h1]
 have q1 := qba h1
 go_enter Tryz.func83, Tryz.ntmps83
 go_wp2
 go_ret
 exact ⟨rfl, jlow _ _⟩
theorem rkterm (w : World) (t : TV) : Calls Tryz.prog 130 #[.agg (tvq t)] w fun e w' => e = .returned (.int .u8 (kterm t : Int)) ∧ Below w.heap.size w w' := by
 have hV := Vn.new w 104 #[.int .u8 (t.k : Int), .string t.tx, .int .i64 t.n, .int .i64 t.ln, .int .i64 t.cl]
 have m1 := hV.cell 1 (.string t.tx) rfl
 clear hV
 unfold tvq kterm
 obtain ⟨tk, tx, tn, tl, tc⟩ := t
 by_cases h0 : tx = ⟨#[42]⟩
 ·rw [if_pos h0]
  subst h0
  go_enter Tryz.func130, Tryz.ntmps130
  go_wp2
  go_ret
  exact ⟨rfl, jlow _ _⟩
 rw [if_neg h0]
 have q0 := qba h0
 by_cases h1 : tx = ⟨#[47]⟩
 ·rw [if_pos h1]
  subst h1
  go_enter Tryz.func130, Tryz.ntmps130
  go_wp2
  go_ret
  exact ⟨rfl, jlow _ _⟩
 rw [if_neg h1]
 have q1 := qba h1
 by_cases h2 : tx = ⟨#[37]⟩
 ·rw [if_pos h2]
  subst h2
  go_enter Tryz.func130, Tryz.ntmps130
  go_wp2
  go_ret
  exact ⟨rfl, jlow _ _⟩
 rw [if_neg h2]
 have q2 := qba h2
 go_enter Tryz.func130, Tryz.ntmps130
 go_wp2
 go_ret
 exact ⟨rfl, jlow _ _⟩
theorem rjoined (w : World) (k : Nat) (t : TV) (a : Option Addr) (n c : Nat) : Calls Tryz.prog 85 #[.int .u8 (k : Int), .agg (tvq t), .slice a n c] w fun e w' => e = .returned (.agg #[.int .u8 (k : Int), .int .i64 0, .string ⟨#[]⟩, .slice a n c, .int .i64 t.ln, .int .i64 t.cl]) ∧ Below w.heap.size w w' := by
 have hb := jlow (w.alloc (.cells #[.int .u8 (t.k : Int), .string t.tx, .int .i64 t.n, .int .i64 t.ln, .int .i64 t.cl] 104)) (.cells #[.int .u8 0, .int .i64 0, .string ⟨#[]⟩, .slice none 0 0, .int .i64 0, .int .i64 0] 37)
 have hV := (Vn.new w 104 #[.int .u8 (t.k : Int), .string t.tx, .int .i64 t.n, .int .i64 t.ln, .int .i64 t.cl]).later hb
 have m3 := hV.cell 3 (.int .i64 t.ln) rfl
 have m4 := hV.cell 4 (.int .i64 t.cl) rfl
 have HR0 := qa0 (Vn.new (w.alloc (.cells #[.int .u8 (t.k : Int), .string t.tx, .int .i64 t.n, .int .i64 t.ln, .int .i64 t.cl] 104)) 37 #[.int .u8 0, .int .i64 0, .string ⟨#[]⟩, .slice none 0 0, .int .i64 0, .int .i64 0])
 have hz : (w.alloc (.cells #[.int .u8 (t.k : Int), .string t.tx, .int .i64 t.n, .int .i64 t.ln, .int .i64 t.cl] 104)).heap.size = w.heap.size + 1 := Array.size_push _
 rw [hz] at HR0
 have HB := qa0 (jtwo (jlow w (.cells #[.int .u8 (t.k : Int), .string t.tx, .int .i64 t.n, .int .i64 t.ln, .int .i64 t.cl] 104)) hb)
 clear hb hV hz
 unfold tvq
 obtain ⟨tk, tx, tn, tl, tc⟩ := t
 go_enter Tryz.func85, Tryz.ntmps85
 go_wp2_with (refine qa1 rfl 37 _ _ rfl (w.heap.size + 1) _ #[.int .u8 (k : Int), .int .i64 0, .string ⟨#[]⟩, .slice a n c, .int .i64 tl, .int .i64 tc] rfl rfl HR0.out qb9 rfl (qfc rfl rfl rfl rfl rfl rfl) ?_; intro w8 HV8 hg8)
 have d0 := HV8.out.cell 0 (.int .u8 (k : Int)) rfl
 have d1 := HV8.out.cell 1 (.int .i64 0) rfl
 have d2 := HV8.out.cell 2 (.string ⟨#[]⟩) rfl
 have d3 := HV8.out.cell 3 (.slice a n c) rfl
 have d4 := HV8.out.cell 4 (.int .i64 tl) rfl
 have d5 := HV8.out.cell 5 (.int .i64 tc) rfl
 refine bodyPost_ret (v := .agg #[.int .u8 (k : Int), .int .i64 0, .string ⟨#[]⟩, .slice a n c, .int .i64 tl, .int .i64 tc]) (by simp [results, Tryz.results85, go_sem, d0, d1, d2, d3, d4, d5]) rfl ?_
 exact ⟨rfl, HB.out.trans (jbelow hg8.out HB.out.size (fun g e => by cases e; omega))⟩
open Go.RowKit
structure Ag (s : Nat) (w v : World) : Prop where
 size : w.heap.size ≤ v.heap.size
 same : ∀ b, s ≤ b → b < w.heap.size → v.heap[b]? = w.heap[b]?
theorem Ag.refl (s : Nat) (w : World) : Ag s w w := ⟨Nat.le_refl _, fun _ _ _ => rfl⟩
theorem Ag.trans {s : Nat} {w v u : World} (h : Ag s w v) (g : Ag s v u) : Ag s w u := ⟨Nat.le_trans h.size g.size, fun b hb hl => by rw [g.same b hb (Nat.lt_of_lt_of_le hl h.size), h.same b hb hl]⟩
theorem Ag.of {s : Nat} {w v : World} (h : Below w.heap.size w v) : Ag s w v := ⟨h.size, fun b _ hb => h.block b hb⟩
theorem Ag.mono {s t : Nat} {w v : World} (h : Ag s w v) (hst : s ≤ t) : Ag t w v := ⟨h.size, fun b hb hl => h.same b (by omega) hl⟩
theorem Ag.sets {w : World} {g s : Nat} (hs : g < s) (o : Nat) (vs : List Value) : Ag s w (w.setCells g o vs) := ⟨(Go.below_setCells (Nat.zero_le _) vs o w (Below.refl 0 w)).size, fun b hb hl => World.heap_setCells_other w g o vs hl (by omega)⟩
def Fr (s : Nat) (w : World) (P : World → Prop) : Prop := ∀ v, Ag s w v → P v
theorem Fr.now {s : Nat} {w : World} {P : World → Prop} (h : Fr s w P) : P w := h w (Ag.refl _ _)
theorem Fr.step {s : Nat} {w v : World} {P : World → Prop} (h : Fr s w P) (g : Ag s w v) : Fr s v P := fun u hu => h u (g.trans hu)
theorem Fr.weak {s t : Nat} {w : World} {P : World → Prop} (h : Fr t w P) (hst : s ≤ t) : Fr s w P := fun v hv => h v (hv.mono hst)
theorem Vn.keptA {s : Nat} {w v : World} {b : Nat} {T : TypeId} {xs : Array Value} (h : Vn w b T xs) (g : Ag s w v) (hb : s ≤ b) : Vn v b T xs := by
 have hl := h.lt
 unfold Vn at *
 rw [g.same b hb hl]
 exact h
def Nb (s : Nat) (w : World) (a : Option Addr) (n : Nat) (T : TypeId) (c : Nat) : Prop := (n = 0 ∧ a = none) ∨ ∃ g cs, a = some ⟨g, 0, none⟩ ∧ s ≤ g ∧ Vn w g T cs ∧ cs.size = n * c
def spl (xs : Array Value) (o : Nat) : List Value → Array Value
 | [] => xs
 | v :: r => spl (xs.setIfInBounds o v) (o + 1) r
theorem Vn.sets {b : Nat} {T : TypeId} : ∀ (vs : List Value) (o : Nat) (w : World) (xs : Array Value), Vn w b T xs → Vn (w.setCells b o vs) b T (spl xs o vs) := by
 intro vs
 induction vs with
 | nil => intro o w xs h; exact h
 | cons v r ih => intro o w xs h; exact ih (o + 1) _ _ (h.set o v)
theorem qfu {op : Oper} {a : Act} {w : World} {K : Act → World → Prop} {Q : Exit → Act → World → Prop} (ty : TypeId) (x y : Operand) (ho : op.op = .store ty x y)
  (b o : Nat) (T : TypeId) (xs ys : Array Value) (hx : a.eval x = .pointer (some ⟨b, o, none⟩)) (hy : a.eval y = .agg ys) (hi : (Tryz.prog.info? ty).map (·.size) = some ys.size) (h1 : ys.all (·.oneCell') = true) (hV : Vn w b T xs) (hlt : o + ys.size ≤ xs.size)
  (h : ∀ w', Hid (Vn w' b T (spl xs o ys.toList)) → Hid (∀ s, b < s → Ag s w w') → Hid (∀ B, B ≤ b → Below B w w') → K (a.put op.dst undef) w') : op.wp Tryz.prog a w K Q :=
 wp_store_mid ty x y ho b o ys hx hy (fun j hj => ⟨by rw [hV.cell (o + j) xs[o + j] (by rw [Array.getElem?_eq_getElem (by omega)])]; rfl, hV.free _⟩) hi h1 (h _ (Vn.sets _ _ _ _ hV) (fun s hs => Ag.sets hs _ _) (fun B hB => Go.below_setCells hB _ _ _ (Below.refl _ _)))
theorem qdy {ops : Array Oper} {rest : List Oper} {op : Oper} {a : Act} {w : World} {Q : Exit → Act → World → Prop} (hgd : op.guard = none) (ty : TypeId) (x y : Operand) (ho : op.op = .store ty x y)
  (b o : Nat) (T : TypeId) (xs ys : Array Value) (hx : a.eval x = .pointer (some ⟨b, o, none⟩)) (hy : a.eval y = .agg ys) (hi : (Tryz.prog.info? ty).map (·.size) = some ys.size) (h1 : ys.all (·.oneCell') = true) (hV : Vn w b T xs) (hlt : o + ys.size ≤ xs.size)
  (h : ∀ w', Hid (Vn w' b T (spl xs o ys.toList)) → Hid (∀ s, b < s → Ag s w w') → Hid (∀ B, B ≤ b → Below B w w') → wpList Tryz.prog ops Q rest (a.put op.dst undef) w') : wpList Tryz.prog ops Q (op :: rest) a w :=
 wpList_plain hgd fun _ hK => qfu ty x y ho b o T xs ys hx hy hi h1 hV hlt (fun w' g1 g2 g3 => hK _ _ (h w' g1 g2 g3))
def SmX : Nat → Xt → Prop
 | 0, _ => False
 | d + 1, T => (T []).len ≤ 64 ∧ ∀ i, i < (T []).len → SmX d (kid T i)
theorem MX.sm : ∀ {d : Nat} {T : Xt}, MX d T → SmX d T := by
 intro d
 induction d with
 | zero => intro T h; exact h.no.elim
 | succ d ih => intro T h; exact ⟨Nat.le_trans h.len (by omega), fun i hi => ih (h.kid hi)⟩
theorem ZX.sm {T : Xt} (h : ZX T) : SmX 16 T := ⟨by have := h.2.2.2; omega, fun i hi => by have := h.2.2.2; omega⟩
theorem SmX.up : ∀ {d : Nat} {T : Xt}, SmX d T → SmX (d + 1) T := by
 intro d
 induction d with
 | zero => intro T h; exact h.elim
 | succ d ih => intro T h; exact ⟨h.1, fun i hi => ih (h.2 i hi)⟩
def XN (s : Nat) (w : World) (a : Option Addr) (n : Nat) (F : Nat → Xt) : Prop := (∀ d, XL d w a n F) ∧ Nb s w a n 37 6
theorem qhd {s b : Nat} {w v : World} (h : w.grownBy v (some b)) (hb : b < s) : Ag s w v := ⟨h.size, fun c hc hl => h.block c hl (fun e => by cases e; omega)⟩
theorem Nb.weak {s t : Nat} {w : World} {a : Option Addr} {n c : Nat} {T : TypeId} (h : Nb t w a n T c) (hst : s ≤ t) : Nb s w a n T c := by
 rcases h with h | ⟨g, cs, h1, h2, h3, h4⟩
 ·exact .inl h
 ·exact .inr ⟨g, cs, h1, by omega, h3, h4⟩
theorem XV.cells2 {w : World} {cs : Array Value} {T : Xt} (h : XV w (.agg cs) T) : XC w cs.toList T := by
 obtain ⟨⟨a, cap, e, hl⟩, hok⟩ := h
 cases e
 exact ⟨a, cap, rfl, hok, hl⟩
theorem xn_of {s : Nat} {w : World} {g n : Nat} {cs : Array Value} {F : Nat → Xt} (hV : Vn w g 37 cs) (hs : s ≤ g) (hc : cs.size = n * 6) (h : ∀ j, j < n → ∃ ys : List Value, ys.length = 6 ∧ (∀ q x, ys[q]? = some x → cs[j * 6 + q]? = some x) ∧ XV w (.agg ys.toArray) (F j)) : XN s w (some ⟨g, 0, none⟩) n F := by
 refine ⟨fun d i hi => ⟨g, 0, rfl, ?_⟩, .inr ⟨g, cs, rfl, hs, hV, hc⟩⟩
 obtain ⟨ys, hl, hq, hx⟩ := h i hi
 have hx2 := hx.cells2
 refine XC.at_ (cs := ys) (by simpa using hx2) (fun j hj => ?_) d
 have hy : ys[j]? = some ys[j] := List.getElem?_eq_getElem (by omega)
 rw [hy, Nat.zero_add]
 exact hV.cell _ _ (hq j _ hy)
open Go.RowKit
def XF (s : Nat) (w : World) (v : Value) (T : Xt) : Prop := ∃ a, v = .agg #[.int .u8 ((T []).k : Int), .int .i64 (T []).n, .string (T []).nm, .slice a (T []).len (T []).len, .int .i64 (T []).ln, .int .i64 (T []).cl] ∧ LxOk (T []) ∧ Fr s w (fun u => XN s u a (T []).len (kid T))
theorem XN.weak11 {s t : Nat} {w : World} {a : Option Addr} {n : Nat} {F : Nat → Xt} (h : XN t w a n F) (hst : s ≤ t) : XN s w a n F := ⟨h.1, h.2.weak hst⟩
theorem XF.weak {s t : Nat} {w : World} {v : Value} {T : Xt} (h : XF t w v T) (hst : s ≤ t) : XF s w v T := by
 obtain ⟨a, e, ok, hf⟩ := h
 exact ⟨a, e, ok, fun u hu => (hf u (hu.mono hst)).weak11 hst⟩
theorem XF.step {s : Nat} {w w' : World} {v : Value} {T : Xt} (h : XF s w v T) (g : Ag s w w') : XF s w' v T := by
 obtain ⟨a, e, ok, hf⟩ := h
 exact ⟨a, e, ok, hf.step g⟩
theorem XF.xv {s : Nat} {w : World} {v : Value} {T : Xt} (h : XF s w v T) : XV w v T := by
 obtain ⟨a, e, ok, hf⟩ := h
 exact ⟨⟨a, _, e, hf.now.1⟩, ok⟩
theorem Gk.ag {K : Rk} {w w' : World} {s : Nat} (h : Gk K w w') (h1 : K.r < s) (h2 : K.bt < s) : Ag s w w' := ⟨h.size, fun b hb hl => h.block b hl (by omega) (by omega)⟩
theorem XF.leaf (s : Nat) (w : World) (k : Nat) (n ln cl : Int) (nm : ByteArray) (ok : LxOk ⟨k, n, nm, 0, ln, cl⟩) (F : Nat → Xt) : XF s w (.agg #[.int .u8 (k : Int), .int .i64 n, .string nm, .slice none 0 0, .int .i64 ln, .int .i64 cl]) (mkX ⟨k, n, nm, 0, ln, cl⟩ F) :=
 ⟨none, rfl, ok, fun _ _ => ⟨fun _ i hi => absurd hi (Nat.not_lt_zero i), .inl ⟨rfl, rfl⟩⟩⟩
theorem qjd : ((Tryz.prog.info? 37).bind (·.zero)).isSome = true := by kernel_rfl
theorem fill_x1 (zs : Array Value) (hz : zs.size = 6) (cs : Array Value) (hc : cs.size = 6) : Instr.fill (fun i => some (i * 6, 6)) zs [(0, .agg cs)] = some cs := by
 have h := Great.fill_whole (s := 6) (by omega) [.agg cs] zs (fun v hv => by rw [List.mem_singleton.1 hv]; exact hc) (by rw [hz]; rfl)
 have e : (([Value.agg cs].flatMap fun v => v.cells.toList)).toArray = cs := by simp [Value.cells]
 rw [e] at h
 exact h
theorem fill_x2 (zs : Array Value) (hz : zs.size = 12) (cs ds : Array Value) (hc : cs.size = 6) (hd : ds.size = 6) : Instr.fill (fun i => some (i * 6, 6)) zs [(0, .agg cs), (1, .agg ds)] = some (cs ++ ds) := by
 have h := Great.fill_whole (s := 6) (by omega) [.agg cs, .agg ds] zs (fun v hv => by
  rcases List.mem_cons.1 hv with h | h
  ·rw [h]; exact hc
  ·rw [List.mem_singleton.1 h]; exact hd) (by rw [hz]; rfl)
 have e : (([Value.agg cs, Value.agg ds].flatMap fun v => v.cells.toList)).toArray = cs ++ ds := by simp [Value.cells]
 rw [e] at h
 exact h
theorem wp_bx1 {o : Oper} {a : Act} {w : World} {K : Act → World → Prop} {Q : Exit → Act → World → Prop} (x : Operand) (ho : o.op = .buildSlice 35 1 #[(0, x)]) (cs : Array Value) (hx : a.eval x = .agg cs) (hc : cs.size = 6)
  (h : K (a.put o.dst (.slice (some ⟨w.heap.size, 0, none⟩) 1 1)) (w.alloc (.cells cs 37))) : o.wp Tryz.prog a w K Q := by
 cases hie : Tryz.prog.info? 37 with
 | none => have h := qb9; rw [hie] at h; cases h
 | some ie =>
  have hsz : ie.size = 6 := by have h := qb9; rw [hie] at h; simpa using h
  have hz := qjd
  rw [hie] at hz
  obtain ⟨z, hzz⟩ := Option.isSome_iff_exists.1 hz
  refine wp_buildSlice 35 37 1 _ ho _ ie z Tryz.underlying35 hie hzz (by rw [hsz]; omega) (by rw [hsz]; omega) ?_ h
  rw [hsz]
  have e : ((#[(0, x)] : Array (Nat × Operand)).map fun (i, x) => (i, a.eval x)).toList = [(0, .agg cs)] := by simp [hx]
  rw [e]
  exact fill_x1 _ (by simp) _ hc
theorem wp_bx2 {o : Oper} {a : Act} {w : World} {K : Act → World → Prop} {Q : Exit → Act → World → Prop} (x y : Operand) (ho : o.op = .buildSlice 35 2 #[(0, x), (1, y)]) (cs ds : Array Value) (hx : a.eval x = .agg cs) (hy : a.eval y = .agg ds) (hc : cs.size = 6) (hd : ds.size = 6)
  (h : K (a.put o.dst (.slice (some ⟨w.heap.size, 0, none⟩) 2 2)) (w.alloc (.cells (cs ++ ds) 37))) : o.wp Tryz.prog a w K Q := by
 cases hie : Tryz.prog.info? 37 with
 | none => have h := qb9; rw [hie] at h; cases h
 | some ie =>
  have hsz : ie.size = 6 := by have h := qb9; rw [hie] at h; simpa using h
  have hz := qjd
  rw [hie] at hz
  obtain ⟨z, hzz⟩ := Option.isSome_iff_exists.1 hz
  refine wp_buildSlice 35 37 2 _ ho _ ie z Tryz.underlying35 hie hzz (by rw [hsz]; omega) (by rw [hsz]; omega) ?_ h
  rw [hsz]
  have e : ((#[(0, x), (1, y)] : Array (Nat × Operand)).map fun (i, x) => (i, a.eval x)).toList = [(0, .agg cs), (1, .agg ds)] := by simp [hx, hy]
  rw [e]
  exact fill_x2 _ (by simp) _ _ hc hd
theorem xn_one {s : Nat} {w : World} {v : Value} {T : Xt} {cs : Array Value} (h : XF s w v T) (e : v = .agg cs) (hs : s ≤ w.heap.size) (F : Nat → Xt) (hF : F 0 = T) : Fr s (w.alloc (.cells cs 37)) (fun u => XN s u (some ⟨w.heap.size, 0, none⟩) 1 F) := fun u hu => by
 have hx := ((h.step (Ag.of (jlow w (.cells cs 37)))).step hu).xv
 have hc : cs.size = 6 := by
  obtain ⟨a, e1, _⟩ := h
  rw [e] at e1
  cases e1
  rfl
 rw [e] at hx
 refine xn_of ((Vn.new w _ cs).keptA hu hs) hs (by rw [hc]) (fun j hj => ?_)
 obtain rfl : j = 0 := by omega
 rw [hF]
 exact ⟨cs.toList, by simpa using hc, fun q x hq => by simpa using hq, by simpa using hx⟩
def lst (K : Rk) (j : Nat) : List TV := (List.range' j (K.n - j)).map K.g
theorem qbl (K : Rk) {j : Nat} (h : K.n ≤ j) : lst K j = [] := by
 unfold lst
 rw [show K.n - j = 0 by omega]
 rfl
theorem qaa (K : Rk) {j : Nat} (h : j < K.n) : lst K j = K.g j :: lst K (j + 1) := by
 unfold lst
 rw [show K.n - j = (K.n - (j + 1)) + 1 by omega]
 rfl
theorem qan (K : Rk) (j : Nat) : (lst K j).length = K.n - j := by simp [lst]
structure RkOk (K : Rk) : Prop where
 ek : (K.g K.n).k = 0
 et : (K.g K.n).tx = ⟨#[]⟩
 ok : ∀ i, i ≤ K.n → TvOk (K.g i)
 some_ : ∀ i, i < K.n → (K.g i).k ≠ 0
def RX (K : Rk) (w : World) (q : Rd Xt) (e : Ending) (w' : World) : Prop :=
 Gk K w w' ∧ match q with
 | .error s => e = mis (K.g (K.n - s.length))
 | .ok (y, s) => ∃ v, e = .returned v ∧ XF w.heap.size w' v y ∧ Rr K w' (K.n - s.length)
theorem qaw (K : Rk) {s : List TV} : ∀ d j, K.n - j = d → s <:+ lst K j → s = lst K (K.n - s.length) := by
 intro d
 induction d with
 | zero =>
  intro j hd h
  rw [qbl K (by omega)] at h
  rw [List.suffix_nil.1 h, qbl K (by simp)]
 | succ d ih =>
  intro j hd h
  rw [qaa K (by omega)] at h
  rcases List.suffix_cons_iff.1 h with h | h
  ·have hl : s.length = K.n - j := by rw [h, ← qaa K (by omega), qan]
   rw [hl, show K.n - (K.n - j) = j by omega, qaa K (by omega)]
   exact h
  ·exact ih (j + 1) (by omega) h
end Go.Proofs.YtnjcpmkfghcogaaGreatDoor
