/-
  Stage 12: Eval, of the program.
  Stage 12: environments that came in; what quotients and rests are.
  Stage 13: symbols in memory; Look, of the program and of the reference.
-/
import Derived.Test.YtemhodenkgngmaaDoorQttes00
import Derived.Test.YtemhodenkgngmaaDoorQttes21
import Derived.Test.YtemhodenkgngmaaDoorQttes22
set_option maxRecDepth 100000
set_option maxHeartbeats 16000000
namespace Go.Proofs.YtemhodenkgngmaaDoor
open Go.RowKit Go.Maps
/-- What Eval answers. -/
def evl (F : Nat → Cn) (n : Nat) (T : Xt) : Vt := if mayE F n = true then (if mayX T = true then xval (elk F n) 16 T else ⟨0, 2, 0, 0⟩) else ⟨0, 2, 0, 0⟩
def vtV (V : Vt) : Value := .tuple #[.int .i64 V.v, .agg #[.int .i64 (V.c : Int), .int .i64 V.ln, .int .i64 V.cl]]
theorem eval_any (w : World) (T : Xt) (v : Value) (ea : Option Addr) (en ec : Nat) (F : Nat → Cn) (hX : XV w v T) (hE : EL w ea en F) (hn : en ≤ 140737488351232) (hw : Wt9 w) :
  Calls Tryd.prog 33 #[v, .slice ea en ec] w fun e w' => e = .returned (vtV (evl F en T)) ∧ Below w.heap.size w w' := by
 unfold vtV evl
 have HMx : Hid (∀ w' : World, Below w.heap.size w w' → Calls Tryd.prog 56 #[v] w' fun e w'' => e = .returned (.bool (mayX T)) ∧ Below w'.heap.size w' w'') := fun w' hb => tmayx w' T v (hX.later hb) (hw.later hb)
 have HBy : Hid (∀ w' : World, Below w.heap.size w w' → Calls Tryd.prog 55 #[.slice ea en ec] w' fun e w'' => BnA w'' F en e ∧ Below w'.heap.size w' w'') := fun w' hb => qf7 w' ea en ec F (hE.later hb) hn (hw.later hb)
 have HWo : Hid (∀ (w' : World) (b : Nat), mayX T = true → Below w.heap.size w w' → Mp w' b en (elk F en) → Calls Tryd.prog 57 #[v, .map (some b)] w' fun e w'' => e = .returned (.tuple #[.int .i64 (xval (elk F en) 16 T).v, .agg #[.int .i64 ((xval (elk F en) 16 T).c : Int), .int .i64 (xval (elk F en) 16 T).ln, .int .i64 (xval (elk F en) 16 T).cl]]) ∧ Below w'.heap.size w' w'') := fun w' b hm hb hp => qg3 16 w' T v b en _ (hX.later hb) (qfv hm) hp
 obtain ⟨⟨a, cap, rfl, _⟩, _⟩ := hX
 clear hE hw
 generalize xval (elk F en) 16 T = V at *
 generalize mayX T = mx at *
 generalize T [] = l at *
 obtain ⟨k, n, nm, len, ln, cl⟩ := l
 dsimp only at HMx HWo ⊢
 have HX := qa0 (Vn.new w 53 #[.int .u8 (k : Int), .int .i64 n, .string nm, .slice a len cap, .int .i64 ln, .int .i64 cl])
 have HX2 := qa0 (HX.out.later (jlow _ (.cells #[.int .i64 0, .int .i64 0, .int .i64 0] 26)))
 have HVt := qa0 (Vn.new (w.alloc (.cells #[.int .u8 (k : Int), .int .i64 n, .string nm, .slice a len cap, .int .i64 ln, .int .i64 cl] 53)) 26 #[.int .i64 0, .int .i64 0, .int .i64 0])
 have HB := qa0 (jtwo (jlow w (.cells #[.int .u8 (k : Int), .int .i64 n, .string nm, .slice a len cap, .int .i64 ln, .int .i64 cl] 53)) (jlow _ (.cells #[.int .i64 0, .int .i64 0, .int .i64 0] 26)))
 rw [qaa] at HVt
 have c0 := HX2.out.cell 0 _ rfl
 have c1 := HX2.out.cell 1 _ rfl
 have c2 := HX2.out.cell 2 _ rfl
 have c3 := HX2.out.cell 3 _ rfl
 have c4 := HX2.out.cell 4 _ rfl
 have c5 := HX2.out.cell 5 _ rfl
 clear HX
 cases hme : mayE F en with
 | false =>
  rw [if_neg (by decide)]
  have HBy : Hid (∀ w' : World, Below w.heap.size w w' → Calls Tryd.prog 55 #[.slice ea en ec] w' fun e w'' => e = .returned (.tuple #[.map none, .bool false]) ∧ Below w'.heap.size w' w'') := fun w' hb => (HBy.out w' hb).mono (fun e w'' h => by
   rcases h.1 with ⟨g, _⟩ | ⟨_, g⟩
   ·rw [hme] at g
    cases g
   ·exact ⟨g, h.2⟩)
  clear HMx HWo hme
  go_enter Tryd.func33, Tryd.ntmps33
  go_wp2_with (first
   | (go_at_call 55; refine (HBy.out _ HB.out).mono ?_; rintro e w1 ⟨rfl, hb1⟩; have HB1 := qa0 (jtwo HB.out hb1); have HV1 := qa0 (HVt.out.later hb1); have HX1 := qa0 (HX2.out.later hb1); have y0 := HX1.out.cell 0 _ rfl; have y1 := HX1.out.cell 1 _ rfl; have y2 := HX1.out.cell 2 _ rfl; have y3 := HX1.out.cell 3 _ rfl; have y4 := HX1.out.cell 4 _ rfl; have y5 := HX1.out.cell 5 _ rfl; clear hb1)
   | (refine qa1 rfl 26 _ _ rfl (w.heap.size + 1) _ #[.int .i64 2, .int .i64 0, .int .i64 0] rfl rfl HV1.out sizeFau rfl (all3 rfl rfl rfl) ?_; intro w8 HV8 hg8))
  have d0 := HV8.out.cell 0 _ rfl
  have d1 := HV8.out.cell 1 _ rfl
  have d2 := HV8.out.cell 2 _ rfl
  refine bodyPost_ret (v := .tuple #[.int .i64 0, .agg #[.int .i64 2, .int .i64 0, .int .i64 0]]) (by simp [results, Tryd.results33, go_sem, d0, d1, d2]) rfl ?_
  exact ⟨rfl, HB1.out.trans (jbelow hg8.out HB1.out.size (fun g e => by cases e; omega))⟩
 | true =>
  rw [if_pos rfl]
  have HBy : Hid (∀ w' : World, Below w.heap.size w w' → Calls Tryd.prog 55 #[.slice ea en ec] w' fun e w'' => (∃ b, e = .returned (.tuple #[.map (some b), .bool true]) ∧ Mp w'' b en (elk F en)) ∧ Below w'.heap.size w' w'') := fun w' hb => (HBy.out w' hb).mono (fun e w'' h => by
   rcases h.1 with ⟨_, g⟩ | ⟨g, _⟩
   ·exact ⟨g, h.2⟩
   ·rw [hme] at g
    cases g)
  clear hme
  cases mx with
  | false =>
   rw [if_neg (by decide)]
   clear HWo
   go_enter Tryd.func33, Tryd.ntmps33
   go_wp2_with (first
    | (go_at_call 55; refine (HBy.out _ HB.out).mono ?_; rintro e w1 ⟨⟨bm, rfl, hp⟩, hb1⟩; have HP1 := qa0 hp; clear hp; have HB1 := qa0 (jtwo HB.out hb1); have HV1 := qa0 (HVt.out.later hb1); have HX1 := qa0 (HX2.out.later hb1); have y0 := HX1.out.cell 0 _ rfl; have y1 := HX1.out.cell 1 _ rfl; have y2 := HX1.out.cell 2 _ rfl; have y3 := HX1.out.cell 3 _ rfl; have y4 := HX1.out.cell 4 _ rfl; have y5 := HX1.out.cell 5 _ rfl; clear hb1)
    | (go_at_call 56; refine (HMx.out _ HB1.out).mono ?_; rintro e w2 ⟨rfl, hb2⟩; have HB2 := qa0 (jtwo HB1.out hb2); have HV2 := qa0 (HV1.out.later hb2); have HX2b := qa0 (HX1.out.later hb2); have z0 := HX2b.out.cell 0 _ rfl; have z1 := HX2b.out.cell 1 _ rfl; have z2 := HX2b.out.cell 2 _ rfl; have z3 := HX2b.out.cell 3 _ rfl; have z4 := HX2b.out.cell 4 _ rfl; have z5 := HX2b.out.cell 5 _ rfl; clear hb2)
    | (refine qa1 rfl 26 _ _ rfl (w.heap.size + 1) _ #[.int .i64 2, .int .i64 0, .int .i64 0] rfl rfl HV2.out sizeFau rfl (all3 rfl rfl rfl) ?_; intro w8 HV8 hg8))
   have d0 := HV8.out.cell 0 _ rfl
   have d1 := HV8.out.cell 1 _ rfl
   have d2 := HV8.out.cell 2 _ rfl
   refine bodyPost_ret (v := .tuple #[.int .i64 0, .agg #[.int .i64 2, .int .i64 0, .int .i64 0]]) (by simp [results, Tryd.results33, go_sem, d0, d1, d2]) rfl ?_
   exact ⟨rfl, HB2.out.trans (jbelow hg8.out HB2.out.size (fun g e => by cases e; omega))⟩
  | true =>
   rw [if_pos rfl]
   have HWp : Hid (∀ (w' : World) (b : Nat), Below w.heap.size w w' → Mp w' b en (elk F en) → Calls Tryd.prog 57 #[.agg #[.int .u8 (k : Int), .int .i64 n, .string nm, .slice a len cap, .int .i64 ln, .int .i64 cl], .map (some b)] w' fun e w'' => e = .returned (.tuple #[.int .i64 V.v, .agg #[.int .i64 (V.c : Int), .int .i64 V.ln, .int .i64 V.cl]]) ∧ Below w'.heap.size w' w'') := fun w' b hb hp => HWo.out w' b rfl hb hp
   clear HWo
   obtain ⟨vv, vc, vl, vk⟩ := V
   dsimp only at HWp ⊢
   go_enter Tryd.func33, Tryd.ntmps33
   go_wp2_with (first
    | (go_at_call 55; refine (HBy.out _ HB.out).mono ?_; rintro e w1 ⟨⟨bm, rfl, hp⟩, hb1⟩; have HP1 := qa0 hp; clear hp; have HB1 := qa0 (jtwo HB.out hb1); have HV1 := qa0 (HVt.out.later hb1); have HX1 := qa0 (HX2.out.later hb1); have y0 := HX1.out.cell 0 _ rfl; have y1 := HX1.out.cell 1 _ rfl; have y2 := HX1.out.cell 2 _ rfl; have y3 := HX1.out.cell 3 _ rfl; have y4 := HX1.out.cell 4 _ rfl; have y5 := HX1.out.cell 5 _ rfl; clear hb1)
    | (go_at_call 56; refine (HMx.out _ HB1.out).mono ?_; rintro e w2 ⟨rfl, hb2⟩; have HB2 := qa0 (jtwo HB1.out hb2); have HV2 := qa0 (HV1.out.later hb2); have HX2b := qa0 (HX1.out.later hb2); have z0 := HX2b.out.cell 0 _ rfl; have z1 := HX2b.out.cell 1 _ rfl; have z2 := HX2b.out.cell 2 _ rfl; have z3 := HX2b.out.cell 3 _ rfl; have z4 := HX2b.out.cell 4 _ rfl; have z5 := HX2b.out.cell 5 _ rfl; have HP2 := qa0 (HP1.out.later hb2); clear hb2)
    | (go_at_call 57; refine (HWp.out _ _ HB2.out HP2.out).mono ?_; rintro e w3 ⟨rfl, hb3⟩; have HB3 := qa0 (jtwo HB2.out hb3); have HV3 := qa0 (HV2.out.later hb3); clear hb3)
    | (refine qa1 rfl 26 _ _ rfl (w.heap.size + 1) _ #[.int .i64 (vc : Int), .int .i64 vl, .int .i64 vk] rfl rfl HV3.out sizeFau rfl (all3 rfl rfl rfl) ?_; intro w8 HV8 hg8))
   have d0 := HV8.out.cell 0 _ rfl
   have d1 := HV8.out.cell 1 _ rfl
   have d2 := HV8.out.cell 2 _ rfl
   refine bodyPost_ret (v := .tuple #[.int .i64 vv, .agg #[.int .i64 (vc : Int), .int .i64 vl, .int .i64 vk]]) (by simp [results, Tryd.results33, go_sem, d0, d1, d2]) rfl ?_
   exact ⟨rfl, HB3.out.trans (jbelow hg8.out HB3.out.size (fun g e => by cases e; omega))⟩
open Go.RowKit Go.ChangeShapes Go.WideShapes
/-- A symbol. -/
structure Sy where
 nm : ByteArray
 k : Nat
 it : Int
 n : Int
structure SyOk (s : Sy) : Prop where
 nm47 : s.nm.size ≤ 140737488351232
 k8 : s.k < 256
 i1 : -9223372036854775808 ≤ s.it
 i2 : s.it ≤ 9223372036854775807
 n1 : -9223372036854775808 ≤ s.n
 n2 : s.n ≤ 9223372036854775807
/-- A symbol's cells. -/
def syC (s : Sy) : Array Value := #[.string s.nm, .int .u8 (s.k : Int), .int .i64 s.it, .int .i64 s.n]
/-- Symbols lie at a slice's address. -/
def SyL (w : World) (a : Option Addr) (n : Nat) (F : Nat → Sy) : Prop := ∀ i, i < n → SyOk (F i) ∧ ∃ b o, a = some ⟨b, o, none⟩ ∧ w.cell? ⟨b, o + i * 4, none⟩ = some (.string (F i).nm) ∧ w.cell? ⟨b, o + i * 4 + 1, none⟩ = some (.int .u8 ((F i).k : Int)) ∧ w.cell? ⟨b, o + i * 4 + 2, none⟩ = some (.int .i64 (F i).it) ∧ w.cell? ⟨b, o + i * 4 + 3, none⟩ = some (.int .i64 (F i).n)
theorem SyL.later {w w' : World} {a : Option Addr} {n : Nat} {F : Nat → Sy} (h : SyL w a n F) (hb : Below w.heap.size w w') : SyL w' a n F := fun i hi => by
 obtain ⟨ok, b, o, e, h0, h1, h2, h3⟩ := h i hi
 exact ⟨ok, b, o, e, cell_kept h0 hb, cell_kept h1 hb, cell_kept h2 hb, cell_kept h3 hb⟩
theorem sizeSy : (Tryd.prog.info? 35).map (·.size) = some 4 := by kernel_rfl
theorem qbq {x y z u : Value} (h0 : x.oneCell' = true) (h1 : y.oneCell' = true) (h2 : z.oneCell' = true) (h3 : u.oneCell' = true) : (#[x, y, z, u] : Array Value).all (·.oneCell') = true := by simp [h0, h1, h2, h3]
def sy0 : Sy := ⟨⟨#[]⟩, 0, 0, 0⟩
/-- The first symbol of a name, from i on. -/
def lok (F : Nat → Sy) (s : ByteArray) : Nat → Nat → Sy × Bool
 | 0, _ => (sy0, false)
 | d + 1, i => if sbq (F i).nm s then (F i, true) else lok F s d (i + 1)
theorem qdw {F : Nat → Sy} {s : ByteArray} {d i : Nat} (h : sbq (F i).nm s = true) : lok F s (d + 1) i = (F i, true) := by show (if sbq (F i).nm s then _ else _) = _; rw [h]; rfl
theorem qeo {F : Nat → Sy} {s : ByteArray} {d i : Nat} (h : sbq (F i).nm s = false) : lok F s (d + 1) i = lok F s d (i + 1) := by show (if sbq (F i).nm s then _ else _) = _; rw [h]; rfl
/-- The program's Look. -/
theorem plook (w : World) (a : Option Addr) (n c : Nat) (F : Nat → Sy) (s : ByteArray) (hF : SyL w a n F) (hn : n ≤ 140737488351232) :
  Calls Tryd.prog 13 #[.slice a n c, .string s] w fun e w' => e = .returned (.tuple #[.agg (syC (lok F s n 0).1), .bool (lok F s n 0).2]) ∧ Below w.heap.size w w' := by
 have HF := qa0 hF
 obtain ⟨Q, HQ⟩ : ∃ Q, Hid (lok F s n 0 = Q) := ⟨_, rfl⟩
 rw [HQ.out]
 have HB0 := qa0 (jlow w (.cells #[.string ⟨#[]⟩, .int .u8 0, .int .i64 0, .int .i64 0] 35))
 have HV0 := qa0 (Vn.new w 35 #[.string ⟨#[]⟩, .int .u8 0, .int .i64 0, .int .i64 0])
 clear hF
 go_enter Tryd.func13, Tryd.ntmps13
 go_wp2
 go_loopw [10] (fun vi wr => ∃ i : Nat, i ≤ n ∧ vi = .int .i64 (i : Int) ∧ lok F s (n - i) i = Q ∧ Vn wr w.heap.size 35 #[.string ⟨#[]⟩, .int .u8 0, .int .i64 0, .int .i64 0] ∧ Below w.heap.size w wr) (fun vi _ => n - (intOf vi).toNat)
 case atStart => exact ⟨0, by omega, rfl, HQ.out, HV0.out, HB0.out⟩
 case round =>
  obtain ⟨i, hi, rfl, hq, hv, hb⟩ := hrel
  have HV := qa0 hv
  have HB := qa0 hb
  clear hv HV0 HB0 HQ
  by_cases hlt : i < n
  ·have p0 : (0 : Int) ≤ (i : Int) := by omega
   have p1 : (i : Int) < (n : Int) := by omega
   obtain ⟨ok, b, o, rfl, t0, t1, t2, t3⟩ := (HF.out.later hb) i hlt
   obtain ⟨d, hd⟩ : ∃ d, n - i = d + 1 := ⟨n - i - 1, by omega⟩
   rw [hd] at hq
   obtain ⟨y, Hy⟩ : ∃ y, Hid (F i = y) := ⟨_, rfl⟩
   rw [Hy.out] at t0 t1 t2 t3
   obtain ⟨nm, k, it, nn⟩ := y
   dsimp only at t0 t1 t2 t3
   have M1 : True := trivial
   cases hs : sbq nm s with
   | true =>
    have hq2 : Q = (⟨nm, k, it, nn⟩, true) := by rw [← hq, qdw (by rw [Hy.out]; exact hs), Hy.out]
    have q0 : (nm.toList == s.toList) = true := hs
    subst hq2
    clear hq hd hs hb ok
    go_wp2_with (first
     | (clear M1; refine qa1 rfl 35 _ _ rfl wr.heap.size _ #[.string nm, .int .u8 (k : Int), .int .i64 it, .int .i64 nn] rfl rfl (Vn.new wr _ _) sizeSy rfl (qbq rfl rfl rfl rfl) ?_; intro w2 HW2 hg2; have hb2 : Below wr.heap.size wr w2 := (jlow _ _).trans (jbelow hg2.out (jlow _ _).size (fun g e => by cases e; exact Nat.le_refl _)); have HB2 := qa0 (jtwo HB.out hb2); have HV2 := qa0 (HV.out.later hb2); have x0 := HW2.out.cell 0 _ rfl; have x1 := HW2.out.cell 1 _ rfl; have x2 := HW2.out.cell 2 _ rfl; have x3 := HW2.out.cell 3 _ rfl; clear hg2 hb2)
     | (refine qa1 rfl 35 _ _ rfl w.heap.size _ #[.string nm, .int .u8 (k : Int), .int .i64 it, .int .i64 nn] rfl rfl HV2.out sizeSy rfl (qbq rfl rfl rfl rfl) ?_; intro w3 HV3 hg3; have HB3 := qa0 (HB2.out.trans (jbelow hg3.out HB2.out.size (fun g e => by cases e; exact Nat.le_refl _))); clear hg3))
    have d0 := HV3.out.cell 0 _ rfl
    have d1 := HV3.out.cell 1 _ rfl
    have d2 := HV3.out.cell 2 _ rfl
    have d3 := HV3.out.cell 3 _ rfl
    refine bodyPost_ret (v := .tuple #[.agg #[.string nm, .int .u8 (k : Int), .int .i64 it, .int .i64 nn], .bool true]) (by simp [results, Tryd.results13, go_sem, d0, d1, d2, d3]) rfl ?_
    exact ⟨rfl, HB3.out⟩
   | false =>
    have hq2 : lok F s (n - (i + 1)) (i + 1) = Q := by rw [← hq, qeo (by rw [Hy.out]; exact hs), show n - (i + 1) = d by omega]
    have HQ2 := qa0 hq2
    have q0 : (nm.toList == s.toList) = false := hs
    clear hq hd hs hb ok hq2
    go_wp2_with (clear M1; refine qa1 rfl 35 _ _ rfl wr.heap.size _ #[.string nm, .int .u8 (k : Int), .int .i64 it, .int .i64 nn] rfl rfl (Vn.new wr _ _) sizeSy rfl (qbq rfl rfl rfl rfl) ?_; intro w2 HW2 hg2; have hb2 : Below wr.heap.size wr w2 := (jlow _ _).trans (jbelow hg2.out (jlow _ _).size (fun g e => by cases e; exact Nat.le_refl _)); have HB2 := qa0 (jtwo HB.out hb2); have HV2 := qa0 (HV.out.later hb2); have x0 := HW2.out.cell 0 _ rfl; clear hg2 hb2)
    exact ⟨⟨i + 1, by omega, by go_num, HQ2.out, HV2.out, HB2.out⟩, by simp [intOf]; omega⟩
  ·obtain rfl : i = n := by omega
   have hq2 : Q = (sy0, false) := by rw [← hq, Nat.sub_self]; rfl
   subst hq2
   clear hq hb
   go_wp2_with (refine qa1 rfl 35 _ _ rfl w.heap.size _ #[.string ⟨#[]⟩, .int .u8 0, .int .i64 0, .int .i64 0] rfl rfl HV.out sizeSy rfl (qbq rfl rfl rfl rfl) ?_; intro w3 HV3 hg3; have HB3 := qa0 (HB.out.trans (jbelow hg3.out HB.out.size (fun g e => by cases e; exact Nat.le_refl _))); clear hg3)
   have d0 := HV3.out.cell 0 _ rfl
   have d1 := HV3.out.cell 1 _ rfl
   have d2 := HV3.out.cell 2 _ rfl
   have d3 := HV3.out.cell 3 _ rfl
   refine bodyPost_ret (v := .tuple #[.agg #[.string ⟨#[]⟩, .int .u8 0, .int .i64 0, .int .i64 0], .bool false]) (by simp [results, Tryd.results13, go_sem, d0, d1, d2, d3]) rfl ?_
   exact ⟨rfl, HB3.out⟩
/-- The reference's Look. -/
theorem rlook (w : World) (a : Option Addr) (n c : Nat) (F : Nat → Sy) (s : ByteArray) (hF : SyL w a n F) (hn : n ≤ 140737488351232) :
  Calls Tryd.prog 14 #[.slice a n c, .string s] w fun e w' => e = .returned (.tuple #[.agg (syC (lok F s n 0).1), .bool (lok F s n 0).2]) ∧ Below w.heap.size w w' := by
 have HF := qa0 hF
 obtain ⟨Q, HQ⟩ : ∃ Q, Hid (lok F s n 0 = Q) := ⟨_, rfl⟩
 rw [HQ.out]
 have HB0 := qa0 (jlow w (.cells #[.string ⟨#[]⟩, .int .u8 0, .int .i64 0, .int .i64 0] 35))
 have HV0 := qa0 (Vn.new w 35 #[.string ⟨#[]⟩, .int .u8 0, .int .i64 0, .int .i64 0])
 clear hF
 go_enter Tryd.func14, Tryd.ntmps14
 go_wp2
 go_loopw [6] (fun vi wr => ∃ i : Nat, i ≤ n ∧ vi = .int .i64 (i : Int) ∧ lok F s (n - i) i = Q ∧ Vn wr w.heap.size 35 #[.string ⟨#[]⟩, .int .u8 0, .int .i64 0, .int .i64 0] ∧ Below w.heap.size w wr) (fun vi _ => n - (intOf vi).toNat)
 case atStart => exact ⟨0, by omega, rfl, HQ.out, HV0.out, HB0.out⟩
 case round =>
  obtain ⟨i, hi, rfl, hq, hv, hb⟩ := hrel
  have HV := qa0 hv
  have HB := qa0 hb
  clear hv HV0 HB0 HQ
  by_cases hlt : i < n
  ·have p0 : (0 : Int) ≤ (i : Int) := by omega
   have p1 : (i : Int) < (n : Int) := by omega
   obtain ⟨ok, b, o, rfl, t0, t1, t2, t3⟩ := (HF.out.later hb) i hlt
   obtain ⟨d, hd⟩ : ∃ d, n - i = d + 1 := ⟨n - i - 1, by omega⟩
   rw [hd] at hq
   obtain ⟨y, Hy⟩ : ∃ y, Hid (F i = y) := ⟨_, rfl⟩
   rw [Hy.out] at t0 t1 t2 t3
   obtain ⟨nm, k, it, nn⟩ := y
   dsimp only at t0 t1 t2 t3
   cases hs : sbq nm s with
   | true =>
    have hq2 : Q = (⟨nm, k, it, nn⟩, true) := by rw [← hq, qdw (by rw [Hy.out]; exact hs), Hy.out]
    have q0 : (nm.toList == s.toList) = true := hs
    subst hq2
    clear hq hd hs hb ok
    go_wp2_with (refine qa1 rfl 35 _ _ rfl w.heap.size _ #[.string nm, .int .u8 (k : Int), .int .i64 it, .int .i64 nn] rfl rfl HV.out sizeSy rfl (qbq rfl rfl rfl rfl) ?_; intro w3 HV3 hg3; have HB3 := qa0 (HB.out.trans (jbelow hg3.out HB.out.size (fun g e => by cases e; exact Nat.le_refl _))); clear hg3)
    have d0 := HV3.out.cell 0 _ rfl
    have d1 := HV3.out.cell 1 _ rfl
    have d2 := HV3.out.cell 2 _ rfl
    have d3 := HV3.out.cell 3 _ rfl
    refine bodyPost_ret (v := .tuple #[.agg #[.string nm, .int .u8 (k : Int), .int .i64 it, .int .i64 nn], .bool true]) (by simp [results, Tryd.results14, go_sem, d0, d1, d2, d3]) rfl ?_
    exact ⟨rfl, HB3.out⟩
   | false =>
    have hq2 : lok F s (n - (i + 1)) (i + 1) = Q := by rw [← hq, qeo (by rw [Hy.out]; exact hs), show n - (i + 1) = d by omega]
    have HQ2 := qa0 hq2
    have q0 : (nm.toList == s.toList) = false := hs
    clear hq hd hs hb ok hq2
    go_wp2
    exact ⟨⟨i + 1, by omega, by go_num, HQ2.out, HV.out, HB.out⟩, by simp [intOf]; omega⟩
  ·obtain rfl : i = n := by omega
   have hq2 : Q = (sy0, false) := by rw [← hq, Nat.sub_self]; rfl
   subst hq2
   clear hq hb
   go_wp2_with (refine qa1 rfl 35 _ _ rfl w.heap.size _ #[.string ⟨#[]⟩, .int .u8 0, .int .i64 0, .int .i64 0] rfl rfl HV.out sizeSy rfl (qbq rfl rfl rfl rfl) ?_; intro w3 HV3 hg3; have HB3 := qa0 (HB.out.trans (jbelow hg3.out HB.out.size (fun g e => by cases e; exact Nat.le_refl _))); clear hg3)
   have d0 := HV3.out.cell 0 _ rfl
   have d1 := HV3.out.cell 1 _ rfl
   have d2 := HV3.out.cell 2 _ rfl
   have d3 := HV3.out.cell 3 _ rfl
   refine bodyPost_ret (v := .tuple #[.agg #[.string ⟨#[]⟩, .int .u8 0, .int .i64 0, .int .i64 0], .bool false]) (by simp [results, Tryd.results14, go_sem, d0, d1, d2, d3]) rfl ?_
   exact ⟨rfl, HB3.out⟩
end Go.Proofs.YtemhodenkgngmaaDoor
