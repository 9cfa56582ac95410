/-
  Stage 12: Eval, of the program.
-/
import Derived.Test.YtgmndjbicandfaaDoorQnnes00
import Derived.Test.YtgmndjbicandfaaDoorQnnes22
set_option maxRecDepth 100000
set_option maxHeartbeats 16000000
namespace Go.Proofs.YtgmndjbicandfaaDoor
open Go.RowKit Go.Maps
/-- What Eval answers. -/
def evl (F : Nat → Cn) (n : Nat) (T : Xt) : Vt := if mayE F n = true then (if mayX T = true then xval (elk F n) 16 T else ⟨0, 2, 0, 0⟩) else ⟨0, 2, 0, 0⟩
def vtV (V : Vt) : Value := .tuple #[.int .i64 V.v, .agg #[.int .i64 (V.c : Int), .int .i64 V.ln, .int .i64 V.cl]]
theorem eval_any (w : World) (T : Xt) (v : Value) (ea : Option Addr) (en ec : Nat) (F : Nat → Cn) (hX : XV w v T) (hE : EL w ea en F) (hn : en ≤ 140737488351232) (hw : Wt9 w) :
  Calls Tryd.prog 8 #[v, .slice ea en ec] w fun e w' => e = .returned (vtV (evl F en T)) ∧ Below w.heap.size w w' := by
 unfold vtV evl
 have HMx : Hid (∀ w' : World, Below w.heap.size w w' → Calls Tryd.prog 23 #[v] w' fun e w'' => e = .returned (.bool (mayX T)) ∧ Below w'.heap.size w' w'') := fun w' hb => tmayx w' T v (hX.later hb) (hw.later hb)
 have HBy : Hid (∀ w' : World, Below w.heap.size w w' → Calls Tryd.prog 22 #[.slice ea en ec] w' fun e w'' => BnA w'' F en e ∧ Below w'.heap.size w' w'') := fun w' hb => qdc w' ea en ec F (hE.later hb) hn (hw.later hb)
 have HWo : Hid (∀ (w' : World) (b : Nat), mayX T = true → Below w.heap.size w w' → Mp w' b en (elk F en) → Calls Tryd.prog 24 #[v, .map (some b)] w' fun e w'' => e = .returned (.tuple #[.int .i64 (xval (elk F en) 16 T).v, .agg #[.int .i64 ((xval (elk F en) 16 T).c : Int), .int .i64 (xval (elk F en) 16 T).ln, .int .i64 (xval (elk F en) 16 T).cl]]) ∧ Below w'.heap.size w' w'') := fun w' b hm hb hp => qe2 16 w' T v b en _ (hX.later hb) (qai hm) hp
 obtain ⟨⟨a, cap, rfl, _⟩, _⟩ := hX
 clear hE hw
 generalize xval (elk F en) 16 T = V at *
 generalize mayX T = mx at *
 generalize T [] = l at *
 obtain ⟨k, n, nm, len, ln, cl⟩ := l
 dsimp only at HMx HWo ⊢
 have HX := qa0 (Vn.new w 25 #[.int .u8 (k : Int), .int .i64 n, .string nm, .slice a len cap, .int .i64 ln, .int .i64 cl])
 have HX2 := qa0 (HX.out.later (jlow _ (.cells #[.int .i64 0, .int .i64 0, .int .i64 0] 29)))
 have HVt := qa0 (Vn.new (w.alloc (.cells #[.int .u8 (k : Int), .int .i64 n, .string nm, .slice a len cap, .int .i64 ln, .int .i64 cl] 25)) 29 #[.int .i64 0, .int .i64 0, .int .i64 0])
 have HB := qa0 (jtwo (jlow w (.cells #[.int .u8 (k : Int), .int .i64 n, .string nm, .slice a len cap, .int .i64 ln, .int .i64 cl] 25)) (jlow _ (.cells #[.int .i64 0, .int .i64 0, .int .i64 0] 29)))
 rw [qa2] at HVt
 have c0 := HX2.out.cell 0 _ rfl
 have c1 := HX2.out.cell 1 _ rfl
 have c2 := HX2.out.cell 2 _ rfl
 have c3 := HX2.out.cell 3 _ rfl
 have c4 := HX2.out.cell 4 _ rfl
 have c5 := HX2.out.cell 5 _ rfl
 clear HX
 cases hme : mayE F en with
 | false =>
  rw [if_neg (by decide)]
  have HBy : Hid (∀ w' : World, Below w.heap.size w w' → Calls Tryd.prog 22 #[.slice ea en ec] w' fun e w'' => e = .returned (.tuple #[.map none, .bool false]) ∧ Below w'.heap.size w' w'') := fun w' hb => (HBy.out w' hb).mono (fun e w'' h => by
   rcases h.1 with ⟨g, _⟩ | ⟨_, g⟩
   ·rw [hme] at g
    cases g
   ·exact ⟨g, h.2⟩)
  clear HMx HWo hme
  go_enter Tryd.func8, Tryd.ntmps8
  go_wp2_with (first
   | (go_at_call 22; refine (HBy.out _ HB.out).mono ?_; rintro e w1 ⟨rfl, hb1⟩; have HB1 := qa0 (jtwo HB.out hb1); have HV1 := qa0 (HVt.out.later hb1); have HX1 := qa0 (HX2.out.later hb1); have y0 := HX1.out.cell 0 _ rfl; have y1 := HX1.out.cell 1 _ rfl; have y2 := HX1.out.cell 2 _ rfl; have y3 := HX1.out.cell 3 _ rfl; have y4 := HX1.out.cell 4 _ rfl; have y5 := HX1.out.cell 5 _ rfl; clear hb1)
   | (refine qa1 rfl 29 _ _ rfl (w.heap.size + 1) _ #[.int .i64 2, .int .i64 0, .int .i64 0] rfl rfl HV1.out sizeFau rfl (all3 rfl rfl rfl) ?_; intro w8 HV8 hg8))
  have d0 := HV8.out.cell 0 _ rfl
  have d1 := HV8.out.cell 1 _ rfl
  have d2 := HV8.out.cell 2 _ rfl
  refine bodyPost_ret (v := .tuple #[.int .i64 0, .agg #[.int .i64 2, .int .i64 0, .int .i64 0]]) (by simp [results, Tryd.results8, go_sem, d0, d1, d2]) rfl ?_
  exact ⟨rfl, HB1.out.trans (jbelow hg8.out HB1.out.size (fun g e => by cases e; omega))⟩
 | true =>
  rw [if_pos rfl]
  have HBy : Hid (∀ w' : World, Below w.heap.size w w' → Calls Tryd.prog 22 #[.slice ea en ec] w' fun e w'' => (∃ b, e = .returned (.tuple #[.map (some b), .bool true]) ∧ Mp w'' b en (elk F en)) ∧ Below w'.heap.size w' w'') := fun w' hb => (HBy.out w' hb).mono (fun e w'' h => by
   rcases h.1 with ⟨_, g⟩ | ⟨g, _⟩
   ·exact ⟨g, h.2⟩
   ·rw [hme] at g
    cases g)
  clear hme
  cases mx with
  | false =>
   rw [if_neg (by decide)]
   clear HWo
   go_enter Tryd.func8, Tryd.ntmps8
   go_wp2_with (first
    | (go_at_call 22; refine (HBy.out _ HB.out).mono ?_; rintro e w1 ⟨⟨bm, rfl, hp⟩, hb1⟩; have HP1 := qa0 hp; clear hp; have HB1 := qa0 (jtwo HB.out hb1); have HV1 := qa0 (HVt.out.later hb1); have HX1 := qa0 (HX2.out.later hb1); have y0 := HX1.out.cell 0 _ rfl; have y1 := HX1.out.cell 1 _ rfl; have y2 := HX1.out.cell 2 _ rfl; have y3 := HX1.out.cell 3 _ rfl; have y4 := HX1.out.cell 4 _ rfl; have y5 := HX1.out.cell 5 _ rfl; clear hb1)
    | (go_at_call 23; refine (HMx.out _ HB1.out).mono ?_; rintro e w2 ⟨rfl, hb2⟩; have HB2 := qa0 (jtwo HB1.out hb2); have HV2 := qa0 (HV1.out.later hb2); have HX2b := qa0 (HX1.out.later hb2); have z0 := HX2b.out.cell 0 _ rfl; have z1 := HX2b.out.cell 1 _ rfl; have z2 := HX2b.out.cell 2 _ rfl; have z3 := HX2b.out.cell 3 _ rfl; have z4 := HX2b.out.cell 4 _ rfl; have z5 := HX2b.out.cell 5 _ rfl; clear hb2)
    | (refine qa1 rfl 29 _ _ rfl (w.heap.size + 1) _ #[.int .i64 2, .int .i64 0, .int .i64 0] rfl rfl HV2.out sizeFau rfl (all3 rfl rfl rfl) ?_; intro w8 HV8 hg8))
   have d0 := HV8.out.cell 0 _ rfl
   have d1 := HV8.out.cell 1 _ rfl
   have d2 := HV8.out.cell 2 _ rfl
   refine bodyPost_ret (v := .tuple #[.int .i64 0, .agg #[.int .i64 2, .int .i64 0, .int .i64 0]]) (by simp [results, Tryd.results8, go_sem, d0, d1, d2]) rfl ?_
   exact ⟨rfl, HB2.out.trans (jbelow hg8.out HB2.out.size (fun g e => by cases e; omega))⟩
  | true =>
   rw [if_pos rfl]
   have HWp : Hid (∀ (w' : World) (b : Nat), Below w.heap.size w w' → Mp w' b en (elk F en) → Calls Tryd.prog 24 #[.agg #[.int .u8 (k : Int), .int .i64 n, .string nm, .slice a len cap, .int .i64 ln, .int .i64 cl], .map (some b)] w' fun e w'' => e = .returned (.tuple #[.int .i64 V.v, .agg #[.int .i64 (V.c : Int), .int .i64 V.ln, .int .i64 V.cl]]) ∧ Below w'.heap.size w' w'') := fun w' b hb hp => HWo.out w' b rfl hb hp
   clear HWo
   obtain ⟨vv, vc, vl, vk⟩ := V
   dsimp only at HWp ⊢
   go_enter Tryd.func8, Tryd.ntmps8
   go_wp2_with (first
    | (go_at_call 22; refine (HBy.out _ HB.out).mono ?_; rintro e w1 ⟨⟨bm, rfl, hp⟩, hb1⟩; have HP1 := qa0 hp; clear hp; have HB1 := qa0 (jtwo HB.out hb1); have HV1 := qa0 (HVt.out.later hb1); have HX1 := qa0 (HX2.out.later hb1); have y0 := HX1.out.cell 0 _ rfl; have y1 := HX1.out.cell 1 _ rfl; have y2 := HX1.out.cell 2 _ rfl; have y3 := HX1.out.cell 3 _ rfl; have y4 := HX1.out.cell 4 _ rfl; have y5 := HX1.out.cell 5 _ rfl; clear hb1)
    | (go_at_call 23; refine (HMx.out _ HB1.out).mono ?_; rintro e w2 ⟨rfl, hb2⟩; have HB2 := qa0 (jtwo HB1.out hb2); have HV2 := qa0 (HV1.out.later hb2); have HX2b := qa0 (HX1.out.later hb2); have z0 := HX2b.out.cell 0 _ rfl; have z1 := HX2b.out.cell 1 _ rfl; have z2 := HX2b.out.cell 2 _ rfl; have z3 := HX2b.out.cell 3 _ rfl; have z4 := HX2b.out.cell 4 _ rfl; have z5 := HX2b.out.cell 5 _ rfl; have HP2 := qa0 (HP1.out.later hb2); clear hb2)
    | (go_at_call 24; refine (HWp.out _ _ HB2.out HP2.out).mono ?_; rintro e w3 ⟨rfl, hb3⟩; have HB3 := qa0 (jtwo HB2.out hb3); have HV3 := qa0 (HV2.out.later hb3); clear hb3)
    | (refine qa1 rfl 29 _ _ rfl (w.heap.size + 1) _ #[.int .i64 (vc : Int), .int .i64 vl, .int .i64 vk] rfl rfl HV3.out sizeFau rfl (all3 rfl rfl rfl) ?_; intro w8 HV8 hg8))
   have d0 := HV8.out.cell 0 _ rfl
   have d1 := HV8.out.cell 1 _ rfl
   have d2 := HV8.out.cell 2 _ rfl
   refine bodyPost_ret (v := .tuple #[.int .i64 vv, .agg #[.int .i64 (vc : Int), .int .i64 vl, .int .i64 vk]]) (by simp [results, Tryd.results8, go_sem, d0, d1, d2]) rfl ?_
   exact ⟨rfl, HB3.out.trans (jbelow hg8.out HB3.out.size (fun g e => by cases e; omega))⟩
end Go.Proofs.YtgmndjbicandfaaDoor
