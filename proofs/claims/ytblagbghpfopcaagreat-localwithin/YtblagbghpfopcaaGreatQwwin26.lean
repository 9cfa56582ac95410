/-
  Contracts of the program's matrices: allRight, Make, Identity.
  Contracts of the program's matrices: Make, Identity, Row, Same.
  Contracts of the program's matrices: Row, Same.
  Contracts of the program's matrices: combination, Mul.
  Contracts of the program's matrices: Mul's errors, Apply, Transpose.
  Contracts of the program's matrices: Transpose.
-/
import Derived.Test.YtblagbghpfopcaaGreatQwwin00
import Derived.Test.YtblagbghpfopcaaGreatQwwin12
import Derived.Laws.OwnMore
import Derived.Deep.RegionHeld3
set_option maxRecDepth 100000
set_option maxHeartbeats 16000000
namespace Go.Proofs.YtblagbghpfopcaaGreat
open Go.RowKit
/-- Two matrices in a row. -/
def Two (w : World) (g : Nat) (r c : Int) (a : Option Addr) (n k : Nat) (r' c' : Int) (b : Option Addr) (m d : Nat) : Prop := w.heap[g]? = some (.cells #[.int .i64 r, .int .i64 c, .slice a n k, .int .i64 r', .int .i64 c', .slice b m d] 24 (0, 0))
theorem Two.lt {w : World} {g : Nat} {r c : Int} {a : Option Addr} {n k : Nat} {r' c' : Int} {b : Option Addr} {m d : Nat} (h : Two w g r c a n k r' c' b m d) : g < w.heap.size := lt_of_block h
theorem Two.later {w w' : World} {g : Nat} {r c : Int} {a : Option Addr} {n k : Nat} {r' c' : Int} {b : Option Addr} {m d : Nat} (h : Two w g r c a n k r' c' b m d) (hb : Below w.heap.size w w') : Two w' g r c a n k r' c' b m d := by unfold Two; rw [hb.block g h.lt]; exact h
theorem Two.c0 {w : World} {g : Nat} {r c : Int} {a : Option Addr} {n k : Nat} {r' c' : Int} {b : Option Addr} {m d : Nat} (h : Two w g r c a n k r' c' b m d) : w.cell? ⟨g, 0, none⟩ = some (.int .i64 r) := by rw [cell_of_row w g 0 _ _ _ h]; rfl
theorem Two.c1 {w : World} {g : Nat} {r c : Int} {a : Option Addr} {n k : Nat} {r' c' : Int} {b : Option Addr} {m d : Nat} (h : Two w g r c a n k r' c' b m d) : w.cell? ⟨g, 1, none⟩ = some (.int .i64 c) := by rw [cell_of_row w g 1 _ _ _ h]; rfl
theorem Two.c2 {w : World} {g : Nat} {r c : Int} {a : Option Addr} {n k : Nat} {r' c' : Int} {b : Option Addr} {m d : Nat} (h : Two w g r c a n k r' c' b m d) : w.cell? ⟨g, 2, none⟩ = some (.slice a n k) := by rw [cell_of_row w g 2 _ _ _ h]; rfl
theorem Two.c3 {w : World} {g : Nat} {r c : Int} {a : Option Addr} {n k : Nat} {r' c' : Int} {b : Option Addr} {m d : Nat} (h : Two w g r c a n k r' c' b m d) : w.cell? ⟨g, 3, none⟩ = some (.int .i64 r') := by rw [cell_of_row w g 3 _ _ _ h]; rfl
theorem Two.c4 {w : World} {g : Nat} {r c : Int} {a : Option Addr} {n k : Nat} {r' c' : Int} {b : Option Addr} {m d : Nat} (h : Two w g r c a n k r' c' b m d) : w.cell? ⟨g, 4, none⟩ = some (.int .i64 c') := by rw [cell_of_row w g 4 _ _ _ h]; rfl
theorem Two.c5 {w : World} {g : Nat} {r c : Int} {a : Option Addr} {n k : Nat} {r' c' : Int} {b : Option Addr} {m d : Nat} (h : Two w g r c a n k r' c' b m d) : w.cell? ⟨g, 5, none⟩ = some (.slice b m d) := by rw [cell_of_row w g 5 _ _ _ h]; rfl
open Go.RowKit
theorem qlr (w : World) (s : Option Addr) (c d : Nat) (f : Nat → Nat) (hs : Sl w s c f) (hc : c ≤ 4096) (h0 : s = none → c = 0 ∧ d = 0) :
  Calls Tryz.prog 65 #[.slice s c d] w fun e w' => ∃ v, e = .returned v ∧ w'.ownsRow w.heap.size 5 1 v c (row c f).toList ∧ Below w.heap.size w w' := by
 cases s with
 | none =>
  obtain ⟨rfl, rfl⟩ := h0 rfl
  have hnil : (binOp .eql 22 (.slice none 0 0) (.slice none 0 0)).run Tryz.prog w = .ok (.bool true) w := Go.Lib.run_eql_slice_nil w 22 5 none 0 0 0 0 Tryz.underlying22
  clear hs h0
  go_enter Tryz.func65, Tryz.ntmps65
  go_wp2
  go_ret
  exact ⟨_, rfl, by rw [qbn]; exact World.ownsRow_nil _ _ _ _, Below.refl _ _⟩
 | some x =>
  have HS : Hid (Sl w (some x) c f) := hs
  have HO : Hid ((w.alloc (.cells #[] 5)).ownsRow w.heap.size 5 1 (.slice (some ⟨w.heap.size, 0, none⟩) 0 0) 0 []) := World.ownsRow_lit w #[] 0 (Nat.le_refl _) (by decide) rfl
  have hnil : (binOp .eql 22 (.slice (some x) c d) (.slice none 0 0)).run Tryz.prog w = .ok (.bool false) w := Go.Lib.run_eql_slice_nil w 22 5 (some x) c d 0 0 Tryz.underlying22
  clear hs h0
  go_enter Tryz.func65, Tryz.ntmps65
  go_wp2_with (first
   | (at_builtin; refine qbf rfl _ _ rfl w.heap.size 0 (.slice (some ⟨w.heap.size, 0, none⟩) 0 0) [] rfl HO.out (some x) c d f rfl (HS.out.later (qa1 _ _)) (fun e => by cases e) (by omega) (by simp) ?_; intro v w2 ho2 hg2; have HO2 : Hid (w2.ownsRow w.heap.size 5 1 v c (row c f).toList) := by { show World.ownsRow _ _ _ _ _ _ _; simpa using ho2 }; have HB2 : Hid (Below w.heap.size w w2) := qa9 (qa1 _ _) hg2 (Nat.le_refl _); clear ho2 hg2))
  go_ret
  exact ⟨_, rfl, HO2.out, HB2.out⟩
theorem pc_none {a : Option Addr} {n k p c : Nat} (h0 : a = none → n = 0 ∧ k = 0) (hf : p + c ≤ n) : pc a p c = none → c = 0 := by
 intro e
 unfold pc at e
 by_cases hc : c = 0
 ·exact hc
 ·rw [if_neg hc] at e
  cases a with
  | none => have := h0 rfl; omega
  | some x => cases e
theorem mrow_ok (w : World) (r c n k i : Nat) (a : Option Addr) (F : Nat → Nat) (ha : Mt w a n k F) (R : Rt r c n) (hi : i < r) :
  Calls Tryz.prog 30 #[mv r c a n k, .int .i64 (i : Int)] w fun e w' => ∃ v, e = .returned (.tuple #[v, .int .i64 0]) ∧ w'.ownsRow w.heap.size 5 1 v c (row c (fun j => F (i * c + j))).toList ∧ Below w.heap.size w w' := by
 have HRt : Hid (Rt r c n) := R
 have hc := R.c64
 have hn := R.le
 have hr := R.r64
 have HA : Hid (Mt w a n k F) := ha
 obtain ⟨p, HP⟩ : ∃ p, Hid (i * c = p) := ⟨_, rfl⟩
 rw [HP.out]
 obtain ⟨s, HS⟩ : ∃ s, Hid (pc a p c = s) := ⟨_, rfl⟩
 have HF : Hid (p + c ≤ n) := by have := R.fit hi; rw [HP.out] at this; exact this
 have HSl : Hid (Sl w s c (fun j => F (p + j))) := by have := ha.piece HF.out; rw [HS.out] at this; exact this
 have H0 : Hid (s = none → c = 0 ∧ c = 0) := fun e => by have := pc_none ha.nil HF.out (by rw [HS.out]; exact e); exact ⟨this, this⟩
 obtain ⟨G, HG⟩ : ∃ G : Nat → Nat, Hid ((fun j => F (p + j)) = G) := ⟨_, rfl⟩
 rw [HG.out]
 rw [HG.out] at HSl
 obtain ⟨wb, HW⟩ : ∃ wb, Hid (wb = w.alloc (.cells #[.int .i64 (r : Int), .int .i64 (c : Int), .slice a n k] 24)) := ⟨_, rfl⟩
 have HV0 : Hid (Vr wb w.heap.size (.int .i64 (r : Int)) (.int .i64 (c : Int)) (.slice a n k)) := by rw [HW.out]; exact Vr.new w _ _ _
 have HB0 : Hid (Below w.heap.size w wb) := by rw [HW.out]; exact qa1 _ _
 clear ha R
 go_enter Tryz.func30, Tryz.ntmps30
 go_wp2_with (first
  | (go_at_call 60; rw [← HW.out]; refine (qaj _ _ _ _ _ _ HRt.out.p).mono ?_; rintro e w1 ⟨rfl, hb1⟩; have HB1 : Hid (Below wb.heap.size wb w1) := hb1; have c0 := (HV0.out.later hb1).c0; have c1 := (HV0.out.later hb1).c1; have c2 := (HV0.out.later hb1).c2; clear hb1)
  | (go_at_call 61; refine (qdi _ _ _ _ _ _ _ ⟨by omega, by omega⟩).mono ?_; rintro e w2 ⟨rfl, hb2⟩; have HB2 : Hid (Below wb.heap.size wb w2) := qa0 HB1.out hb2; have d0 := (HV0.out.later HB2.out).c0; have d1 := (HV0.out.later HB2.out).c1; have d2 := (HV0.out.later HB2.out).c2; clear hb2)
  | (go_at_call 64; refine (qcd _ _ c n k i p a s HA.out.nil HA.out.room HF.out hn (by omega) HP HS).mono ?_; rintro e w3 ⟨rfl, hb3⟩; have HB3 : Hid (Below w.heap.size w w3) := qa0 (qa0 HB0.out HB2.out) hb3; clear hb3)
  | (go_at_call 65; refine (qlr _ s c c G (HSl.out.later HB3.out) (by omega) H0.out).mono ?_; rintro e w4 ⟨v, rfl, ho4, hb4⟩; have HO4 : Hid (w4.ownsRow w3.heap.size 5 1 v c (row c G).toList) := ho4; have HB4 : Hid (Below w3.heap.size w3 w4) := hb4; clear ho4 hb4))
 go_ret2
 exact ⟨v, rfl, qd2 HO4.out HB3.out.size, qa0 HB3.out HB4.out⟩
open Go.RowKit
/-- The sum of the first t rows, each times its factor, at column j. -/
def cbf (h G : Nat → Nat) (cb t j : Nat) : Nat := xs (fun k => fm (h k) (G (k * cb + j))) t
theorem cbf_lt {h : Nat → Nat} {rb : Nat} (hh : ∀ i, i < rb → h i < 256) (G : Nat → Nat) (cb t j : Nat) (ht : t ≤ rb) : cbf h G cb t j < 256 := qh5 fun k hk => qat _ _ (hh k (by omega))
/-- f up to place q, noughts behind. -/
def upf (f : Nat → Nat) (q p : Nat) : Nat := if p < q then f p else 0
theorem qii (f : Nat → Nat) (p : Nat) : upf f 0 p = 0 := by unfold upf; rw [if_neg (by omega)]
theorem qls (f : Nat → Nat) {q n : Nat} (h : n ≤ q) : ∀ p, p < n → upf f q p = f p := fun p hp => by unfold upf; rw [if_pos (by omega)]
theorem cpf_next (f h : Nat → Nat) (q c : Nat) (e : ∀ j, j < c → h j = f (q + j)) (p : Nat) : cpf (upf f q) h q c p = upf f (q + c) p := by
 unfold cpf upf
 by_cases h1 : q ≤ p ∧ p < q + c
 ·rw [if_pos h1, if_pos h1.2, e _ (by omega)]
  congr 1
  omega
 ·rw [if_neg h1]
  by_cases h2 : p < q
  ·rw [if_pos h2, if_pos (by omega)]
  ·rw [if_neg h2, if_neg (by omega)]
open Go.RowKit
/-- What the loops of a call with one matrix and an answer keep. -/
structure NInv (w wr : World) (gd g6 r c R C n k N : Nat) (a : Option Addr) (fn : Nat → Nat) : Prop where
 va : Vr wr w.heap.size (.int .i64 (r : Int)) (.int .i64 (c : Int)) (.slice a n k)
 vr : Vr wr (w.heap.size + 1) (.int .i64 0) (.int .i64 0) (.slice none 0 0)
 vm : Vr wr g6 (.int .i64 (R : Int)) (.int .i64 (C : Int)) (.slice (some ⟨gd, 0, none⟩) N N)
 data : RowAt wr gd 5 N fn
 below : Below w.heap.size w wr
 d6 : gd ≠ g6
 dlow : w.heap.size + 1 < gd
theorem NInv.congr {w wr : World} {gd g6 r c R C n k N : Nat} {a : Option Addr} {fn fn' : Nat → Nat} (I : NInv w wr gd g6 r c R C n k N a fn) (e : ∀ p, p < N → fn p = fn' p) : NInv w wr gd g6 r c R C n k N a fn' := ⟨I.va, I.vr, I.vm, I.data.congr e, I.below, I.d6, I.dlow⟩
theorem NInv.later {w wr w' : World} {gd g6 r c R C n k N : Nat} {a : Option Addr} {fn : Nat → Nat} (I : NInv w wr gd g6 r c R C n k N a fn) (hb : Below wr.heap.size wr w') : NInv w w' gd g6 r c R C n k N a fn := ⟨I.va.later hb, I.vr.later hb, I.vm.later hb, I.data.later hb, qa0 I.below hb, I.d6, I.dlow⟩
theorem NInv.copy {w wr w' : World} {gd g6 r c R C n k N : Nat} {a : Option Addr} {fn fn' : Nat → Nat} (I : NInv w wr gd g6 r c R C n k N a fn) (hr : RowAt w' gd 5 N fn') (hg : wr.grownBy w' (some gd)) : NInv w w' gd g6 r c R C n k N a fn' :=
 have d := I.dlow
 ⟨I.va.kept hg (by omega), I.vr.kept hg (by omega), I.vm.kept hg (Ne.symm I.d6), hr, qa9 I.below hg (by omega), I.d6, I.dlow⟩
theorem NInv.drew {w wr : World} {gd g6 r c R C n k N : Nat} {a : Option Addr} {fn : Nat → Nat} (I : NInv w wr gd g6 r c R C n k N a fn) : NInv w wr.drew gd g6 r c R C n k N a fn := I.later (Below.refl _ _).drew
theorem upf_step (f : Nat → Nat) (q v : Nat) (hv : v = f q) (p : Nat) : (if p = q then v else upf f q p) = upf f (q + 1) p := by
 unfold upf
 by_cases h : p = q
 ·subst h; rw [if_pos rfl, if_pos (by omega), hv]
 ·rw [if_neg h]
  by_cases h2 : p < q
  ·rw [if_pos h2, if_pos (by omega)]
  ·rw [if_neg h2, if_neg (by omega)]
theorem NInv.set {w wr : World} {gd g6 r c R C n k N q v : Nat} {a : Option Addr} {f : Nat → Nat} (I : NInv w wr gd g6 r c R C n k N a (upf f q)) (hv : v = f q) : NInv w (wr.setCell ⟨gd, q, none⟩ (.int .u8 (v : Int))) gd g6 r c R C n k N a (upf f (q + 1)) :=
 I.copy ((I.data.set q v).congr (fun p _ => upf_step f q v hv p)) (qa3 _ _ _ _)
theorem Rt.turn {r c n : Nat} (h : Rt r c n) : Rt c r n := ⟨h.c64, h.r64, by rw [Nat.mul_comm]; exact h.len⟩
theorem qd9 (w : World) (r c n k : Nat) (a : Option Addr) (F : Nat → Nat) (ha : Mt w a n k F) (R : Rt r c n) :
  Calls Tryz.prog 57 #[mv r c a n k] w fun e w' => ∃ g, e = .returned (.tuple #[mv c r (some ⟨g, 0, none⟩) n n, .int .i64 0]) ∧ RowAt w' g 5 n (trf F r c) ∧ w.heap.size ≤ g ∧ Below w.heap.size w w' := by
 have HRt : Hid (Rt r c n) := R
 have HRu : Hid (Rt c r n) := R.turn
 have hn := R.le
 have hr64 := R.r64
 have hc64 := R.c64
 have HA : Hid (Mt w a n k F) := ha
 obtain ⟨fn, HFn⟩ : ∃ fn : Nat → Nat, Hid (trf F r c = fn) := ⟨_, rfl⟩
 rw [HFn.out]
 obtain ⟨wb, HW, HX⟩ : ∃ wb, Hid (wb = (w.alloc (.cells #[.int .i64 (r : Int), .int .i64 (c : Int), .slice a n k] 24)).alloc (.cells #[.int .i64 0, .int .i64 0, .slice none 0 0] 24)) ∧ Hid (Box2 w wb r c n k a) := ⟨_, rfl, box2 w r c n k a⟩
 clear ha R
 go_enter Tryz.func57, Tryz.ntmps57
 go_wp2_with (first
  | (go_at_call 60; rw [← HW.out]; refine (qaj _ _ _ _ _ _ HRt.out.p).mono ?_; rintro e w2 ⟨rfl, hb2⟩; have HB2 : Hid (Below wb.heap.size wb w2) := hb2; have a0 := (HX.out.va.later hb2).c0; have a1 := (HX.out.va.later hb2).c1; clear hb2)
  | (go_at_call 63; refine (qfb _ c r n hc64 hr64 HRu.out.len).mono ?_; rintro e w3 ⟨gd, rfl, hr3, hg3, hb3⟩; have HR3 : Hid (RowAt w3 gd 5 n (fun _ => 0)) := hr3; have HB3 : Hid (Below wb.heap.size wb w3) := qa0 HB2.out hb3; have l2 := HB2.out.size; have hg4 : w2.heap.size ≤ gd := hg3; have a1' := ((HX.out.va.later HB3.out).later (qa1 w3 (.cells #[.int .i64 (c : Int), .int .i64 (r : Int), .slice (some ⟨gd, 0, none⟩) n n] 24))).c1; clear hr3 hb3 hg3))
 have HI0 : Hid (NInv w (w3.alloc (.cells #[.int .i64 (c : Int), .int .i64 (r : Int), .slice (some ⟨gd, 0, none⟩) n n] 24)) gd w3.heap.size r c c r n k n a (fun _ => 0)) := by
  have l0 := HX.out.vr.lt
  have l3 := HR3.out.lt
  exact ⟨(HX.out.va.later HB3.out).later (qa1 _ _), (HX.out.vr.later HB3.out).later (qa1 _ _), Vr.new w3 _ _ _, HR3.out.later (qa1 _ _), qa0 (qa0 HX.out.below HB3.out) (qa1 _ _), by omega, by omega⟩
 clear HW HX HB2 HR3 HB3 a0 a1 a1'
 go_loopw [5, 6, 7, 19] (fun _ _ _ j wr => ∃ m : Nat, m ≤ c ∧ j = .int .i64 (m : Int) ∧ NInv w wr gd w3.heap.size r c c r n k n a (upf fn (m * r))) (fun _ _ _ j _ => c - (intOf j).toNat)
 case atStart => exact ⟨0, by omega, rfl, HI0.out.congr (fun p _ => by rw [Nat.zero_mul, qii])⟩
 case round =>
  clear HI0
  obtain ⟨m, hm, rfl, I⟩ := hrel
  have HI : Hid (NInv w wr gd w3.heap.size r c c r n k n a (upf fn (m * r))) := I
  clear I
  by_cases hlt : m < c
  ·obtain ⟨p, HP⟩ : ∃ p, Hid (m * r = p) := ⟨_, rfl⟩
   obtain ⟨sp, HSp⟩ : ∃ s, Hid (pc (some ⟨gd, 0, none⟩) p r = s) := ⟨_, rfl⟩
   rw [HP.out] at HI
   have HFi : Hid (p + r ≤ n) := by have := HRu.out.fit hlt; rw [HP.out] at this; exact this
   have c0 := HI.out.vm.c0
   have c1 := HI.out.vm.c1
   have c2 := HI.out.vm.c2
   go_wp2_with (first
    | (go_at_call 64; refine (qcd _ _ r n n m p (some ⟨gd, 0, none⟩) sp (fun e => by cases e) (Nat.le_refl _) HFi.out hn (by omega) HP HSp).mono ?_; rintro e w4 ⟨rfl, hb4⟩; have HI4 : Hid (NInv w w4 gd w3.heap.size r c c r n k n a (upf fn p)) := HI.out.later hb4; have d0 := HI4.out.va.c0; clear hb4))
   clear c0 c1 c2 HI d0
   go_loopw [7, 27] (fun _ i wi => ∃ q : Nat, q ≤ r ∧ i = .int .i64 (q : Int) ∧ NInv w wi gd w3.heap.size r c c r n k n a (upf fn (p + q))) (fun _ i _ => r - (intOf i).toNat)
   case atStart => exact ⟨0, by omega, rfl, HI4.out⟩
   case round =>
    clear HI4
    obtain ⟨q, hq, rfl, I⟩ := hrel
    have HI : Hid (NInv w wr gd w3.heap.size r c c r n k n a (upf fn (p + q))) := I
    clear I
    by_cases hlq : q < r
    ·obtain ⟨pa, HPa⟩ : ∃ p, Hid (q * c = p) := ⟨_, rfl⟩
     have HFa : Hid (pa + c ≤ n) := by have := HRt.out.fit hlq; rw [HPa.out] at this; exact this
     have HSpv : Hid (pc (some ⟨gd, 0, none⟩) p r = some ⟨gd, p, none⟩) := qia gd p r (by omega)
     obtain rfl : some ⟨gd, p, none⟩ = sp := by rw [← HSp.out, HSpv.out]
     obtain ⟨ba, oa, ea, hca⟩ := HA.out.sl.2 (pa + m) (by have := HFa.out; omega)
     obtain ⟨x, HX⟩ : ∃ x, Hid (F (pa + m) = x) := ⟨_, rfl⟩
     rw [HX.out] at hca
     have HXf : Hid (x = fn (p + q)) := by show _ = _; rw [← HX.out, ← HFn.out, ← HP.out, qf8 F r c q m hlq, HPa.out]
     have HSa : Hid (pc a pa c = some ⟨ba, oa + pa, none⟩) := by
      show pc _ _ _ = _
      rw [ea]
      unfold pc
      rw [if_neg (by omega)]
      show some (Addr.add _ _) = _
      rw [add_plain]
     have hfn : n ≤ 4096 := hn
     have hpq : p + q < n := by have := HFi.out; omega
     have c0 := HI.out.va.c0
     have c1 := HI.out.va.c1
     have c2 := HI.out.va.c2
     have m1 : (m : Int) < (c : Int) := by omega
     have q1 : (q : Int) < (r : Int) := by omega
     clear ea
     go_wp2_with (first
      | (go_at_call 64; refine (qcd _ _ c n k q pa a (some ⟨ba, oa + pa, none⟩) HA.out.nil HA.out.room HFa.out hn (by omega) HPa HSa).mono ?_; rintro e w5 ⟨rfl, hb5⟩; have HI5 : Hid (NInv w w5 gd w3.heap.size r c c r n k n a (upf fn (p + q))) := HI.out.later hb5; have hcx : w5.cell? ⟨ba, oa + pa + m, none⟩ = some (.int .u8 (x : Int)) := by { rw [Nat.add_assoc]; exact keepc HI5.out.below hca }; have hcc := HI5.out.data.cell (p + q) hpq; have hcf := HI5.out.data.free (p + q); have HI6 : Hid (NInv w (w5.setCell ⟨gd, p + q, none⟩ (.int .u8 (x : Int))) gd w3.heap.size r c c r n k n a (upf fn (p + q + 1))) := HI5.out.set HXf.out; clear hb5))
     exact ⟨⟨q + 1, by omega, by go_num, HI6.out⟩, by simp [intOf]; omega⟩
    ·obtain rfl : q = r := by omega
     go_wp2
     exact ⟨⟨m + 1, by omega, by go_num, HI.out.congr (fun z _ => by rw [← HP.out, Nat.add_mul, Nat.one_mul])⟩, by simp [intOf]; omega⟩
  ·obtain rfl : m = c := by omega
   have HR : Hid (RowAt wr gd 5 n (upf fn (m * r))) := HI.out.data
   have c0 := HI.out.vm.c0
   have c1 := HI.out.vm.c1
   have c2 := HI.out.vm.c2
   have hlow := HI.out.dlow
   go_wp2_with (refine qa6 rfl _ _ rfl (w.heap.size + 1) _ _ _ (.int .i64 (m : Int)) (.int .i64 (r : Int)) (.slice (some ⟨gd, 0, none⟩) n n) rfl rfl HI.out.vr rfl rfl rfl ?_; intro w8 HV8 HG8)
   have d0 := HV8.out.c0
   have d1 := HV8.out.c1
   have d2 := HV8.out.c2
   refine bodyPost_ret (v := .tuple #[mv m r (some ⟨gd, 0, none⟩) n n, .int .i64 0]) (by simp [results, Tryz.results57, go_sem, d0, d1, d2, mv]) rfl ?_
   exact ⟨gd, rfl, (HR.out.kept HG8.out (by omega)).congr (qls fn (by rw [HRu.out.len]; exact Nat.le_refl _)), by omega, qa9 HI.out.below HG8.out (by omega)⟩
end Go.Proofs.YtblagbghpfopcaaGreat
