/-
  Contracts of the program's parse: the reader's factor.
  Contracts of the program's parse: the reader's factor, of a minus.
  Contracts of the program's parse: the reader's factor, whole.
  New expressions beside a variable that is written again and again.
-/
import Derived.Test.YtnjcpmkfghcogaaGreatDoorQbbks00
import Derived.Test.YtnjcpmkfghcogaaGreatDoorQbbks27
import Derived.Test.YtnjcpmkfghcogaaGreatDoorQbbks23
import Derived.Test.YtnjcpmkfghcogaaGreatDoorQbbks24
import Derived.Test.YtnjcpmkfghcogaaGreatDoorQbbks18
set_option maxRecDepth 100000
set_option maxHeartbeats 16000000
namespace Go.Proofs.YtnjcpmkfghcogaaGreatDoor
open Go.RowKit
theorem Rr.step {K : Rk} {w0 w w' : World} {j0 j : Nat} (h0 : Rr K w0 j0) (h : Rr K w j) (hb : ∀ b, b < w0.heap.size → w'.heap[b]? = w.heap[b]?) : Rr K w' j :=
 ⟨h.le, h0.fn.step h.fn (fun b hl _ => hb b hl) (h0.fn.told.ne h0.var (by decide)) (h0.fn.lst.ne h0.var (by decide)) (h0.fn.en.ne h0.var (by decide)), h.var.keptBy (hb _ h0.var.lt)⟩
theorem Rr.low {K : Rk} {w : World} {j : Nat} (h : Rr K w j) : K.r < w.heap.size ∧ K.bt < w.heap.size := ⟨h.var.lt, h.fn.told.lt⟩
theorem qd7 {K : Rk} {w : World} {j : Nat} (h : Rr K w j) : Rr K (w.alloc (.cells #[.int .u8 0, .int .i64 0, .string ⟨#[]⟩, .slice none 0 0, .int .i64 0, .int .i64 0] 37)) j := h.later (jlow _ _)
theorem fac_num (K : Rk) (w : World) (j : Nat) (HR : Hid (Rr K w j)) (tx : ByteArray) (tn tl tc : Int) (ht : K.g j = ⟨3, tx, tn, tl, tc⟩) (h1 : tx ≠ ⟨⟨[45]⟩⟩) (h2 : tx ≠ ⟨⟨[40]⟩⟩)  (ok : TvOk ⟨3, tx, tn, tl, tc⟩) :
  Calls Tryz.prog 129 #[.pointer (some ⟨K.r, 0, none⟩)] w fun e w' => Gk K w w' ∧ ∃ v, e = .returned v ∧ XF w.heap.size w' v (yNum ⟨3, tx, tn, tl, tc⟩) ∧ Rr K w' (min (j + 1) K.n) := by
 have HT := qa0 (rtake K _ j (qa0 (qd7 HR.out)))
 have hlow := HR.out.low
 have HX0 := qa0 (Vn.new w 37 #[.int .u8 0, .int .i64 0, .string ⟨#[]⟩, .slice none 0 0, .int .i64 0, .int .i64 0])
 have hB0 := jlow w (.cells #[.int .u8 0, .int .i64 0, .string ⟨#[]⟩, .slice none 0 0, .int .i64 0, .int .i64 0] 37)
 have HB0 := qa0 hB0
 clear hB0
 unfold tvq at HT
 rw [ht] at HT
 have hr := hlow.1
 have hbt := hlow.2
 clear hlow
 have q1 := qba h1
 have q2 := qba h2
 go_enter Tryz.func129, Tryz.ntmps129
 go_wp2_with (first
  | (go_at_call 84; refine HT.out.mono ?_; rintro e w1 ⟨rfl, hr1, hg1⟩; have HR1 := qa0 hr1; have HG1 := qa0 hg1; have HX1 := qa0 (HX0.out.keptBy (hg1.block _ HX0.out.lt (by omega) (by omega))); clear hr1 hg1; have hV := Vn.new w1 104 #[.int .u8 3, .string tx, .int .i64 tn, .int .i64 tl, .int .i64 tc]; have m0 := hV.cell 0 (.int .u8 3) rfl; have m1 := hV.cell 1 (.string tx) rfl; have m2 := hV.cell 2 (.int .i64 tn) rfl; have m3 := hV.cell 3 (.int .i64 tl) rfl; have m4 := hV.cell 4 (.int .i64 tc) rfl; clear hV; have HX2 := qa0 (HX1.out.later (jlow w1 (.cells #[.int .u8 3, .string tx, .int .i64 tn, .int .i64 tl, .int .i64 tc] 104))))
  | (refine qa1 rfl 37 _ _ rfl w.heap.size _ #[.int .u8 1, .int .i64 tn, .string ⟨#[]⟩, .slice none 0 0, .int .i64 tl, .int .i64 tc] rfl rfl HX2.out qb9 rfl (qfc rfl rfl rfl rfl rfl rfl) ?_; intro w8 HV8 hg8))
 have d0 := HV8.out.cell 0 (.int .u8 1) rfl
 have d1 := HV8.out.cell 1 (.int .i64 tn) rfl
 have d2 := HV8.out.cell 2 (.string ⟨#[]⟩) rfl
 have d3 := HV8.out.cell 3 (.slice none 0 0) rfl
 have d4 := HV8.out.cell 4 (.int .i64 tl) rfl
 have d5 := HV8.out.cell 5 (.int .i64 tc) rfl
 refine bodyPost_ret (v := .agg #[.int .u8 1, .int .i64 tn, .string ⟨#[]⟩, .slice none 0 0, .int .i64 tl, .int .i64 tc]) (by simp [results, Tryz.results129, go_sem, d0, d1, d2, d3, d4, d5]) rfl ?_
 have z0 := HB0.out.size
 have z1 := HG1.out.size
 have z2 : w1.heap.size ≤ (w1.alloc (.cells #[.int .u8 3, .string tx, .int .i64 tn, .int .i64 tl, .int .i64 tc] 104)).heap.size := (jlow _ _).size
 have hl := HX0.out.lt
 refine ⟨?_, _, rfl, XF.leaf _ _ _ _ _ _ _ ⟨by dsimp only; omega, ok.n1, ok.n2, Nat.zero_le _, Nat.zero_le _⟩ _, HR.out.step HR1.out (fun b hb => ?_)⟩
 ·refine ⟨?_, ?_, ?_, ?_, fun b hb n1 n2 => ?_⟩
  ·rw [hg8.out.os, (jlow _ _).os, HG1.out.os, HB0.out.os]
  ·rw [hg8.out.tape, (jlow _ _).tape, HG1.out.tape, HB0.out.tape]
  ·rw [hg8.out.output, (jlow _ _).output, HG1.out.output, HB0.out.output]
  ·have := hg8.out.size; omega
  ·rw [hg8.out.block b (by omega) (by simp; omega), (jlow _ _).block b (by omega), HG1.out.block b (by omega) n1 n2, HB0.out.block b hb]
 ·rw [hg8.out.block b (by omega) (by simp; omega), (jlow _ _).block b (by omega)]
theorem fac_nam (K : Rk) (w : World) (j : Nat) (HR : Hid (Rr K w j)) (tx : ByteArray) (tn tl tc : Int) (ht : K.g j = ⟨1, tx, tn, tl, tc⟩) (h1 : tx ≠ ⟨⟨[45]⟩⟩) (h2 : tx ≠ ⟨⟨[40]⟩⟩)  (ok : TvOk ⟨1, tx, tn, tl, tc⟩) :
  Calls Tryz.prog 129 #[.pointer (some ⟨K.r, 0, none⟩)] w fun e w' => Gk K w w' ∧ ∃ v, e = .returned v ∧ XF w.heap.size w' v (yNam ⟨1, tx, tn, tl, tc⟩) ∧ Rr K w' (min (j + 1) K.n) := by
 have HT := qa0 (rtake K _ j (qa0 (qd7 HR.out)))
 have hlow := HR.out.low
 have HX0 := qa0 (Vn.new w 37 #[.int .u8 0, .int .i64 0, .string ⟨#[]⟩, .slice none 0 0, .int .i64 0, .int .i64 0])
 have hB0 := jlow w (.cells #[.int .u8 0, .int .i64 0, .string ⟨#[]⟩, .slice none 0 0, .int .i64 0, .int .i64 0] 37)
 have HB0 := qa0 hB0
 clear hB0
 unfold tvq at HT
 rw [ht] at HT
 have hr := hlow.1
 have hbt := hlow.2
 clear hlow
 have q1 := qba h1
 have q2 := qba h2
 go_enter Tryz.func129, Tryz.ntmps129
 go_wp2_with (first
  | (go_at_call 84; refine HT.out.mono ?_; rintro e w1 ⟨rfl, hr1, hg1⟩; have HR1 := qa0 hr1; have HG1 := qa0 hg1; have HX1 := qa0 (HX0.out.keptBy (hg1.block _ HX0.out.lt (by omega) (by omega))); clear hr1 hg1; have hV := Vn.new w1 104 #[.int .u8 1, .string tx, .int .i64 tn, .int .i64 tl, .int .i64 tc]; have m0 := hV.cell 0 (.int .u8 1) rfl; have m1 := hV.cell 1 (.string tx) rfl; have m2 := hV.cell 2 (.int .i64 tn) rfl; have m3 := hV.cell 3 (.int .i64 tl) rfl; have m4 := hV.cell 4 (.int .i64 tc) rfl; clear hV; have HX2 := qa0 (HX1.out.later (jlow w1 (.cells #[.int .u8 1, .string tx, .int .i64 tn, .int .i64 tl, .int .i64 tc] 104))))
  | (refine qa1 rfl 37 _ _ rfl w.heap.size _ #[.int .u8 2, .int .i64 0, .string tx, .slice none 0 0, .int .i64 tl, .int .i64 tc] rfl rfl HX2.out qb9 rfl (qfc rfl rfl rfl rfl rfl rfl) ?_; intro w8 HV8 hg8))
 have d0 := HV8.out.cell 0 (.int .u8 2) rfl
 have d1 := HV8.out.cell 1 (.int .i64 0) rfl
 have d2 := HV8.out.cell 2 (.string tx) rfl
 have d3 := HV8.out.cell 3 (.slice none 0 0) rfl
 have d4 := HV8.out.cell 4 (.int .i64 tl) rfl
 have d5 := HV8.out.cell 5 (.int .i64 tc) rfl
 refine bodyPost_ret (v := .agg #[.int .u8 2, .int .i64 0, .string tx, .slice none 0 0, .int .i64 tl, .int .i64 tc]) (by simp [results, Tryz.results129, go_sem, d0, d1, d2, d3, d4, d5]) rfl ?_
 have z0 := HB0.out.size
 have z1 := HG1.out.size
 have z2 : w1.heap.size ≤ (w1.alloc (.cells #[.int .u8 1, .string tx, .int .i64 tn, .int .i64 tl, .int .i64 tc] 104)).heap.size := (jlow _ _).size
 have hl := HX0.out.lt
 refine ⟨?_, _, rfl, XF.leaf _ _ _ _ _ _ _ ⟨by dsimp only; omega, by dsimp only; omega, by dsimp only; omega, ok.tx47, Nat.zero_le _⟩ _, HR.out.step HR1.out (fun b hb => ?_)⟩
 ·refine ⟨?_, ?_, ?_, ?_, fun b hb n1 n2 => ?_⟩
  ·rw [hg8.out.os, (jlow _ _).os, HG1.out.os, HB0.out.os]
  ·rw [hg8.out.tape, (jlow _ _).tape, HG1.out.tape, HB0.out.tape]
  ·rw [hg8.out.output, (jlow _ _).output, HG1.out.output, HB0.out.output]
  ·have := hg8.out.size; omega
  ·rw [hg8.out.block b (by omega) (by simp; omega), (jlow _ _).block b (by omega), HG1.out.block b (by omega) n1 n2, HB0.out.block b hb]
 ·rw [hg8.out.block b (by omega) (by simp; omega), (jlow _ _).block b (by omega)]
theorem qje (K : Rk) (w : World) (j : Nat) (HR : Hid (Rr K w j)) (tk : Nat) (tx : ByteArray) (tn tl tc : Int) (ht : K.g j = ⟨tk, tx, tn, tl, tc⟩) (h1 : tx ≠ ⟨⟨[45]⟩⟩) (h2 : tx ≠ ⟨⟨[40]⟩⟩) (h3 : tk ≠ 3) (h4 : tk ≠ 1) :
  Calls Tryz.prog 129 #[.pointer (some ⟨K.r, 0, none⟩)] w fun e w' => Gk K w w' ∧ e = mis ⟨tk, tx, tn, tl, tc⟩ := by
 have HT := qa0 (rtake K _ j (qa0 (qd7 HR.out)))
 have hlow := HR.out.low
 have HX0 := qa0 (Vn.new w 37 #[.int .u8 0, .int .i64 0, .string ⟨#[]⟩, .slice none 0 0, .int .i64 0, .int .i64 0])
 have hB0 := jlow w (.cells #[.int .u8 0, .int .i64 0, .string ⟨#[]⟩, .slice none 0 0, .int .i64 0, .int .i64 0] 37)
 have HB0 := qa0 hB0
 clear hB0
 unfold tvq at HT
 rw [ht] at HT
 have hr := hlow.1
 have hbt := hlow.2
 clear hlow
 have q3 : ((tk : Int) == 3) = false := by simp; omega
 have q4 : ((tk : Int) == 1) = false := by simp; omega
 have q1 := qba h1
 have q2 := qba h2
 unfold mis tvq
 go_enter Tryz.func129, Tryz.ntmps129
 go_wp2_with (go_at_call 84; refine HT.out.mono ?_; rintro e w1 ⟨rfl, hr1, hg1⟩; have HR1 := qa0 hr1; have HG1 := qa0 hg1; have HX1 := qa0 (HX0.out.keptBy (hg1.block _ HX0.out.lt (by omega) (by omega))); clear hr1 hg1; have hV := Vn.new w1 104 #[.int .u8 (tk : Int), .string tx, .int .i64 tn, .int .i64 tl, .int .i64 tc]; have m0 := hV.cell 0 (.int .u8 (tk : Int)) rfl; have m1 := hV.cell 1 (.string tx) rfl; have m2 := hV.cell 2 (.int .i64 tn) rfl; have m3 := hV.cell 3 (.int .i64 tl) rfl; have m4 := hV.cell 4 (.int .i64 tc) rfl; clear hV; have HX2 := qa0 (HX1.out.later (jlow w1 (.cells #[.int .u8 (tk : Int), .string tx, .int .i64 tn, .int .i64 tl, .int .i64 tc] 104))))
 exact ⟨rfl, ((Gk.of HB0.out).trans HG1.out).trans (Gk.of (jlow _ _)), rfl⟩
theorem qgm (K : Rk) (w : World) (j : Nat) (HR : Hid (Rr K w j)) (tk : Nat) (tn tl tc : Int) (u : TV) (ht : K.g j = ⟨tk, ⟨⟨[40]⟩⟩, tn, tl, tc⟩)
  (HS : Hid (∀ w', Rr K w' (min (j + 1) K.n) → Calls Tryz.prog 39 #[.pointer (some ⟨K.r, 0, none⟩)] w' fun e w'' => Gk K w' w'' ∧ e = mis u)) :
  Calls Tryz.prog 129 #[.pointer (some ⟨K.r, 0, none⟩)] w fun e w' => Gk K w w' ∧ e = mis u := by
 have HT := qa0 (rtake K _ j (qa0 (qd7 HR.out)))
 have hlow := HR.out.low
 have HX0 := qa0 (Vn.new w 37 #[.int .u8 0, .int .i64 0, .string ⟨#[]⟩, .slice none 0 0, .int .i64 0, .int .i64 0])
 have hB0 := jlow w (.cells #[.int .u8 0, .int .i64 0, .string ⟨#[]⟩, .slice none 0 0, .int .i64 0, .int .i64 0] 37)
 have HB0 := qa0 hB0
 clear hB0
 unfold tvq at HT
 rw [ht] at HT
 have hr := hlow.1
 have hbt := hlow.2
 clear hlow
 unfold mis tvq at *
 go_enter Tryz.func129, Tryz.ntmps129
 go_wp2_with (first
  | (go_at_call 84; refine HT.out.mono ?_; rintro e w1 ⟨rfl, hr1, hg1⟩; have HR1 := qa0 hr1; have HG1 := qa0 hg1; have HX1 := qa0 (HX0.out.keptBy (hg1.block _ HX0.out.lt (by omega) (by omega))); clear hr1 hg1; have hV := Vn.new w1 104 #[.int .u8 (tk : Int), .string ⟨⟨[40]⟩⟩, .int .i64 tn, .int .i64 tl, .int .i64 tc]; have m0 := hV.cell 0 (.int .u8 (tk : Int)) rfl; have m1 := hV.cell 1 (.string ⟨⟨[40]⟩⟩) rfl; have m2 := hV.cell 2 (.int .i64 tn) rfl; have m3 := hV.cell 3 (.int .i64 tl) rfl; have m4 := hV.cell 4 (.int .i64 tc) rfl; clear hV; have HX2 := qa0 (HX1.out.later (jlow w1 (.cells #[.int .u8 (tk : Int), .string ⟨⟨[40]⟩⟩, .int .i64 tn, .int .i64 tl, .int .i64 tc] 104))))
  | (go_at_call 39; refine (HS.out _ (HR1.out.later (jlow _ _))).mono ?_; rintro e w3 ⟨hg3, rfl⟩; have HG3 := qa0 hg3; clear hg3))
 exact ⟨rfl, (((Gk.of HB0.out).trans HG1.out).trans (Gk.of (jlow _ _))).trans HG3.out, rfl⟩
theorem qhy (K : Rk) (w : World) (j : Nat) (HR : Hid (Rr K w j)) (tk : Nat) (tn tl tc : Int) (y : Xt) (j3 : Nat) (ht : K.g j = ⟨tk, ⟨⟨[40]⟩⟩, tn, tl, tc⟩)
  (HS : Hid (∀ w', Rr K w' (min (j + 1) K.n) → Calls Tryz.prog 39 #[.pointer (some ⟨K.r, 0, none⟩)] w' fun e w'' => Gk K w' w'' ∧ ∃ v, e = .returned v ∧ XF w'.heap.size w'' v y ∧ Rr K w'' j3)) :
  Calls Tryz.prog 129 #[.pointer (some ⟨K.r, 0, none⟩)] w fun e w' => Gk K w w' ∧ (if (K.g j3).tx = ⟨⟨[41]⟩⟩ then ∃ v, e = .returned v ∧ XF w.heap.size w' v y ∧ Rr K w' (min (j3 + 1) K.n) else e = mis (K.g j3)) := by
 have HT := qa0 (rtake K _ j (qa0 (qd7 HR.out)))
 have hlow := HR.out.low
 have HX0 := qa0 (Vn.new w 37 #[.int .u8 0, .int .i64 0, .string ⟨#[]⟩, .slice none 0 0, .int .i64 0, .int .i64 0])
 have hB0 := jlow w (.cells #[.int .u8 0, .int .i64 0, .string ⟨#[]⟩, .slice none 0 0, .int .i64 0, .int .i64 0] 37)
 have HB0 := qa0 hB0
 clear hB0
 unfold tvq at HT
 rw [ht] at HT
 have hr := hlow.1
 have hbt := hlow.2
 clear hlow
 obtain ⟨l, HL⟩ : ∃ l, Hid (y [] = l) := ⟨_, rfl⟩
 obtain ⟨k, nn, nm, len, ln, cl⟩ := l
 have z0 := HB0.out.size
 have hl := HX0.out.lt
 by_cases hq : (K.g j3).tx = ⟨⟨[41]⟩⟩
 ·simp only [if_pos hq]
  go_enter Tryz.func129, Tryz.ntmps129
  go_wp2_with (first
   | (go_at_call 84; refine HT.out.mono ?_; rintro e w1 ⟨rfl, hr1, hg1⟩; have HR1 := qa0 hr1; have HG1 := qa0 hg1; have HX1 := qa0 (HX0.out.keptBy (hg1.block _ HX0.out.lt (by omega) (by omega))); clear hr1 hg1; have hV := Vn.new w1 104 #[.int .u8 (tk : Int), .string ⟨⟨[40]⟩⟩, .int .i64 tn, .int .i64 tl, .int .i64 tc]; have m0 := hV.cell 0 (.int .u8 (tk : Int)) rfl; have m1 := hV.cell 1 (.string ⟨⟨[40]⟩⟩) rfl; have m2 := hV.cell 2 (.int .i64 tn) rfl; have m3 := hV.cell 3 (.int .i64 tl) rfl; have m4 := hV.cell 4 (.int .i64 tc) rfl; clear hV; have HX2 := qa0 (HX1.out.later (jlow w1 (.cells #[.int .u8 (tk : Int), .string ⟨⟨[40]⟩⟩, .int .i64 tn, .int .i64 tl, .int .i64 tc] 104))))
   | (go_at_call 39; have z1 := HG1.out.size; have z2 : w1.heap.size ≤ (w1.alloc (.cells #[.int .u8 (tk : Int), .string ⟨⟨[40]⟩⟩, .int .i64 tn, .int .i64 tl, .int .i64 tc] 104)).heap.size := (jlow _ _).size; refine (HS.out _ (HR1.out.later (jlow _ _))).mono ?_; rintro e w3 ⟨hg3, v, rfl, ⟨a, hv, hok, hfr⟩, hr3⟩; rw [HL.out] at hv hok hfr; subst hv; have HG3 := qa0 hg3; have HR3 := qa0 hr3; have HF3 := qa0 hfr; have HO3 := qa0 hok; have HX3 := qa0 (HX2.out.keptBy (hg3.block _ HX2.out.lt (by omega) (by omega))); have HX4 := qa0 (HX3.out.later (jlow w3 (.cells #[.int .u8 (k : Int), .int .i64 nn, .string nm, .slice a len len, .int .i64 ln, .int .i64 cl] 37))); have HY4 := qa0 (Vn.new w3 37 #[.int .u8 (k : Int), .int .i64 nn, .string nm, .slice a len len, .int .i64 ln, .int .i64 cl]); clear hg3 hr3 hfr hok)
   | (go_at_call 121; have z3 := HG3.out.size; have z4 : w3.heap.size + 1 = (w3.alloc (.cells #[.int .u8 (k : Int), .int .i64 nn, .string nm, .slice a len len, .int .i64 ln, .int .i64 cl] 37)).heap.size := (Array.size_push _).symm; refine (rsign K _ j3 ⟨⟨[41]⟩⟩ (qa0 (HR3.out.later (jlow _ _)))).mono ?_; simp only [if_pos hq]; rintro e w5 ⟨⟨rfl, hr5⟩, hg5⟩; have HR5 := qa0 hr5; have HG5 := qa0 hg5; have HX5 := qa0 (HX4.out.keptBy (hg5.block _ HX4.out.lt (by omega) (by omega))); have HY5 := qa0 (HY4.out.keptBy (hg5.block _ HY4.out.lt (by omega) (by omega))); clear hr5 hg5; have y0 := HY5.out.cell 0 (.int .u8 (k : Int)) rfl; have y1 := HY5.out.cell 1 (.int .i64 nn) rfl; have y2 := HY5.out.cell 2 (.string nm) rfl; have y3 := HY5.out.cell 3 (.slice a len len) rfl; have y4 := HY5.out.cell 4 (.int .i64 ln) rfl; have y5 := HY5.out.cell 5 (.int .i64 cl) rfl)
   | (refine qa1 rfl 37 _ _ rfl w.heap.size _ #[.int .u8 (k : Int), .int .i64 nn, .string nm, .slice a len len, .int .i64 ln, .int .i64 cl] rfl rfl HX5.out qb9 rfl (qfc rfl rfl rfl rfl rfl rfl) ?_; intro w8 HV8 hg8))
  have d0 := HV8.out.cell 0 (.int .u8 (k : Int)) rfl
  have d1 := HV8.out.cell 1 (.int .i64 nn) rfl
  have d2 := HV8.out.cell 2 (.string nm) rfl
  have d3 := HV8.out.cell 3 (.slice a len len) rfl
  have d4 := HV8.out.cell 4 (.int .i64 ln) rfl
  have d5 := HV8.out.cell 5 (.int .i64 cl) rfl
  refine bodyPost_ret (v := .agg #[.int .u8 (k : Int), .int .i64 nn, .string nm, .slice a len len, .int .i64 ln, .int .i64 cl]) (by simp [results, Tryz.results129, go_sem, d0, d1, d2, d3, d4, d5]) rfl ?_
  have z5 := HG5.out.size
  have z8 := hg8.out.size
  refine ⟨?_, _, rfl, ⟨a, by rw [HL.out], by rw [HL.out]; exact HO3.out, fun u hu => ?_⟩, HR.out.step HR5.out (fun b hb => hg8.out.block b (by omega) (by simp; omega))⟩
  ·refine ⟨?_, ?_, ?_, by omega, fun b hb n1 n2 => ?_⟩
   ·rw [hg8.out.os, HG5.out.os, (jlow _ _).os, HG3.out.os, (jlow _ _).os, HG1.out.os, HB0.out.os]
   ·rw [hg8.out.tape, HG5.out.tape, (jlow _ _).tape, HG3.out.tape, (jlow _ _).tape, HG1.out.tape, HB0.out.tape]
   ·rw [hg8.out.output, HG5.out.output, (jlow _ _).output, HG3.out.output, (jlow _ _).output, HG1.out.output, HB0.out.output]
   ·rw [hg8.out.block b (by omega) (by simp; omega), HG5.out.block b (by omega) n1 n2, (jlow _ _).block b (by omega), HG3.out.block b (by omega) n1 n2, (jlow _ _).block b (by omega), HG1.out.block b (by omega) n1 n2, HB0.out.block b hb]
  ·rw [HL.out]
   refine XN.weak11 (t := (w1.alloc (.cells #[.int .u8 (tk : Int), .string ⟨⟨[40]⟩⟩, .int .i64 tn, .int .i64 tl, .int .i64 tc] 104)).heap.size) ?_ (by omega)
   exact HF3.out u ((((Ag.of (jlow _ _)).trans (HG5.out.ag (by omega) (by omega))).trans (qhd hg8.out (by omega))).trans (hu.mono (by omega)))
 ·simp only [if_neg hq]
  unfold mis tvq at *
  go_enter Tryz.func129, Tryz.ntmps129
  go_wp2_with (first
   | (go_at_call 84; refine HT.out.mono ?_; rintro e w1 ⟨rfl, hr1, hg1⟩; have HR1 := qa0 hr1; have HG1 := qa0 hg1; have HX1 := qa0 (HX0.out.keptBy (hg1.block _ HX0.out.lt (by omega) (by omega))); clear hr1 hg1; have hV := Vn.new w1 104 #[.int .u8 (tk : Int), .string ⟨⟨[40]⟩⟩, .int .i64 tn, .int .i64 tl, .int .i64 tc]; have m0 := hV.cell 0 (.int .u8 (tk : Int)) rfl; have m1 := hV.cell 1 (.string ⟨⟨[40]⟩⟩) rfl; have m2 := hV.cell 2 (.int .i64 tn) rfl; have m3 := hV.cell 3 (.int .i64 tl) rfl; have m4 := hV.cell 4 (.int .i64 tc) rfl; clear hV; have HX2 := qa0 (HX1.out.later (jlow w1 (.cells #[.int .u8 (tk : Int), .string ⟨⟨[40]⟩⟩, .int .i64 tn, .int .i64 tl, .int .i64 tc] 104))))
   | (go_at_call 39; have z1 := HG1.out.size; have z2 : w1.heap.size ≤ (w1.alloc (.cells #[.int .u8 (tk : Int), .string ⟨⟨[40]⟩⟩, .int .i64 tn, .int .i64 tl, .int .i64 tc] 104)).heap.size := (jlow _ _).size; refine (HS.out _ (HR1.out.later (jlow _ _))).mono ?_; rintro e w3 ⟨hg3, v, rfl, ⟨a, hv, hok, hfr⟩, hr3⟩; rw [HL.out] at hv hok hfr; subst hv; have HG3 := qa0 hg3; have HR3 := qa0 hr3; clear hg3 hr3 hfr hok)
   | (go_at_call 121; refine (rsign K _ j3 ⟨⟨[41]⟩⟩ (qa0 (HR3.out.later (jlow _ _)))).mono ?_; simp only [if_neg hq]; unfold mis tvq; rintro e w5 ⟨rfl, hg5⟩; have HG5 := qa0 hg5; clear hg5))
  exact ⟨rfl, (((((Gk.of HB0.out).trans HG1.out).trans (Gk.of (jlow _ _))).trans HG3.out).trans (Gk.of (jlow _ _))).trans HG5.out, rfl⟩
open Go.RowKit
theorem okx (k len : Nat) (ln cl : Int) (hk : k < 256) (hl : len ≤ 2) : LxOk ⟨k, 0, ⟨#[]⟩, len, ln, cl⟩ := ⟨hk, by dsimp only; omega, by dsimp only; omega, Nat.zero_le _, by dsimp only; omega⟩
theorem qgn (K : Rk) (w : World) (j : Nat) (HR : Hid (Rr K w j)) (tk : Nat) (tn tl tc : Int) (u : TV) (ht : K.g j = ⟨tk, ⟨⟨[45]⟩⟩, tn, tl, tc⟩)
  (HS : Hid (∀ w', Rr K w' (min (j + 1) K.n) → Calls Tryz.prog 129 #[.pointer (some ⟨K.r, 0, none⟩)] w' fun e w'' => Gk K w' w'' ∧ e = mis u)) :
  Calls Tryz.prog 129 #[.pointer (some ⟨K.r, 0, none⟩)] w fun e w' => Gk K w w' ∧ e = mis u := by
 unfold mis tvq at *
 have HT := qa0 (rtake K _ j (qa0 (qd7 HR.out)))
 have hlow := HR.out.low
 have HX0 := qa0 (Vn.new w 37 #[.int .u8 0, .int .i64 0, .string ⟨#[]⟩, .slice none 0 0, .int .i64 0, .int .i64 0])
 have hB0 := jlow w (.cells #[.int .u8 0, .int .i64 0, .string ⟨#[]⟩, .slice none 0 0, .int .i64 0, .int .i64 0] 37)
 have HB0 := qa0 hB0
 clear hB0
 unfold tvq at HT
 rw [ht] at HT
 have hr := hlow.1
 have hbt := hlow.2
 clear hlow
 have z0 := HB0.out.size
 have hl := HX0.out.lt
 go_enter Tryz.func129, Tryz.ntmps129
 go_wp2_with (go_at_call 84; refine HT.out.mono ?_; rintro e w1 ⟨rfl, hr1, hg1⟩; have HR1 := qa0 hr1; have HG1 := qa0 hg1; have HX1 := qa0 (HX0.out.keptBy (hg1.block _ HX0.out.lt (by omega) (by omega))); clear hr1 hg1; have hV := Vn.new w1 104 #[.int .u8 (tk : Int), .string ⟨⟨[45]⟩⟩, .int .i64 tn, .int .i64 tl, .int .i64 tc]; have m0 := hV.cell 0 (.int .u8 (tk : Int)) rfl; have m1 := hV.cell 1 (.string ⟨⟨[45]⟩⟩) rfl; have m2 := hV.cell 2 (.int .i64 tn) rfl; have m3 := hV.cell 3 (.int .i64 tl) rfl; have m4 := hV.cell 4 (.int .i64 tc) rfl; clear hV; have HX2 := qa0 (HX1.out.later (jlow w1 (.cells #[.int .u8 (tk : Int), .string ⟨⟨[45]⟩⟩, .int .i64 tn, .int .i64 tl, .int .i64 tc] 104))))
 clear m0 m1 m2 m3 m4
 refine wp_region_held (S := fun w' => w'.cell? ⟨w1.heap.size, 0, none⟩ = some (.int .u8 (tk : Int)) ∧ w'.cell? ⟨w1.heap.size, 1, none⟩ = some (.string ⟨⟨[45]⟩⟩) ∧ w'.cell? ⟨w1.heap.size, 2, none⟩ = some (.int .i64 tn) ∧ w'.cell? ⟨w1.heap.size, 3, none⟩ = some (.int .i64 tl) ∧ w'.cell? ⟨w1.heap.size, 4, none⟩ = some (.int .i64 tc)) (by kernel_rfl) ?_
 change wpAnyH _ _ _ _ _ _ _ _ (World.drew _)
 obtain ⟨W0, HW0⟩ : ∃ W0, Hid ((w1.alloc (.cells #[.int .u8 (tk : Int), .string ⟨⟨[45]⟩⟩, .int .i64 tn, .int .i64 tl, .int .i64 tc] 104)).drew = W0) := ⟨_, rfl⟩
 have HBd : Hid (Below w1.heap.size w1 W0) := by show Below _ _ _; rw [← HW0.out]; exact (jlow _ _).drew
 have HTk : Hid (Vn W0 w1.heap.size 104 #[.int .u8 (tk : Int), .string ⟨⟨[45]⟩⟩, .int .i64 tn, .int .i64 tl, .int .i64 tc]) := by show Vn _ _ _ _; rw [← HW0.out]; exact (Vn.new w1 _ _).later ((Below.refl _ _).drew)
 have HX3 := qa0 (HX1.out.later HBd.out)
 have HR3 := qa0 (HR1.out.later HBd.out)
 have z1 := HG1.out.size
 have z2 := HTk.out.lt
 rw [HW0.out]
 clear HW0 HX2
 refine wtkq 0 ?vs0_1 rfl (by kernel_rfl) (fun _ _ _ h => h) (by rfl) ?ys0_1 ⟨HTk.out.cell 0 _ rfl, HTk.out.cell 1 _ rfl, HTk.out.cell 2 _ rfl, HTk.out.cell 3 _ rfl, HTk.out.cell 4 _ rfl⟩ ?zs0_1
 case ys0_1 => (intro w hSw; (try dsimp only at hSw); (try obtain ⟨s0, s1, s2, s3, s4⟩ := hSw); go_simp; try with_reducible rfl)
 try simp only [nz1, nz3, Act.put, nz4, nz5, nz6]
 refine wtkq 1 ?vs1_2 rfl (by kernel_rfl) (fun _ _ _ h => h) (by rfl) ?ys1_2 ⟨HTk.out.cell 0 _ rfl, HTk.out.cell 1 _ rfl, HTk.out.cell 2 _ rfl, HTk.out.cell 3 _ rfl, HTk.out.cell 4 _ rfl⟩ ?zs1_2
 case ys1_2 => (intro w hSw; (try dsimp only at hSw); (try obtain ⟨s0, s1, s2, s3, s4⟩ := hSw); go_simp; try with_reducible rfl)
 try simp only [nz1, nz2, nz3, Act.put, nz4, nz5, nz6]
 refine wpAnyH_ready (rs := [2]) (by kernel_rfl) (by simp) ?_
 refine AllReadyH.cons rfl (fun KK hKK => ?_) AllReadyH.nil
 go_simp
 refine (HS.out _ HR3.out).mono ?_
 rintro e w3 ⟨hg3, rfl⟩
 exact ⟨rfl, (((Gk.of HB0.out).trans HG1.out).trans (Gk.of HBd.out)).trans hg3, rfl⟩
theorem qi0 (K : Rk) (w : World) (j : Nat) (HR : Hid (Rr K w j)) (tk : Nat) (tn tl tc : Int) (y : Xt) (j3 : Nat) (ht : K.g j = ⟨tk, ⟨⟨[45]⟩⟩, tn, tl, tc⟩)
  (HS : Hid (∀ w', Rr K w' (min (j + 1) K.n) → Calls Tryz.prog 129 #[.pointer (some ⟨K.r, 0, none⟩)] w' fun e w'' => Gk K w' w'' ∧ ∃ v, e = .returned v ∧ XF w'.heap.size w'' v y ∧ Rr K w'' j3)) :
  Calls Tryz.prog 129 #[.pointer (some ⟨K.r, 0, none⟩)] w fun e w' => Gk K w w' ∧ ∃ v, e = .returned v ∧ XF w.heap.size w' v (yNeg ⟨tk, ⟨⟨[45]⟩⟩, tn, tl, tc⟩ y) ∧ Rr K w' j3 := by
 have HT := qa0 (rtake K _ j (qa0 (qd7 HR.out)))
 have hlow := HR.out.low
 have HX0 := qa0 (Vn.new w 37 #[.int .u8 0, .int .i64 0, .string ⟨#[]⟩, .slice none 0 0, .int .i64 0, .int .i64 0])
 have hB0 := jlow w (.cells #[.int .u8 0, .int .i64 0, .string ⟨#[]⟩, .slice none 0 0, .int .i64 0, .int .i64 0] 37)
 have HB0 := qa0 hB0
 clear hB0
 unfold tvq at HT
 rw [ht] at HT
 have hr := hlow.1
 have hbt := hlow.2
 clear hlow
 have z0 := HB0.out.size
 have hl := HX0.out.lt
 go_enter Tryz.func129, Tryz.ntmps129
 go_wp2_with (go_at_call 84; refine HT.out.mono ?_; rintro e w1 ⟨rfl, hr1, hg1⟩; have HR1 := qa0 hr1; have HG1 := qa0 hg1; have HX1 := qa0 (HX0.out.keptBy (hg1.block _ HX0.out.lt (by omega) (by omega))); clear hr1 hg1; have hV := Vn.new w1 104 #[.int .u8 (tk : Int), .string ⟨⟨[45]⟩⟩, .int .i64 tn, .int .i64 tl, .int .i64 tc]; have m0 := hV.cell 0 (.int .u8 (tk : Int)) rfl; have m1 := hV.cell 1 (.string ⟨⟨[45]⟩⟩) rfl; have m2 := hV.cell 2 (.int .i64 tn) rfl; have m3 := hV.cell 3 (.int .i64 tl) rfl; have m4 := hV.cell 4 (.int .i64 tc) rfl; clear hV; have HX2 := qa0 (HX1.out.later (jlow w1 (.cells #[.int .u8 (tk : Int), .string ⟨⟨[45]⟩⟩, .int .i64 tn, .int .i64 tl, .int .i64 tc] 104))))
 clear m0 m1 m2 m3 m4
 refine wp_region_held (S := fun w' => w'.cell? ⟨w1.heap.size, 0, none⟩ = some (.int .u8 (tk : Int)) ∧ w'.cell? ⟨w1.heap.size, 1, none⟩ = some (.string ⟨⟨[45]⟩⟩) ∧ w'.cell? ⟨w1.heap.size, 2, none⟩ = some (.int .i64 tn) ∧ w'.cell? ⟨w1.heap.size, 3, none⟩ = some (.int .i64 tl) ∧ w'.cell? ⟨w1.heap.size, 4, none⟩ = some (.int .i64 tc)) (by kernel_rfl) ?_
 change wpAnyH _ _ _ _ _ _ _ _ (World.drew _)
 obtain ⟨W0, HW0⟩ : ∃ W0, Hid ((w1.alloc (.cells #[.int .u8 (tk : Int), .string ⟨⟨[45]⟩⟩, .int .i64 tn, .int .i64 tl, .int .i64 tc] 104)).drew = W0) := ⟨_, rfl⟩
 have HBd : Hid (Below w1.heap.size w1 W0) := by show Below _ _ _; rw [← HW0.out]; exact (jlow _ _).drew
 have HTk : Hid (Vn W0 w1.heap.size 104 #[.int .u8 (tk : Int), .string ⟨⟨[45]⟩⟩, .int .i64 tn, .int .i64 tl, .int .i64 tc]) := by show Vn _ _ _ _; rw [← HW0.out]; exact (Vn.new w1 _ _).later ((Below.refl _ _).drew)
 have HX3 := qa0 (HX1.out.later HBd.out)
 have HR3 := qa0 (HR1.out.later HBd.out)
 have z1 := HG1.out.size
 have z2 := HTk.out.lt
 rw [HW0.out]
 clear HW0 HX2
 refine wtkq 0 ?vs0_3 rfl (by kernel_rfl) (fun _ _ _ h => h) (by rfl) ?ys0_3 ⟨HTk.out.cell 0 _ rfl, HTk.out.cell 1 _ rfl, HTk.out.cell 2 _ rfl, HTk.out.cell 3 _ rfl, HTk.out.cell 4 _ rfl⟩ ?zs0_3
 case ys0_3 => (intro w hSw; (try dsimp only at hSw); (try obtain ⟨s0, s1, s2, s3, s4⟩ := hSw); go_simp; try with_reducible rfl)
 try simp only [nz1, nz3, Act.put, nz4, nz5, nz6]
 refine wtkq 1 ?vs1_4 rfl (by kernel_rfl) (fun _ _ _ h => h) (by rfl) ?ys1_4 ⟨HTk.out.cell 0 _ rfl, HTk.out.cell 1 _ rfl, HTk.out.cell 2 _ rfl, HTk.out.cell 3 _ rfl, HTk.out.cell 4 _ rfl⟩ ?zs1_4
 case ys1_4 => (intro w hSw; (try dsimp only at hSw); (try obtain ⟨s0, s1, s2, s3, s4⟩ := hSw); go_simp; try with_reducible rfl)
 try simp only [nz1, nz2, nz3, Act.put, nz4, nz5, nz6]
 obtain ⟨l, HL⟩ : ∃ l, Hid (y [] = l) := ⟨_, rfl⟩
 obtain ⟨k, nn, nm, len, ln, cl⟩ := l
 refine wpAnyH_ready (rs := [2]) (by kernel_rfl) (by simp) ?_
 refine AllReadyH.cons rfl (fun KK hKK => ?_) AllReadyH.nil
 go_simp
 refine (HS.out _ HR3.out).mono ?_
 rintro e w3 ⟨hg3, v, rfl, hxf, hr3⟩
 obtain ⟨a, hv, hok, hfr⟩ := id hxf
 rw [HL.out] at hv
 have HV := qa0 hv
 have HF3 := qa0 hxf
 have HG3 := qa0 hg3
 have HR4 := qa0 hr3
 have HT4 := qa0 (HTk.out.keptBy (hg3.block _ HTk.out.lt (by omega) (by omega)))
 have HX4 := qa0 (HX3.out.keptBy (hg3.block _ HX3.out.lt (by omega) (by omega)))
 clear hg3 hxf hr3 hok hfr
 subst hv
 refine hKK.out _ _ ⟨HT4.out.cell 0 _ rfl, HT4.out.cell 1 _ rfl, HT4.out.cell 2 _ rfl, HT4.out.cell 3 _ rfl, HT4.out.cell 4 _ rfl⟩ (fun _ => ?_)
 clear hKK KK
 refine wpAnyH_ready (rs := [3]) (by kernel_rfl) (by simp) ?_
 refine AllReadyH.cons rfl (fun KK hKK => ?_) AllReadyH.nil
 refine wp_bx1 _ rfl #[.int .u8 (k : Int), .int .i64 nn, .string nm, .slice a len len, .int .i64 ln, .int .i64 cl] rfl rfl ?_
 have HT5 := qa0 (HT4.out.later (jlow w3 (.cells #[.int .u8 (k : Int), .int .i64 nn, .string nm, .slice a len len, .int .i64 ln, .int .i64 cl] 37)))
 have HX5 := qa0 (HX4.out.later (jlow w3 (.cells #[.int .u8 (k : Int), .int .i64 nn, .string nm, .slice a len len, .int .i64 ln, .int .i64 cl] 37)))
 refine hKK.out _ _ ⟨HT5.out.cell 0 _ rfl, HT5.out.cell 1 _ rfl, HT5.out.cell 2 _ rfl, HT5.out.cell 3 _ rfl, HT5.out.cell 4 _ rfl⟩ (fun _ => ?_)
 clear hKK KK
 try simp only [nz1, nz2, nz3, Act.put, nz4, nz5, nz6]
 refine wpAnyH_ready (rs := [4]) (by kernel_rfl) (by simp) ?_
 refine AllReadyH.cons rfl (fun KK hKK => ?_) AllReadyH.nil
 go_simp
 have HJ := rjoined (w3.alloc (.cells #[.int .u8 (k : Int), .int .i64 nn, .string nm, .slice a len len, .int .i64 ln, .int .i64 cl] 37)) 3 ⟨tk, ⟨⟨[45]⟩⟩, tn, tl, tc⟩ (some ⟨w3.heap.size, 0, none⟩) 1 1
 unfold tvq at HJ
 refine HJ.mono ?_
 rintro e w6 ⟨rfl, hb6⟩
 have HB6 := qa0 hb6
 have HT6 := qa0 (HT5.out.later hb6)
 have HX6 := qa0 (HX5.out.later hb6)
 clear hb6 HJ
 refine hKK.out _ _ ⟨HT6.out.cell 0 _ rfl, HT6.out.cell 1 _ rfl, HT6.out.cell 2 _ rfl, HT6.out.cell 3 _ rfl, HT6.out.cell 4 _ rfl⟩ (fun _ => ?_)
 clear hKK KK
 refine wpAnyH_ready (rs := [5]) (by kernel_rfl) (by simp) ?_
 refine AllReadyH.cons rfl (fun KK hKK => ?_) AllReadyH.nil
 refine qa9 37 _ _ rfl w.heap.size _ #[.int .u8 3, .int .i64 0, .string ⟨#[]⟩, .slice (some ⟨w3.heap.size, 0, none⟩) 1 1, .int .i64 tl, .int .i64 tc] rfl rfl HX6.out qb9 rfl (qfc rfl rfl rfl rfl rfl rfl) ?_
 intro w8 HV8 hg8
 have HT8 := qa0 (HT6.out.keptG hg8.out (by simp; omega))
 refine hKK.out _ _ ⟨HT8.out.cell 0 _ rfl, HT8.out.cell 1 _ rfl, HT8.out.cell 2 _ rfl, HT8.out.cell 3 _ rfl, HT8.out.cell 4 _ rfl⟩ (fun _ => ?_)
 clear hKK KK
 refine wpAnyH_done (by kernel_rfl) ?_ _
 go_wp2
 have d0 := HV8.out.cell 0 (.int .u8 3) rfl
 have d1 := HV8.out.cell 1 (.int .i64 0) rfl
 have d2 := HV8.out.cell 2 (.string ⟨#[]⟩) rfl
 have d3 := HV8.out.cell 3 (.slice (some ⟨w3.heap.size, 0, none⟩) 1 1) rfl
 have d4 := HV8.out.cell 4 (.int .i64 tl) rfl
 have d5 := HV8.out.cell 5 (.int .i64 tc) rfl
 refine bodyPost_ret (v := .agg #[.int .u8 3, .int .i64 0, .string ⟨#[]⟩, .slice (some ⟨w3.heap.size, 0, none⟩) 1 1, .int .i64 tl, .int .i64 tc]) (by simp [results, Tryz.results129, go_sem, d0, d1, d2, d3, d4, d5]) rfl ?_
 have z3 := HG3.out.size
 have z4 : w3.heap.size + 1 = (w3.alloc (.cells #[.int .u8 (k : Int), .int .i64 nn, .string nm, .slice a len len, .int .i64 ln, .int .i64 cl] 37)).heap.size := (Array.size_push _).symm
 have z6 := HB6.out.size
 have z8 := hg8.out.size
 have zd := HBd.out.size
 refine ⟨?_, _, rfl, ⟨some ⟨w3.heap.size, 0, none⟩, rfl, okx 3 1 tl tc (by omega) (by omega), fun u hu => ?_⟩, HR.out.step HR4.out (fun b hb => ?_)⟩
 ·refine ⟨?_, ?_, ?_, by omega, fun b hb n1 n2 => ?_⟩
  ·rw [hg8.out.os, HB6.out.os, (jlow _ _).os, HG3.out.os, HBd.out.os, HG1.out.os, HB0.out.os]
  ·rw [hg8.out.tape, HB6.out.tape, (jlow _ _).tape, HG3.out.tape, HBd.out.tape, HG1.out.tape, HB0.out.tape]
  ·rw [hg8.out.output, HB6.out.output, (jlow _ _).output, HG3.out.output, HBd.out.output, HG1.out.output, HB0.out.output]
  ·rw [hg8.out.block b (by omega) (by simp; omega), HB6.out.block b (by omega), (jlow _ _).block b (by omega), HG3.out.block b (by omega) n1 n2, HBd.out.block b (by omega), HG1.out.block b (by omega) n1 n2, HB0.out.block b hb]
 ·refine XN.weak11 (t := W0.heap.size) ?_ (by omega)
  exact (xn_one HF3.out rfl z3 (kid (yNeg ⟨tk, ⟨⟨[45]⟩⟩, tn, tl, tc⟩ y)) rfl) u (((Ag.of HB6.out).trans (qhd hg8.out (by omega))).trans (hu.mono (by omega)))
 ·rw [hg8.out.block b (by omega) (by simp; omega), HB6.out.block b (by omega), (jlow _ _).block b (by omega)]
open Go.RowKit
def FacC (K : Rk) (n : Nat) : Prop := ∀ x w j, Rr K w j → 4 * (K.n - j) + 1 ≤ n → Calls Tryz.prog 129 #[.pointer (some ⟨K.r, 0, none⟩)] w (RX K w (px n 0 x (lst K j)))
def SumC (K : Rk) (n : Nat) : Prop := ∀ x w j, Rr K w j → 4 * (K.n - j) + 3 ≤ n → Calls Tryz.prog 39 #[.pointer (some ⟨K.r, 0, none⟩)] w (RX K w (px n 3 x (lst K j)))
theorem rfac (K : Rk) (hK : RkOk K) (n : Nat) (h0 : FacC K n) (h3 : SumC K n) : FacC K (n + 1) := by
 intro x w j hR hn
 have hle := hR.le
 obtain ⟨⟨tk, tx, tn, tl, tc⟩, ht⟩ : ∃ t, K.g j = t := ⟨_, rfl⟩
 have hok := hK.ok j hle
 rw [ht] at hok
 rcases Nat.lt_or_ge j K.n with hj | hj
 ·have hm : min (j + 1) K.n = j + 1 := by omega
  have hlen := qan K (j + 1)
  rw [qaa K hj, qcw, ht]
  by_cases c1 : tx = ⟨#[45]⟩
  ·rw [if_pos c1]
   subst c1
   have hC : ∀ w', Rr K w' (min (j + 1) K.n) → Calls Tryz.prog 129 #[.pointer (some ⟨K.r, 0, none⟩)] w' (RX K w' (px n 0 x (lst K (j + 1)))) := fun w' hr => by
    rw [hm] at hr
    exact h0 x w' (j + 1) hr (by omega)
   cases hq : px n 0 x (lst K (j + 1)) with
   | error s =>
    rw [hq] at hC
    exact (qgn K w j hR tk tn tl tc (K.g (K.n - s.length)) ht hC).mono (fun e w' h => h)
   | ok p =>
    obtain ⟨y, s⟩ := p
    rw [hq] at hC
    exact (qi0 K w j hR tk tn tl tc y (K.n - s.length) ht hC).mono (fun e w' h => h)
  rw [if_neg c1]
  by_cases c2 : tx = ⟨#[40]⟩
  ·rw [if_pos c2]
   subst c2
   have hC : ∀ w', Rr K w' (min (j + 1) K.n) → Calls Tryz.prog 39 #[.pointer (some ⟨K.r, 0, none⟩)] w' (RX K w' (px n 3 x (lst K (j + 1)))) := fun w' hr => by
    rw [hm] at hr
    exact h3 x w' (j + 1) hr (by omega)
   have hsuf := (qeu n).2.2.2.1 x (lst K (j + 1))
   cases hq : px n 3 x (lst K (j + 1)) with
   | error s =>
    rw [hq] at hC
    exact (qgm K w j hR tk tn tl tc (K.g (K.n - s.length)) ht hC).mono (fun e w' h => h)
   | ok p =>
    obtain ⟨y, s⟩ := p
    rw [hq] at hC hsuf
    have hs := qaw K _ (j + 1) rfl hsuf
    refine (qhy K w j hR tk tn tl tc y (K.n - s.length) ht hC).mono (fun e w' h => ⟨h.1, ?_⟩)
    have h2 := h.2
    rw [qa4]
    cases hs' : s with
    | nil =>
     rw [hs'] at h2
     rw [show K.n - ([] : List TV).length = K.n by simp, if_neg (by rw [hK.et]; exact fun h => by cases h)] at h2
     exact h2
    | cons u r =>
     rw [hs'] at h2 hs
     have hl : (u :: r).length = r.length + 1 := rfl
     have hb : r.length + 1 ≤ K.n - (j + 1) := by
      have := hsuf.length_le
      rw [hs', hl, hlen] at this
      exact this
     rw [hl] at h2 hs
     rw [qaa K (by omega)] at hs
     have hu : u = K.g (K.n - (r.length + 1)) := (List.cons.inj hs).1
     rw [qbr, hu]
     by_cases c3 : (K.g (K.n - (r.length + 1))).tx = ⟨#[41]⟩
     ·rw [if_pos c3]
      rw [if_pos c3, show min (K.n - (r.length + 1) + 1) K.n = K.n - r.length by omega] at h2
      exact h2
     ·rw [if_neg c3]
      rw [if_neg c3] at h2
      exact h2
  rw [if_neg c2]
  by_cases c3 : tk = 3
  ·rw [if_pos c3]
   subst c3
   refine (fac_num K w j hR tx tn tl tc ht c1 c2 hok).mono (fun e w' h => ⟨h.1, ?_⟩)
   have h2 := h.2
   rw [show min (j + 1) K.n = K.n - (lst K (j + 1)).length by omega] at h2
   exact h2
  rw [if_neg c3]
  by_cases c4 : tk = 1
  ·rw [if_pos c4]
   subst c4
   refine (fac_nam K w j hR tx tn tl tc ht c1 c2 hok).mono (fun e w' h => ⟨h.1, ?_⟩)
   have h2 := h.2
   rw [show min (j + 1) K.n = K.n - (lst K (j + 1)).length by omega] at h2
   exact h2
  rw [if_neg c4]
  refine (qje K w j hR tk tx tn tl tc ht c1 c2 c3 c4).mono (fun e w' h => ⟨h.1, ?_⟩)
  have h2 := h.2
  show e = mis (K.g (K.n - (lst K (j + 1)).length.succ))
  rw [show K.n - (lst K (j + 1)).length.succ = j by omega, ht]
  exact h2
 ·have e : j = K.n := by omega
  have ek := hK.ek
  have et := hK.et
  rw [← e, ht] at ek et
  dsimp only at ek et
  rw [qbl K hj, qix]
  refine (qje K w j hR tk tx tn tl tc ht (by rw [et]; exact fun h => by cases h) (by rw [et]; exact fun h => by cases h) (by omega) (by omega)).mono (fun e' w' h => ⟨h.1, ?_⟩)
  show e' = mis (K.g (K.n - 0))
  rw [Nat.sub_zero, ← e, ht]
  exact h.2
open Go.RowKit
structure Ax (s x : Nat) (w v : World) : Prop where
 size : w.heap.size ≤ v.heap.size
 same : ∀ b, s ≤ b → b ≠ x → b < w.heap.size → v.heap[b]? = w.heap[b]?
theorem Ax.refl (s x : Nat) (w : World) : Ax s x w w := ⟨Nat.le_refl _, fun _ _ _ _ => rfl⟩
theorem Ax.trans {s x : Nat} {w v u : World} (h : Ax s x w v) (g : Ax s x v u) : Ax s x w u := ⟨Nat.le_trans h.size g.size, fun b hb hx hl => by rw [g.same b hb hx (Nat.lt_of_lt_of_le hl h.size), h.same b hb hx hl]⟩
theorem Ax.of {s x : Nat} {w v : World} (h : Below w.heap.size w v) : Ax s x w v := ⟨h.size, fun b _ _ hb => h.block b hb⟩
theorem Ax.gk {K : Rk} {s x : Nat} {w v : World} (h : Gk K w v) (h1 : K.r < s) (h2 : K.bt < s) : Ax s x w v := ⟨h.size, fun b hb _ hl => h.block b hl (by omega) (by omega)⟩
theorem Ax.grown {s x b : Nat} {w v : World} (h : w.grownBy v (some b)) (hb : b = x ∨ b < s) : Ax s x w v := ⟨h.size, fun c hc hx hl => h.block c hl (fun e => by cases e; omega)⟩
theorem Ag.ax {s x : Nat} {w v : World} (h : Ag s w v) : Ax s x w v := ⟨h.size, fun b hb _ hl => h.same b hb hl⟩
def XG (s x : Nat) (w : World) (v : Value) (T : Xt) : Prop := ∃ a, v = .agg #[.int .u8 ((T []).k : Int), .int .i64 (T []).n, .string (T []).nm, .slice a (T []).len (T []).len, .int .i64 (T []).ln, .int .i64 (T []).cl] ∧ LxOk (T []) ∧ ∀ u, Ax s x w u → XN s u a (T []).len (kid T)
theorem XG.step {s x : Nat} {w w' : World} {v : Value} {T : Xt} (h : XG s x w v T) (g : Ax s x w w') : XG s x w' v T := by
 obtain ⟨a, e, ok, hf⟩ := h
 exact ⟨a, e, ok, fun u hu => hf u (g.trans hu)⟩
theorem XG.xf {s x : Nat} {w : World} {v : Value} {T : Xt} (h : XG s x w v T) : XF s w v T := by
 obtain ⟨a, e, ok, hf⟩ := h
 exact ⟨a, e, ok, fun u hu => hf u hu.ax⟩
theorem XF.before {s x : Nat} {w : World} {v : Value} {T : Xt} (h : XF s w v T) (hx : w.heap.size ≤ x) : XG s x w v T := by
 obtain ⟨a, e, ok, hf⟩ := h
 exact ⟨a, e, ok, fun u hu => hf u ⟨hu.size, fun b hb hl => hu.same b hb (by omega) hl⟩⟩
theorem XF.behind {s t x : Nat} {w : World} {v : Value} {T : Xt} (h : XF t w v T) (hst : s ≤ t) (hx : x < t) : XG s x w v T := by
 obtain ⟨a, e, ok, hf⟩ := h
 exact ⟨a, e, ok, fun u hu => (hf u ⟨hu.size, fun b hb hl => hu.same b (by omega) (by omega) hl⟩).weak11 hst⟩
theorem xg_two {s x : Nat} {w : World} {v u : Value} {T U : Xt} {cs ds : Array Value} (h : XG s x w v T) (g : XG s x w u U) (e : v = .agg cs) (e' : u = .agg ds) (hs : s ≤ w.heap.size) (hx : x < w.heap.size) (F : Nat → Xt) (hF : F 0 = T) (hG : F 1 = U) (q : World) (hq : Ax s x (w.alloc (.cells (cs ++ ds) 37)) q) : XN s q (some ⟨w.heap.size, 0, none⟩) 2 F := by
 have hx1 := ((h.step (Ax.of (jlow w (.cells (cs ++ ds) 37)))).step hq)
 have hy1 := ((g.step (Ax.of (jlow w (.cells (cs ++ ds) 37)))).step hq)
 have hv : Vn q w.heap.size 37 (cs ++ ds) := (Vn.new w _ (cs ++ ds)).keptBy (hq.same _ hs (by omega) (Vn.new w _ (cs ++ ds)).lt)
 have hX := hx1.xf.xv
 have hY := hy1.xf.xv
 have hc : cs.size = 6 := by
  obtain ⟨a, e1, _⟩ := h
  rw [e] at e1
  cases e1
  rfl
 have hd : ds.size = 6 := by
  obtain ⟨a, e1, _⟩ := g
  rw [e'] at e1
  cases e1
  rfl
 rw [e] at hX
 rw [e'] at hY
 refine xn_of hv hs (by rw [Array.size_append, hc, hd]) (fun j hj => ?_)
 have hj2 : j = 0 ∨ j = 1 := by omega
 rcases hj2 with rfl | rfl
 ·rw [hF]
  refine ⟨cs.toList, by simpa using hc, fun p y hp => ?_, by simpa using hX⟩
  have hp2 : cs[p]? = some y := by simpa using hp
  have hlt : p < cs.size := by
   rcases Nat.lt_or_ge p cs.size with h | h
   ·exact h
   ·rw [Array.getElem?_eq_none h] at hp2; cases hp2
  rw [Nat.zero_mul, Nat.zero_add, Array.getElem?_append_left hlt]
  exact hp2
 ·rw [hG]
  refine ⟨ds.toList, by simpa using hd, fun p y hp => ?_, by simpa using hY⟩
  have hp2 : ds[p]? = some y := by simpa using hp
  rw [Array.getElem?_append_right (by omega), hc, show 1 * 6 + p - 6 = p by omega]
  exact hp2
end Go.Proofs.YtnjcpmkfghcogaaGreatDoor
