/-
  Contracts of the program's build: numbers, elements, isTall, areCounts.
  Contracts of the program's build: writePowers, Vandermonde.
-/
import Derived.Test.YtnfbbddoaeofgaaGreatQssms00
import Derived.Test.YtnfbbddoaeofgaaGreatQssms23
import Derived.Test.YtnfbbddoaeofgaaGreatQssms14
set_option maxRecDepth 100000
set_option maxHeartbeats 16000000
namespace Go.Proofs.YtnfbbddoaeofgaaGreat
open Go.RowKit
theorem qef (w : World) (f t n : Nat) (HN : Hid (f + n = t)) (ht : t ≤ 1000) :
  Calls Tryz.prog 112 #[.int .i64 (f : Int), .int .i64 (t : Int)] w fun e w' => ∃ s d, e = .returned (.slice s n d) ∧ Oi w' w.heap.size (.slice s n d) n (fun i => f + i) ∧ Below w.heap.size w w' := by
 obtain ⟨i0, hi0, hz0, hz1, hz2⟩ := info_parts infoI
 have hn := HN.out
 have hml : n ≤ maxLen := by unfold maxLen; omega
 have e0 : IntKind.i64.wrap ((t : Int) - (f : Int)) = (n : Int) := by rw [IntKind.wrap_i64]; omega
 go_enter Tryz.func112, Tryz.ntmps112
 go_wp2_with (at_make; refine wpList_make_own _ rfl _ _ 51 rfl w.heap.size 3 i0 (.int .i64 0) 1 Tryz.underlying51 hi0 hz0 hz1 .i64 .i64 _ n rfl rfl rfl (by rw [hz2]; omega) hml (Nat.le_refl _) ?_; intro w1 hown hgrow; have HO : Hid (Oi w1 w.heap.size (.slice (some ⟨w.heap.size, 0, none⟩) 0 n) 0 (fun i => f + i)) := (by { show World.ownsRow _ _ _ _ _ _ _; simpa [irow] using hown }); have HB : Hid (Below w.heap.size w w1) := qa7.mp hgrow; clear hown hgrow)
 go_loopw [5, 6] (fun sv sj wr => ∃ j : Nat, sj = .int .i64 ((f + j : Nat) : Int) ∧ j ≤ n ∧ Hid (Oi wr w.heap.size sv j (fun i => f + i)) ∧ Hid (Below w.heap.size w wr)) (fun _ sj _ => t - (intOf sj).toNat)
 case atStart => exact ⟨0, rfl, by omega, HO, HB⟩
 case round =>
  clear HO HB
  obtain ⟨j, rfl, hjc, HO, HB⟩ := hrel
  obtain ⟨fs, fd, rfl, _⟩ := HO.out.form
  obtain ⟨p, HP⟩ : ∃ p, Hid (f + j = p) := ⟨_, rfl⟩
  have hp := HP.out
  rw [hp]
  by_cases hlt : p < t
  ·have hml2 : j + 1 ≤ maxLen := by unfold maxLen; omega
   have hsz : w.heap.size ≤ wr.heap.size := HB.out.size
   go_wp2_with (at_builtin; refine wpList_append_own _ rfl _ _ 51 rfl w.heap.size 3 i0 (.int .i64 0) 1 8 Tryz.underlying51 hi0 hz0 hz1 hz2 rfl (by decide) _ j _ rfl (World.ownsRow.alloc HO.out _) ⟨wr.heap.size, 0, none⟩ 1 1 [.int .i64 (p : Int)] rfl rfl (qe5 _ _ _) (qe6 _) hml2 (by omega) (by simp; omega) ?_; intro v3 w3 hown3 hgrow3 _; have HO3 : Hid (w3.ownsRow w.heap.size 3 1 v3 (j + 1) ((irow j (fun i => f + i)).toList ++ [.int .i64 (p : Int)])) := hown3; have HG3 : Hid ((wr.alloc (.cells #[.int .i64 (p : Int)] 3)).grownBy w3 (Value.slice fs j fd).ownBlock) := hgrow3; clear hown3 hgrow3)
   refine ⟨⟨j + 1, by rw [← Nat.add_assoc, hp]; go_num, by omega, ?_, ?_⟩, by simp [intOf]; omega⟩
   ·have h3 := HO3.out
    rw [qca] at h3
    exact Oi.congr (f := fun i => if i = j then p else f + i) h3 (fun u _ => by
     by_cases e : u = j
     ·rw [if_pos e, e, hp]
     ·rw [if_neg e])
   ·have h3 := HG3.out
    have hal := qa2 HB.out (qa1 wr (.cells #[.int .i64 (p : Int)] 3))
    cases hv : (Value.slice fs j fd).ownBlock with
    | none => rw [hv] at h3; exact qa2 hal (qa7.mp h3)
    | some g => rw [hv] at h3; exact qa4 hal h3 (HO.out.base hv).1
  ·obtain rfl : j = n := by omega
   go_wp2
   go_ret
   exact ⟨fs, fd, rfl, HO.out, HB.out⟩
theorem qgd (w : World) (f t n : Nat) (HN : Hid (f + n = t)) (ht : t ≤ 64) :
  Calls Tryz.prog 79 #[.int .i64 (f : Int), .int .i64 (t : Int)] w fun e w' => ∃ s d, e = .returned (.slice s n d) ∧ Ob w' w.heap.size (.slice s n d) n (fun i => f + i) ∧ Below w.heap.size w w' := by
 obtain ⟨i0, hi0, hz0, hz1, hz2⟩ := info_parts qff
 have hn := HN.out
 have hml : n ≤ maxLen := by unfold maxLen; omega
 have ht2 : t ≤ 1000 := by omega
 have e0 : IntKind.i64.wrap ((t : Int) - (f : Int)) = (n : Int) := by rw [IntKind.wrap_i64]; omega
 go_enter Tryz.func79, Tryz.ntmps79
 go_wp2_with (first
  | (at_make; refine wpList_make_own _ rfl _ _ 22 rfl w.heap.size 5 i0 (.int .u8 0) 1 Tryz.underlying22 hi0 hz0 hz1 .i64 .i64 _ n rfl rfl rfl (by rw [hz2]; omega) hml (Nat.le_refl _) ?_; intro w1 hown hgrow; have HO : Hid (Ob w1 w.heap.size (.slice (some ⟨w.heap.size, 0, none⟩) 0 n) 0 (fun i => f + i)) := (by { show World.ownsRow _ _ _ _ _ _ _; rw [qet]; exact hown }); have HB : Hid (Below w.heap.size w w1) := qa7.mp hgrow; clear hown hgrow)
  | (go_at_call 112; refine (qef _ f t n HN ht2).mono ?_; rintro e w2 ⟨s2, d2, rfl, ho2, hb2⟩; have HO2 : Hid (Oi w2 w1.heap.size (.slice s2 n d2) n (fun i => f + i)) := ho2; have HO1 : Hid (Ob w2 w.heap.size (.slice (some ⟨w.heap.size, 0, none⟩) 0 n) 0 (fun i => f + i)) := HO.out.later hb2; have HB2 : Hid (Below w.heap.size w w2) := qa2 HB.out hb2; have h01 : w.heap.size < w1.heap.size := (HO.out.base rfl).2; clear ho2 hb2))
 go_loopw [5, 16] (fun sv sj wr => ∃ j : Nat, sj = .int .i64 (j : Int) ∧ sv = .slice (some ⟨w.heap.size, 0, none⟩) j n ∧ j ≤ n ∧ Hid (Ob wr w.heap.size (.slice (some ⟨w.heap.size, 0, none⟩) j n) j (fun i => f + i)) ∧ Hid (Below w.heap.size w wr) ∧ Hid (Oi wr w1.heap.size (.slice s2 n d2) n (fun i => f + i))) (fun _ sj _ => n - (intOf sj).toNat)
 case atStart => exact ⟨0, rfl, rfl, by omega, HO1, HB2, HO2⟩
 case round =>
  clear HO HB HO1 HB2 HO2
  obtain ⟨j, rfl, rfl, hjc, HO, HB, HI⟩ := hrel
  by_cases hlt : j < n
  ·obtain ⟨p, HP⟩ : ∃ p, Hid (f + j = p) := ⟨_, rfl⟩
   have hp := HP.out
   obtain ⟨bi, oi, ei, hci⟩ := HI.out.il j hlt
   subst ei
   dsimp only at hci
   rw [hp] at hci
   have w3' : IntKind.u8.wrap (p : Int) = (p : Int) := by rw [IntKind.wrap_u8]; omega
   have hml2 : j + 1 ≤ maxLen := by unfold maxLen; omega
   have hj1 : j + 1 ≤ n := hlt
   have hsz : w.heap.size ≤ wr.heap.size := HB.out.size
   have q0 : (0 : Int) ≤ (j : Int) := by omega
   have q1 : (j : Int) < (n : Int) := by omega
   go_wp2_with (at_builtin; refine wpList_append_fits _ rfl _ _ 22 rfl w.heap.size 5 i0 1 Tryz.underlying22 hi0 hz1 w.heap.size j n _ rfl (World.ownsRow.alloc HO.out _) ⟨wr.heap.size, 0, none⟩ 1 1 [.int .u8 (p : Int)] rfl rfl (qhx _ _ p) (one_one p) hj1 ?_; intro w3 hown3 hgrow3; have HO3 : Hid (Ob w3 w.heap.size (.slice (some ⟨w.heap.size, 0, none⟩) (j + 1) n) (j + 1) (fun i => f + i)) := (by { show World.ownsRow _ _ _ _ _ _ _; rw [← row_snoc]; rw [← hp] at hown3; exact hown3 }); have HG3 : Hid ((wr.alloc (.cells #[.int .u8 (p : Int)] 5)).grownBy w3 (some w.heap.size)) := hgrow3; clear hown3 hgrow3)
   refine ⟨⟨j + 1, by go_num, rfl, hj1, HO3.out, qa4 (qa2 HB.out (qa1 _ _)) HG3.out (Nat.le_refl _), ?_⟩, by simp [intOf]; omega⟩
   refine (HI.out.later (qa1 _ _)).kept HG3.out (Or.inr fun e => ?_)
   have := (HI.out.base e).1
   omega
  ·obtain rfl : j = n := by omega
   go_wp2
   go_ret
   exact ⟨_, _, rfl, HO.out, HB.out⟩
theorem qge (w : World) (k m : Nat) (hk : 1 ≤ k) (h : k + m ≤ 64) : Calls Tryz.prog 71 #[.int .i64 (k : Int), .int .i64 (m : Int)] w fun e w' => e = .returned (.bool true) ∧ w = w' := by
 have g1 : decide (1 ≤ k) = true := by simpa using hk
 have e1 : IntKind.i64.wrap (64 - (k : Int)) = 64 - (k : Int) := by rw [IntKind.wrap_i64]; omega
 have g4 : decide ((m : Int) ≤ 64 - (k : Int)) = true := by simp; omega
 go_enter Tryz.func71, Tryz.ntmps71
 go_wp2
 go_ret
 exact ⟨rfl, rfl⟩
theorem tall_yes (w : World) (r c : Int) (n k : Nat) (a : Option Addr) (h : RightP r c n) (hc : c ≤ r) : Calls Tryz.prog 110 #[mv r c a n k] w fun e w' => e = .returned (.bool true) ∧ Below w.heap.size w w' := by
 have H1 : Hid (RightP r c n) := h
 have g1 : decide (c ≤ r) = true := by simpa using hc
 clear h
 go_enter Tryz.func110, Tryz.ntmps110
 go_wp2_with (go_at_call 90; refine (qah _ _ _ _ _ _ H1.out).mono ?_; rintro e w1 ⟨rfl, hb1⟩; have HB1 : Hid (Below w.heap.size w w1) := qa2 (qa1 _ _) hb1; have va := (Vr.new w (.int .i64 r) (.int .i64 c) (.slice a n k)).later hb1; have a0 := va.c0; have a1 := va.c1; clear hb1 va)
 go_ret
 exact ⟨rfl, HB1.out⟩
open Go.RowKit
theorem qfl {op : Oper} {a : Act} {w : World} {K : Act → World → Prop} {Q : Exit → Act → World → Prop} (d s : Operand) (ho : op.op = .call { callee := .builtin .copy, args := #[d, s], argTypes := #[22, 22] })
  (g p n ld ls c dc sc : Nat) (dp sp : Option Addr) (f h : Nat → Nat) (hd : a.eval d = .slice dp ld dc) (hs : a.eval s = .slice sp ls sc) (hc : Nat.min ls ld = c) (hr : RowAt w g 5 n f) (hdp : 0 < c → dp = some ⟨g, p, none⟩) (hsl : Sl w sp c h) (hfit : p + c ≤ n)
  (k : ∀ w', Hid (RowAt w' g 5 n (cpf f h p c)) → Hid (w.grownBy w' (some g)) → K (a.put op.dst (goInt c)) w') : Oper.wp Tryz.prog op a w K Q := by
 by_cases h0 : c = 0
 ·subst h0
  have hrun := run_copy_none (P := Tryz.prog) w 22 22 op.type 5 dp sp ld dc ls sc Tryz.underlying22 qex hc
  unfold Oper.wp
  simp [execOp, ho, resolve, invoke, builtin, hd, hs, hrun, Result.andThen]
  exact k w (hr.congr (fun q _ => by unfold cpf; rw [if_neg (by omega)])) (qch _ _)
 ·have hdp' := hdp (by omega)
  subst hdp'
  obtain ⟨b, o, e, _⟩ := hsl.2 0 (by omega)
  subst e
  have hsrc : ∀ j v, (row c h).toList[j]? = some v → w.cell? ((⟨b, o, none⟩ : Addr).add j) = some v := qbl hsl (Below.refl _ _)
  have hrun := run_copy_row (P := Tryz.prog) w 22 22 op.type 5 g p ld dc ⟨b, o, none⟩ ls sc (row n f) 5 (row c h).toList Tryz.underlying22 qex hr (by simp only [Array.length_toList, qa8]; exact hc.symm) hsrc (by simp [qa8]; exact hfit) (qbm c h)
  have hlen : (row c h).toList.length = c := by simp [qa8]
  rw [hlen, List.append_assoc, qd7 n p c f h hfit] at hrun
  unfold Oper.wp
  simp [execOp, ho, resolve, invoke, builtin, hd, hs, hrun, Result.andThen]
  exact k _ (setRow_heap w g _ _ _ _ hr) (qag _ _ _)
theorem qdb {ops : Array Oper} {rest : List Oper} {op : Oper} {a : Act} {w : World} {Q : Exit → Act → World → Prop} (hgd : op.guard = none) (d s : Operand) (ho : op.op = .call { callee := .builtin .copy, args := #[d, s], argTypes := #[22, 22] })
  (g p n ld ls c dc sc : Nat) (dp sp : Option Addr) (f h : Nat → Nat) (hd : a.eval d = .slice dp ld dc) (hs : a.eval s = .slice sp ls sc) (hc : Nat.min ls ld = c) (hr : RowAt w g 5 n f) (hdp : 0 < c → dp = some ⟨g, p, none⟩) (hsl : Sl w sp c h) (hfit : p + c ≤ n)
  (k : ∀ w', Hid (RowAt w' g 5 n (cpf f h p c)) → Hid (w.grownBy w' (some g)) → wpList Tryz.prog ops Q rest (a.put op.dst (goInt c)) w') : wpList Tryz.prog ops Q (op :: rest) a w :=
 wpList_plain hgd fun _ hK => qfl d s ho g p n ld ls c dc sc dp sp f h hd hs hc hr hdp hsl hfit (fun w' h1 h2 => hK _ _ (k w' h1 h2))
theorem one_sl5 (w : World) (t : TypeId) (x c : Nat) (hx : x < 256) (hc : c ≤ 1) : Sl (w.alloc (.cells #[.int .u8 (x : Int)] t)) (some ⟨w.heap.size, 0, none⟩) c (fun _ => x) :=
 ⟨fun _ _ => hx, fun i hi => ⟨w.heap.size, 0, rfl, by
  obtain rfl : i = 0 := by omega
  exact qhx w t x 0 _ rfl⟩⟩
theorem qez (j : Nat) : fpow 0 j = if j = 0 then 1 else 0 := by
 cases j with
 | zero => rfl
 | succ j =>
  rw [if_neg (by omega)]
  show fm _ _ = 0
  first | exact qa9 _ | exact qaa _
/-- A row is filled with an element's powers. -/
theorem exp_pow {i j : Nat} (hi : i < 256) (h0 : i ≠ 0) : g (inb ((lg i * j : Nat) : Int)).toNat = fpow i j := by
 rw [fpow_lg i j hi h0, ← qhg (lg i * j)]
 congr 1
theorem wpw_zero (w : World) (c p N kc gd : Nat) (dp : Option Addr) (F : Nat → Nat) (hr : RowAt w gd 5 N F) (hdp : 0 < c → dp = some ⟨gd, p, none⟩) (hfit : p + c ≤ N) (hF : ∀ j, j < c → F (p + j) = 0) :
  Calls Tryz.prog 109 #[.slice dp c kc, .int .u8 0] w fun e w' => e = .returned (.tuple #[]) ∧ RowAt w' gd 5 N (cpf F (fpow 0) p c) ∧ w.grownBy w' (some gd) := by
 have HR : Hid (RowAt w gd 5 N F) := hr
 obtain ⟨q, HQ⟩ : ∃ q, Hid (Nat.min 1 c = q) := ⟨_, rfl⟩
 have hq := HQ.out
 have hq1 : q ≤ 1 := by rw [← hq]; exact Nat.min_le_left _ _
 have hq2 : q ≤ c := by rw [← hq]; exact Nat.min_le_right _ _
 have hq3 : 0 < c → q = 1 := fun h => by rw [← hq]; exact Nat.min_eq_left h
 clear hr
 go_enter Tryz.func109, Tryz.ntmps109
 go_wp2_with (first
  | (go_at_call 141; refine (log_zero _).mono ?_; rintro e w' ⟨rfl, rfl⟩)
  | (refine qdb rfl _ _ rfl gd p N c 1 q kc 1 dp _ F (fun _ => 1) rfl rfl HQ.out (HR.out.later (qa1 _ _)) (fun h => hdp (by omega)) (one_sl5 _ _ 1 q (by decide) hq1) (by omega) ?_; intro w2 HR2 HG2))
 refine bodyPost_ret (results_none rfl _ _ _) rfl ?_
 refine ⟨rfl, HR2.out.congr (fun t _ => ?_), qab (World.grownBy_alloc _ _ _) HG2.out⟩
 unfold cpf
 by_cases h1 : p ≤ t ∧ t < p + q
 ·rw [if_pos h1, if_pos (by omega), qez, if_pos (by omega)]
 ·rw [if_neg h1]
  by_cases h2 : p ≤ t ∧ t < p + c
  ·rw [if_pos h2, qez, if_neg (by have := hq3; omega)]
   have := hF (t - p) (by omega)
   rwa [show p + (t - p) = t from by omega] at this
  ·rw [if_neg h2]
theorem wpw_pos (w : World) (i c p N kc gd : Nat) (dp : Option Addr) (F : Nat → Nat) (hi : i < 256) (h0 : i ≠ 0) (hr : RowAt w gd 5 N F) (hdp : 0 < c → dp = some ⟨gd, p, none⟩) (hfit : p + c ≤ N) (hc : c ≤ 64) :
  Calls Tryz.prog 109 #[.slice dp c kc, .int .u8 (i : Int)] w fun e w' => e = .returned (.tuple #[]) ∧ RowAt w' gd 5 N (cpf F (fpow i) p c) ∧ w.grownBy w' (some gd) := by
 have HR : Hid (RowAt w gd 5 N F) := hr
 obtain ⟨l, HL⟩ : ∃ l, Hid (lg i = l) := ⟨_, rfl⟩
 have hl : l < 256 := by rw [← HL.out]; exact Nat.lt_trans (qdh i hi h0).1 (by decide)
 have HLog : Hid (∀ w, Calls Tryz.prog 141 #[.int .u8 (i : Int)] w fun e w' => e = .returned (.tuple #[.int .i64 (l : Int), .int .i64 0]) ∧ Below w.heap.size w w') := by rw [← HL.out]; exact fun w => log_main i w hi h0
 clear hr
 go_enter Tryz.func109, Tryz.ntmps109
 go_wp2_with (go_at_call 141; refine (HLog.out _).mono ?_; rintro e w1 ⟨rfl, hb1⟩; have HB1 : Hid (Below w.heap.size w w1) := hb1; clear hb1)
 go_loopw [6, 7, 20] (fun sx _ sj wr => ∃ j : Nat, j ≤ c ∧ sj = .int .i64 (j : Int) ∧ sx = .int .i64 ((l * j : Nat) : Int) ∧ RowAt wr gd 5 N (cpf F (fpow i) p j) ∧ w.grownBy wr (some gd)) (fun _ _ sj _ => c - (intOf sj).toNat)
 case atStart => exact ⟨0, by omega, rfl, rfl, (HR.out.later HB1.out).congr (fun t _ => by unfold cpf; rw [if_neg (by omega)]), qbv HB1.out _⟩
 case round =>
  clear HR HB1
  obtain ⟨j, hj, rfl, rfl, hr, hg⟩ := hrel
  have HR : Hid (RowAt wr gd 5 N (cpf F (fpow i) p j)) := hr
  have HG : Hid (w.grownBy wr (some gd)) := hg
  clear hr hg
  by_cases hlt : j < c
  ·have hdp' := hdp (by omega)
   subst hdp'
   obtain ⟨x, HX⟩ : ∃ x, Hid (fpow i j = x) := ⟨_, rfl⟩
   obtain ⟨u, HU⟩ : ∃ u, Hid (l * j = u) := ⟨_, rfl⟩
   have hu : u ≤ 16384 := by rw [← HU.out]; exact Nat.le_trans (Nat.mul_le_mul (Nat.le_of_lt hl) (show j ≤ 64 by omega)) (by decide)
   have hu2 : l * (j + 1) = u + l := by rw [Nat.mul_add, HU.out, Nat.mul_one]
   have HExp : Hid (∀ w, Calls Tryz.prog 142 #[.int .i64 (u : Int)] w fun e w' => e = .returned (.int .u8 (x : Int)) ∧ Below w.heap.size w w') := by
    intro w
    have h := exp_any ((lg i * j : Nat) : Int) w (by rw [HL.out, HU.out]; constructor <;> omega)
    rw [exp_pow hi h0, HX.out, HL.out, HU.out] at h
    exact h
   rw [HU.out]
   have q0 : (0 : Int) ≤ (j : Int) := by omega
   have q1 : (j : Int) < (c : Int) := by omega
   go_wp2_with (go_at_call 142; refine (HExp.out _).mono ?_; rintro e w3 ⟨rfl, hb3⟩; have hc3 := (HR.out.later hb3).cell (p + j) (by omega); have hf3 := (HR.out.later hb3).free (p + j); have HR3 : Hid (RowAt w3 gd 5 N (cpf F (fpow i) p j)) := HR.out.later hb3; have HG3 : Hid (w.grownBy w3 (some gd)) := qfh HG.out hb3; clear hb3)
   refine ⟨⟨j + 1, by omega, by go_num, by rw [hu2]; go_num, (HR3.out.set (p + j) x).congr (fun t _ => ?_), grown_at HG3.out (.inl rfl)⟩, by simp [intOf]; omega⟩
   unfold cpf
   by_cases h1 : t = p + j
   ·rw [if_pos h1, if_pos (by omega), h1, show p + j - p = j from by omega, HX.out]
   ·rw [if_neg h1]
    by_cases h2 : p ≤ t ∧ t < p + j
    ·rw [if_pos h2, if_pos (by omega)]
    ·rw [if_neg h2, if_neg (by omega)]
  ·obtain rfl : j = c := by omega
   go_wp2
   go_end0
   exact ⟨rfl, HR.out, HG.out⟩
theorem qj1 (w : World) (i c p N kc gd : Nat) (dp : Option Addr) (F : Nat → Nat) (hi : i < 256) (hr : RowAt w gd 5 N F) (hdp : 0 < c → dp = some ⟨gd, p, none⟩) (hfit : p + c ≤ N) (hc : c ≤ 64) (hF : ∀ j, j < c → F (p + j) = 0) :
  Calls Tryz.prog 109 #[.slice dp c kc, .int .u8 (i : Int)] w fun e w' => e = .returned (.tuple #[]) ∧ RowAt w' gd 5 N (cpf F (fpow i) p c) ∧ w.grownBy w' (some gd) := by
 by_cases h0 : i = 0
 ·subst h0
  exact wpw_zero w c p N kc gd dp F hr hdp hfit hF
 ·exact wpw_pos w i c p N kc gd dp F hi h0 hr hdp hfit hc
end Go.Proofs.YtnfbbddoaeofgaaGreat
