/-
  Contracts of the program's build: numbers, elements, isTall, areCounts.
  Contracts of the program's build: writePowers, Vandermonde.
  Contracts of the program's build: Vandermonde.
  Contracts of the program's build: anyTwice.
  Contracts of the program's build: Cauchy.
-/
import Derived.Test.YtblfldjlehjnbaaGt
import Derived.Test.YtblfldjlehjnbaaGc
namespace Go.Proofs.Ytblfldjlehjnbaa
open Go.RowKit
set_option maxRecDepth 20000 in
set_option maxHeartbeats 1000000 in
theorem nums_any (w : World) (f t n : Nat) (HN : Hid (f + n = t)) (ht : t ≤ 1000) :
    Calls Try.prog 55 #[.int .i64 (f : Int), .int .i64 (t : Int)] w fun e w' => ∃ s d, e = .returned (.slice s n d) ∧ Oi w' w.heap.size (.slice s n d) n (fun i => f + i) ∧ Below w.heap.size w w' := by
  obtain ⟨i0, hi0, hz0, hz1, hz2⟩ := info_parts infoI
  have hn := HN.out
  have hml : n ≤ maxLen := by unfold maxLen; omega
  have e0 : IntKind.i64.wrap ((t : Int) - (f : Int)) = (n : Int) := by rw [IntKind.wrap_i64]; omega
  go_enter Try.func55, Try.ntmps55
  go_wp2_with (at_make; refine wpList_make_own _ rfl _ _ 43 rfl w.heap.size 3 i0 (.int .i64 0) 1 Try.underlying43 hi0 hz0 hz1 .i64 .i64 _ n rfl rfl rfl (by rw [hz2]; omega) hml (Nat.le_refl _) ?_; intro w1 hown hgrow; have HO : Hid (Oi w1 w.heap.size (.slice (some ⟨w.heap.size, 0, none⟩) 0 n) 0 (fun i => f + i)) := (by { show World.ownsRow _ _ _ _ _ _ _; simpa [irow] using hown }); have HB : Hid (Below w.heap.size w w1) := grown_none.mp hgrow; clear hown hgrow)
  go_loopw [5, 6] (fun sv sj wr => ∃ j : Nat, sj = .int .i64 ((f + j : Nat) : Int) ∧ j ≤ n ∧ Hid (Oi wr w.heap.size sv j (fun i => f + i)) ∧ Hid (Below w.heap.size w wr)) (fun _ sj _ => t - (intOf sj).toNat)
  case atStart => exact ⟨0, rfl, by omega, HO, HB⟩
  case round =>
    clear HO HB
    obtain ⟨j, rfl, hjc, HO, HB⟩ := hrel
    obtain ⟨fs, fd, rfl, _⟩ := HO.out.form
    obtain ⟨p, HP⟩ : ∃ p, Hid (f + j = p) := ⟨_, rfl⟩
    have hp := HP.out
    rw [hp]
    by_cases hlt : p < t
    · have hml2 : j + 1 ≤ maxLen := by unfold maxLen; omega
      have hsz : w.heap.size ≤ wr.heap.size := HB.out.size
      go_wp2_with (at_builtin; refine wpList_append_own _ rfl _ _ 43 rfl w.heap.size 3 i0 (.int .i64 0) 1 8 Try.underlying43 hi0 hz0 hz1 hz2 rfl (by decide) _ j _ rfl (World.ownsRow.alloc HO.out _) ⟨wr.heap.size, 0, none⟩ 1 1 [.int .i64 (p : Int)] rfl rfl (ione_new _ _ _) (ione_one _) hml2 (by omega) (by simp; omega) ?_; intro v3 w3 hown3 hgrow3 _; have HO3 : Hid (w3.ownsRow w.heap.size 3 1 v3 (j + 1) ((irow j (fun i => f + i)).toList ++ [.int .i64 (p : Int)])) := hown3; have HG3 : Hid ((wr.alloc (.cells #[.int .i64 (p : Int)] 3)).grownBy w3 (Value.slice fs j fd).ownBlock) := hgrow3; clear hown3 hgrow3)
      refine ⟨⟨j + 1, by rw [← Nat.add_assoc, hp]; go_num, by omega, ?_, ?_⟩, by simp [intOf]; omega⟩
      · have h3 := HO3.out
        rw [irow_push] at h3
        exact Oi.congr (f := fun i => if i = j then p else f + i) h3 (fun u _ => by
          by_cases e : u = j
          · rw [if_pos e, e, hp]
          · rw [if_neg e])
      · have h3 := HG3.out
        have hal := two_below HB.out (alloc_low wr (.cells #[.int .i64 (p : Int)] 3))
        cases hv : (Value.slice fs j fd).ownBlock with
        | none => rw [hv] at h3; exact two_below hal (grown_none.mp h3)
        | some g => rw [hv] at h3; exact below_row hal h3 (HO.out.base hv).1
    · obtain rfl : j = n := by omega
      go_wp2
      go_ret
      exact ⟨fs, fd, rfl, HO.out, HB.out⟩
set_option maxRecDepth 20000 in
set_option maxHeartbeats 1000000 in
theorem elts_any (w : World) (f t n : Nat) (HN : Hid (f + n = t)) (ht : t ≤ 64) :
    Calls Try.prog 44 #[.int .i64 (f : Int), .int .i64 (t : Int)] w fun e w' => ∃ s d, e = .returned (.slice s n d) ∧ Ob w' w.heap.size (.slice s n d) n (fun i => f + i) ∧ Below w.heap.size w w' := by
  obtain ⟨i0, hi0, hz0, hz1, hz2⟩ := info_parts info8
  have hn := HN.out
  have hml : n ≤ maxLen := by unfold maxLen; omega
  have ht2 : t ≤ 1000 := by omega
  have e0 : IntKind.i64.wrap ((t : Int) - (f : Int)) = (n : Int) := by rw [IntKind.wrap_i64]; omega
  go_enter Try.func44, Try.ntmps44
  go_wp2_with (first
    | (at_make; refine wpList_make_own _ rfl _ _ 22 rfl w.heap.size 5 i0 (.int .u8 0) 1 Try.underlying22 hi0 hz0 hz1 .i64 .i64 _ n rfl rfl rfl (by rw [hz2]; omega) hml (Nat.le_refl _) ?_; intro w1 hown hgrow; have HO : Hid (Ob w1 w.heap.size (.slice (some ⟨w.heap.size, 0, none⟩) 0 n) 0 (fun i => f + i)) := (by { show World.ownsRow _ _ _ _ _ _ _; rw [row_empty]; exact hown }); have HB : Hid (Below w.heap.size w w1) := grown_none.mp hgrow; clear hown hgrow)
    | (go_at_call 55; refine (nums_any _ f t n HN ht2).mono ?_; rintro e w2 ⟨s2, d2, rfl, ho2, hb2⟩; have HO2 : Hid (Oi w2 w1.heap.size (.slice s2 n d2) n (fun i => f + i)) := ho2; have HO1 : Hid (Ob w2 w.heap.size (.slice (some ⟨w.heap.size, 0, none⟩) 0 n) 0 (fun i => f + i)) := HO.out.later hb2; have HB2 : Hid (Below w.heap.size w w2) := two_below HB.out hb2; have h01 : w.heap.size < w1.heap.size := (HO.out.base rfl).2; clear ho2 hb2))
  go_loopw [5, 16] (fun sv sj wr => ∃ j : Nat, sj = .int .i64 (j : Int) ∧ sv = .slice (some ⟨w.heap.size, 0, none⟩) j n ∧ j ≤ n ∧ Hid (Ob wr w.heap.size (.slice (some ⟨w.heap.size, 0, none⟩) j n) j (fun i => f + i)) ∧ Hid (Below w.heap.size w wr) ∧ Hid (Oi wr w1.heap.size (.slice s2 n d2) n (fun i => f + i))) (fun _ sj _ => n - (intOf sj).toNat)
  case atStart => exact ⟨0, rfl, rfl, by omega, HO1, HB2, HO2⟩
  case round =>
    clear HO HB HO1 HB2 HO2
    obtain ⟨j, rfl, rfl, hjc, HO, HB, HI⟩ := hrel
    by_cases hlt : j < n
    · obtain ⟨p, HP⟩ : ∃ p, Hid (f + j = p) := ⟨_, rfl⟩
      have hp := HP.out
      obtain ⟨bi, oi, ei, hci⟩ := HI.out.il j hlt
      subst ei
      dsimp only at hci
      rw [hp] at hci
      have w3' : IntKind.u8.wrap (p : Int) = (p : Int) := by rw [IntKind.wrap_u8]; omega
      have hml2 : j + 1 ≤ maxLen := by unfold maxLen; omega
      have hj1 : j + 1 ≤ n := hlt
      have hsz : w.heap.size ≤ wr.heap.size := HB.out.size
      have q0 : (0 : Int) ≤ (j : Int) := by omega
      have q1 : (j : Int) < (n : Int) := by omega
      go_wp2_with (at_builtin; refine wpList_append_fits _ rfl _ _ 22 rfl w.heap.size 5 i0 1 Try.underlying22 hi0 hz1 w.heap.size j n _ rfl (World.ownsRow.alloc HO.out _) ⟨wr.heap.size, 0, none⟩ 1 1 [.int .u8 (p : Int)] rfl rfl (one_new _ _ p) (one_one p) hj1 ?_; intro w3 hown3 hgrow3; have HO3 : Hid (Ob w3 w.heap.size (.slice (some ⟨w.heap.size, 0, none⟩) (j + 1) n) (j + 1) (fun i => f + i)) := (by { show World.ownsRow _ _ _ _ _ _ _; rw [← row_snoc]; rw [← hp] at hown3; exact hown3 }); have HG3 : Hid ((wr.alloc (.cells #[.int .u8 (p : Int)] 5)).grownBy w3 (some w.heap.size)) := hgrow3; clear hown3 hgrow3)
      refine ⟨⟨j + 1, by go_num, rfl, hj1, HO3.out, below_row (two_below HB.out (alloc_low _ _)) HG3.out (Nat.le_refl _), ?_⟩, by simp [intOf]; omega⟩
      refine (HI.out.later (alloc_low _ _)).kept HG3.out (Or.inr fun e => ?_)
      have := (HI.out.base e).1
      omega
    · obtain rfl : j = n := by omega
      go_wp2
      go_ret
      exact ⟨_, _, rfl, HO.out, HB.out⟩
theorem cnt_yes5 (w : World) (k m : Nat) (hk : 1 ≤ k) (h : k + m ≤ 64) : Calls Try.prog 41 #[.int .i64 (k : Int), .int .i64 (m : Int)] w fun e w' => e = .returned (.bool true) ∧ w = w' := by
  have g1 : decide (1 ≤ k) = true := by simpa using hk
  have e1 : IntKind.i64.wrap (64 - (k : Int)) = 64 - (k : Int) := by rw [IntKind.wrap_i64]; omega
  have g4 : decide ((m : Int) ≤ 64 - (k : Int)) = true := by simp; omega
  go_enter Try.func41, Try.ntmps41
  go_wp2
  go_ret
  exact ⟨rfl, rfl⟩
theorem cnt_no5 (w : World) (k m : Int) (hw : k < 9223372036854775808) (h : ¬ FitsP k m) : Calls Try.prog 41 #[.int .i64 k, .int .i64 m] w fun e w' => e = .returned (.bool false) ∧ w = w' := by
  by_cases h1 : 1 ≤ k
  · have g1 : decide (1 ≤ k) = true := by simpa using h1
    by_cases h2 : 0 ≤ m
    · have g2 : decide (0 ≤ m) = true := by simpa using h2
      have e1 : IntKind.i64.wrap (64 - k) = 64 - k := by rw [IntKind.wrap_i64]; omega
      have g5 : decide (m ≤ 64 - k) = false := by
        have : ¬ (k + m ≤ 64) := fun x => h ⟨h1, h2, by omega, by omega, x⟩
        simp; omega
      clear h h1 h2
      go_enter Try.func41, Try.ntmps41
      go_wp2
      go_ret
      exact ⟨rfl, rfl⟩
    · have g2 : decide (0 ≤ m) = false := by simp; omega
      clear h h1 h2
      go_enter Try.func41, Try.ntmps41
      go_wp2
      go_ret
      exact ⟨rfl, rfl⟩
  · have g1 : decide (1 ≤ k) = false := by simp; omega
    clear h h1
    go_enter Try.func41, Try.ntmps41
    go_wp2
    go_ret
    exact ⟨rfl, rfl⟩
set_option maxRecDepth 20000 in
theorem tall_yes (w : World) (r c : Int) (n k : Nat) (a : Option Addr) (h : RightP r c n) (hc : c ≤ r) : Calls Try.prog 53 #[mv r c a n k] w fun e w' => e = .returned (.bool true) ∧ Below w.heap.size w w' := by
  have H1 : Hid (RightP r c n) := h
  have g1 : decide (c ≤ r) = true := by simpa using hc
  clear h
  go_enter Try.func53, Try.ntmps53
  go_wp2_with (go_at_call 82; refine (mright_yes _ _ _ _ _ _ H1.out).mono ?_; rintro e w1 ⟨rfl, hb1⟩; have HB1 : Hid (Below w.heap.size w w1) := two_below (alloc_low _ _) hb1; have va := (Vr.new w (.int .i64 r) (.int .i64 c) (.slice a n k)).later hb1; have a0 := va.c0; have a1 := va.c1; clear hb1 va)
  go_ret
  exact ⟨rfl, HB1.out⟩
set_option maxRecDepth 20000 in
theorem tall_no (w : World) (r c : Int) (n k : Nat) (a : Option Addr) (h : ¬ (RightP r c n ∧ c ≤ r)) : Calls Try.prog 53 #[mv r c a n k] w fun e w' => e = .returned (.bool false) ∧ Below w.heap.size w w' := by
  by_cases hr : RightP r c n
  · have H1 : Hid (RightP r c n) := hr
    have g1 : decide (c ≤ r) = false := by have : ¬ c ≤ r := fun x => h ⟨hr, x⟩; simp; omega
    clear h hr
    go_enter Try.func53, Try.ntmps53
    go_wp2_with (go_at_call 82; refine (mright_yes _ _ _ _ _ _ H1.out).mono ?_; rintro e w1 ⟨rfl, hb1⟩; have HB1 : Hid (Below w.heap.size w w1) := two_below (alloc_low _ _) hb1; have va := (Vr.new w (.int .i64 r) (.int .i64 c) (.slice a n k)).later hb1; have a0 := va.c0; have a1 := va.c1; clear hb1 va)
    go_ret
    exact ⟨rfl, HB1.out⟩
  · have H1 : Hid (¬ RightP r c n) := hr
    clear h hr
    go_enter Try.func53, Try.ntmps53
    go_wp2_with (go_at_call 82; refine (mright_no _ _ _ _ _ _ H1.out).mono ?_; rintro e w1 ⟨rfl, hb1⟩; have HB1 : Hid (Below w.heap.size w w1) := two_below (alloc_low _ _) hb1; clear hb1)
    go_ret
    exact ⟨rfl, HB1.out⟩
end Go.Proofs.Ytblfldjlehjnbaa

namespace Go.Proofs.Ytblfldjlehjnbaa
open Go.RowKit
theorem wp_copy_min {op : Oper} {a : Act} {w : World} {K : Act → World → Prop} {Q : Exit → Act → World → Prop} (d s : Operand) (ho : op.op = .call { callee := .builtin .copy, args := #[d, s], argTypes := #[22, 22] })
    (g p n ld ls c dc sc : Nat) (dp sp : Option Addr) (f h : Nat → Nat) (hd : a.eval d = .slice dp ld dc) (hs : a.eval s = .slice sp ls sc) (hc : Nat.min ls ld = c) (hr : RowAt w g 5 n f) (hdp : 0 < c → dp = some ⟨g, p, none⟩) (hsl : Sl w sp c h) (hfit : p + c ≤ n)
    (k : ∀ w', Hid (RowAt w' g 5 n (cpf f h p c)) → Hid (w.grownBy w' (some g)) → K (a.put op.dst (goInt c)) w') : Oper.wp Try.prog op a w K Q := by
  by_cases h0 : c = 0
  · subst h0
    have hrun := run_copy_none (P := Try.prog) w 22 22 op.type 5 dp sp ld dc ls sc Try.underlying22 size8 hc
    unfold Oper.wp
    simp [execOp, ho, resolve, invoke, builtin, hd, hs, hrun, Result.andThen]
    exact k w (hr.congr (fun q _ => by unfold cpf; rw [if_neg (by omega)])) (grown_self _ _)
  · have hdp' := hdp (by omega)
    subst hdp'
    obtain ⟨b, o, e, _⟩ := hsl.2 0 (by omega)
    subst e
    have hsrc : ∀ j v, (row c h).toList[j]? = some v → w.cell? ((⟨b, o, none⟩ : Addr).add j) = some v := copy_news hsl (Below.refl _ _)
    have hrun := run_copy_row (P := Try.prog) w 22 22 op.type 5 g p ld dc ⟨b, o, none⟩ ls sc (row n f) 5 (row c h).toList Try.underlying22 size8 hr (by simp only [Array.length_toList, row_size]; exact hc.symm) hsrc (by simp [row_size]; exact hfit) (row_cells c h)
    have hlen : (row c h).toList.length = c := by simp [row_size]
    rw [hlen, List.append_assoc, cpf_row n p c f h hfit] at hrun
    unfold Oper.wp
    simp [execOp, ho, resolve, invoke, builtin, hd, hs, hrun, Result.andThen]
    exact k _ (setRow_heap w g _ _ _ _ hr) (grown_setRow _ _ _)
theorem wpList_copy_min {ops : Array Oper} {rest : List Oper} {op : Oper} {a : Act} {w : World} {Q : Exit → Act → World → Prop} (hgd : op.guard = none) (d s : Operand) (ho : op.op = .call { callee := .builtin .copy, args := #[d, s], argTypes := #[22, 22] })
    (g p n ld ls c dc sc : Nat) (dp sp : Option Addr) (f h : Nat → Nat) (hd : a.eval d = .slice dp ld dc) (hs : a.eval s = .slice sp ls sc) (hc : Nat.min ls ld = c) (hr : RowAt w g 5 n f) (hdp : 0 < c → dp = some ⟨g, p, none⟩) (hsl : Sl w sp c h) (hfit : p + c ≤ n)
    (k : ∀ w', Hid (RowAt w' g 5 n (cpf f h p c)) → Hid (w.grownBy w' (some g)) → wpList Try.prog ops Q rest (a.put op.dst (goInt c)) w') : wpList Try.prog ops Q (op :: rest) a w :=
  wpList_plain hgd fun _ hK => wp_copy_min d s ho g p n ld ls c dc sc dp sp f h hd hs hc hr hdp hsl hfit (fun w' h1 h2 => hK _ _ (k w' h1 h2))
theorem one_sl5 (w : World) (t : TypeId) (x c : Nat) (hx : x < 256) (hc : c ≤ 1) : Sl (w.alloc (.cells #[.int .u8 (x : Int)] t)) (some ⟨w.heap.size, 0, none⟩) c (fun _ => x) :=
  ⟨fun _ _ => hx, fun i hi => ⟨w.heap.size, 0, rfl, by
    obtain rfl : i = 0 := by omega
    exact one_new w t x 0 _ rfl⟩⟩
theorem fpow_zero (j : Nat) : fpow 0 j = if j = 0 then 1 else 0 := by
  cases j with
  | zero => rfl
  | succ j =>
    rw [if_neg (by omega)]
    show fm _ _ = 0
    first | exact zero_fm _ | exact fm_zero _
/-- A row is filled with an element's powers. -/
theorem exp_pow {i j : Nat} (hi : i < 256) (h0 : i ≠ 0) : g (inb ((lg i * j : Nat) : Int)).toNat = fpow i j := by
  rw [fpow_lg i j hi h0, ← g_mod (lg i * j)]
  congr 1
set_option maxRecDepth 20000 in
set_option maxHeartbeats 1000000 in
theorem wpw_zero (w : World) (c p N kc gd : Nat) (dp : Option Addr) (F : Nat → Nat) (hr : RowAt w gd 5 N F) (hdp : 0 < c → dp = some ⟨gd, p, none⟩) (hfit : p + c ≤ N) (hF : ∀ j, j < c → F (p + j) = 0) :
    Calls Try.prog 38 #[.slice dp c kc, .int .u8 0] w fun e w' => e = .returned (.tuple #[]) ∧ RowAt w' gd 5 N (cpf F (fpow 0) p c) ∧ w.grownBy w' (some gd) := by
  have HR : Hid (RowAt w gd 5 N F) := hr
  obtain ⟨q, HQ⟩ : ∃ q, Hid (Nat.min 1 c = q) := ⟨_, rfl⟩
  have hq := HQ.out
  have hq1 : q ≤ 1 := by rw [← hq]; exact Nat.min_le_left _ _
  have hq2 : q ≤ c := by rw [← hq]; exact Nat.min_le_right _ _
  have hq3 : 0 < c → q = 1 := fun h => by rw [← hq]; exact Nat.min_eq_left h
  clear hr
  go_enter Try.func38, Try.ntmps38
  go_wp2_with (first
    | (go_at_call 74; refine (log_zero _).mono ?_; rintro e w' ⟨rfl, rfl⟩)
    | (refine wpList_copy_min rfl _ _ rfl gd p N c 1 q kc 1 dp _ F (fun _ => 1) rfl rfl HQ.out (HR.out.later (alloc_low _ _)) (fun h => hdp (by omega)) (one_sl5 _ _ 1 q (by decide) hq1) (by omega) ?_; intro w2 HR2 HG2))
  refine bodyPost_ret (results_none rfl _ _ _) rfl ?_
  refine ⟨rfl, HR2.out.congr (fun t _ => ?_), grown_trans (World.grownBy_alloc _ _ _) HG2.out⟩
  unfold cpf
  by_cases h1 : p ≤ t ∧ t < p + q
  · rw [if_pos h1, if_pos (by omega), fpow_zero, if_pos (by omega)]
  · rw [if_neg h1]
    by_cases h2 : p ≤ t ∧ t < p + c
    · rw [if_pos h2, fpow_zero, if_neg (by have := hq3; omega)]
      have := hF (t - p) (by omega)
      rwa [show p + (t - p) = t from by omega] at this
    · rw [if_neg h2]
set_option maxRecDepth 20000 in
set_option maxHeartbeats 1000000 in
theorem wpw_pos (w : World) (i c p N kc gd : Nat) (dp : Option Addr) (F : Nat → Nat) (hi : i < 256) (h0 : i ≠ 0) (hr : RowAt w gd 5 N F) (hdp : 0 < c → dp = some ⟨gd, p, none⟩) (hfit : p + c ≤ N) (hc : c ≤ 64) :
    Calls Try.prog 38 #[.slice dp c kc, .int .u8 (i : Int)] w fun e w' => e = .returned (.tuple #[]) ∧ RowAt w' gd 5 N (cpf F (fpow i) p c) ∧ w.grownBy w' (some gd) := by
  have HR : Hid (RowAt w gd 5 N F) := hr
  obtain ⟨l, HL⟩ : ∃ l, Hid (lg i = l) := ⟨_, rfl⟩
  have hl : l < 256 := by rw [← HL.out]; exact Nat.lt_trans (lg_at i hi h0).1 (by decide)
  have HLog : Hid (∀ w, Calls Try.prog 74 #[.int .u8 (i : Int)] w fun e w' => e = .returned (.tuple #[.int .i64 (l : Int), .int .i64 0]) ∧ Below w.heap.size w w') := by rw [← HL.out]; exact fun w => log_main i w hi h0
  clear hr
  go_enter Try.func38, Try.ntmps38
  go_wp2_with (go_at_call 74; refine (HLog.out _).mono ?_; rintro e w1 ⟨rfl, hb1⟩; have HB1 : Hid (Below w.heap.size w w1) := hb1; clear hb1)
  go_loopw [6, 7, 20] (fun sx _ sj wr => ∃ j : Nat, j ≤ c ∧ sj = .int .i64 (j : Int) ∧ sx = .int .i64 ((l * j : Nat) : Int) ∧ RowAt wr gd 5 N (cpf F (fpow i) p j) ∧ w.grownBy wr (some gd)) (fun _ _ sj _ => c - (intOf sj).toNat)
  case atStart => exact ⟨0, by omega, rfl, rfl, (HR.out.later HB1.out).congr (fun t _ => by unfold cpf; rw [if_neg (by omega)]), grown_of_below HB1.out _⟩
  case round =>
    clear HR HB1
    obtain ⟨j, hj, rfl, rfl, hr, hg⟩ := hrel
    have HR : Hid (RowAt wr gd 5 N (cpf F (fpow i) p j)) := hr
    have HG : Hid (w.grownBy wr (some gd)) := hg
    clear hr hg
    by_cases hlt : j < c
    · have hdp' := hdp (by omega)
      subst hdp'
      obtain ⟨x, HX⟩ : ∃ x, Hid (fpow i j = x) := ⟨_, rfl⟩
      obtain ⟨u, HU⟩ : ∃ u, Hid (l * j = u) := ⟨_, rfl⟩
      have hu : u ≤ 16384 := by rw [← HU.out]; exact Nat.le_trans (Nat.mul_le_mul (Nat.le_of_lt hl) (show j ≤ 64 by omega)) (by decide)
      have hu2 : l * (j + 1) = u + l := by rw [Nat.mul_add, HU.out, Nat.mul_one]
      have HExp : Hid (∀ w, Calls Try.prog 75 #[.int .i64 (u : Int)] w fun e w' => e = .returned (.int .u8 (x : Int)) ∧ Below w.heap.size w w') := by
        intro w
        have h := exp_any ((lg i * j : Nat) : Int) w (by rw [HL.out, HU.out]; constructor <;> omega)
        rw [exp_pow hi h0, HX.out, HL.out, HU.out] at h
        exact h
      rw [HU.out]
      have q0 : (0 : Int) ≤ (j : Int) := by omega
      have q1 : (j : Int) < (c : Int) := by omega
      go_wp2_with (go_at_call 75; refine (HExp.out _).mono ?_; rintro e w3 ⟨rfl, hb3⟩; have hc3 := (HR.out.later hb3).cell (p + j) (by omega); have hf3 := (HR.out.later hb3).free (p + j); have HR3 : Hid (RowAt w3 gd 5 N (cpf F (fpow i) p j)) := HR.out.later hb3; have HG3 : Hid (w.grownBy w3 (some gd)) := grown_later HG.out hb3; clear hb3)
      refine ⟨⟨j + 1, by omega, by go_num, by rw [hu2]; go_num, (HR3.out.set (p + j) x).congr (fun t _ => ?_), grown_at HG3.out (.inl rfl)⟩, by simp [intOf]; omega⟩
      unfold cpf
      by_cases h1 : t = p + j
      · rw [if_pos h1, if_pos (by omega), h1, show p + j - p = j from by omega, HX.out]
      · rw [if_neg h1]
        by_cases h2 : p ≤ t ∧ t < p + j
        · rw [if_pos h2, if_pos (by omega)]
        · rw [if_neg h2, if_neg (by omega)]
    · obtain rfl : j = c := by omega
      go_wp2
      go_end0
      exact ⟨rfl, HR.out, HG.out⟩
theorem wpw_any (w : World) (i c p N kc gd : Nat) (dp : Option Addr) (F : Nat → Nat) (hi : i < 256) (hr : RowAt w gd 5 N F) (hdp : 0 < c → dp = some ⟨gd, p, none⟩) (hfit : p + c ≤ N) (hc : c ≤ 64) (hF : ∀ j, j < c → F (p + j) = 0) :
    Calls Try.prog 38 #[.slice dp c kc, .int .u8 (i : Int)] w fun e w' => e = .returned (.tuple #[]) ∧ RowAt w' gd 5 N (cpf F (fpow i) p c) ∧ w.grownBy w' (some gd) := by
  by_cases h0 : i = 0
  · subst h0
    exact wpw_zero w c p N kc gd dp F hr hdp hfit hF
  · exact wpw_pos w i c p N kc gd dp F hi h0 hr hdp hfit hc
end Go.Proofs.Ytblfldjlehjnbaa

namespace Go.Proofs.Ytblfldjlehjnbaa
open Go.RowKit
theorem vdf_next {c i : Nat} (t : Nat) : cpf (upt (vdf c) (i * c)) (fpow i) (i * c) c t = upt (vdf c) ((i + 1) * c) t := by
  have e : (i + 1) * c = i * c + c := by rw [Nat.add_mul, Nat.one_mul]
  rw [e]
  unfold cpf upt
  by_cases h1 : i * c ≤ t ∧ t < i * c + c
  · rw [if_pos h1, if_pos h1.2]
    obtain ⟨d, rfl⟩ : ∃ d, t = i * c + d := ⟨t - i * c, by omega⟩
    rw [vdf_at (by omega)]
    congr 1
    omega
  · rw [if_neg h1]
    by_cases h2 : t < i * c
    · rw [if_pos h2, if_pos (by omega)]
    · rw [if_neg h2, if_neg (by omega)]
theorem upt_behind (F : Nat → Nat) {q t : Nat} (h : q ≤ t) : upt F q t = 0 := if_neg (by omega)
theorem ZInv.fill {w w1 wr w' : World} {g r c m : Nat} {f f' : Nat → Nat} (I : ZInv w w1 wr g r c m f) (hr : RowAt w' g 5 m f') (hg : wr.grownBy w' (some g)) : ZInv w w1 w' g r c m f' :=
  ⟨hr, I.vm.kept hg (by have := I.hi; omega), I.vr.kept hg (by have := I.lo; omega), below_row I.below hg (by have := I.lo; omega), I.lo, I.hi⟩
set_option maxRecDepth 20000 in
set_option maxHeartbeats 1000000 in
theorem bvdm_ok (w : World) (r c n : Nat) (hr : r ≤ 64) (hc : c ≤ 64) (HN : Hid (r * c = n)) :
    Calls Try.prog 9 #[.int .i64 (r : Int), .int .i64 (c : Int)] w fun e w' => ∃ g, e = .returned (.tuple #[mv r c (some ⟨g, 0, none⟩) n n, .int .i64 0]) ∧ RowAt w' g 5 n (vdf c) ∧ w.heap.size ≤ g ∧ Below w.heap.size w w' := by
  have HRt : Hid (Rt r c n) := ⟨hr, hc, HN.out⟩
  have hn := HRt.out.le
  go_enter Try.func9, Try.ntmps9
  go_wp2_with (go_at_call 37; refine (mmake_ok _ r c n hr hc HN).mono ?_; rintro e w1 ⟨g, rfl, hr1, hg1, hb1⟩; have HR : Hid (RowAt w1 g 5 n (fun _ => 0)) := hr1; have hg2 : w.heap.size + 1 ≤ g := by { have := hg1; simpa using this }; have HB : Hid (Below w.heap.size w w1) := two_below (alloc_low _ _) hb1; have HV : Hid (Vr w1 w.heap.size (.int .i64 0) (.int .i64 0) (.slice none 0 0)) := (Vr.new w _ _ _).later hb1; clear hr1 hg1 hb1)
  have HI0 : Hid (ZInv w w1 (w1.alloc (.cells #[.int .i64 (r : Int), .int .i64 (c : Int), .slice (some ⟨g, 0, none⟩) n n] 24)) g r c n (upt (vdf c) (0 * c))) := ⟨(HR.out.later (alloc_low _ _)).congr (fun i _ => (by rw [Nat.zero_mul]; exact (if_neg (by omega)).symm)), Vr.new w1 _ _ _, HV.out.later (alloc_low _ _), two_below HB.out (alloc_low _ _), hg2, HR.out.lt⟩
  clear HR HB HV
  go_loopw [8, 20] (fun _ si wr => ∃ i : Nat, i ≤ r ∧ si = .int .i64 (i : Int) ∧ ZInv w w1 wr g r c n (upt (vdf c) (i * c))) (fun _ si _ => r - (intOf si).toNat)
  case atStart => exact ⟨0, by omega, rfl, HI0.out⟩
  case round =>
    clear HI0
    obtain ⟨i, hi, rfl, I⟩ := hrel
    have HI : Hid (ZInv w w1 wr g r c n (upt (vdf c) (i * c))) := I
    have c0 := I.vm.c0
    have c1 := I.vm.c1
    have c2 := I.vm.c2
    clear I
    by_cases hlt : i < r
    · have hfit := HRt.out.fit hlt
      have e1 : ((i : Int) * (c : Int)) = ((i * c : Nat) : Int) := by simp
      have e2 : (((i : Int) + 1) * (c : Int)) = ((i * c + c : Nat) : Int) := by rw [Int.add_mul, e1]; simp
      have hz : ∀ j, j < c → upt (vdf c) (i * c) (i * c + j) = 0 := fun j _ => upt_behind _ (by omega)
      have HNx : Hid (∀ t, cpf (upt (vdf c) (i * c)) (fpow i) (i * c) c t = upt (vdf c) ((i + 1) * c) t) := fun t => vdf_next t
      obtain ⟨p, HP⟩ : ∃ p, Hid (i * c = p) := ⟨_, rfl⟩
      rw [HP.out] at hfit e1 e2 hz HNx HI
      have HZ : Hid (∀ j, j < c → upt (vdf c) p (p + j) = 0) := hz
      have w1' : IntKind.i64.wrap (p : Int) = (p : Int) := by rw [IntKind.wrap_i64]; omega
      have w3' : IntKind.i64.wrap ((i : Int) + 1) = (i : Int) + 1 := by rw [IntKind.wrap_i64]; omega
      obtain ⟨q, HQ⟩ : ∃ q, Hid (p + c = q) := ⟨_, rfl⟩
      rw [HQ.out] at e2
      have hq := HQ.out
      have w2' : IntKind.i64.wrap (q : Int) = (q : Int) := by rw [IntKind.wrap_i64]; omega
      have w4' : IntKind.u8.wrap (i : Int) = (i : Int) := by rw [IntKind.wrap_u8]; omega
      have hi8 : i < 256 := by omega
      have hqp : q - p = c := by omega
      clear hz
      by_cases hc0 : c = 0
      · have hpn : p = n := by have h1 := HP.out; have h2 := HN.out; rw [hc0, Nat.mul_zero] at h1 h2; omega
        obtain rfl : p = q := by omega
        obtain rfl : p = n := hpn
        have HC0 : Hid (c = 0) := hc0
        clear hc0 hq
        go_wp2_with (go_at_call 38; refine (wpw_any _ i c p _ _ g _ _ hi8 HI.out.row (fun h => absurd h (by have := HC0.out; omega)) hfit hc HZ.out).mono ?_; rintro e w3 ⟨rfl, hr3, hg3⟩; have HR3 : Hid (ZInv w w1 w3 g r c p (upt (vdf c) ((i + 1) * c))) := (HI.out.fill hr3 hg3).congr (fun t _ => HNx.out t); clear hr3 hg3)
        exact ⟨⟨i + 1, by omega, by go_num, HR3.out⟩, by simp [intOf]; omega⟩
      · have hpn : p < n := by omega
        have hpq : p < q := by omega
        have hqn : q ≤ n := by omega
        have hfit2 : p + c ≤ n := hfit
        go_wp2_with (go_at_call 38; refine (wpw_any _ i _ p _ _ g _ _ hi8 HI.out.row (fun _ => rfl) hfit2 hc HZ.out).mono ?_; rintro e w3 ⟨rfl, hr3, hg3⟩; have HR3 : Hid (ZInv w w1 w3 g r _ _ (upt (vdf _) ((i + 1) * _))) := (HI.out.fill hr3 hg3).congr (fun t _ => HNx.out t); clear hr3 hg3)
        exact ⟨⟨i + 1, by omega, by go_num, HR3.out⟩, by simp [intOf]; omega⟩
    · obtain rfl : i = r := by omega
      go_wp2_with (refine wpList_store_var rfl _ _ rfl w.heap.size _ _ _ (.int .i64 (i : Int)) (.int .i64 (c : Int)) (.slice (some ⟨g, 0, none⟩) n n) rfl rfl HI.out.vr rfl rfl rfl ?_; intro w5 HV5 HG5)
      have d0 := HV5.out.c0
      have d1 := HV5.out.c1
      have d2 := HV5.out.c2
      refine bodyPost_ret (v := .tuple #[mv i c (some ⟨g, 0, none⟩) n n, .int .i64 0]) (by simp [results, Try.results9, go_sem, d0, d1, d2, mv]) rfl ?_
      exact ⟨g, rfl, (HI.out.row.kept HG5.out (by have := HI.out.lo; omega)).congr (fun t ht => upt_all _ (by rw [HN.out]; exact ht)), by have := HI.out.lo; omega, below_row HI.out.below HG5.out (Nat.le_refl _)⟩
set_option maxRecDepth 20000 in
set_option maxHeartbeats 1000000 in
theorem bvdm_bad (w : World) (r c : Int) (h : ¬ SideP r c) :
    Calls Try.prog 9 #[.int .i64 r, .int .i64 c] w fun e w' => e = .returned (.tuple #[mv 0 0 none 0 0, .int .i64 2]) ∧ Below w.heap.size w w' := by
  have H1 : Hid (¬ SideP r c) := h
  clear h
  go_enter Try.func9, Try.ntmps9
  go_wp2_with (first
    | (go_at_call 37; refine (mmake_bad _ r c H1.out).mono ?_; rintro e w1 ⟨rfl, hb1⟩; have HB1 : Hid (Below w.heap.size w w1) := two_below (alloc_low _ _) hb1; have HV1 : Hid (Vr (w1.alloc (.cells #[.int .i64 0, .int .i64 0, .slice none 0 0] 24)) w.heap.size (.int .i64 0) (.int .i64 0) (.slice none 0 0)) := ((Vr.new w _ _ _).later hb1).later (alloc_low _ _); clear hb1)
    | (refine wpList_store_var rfl _ _ rfl w.heap.size _ _ _ (.int .i64 0) (.int .i64 0) (.slice none 0 0) rfl rfl HV1.out rfl rfl rfl ?_; intro w4 HV4 HG4))
  have d0 := HV4.out.c0
  have d1 := HV4.out.c1
  have d2 := HV4.out.c2
  refine bodyPost_ret (v := .tuple #[mv 0 0 none 0 0, .int .i64 2]) (by simp [results, Try.results9, go_sem, d0, d1, d2, mv]) rfl ?_
  exact ⟨rfl, below_row (two_below HB1.out (alloc_low _ _)) HG4.out (Nat.le_refl _)⟩
end Go.Proofs.Ytblfldjlehjnbaa

namespace Go.Proofs.Ytblfldjlehjnbaa
open Go.RowKit
/-- The cells of an array of truth values. -/
def brow (n : Nat) (f : Nat → Bool) : Array Value := (Array.range n).map fun i => .bool (f i)
theorem brow_size (n : Nat) (f : Nat → Bool) : (brow n f).size = n := by simp [brow]
theorem brow_get (n : Nat) (f : Nat → Bool) (i : Nat) (h : i < n) : (brow n f)[i]? = some (.bool (f i)) := by simp [brow, h]
theorem brow_set (n : Nat) (f : Nat → Bool) (i : Nat) (v : Bool) : (brow n f).setIfInBounds i (.bool v) = brow n (fun j => if j = i then v else f j) := by
  apply Array.ext
  · simp [brow]
  · intro j h1 h2
    by_cases e : i = j
    · subst e; simp [brow]
    · rw [Array.getElem_setIfInBounds_ne (by simpa using h1) e]; simp [brow, Ne.symm e]
theorem brow_congr (n : Nat) (f f' : Nat → Bool) (h : ∀ i, i < n → f i = f' i) : brow n f = brow n f' := by
  apply Array.ext
  · simp [brow]
  · intro j h1 h2
    simp [brow_size] at h1
    simp [brow, h j h1]
theorem zero2b (w : World) : Sem.run Try.prog (zeroValue 95) w = .ok (.agg (brow 256 fun _ => false)) w := by kernel_rfl
def BRowAt (w : World) (b n : Nat) (f : Nat → Bool) : Prop := w.heap[b]? = some (.cells (brow n f) 95 (0, 0))
theorem BRowAt.cell {w : World} {b n : Nat} {f : Nat → Bool} (h : BRowAt w b n f) (i : Nat) (hi : i < n) : w.cell? ⟨b, i, none⟩ = some (.bool (f i)) := by
  rw [cell_of_row w b i _ _ _ h, brow_get n f i hi]
theorem BRowAt.free {w : World} {b n : Nat} {f : Nat → Bool} (h : BRowAt w b n f) (i : Nat) : w.frozen? ⟨b, i, none⟩ = false := by
  unfold BRowAt at h
  simp [World.frozen?, h]
theorem BRowAt.set {w : World} {b n : Nat} {f : Nat → Bool} (h : BRowAt w b n f) (i : Nat) (v : Bool) : BRowAt (w.setCell ⟨b, i, none⟩ (.bool v)) b n (fun j => if j = i then v else f j) := by
  unfold BRowAt at *
  rw [setCell_eq_setRow w b i _ _ (0, 0) _ h, setRow_heap w b _ _ _ (0, 0) h, brow_set]
theorem BRowAt.congr {w : World} {b n : Nat} {f f' : Nat → Bool} (h : BRowAt w b n f) (e : ∀ i, i < n → f i = f' i) : BRowAt w b n f' := by
  unfold BRowAt at *
  rw [h, brow_congr n f f' e]
/-- What has come up to a place. -/
def seen (E : Nat → Nat) : Nat → Nat → Bool
  | 0, _ => false
  | q + 1, v => if v = E q then true else seen E q v
theorem seen_iff (E : Nat → Nat) : ∀ (q v : Nat), seen E q v = true ↔ ∃ p, p < q ∧ E p = v := by
  intro q v
  induction q with
  | zero => exact ⟨fun h => (by cases h), fun ⟨p, h, _⟩ => (by omega)⟩
  | succ q ih =>
    show (if v = E q then true else seen E q v) = true ↔ _
    by_cases h : v = E q
    · rw [if_pos h]
      exact ⟨fun _ => ⟨q, by omega, h.symm⟩, fun _ => rfl⟩
    · rw [if_neg h, ih]
      exact ⟨fun ⟨p, h1, h2⟩ => ⟨p, by omega, h2⟩, fun ⟨p, h1, h2⟩ => ⟨p, by
        have : p ≠ q := fun e => h (by rw [← h2, e])
        omega, h2⟩⟩
theorem dst_seen {X Y : Nat → Nat} {n m : Nat} : Dst X n Y m ↔ ∀ i, i < n + m → seen (stf X Y n) i (stf X Y n i) = false := by
  refine ⟨fun h i hi => ?_, fun h i j hi hj e => ?_⟩
  · cases hs : seen (stf X Y n) i (stf X Y n i) with
    | false => rfl
    | true =>
      obtain ⟨p, hp, e⟩ := (seen_iff _ _ _).mp hs
      exact absurd e.symm (h i p hi hp)
  · have h1 := h i hi
    rw [(seen_iff _ _ _).mpr ⟨j, hj, e.symm⟩] at h1
    cases h1
def Lst2 (w : World) (g : Nat) (a : Option Addr) (n k : Nat) (b : Option Addr) (m d : Nat) : Prop := w.heap[g]? = some (.cells #[.slice a n k, .slice b m d] 22 (0, 0))
theorem Lst2.c0 {w : World} {g : Nat} {a : Option Addr} {n k : Nat} {b : Option Addr} {m d : Nat} (h : Lst2 w g a n k b m d) : w.cell? ⟨g, 0, none⟩ = some (.slice a n k) := by rw [cell_of_row w g 0 _ _ _ h]; rfl
theorem Lst2.c1 {w : World} {g : Nat} {a : Option Addr} {n k : Nat} {b : Option Addr} {m d : Nat} (h : Lst2 w g a n k b m d) : w.cell? ⟨g, 1, none⟩ = some (.slice b m d) := by rw [cell_of_row w g 1 _ _ _ h]; rfl
theorem Lst2.later {w w' : World} {g : Nat} {a : Option Addr} {n k : Nat} {b : Option Addr} {m d : Nat} (h : Lst2 w g a n k b m d) (hb : Below w.heap.size w w') : Lst2 w' g a n k b m d := by unfold Lst2; rw [hb.block g (lt_of_block h)]; exact h
set_option maxRecDepth 20000 in
set_option maxHeartbeats 1000000 in
theorem twice_any (w : World) (g n m k d : Nat) (a b : Option Addr) (X Y : Nat → Nat) (hL : Lst2 w g a n k b m d) (ha : Sl w a n X) (hb : Sl w b m Y) (hn : n ≤ 64) (hm : m ≤ 64) :
    Calls Try.prog 47 #[.slice (some ⟨g, 0, none⟩) 2 2] w fun e w' => (e = .returned (.bool false) ∧ Dst X n Y m ∧ Below w.heap.size w w') ∨ (e = .returned (.bool true) ∧ ¬ Dst X n Y m ∧ Below w.heap.size w w') := by
  obtain ⟨zs, HZ⟩ : ∃ zs, Hid (zs = brow 256 fun _ => false) := ⟨_, rfl⟩
  have z : ∀ w, Sem.run Try.prog (zeroValue 95) w = .ok (.agg zs) w := by rw [HZ.out]; exact zero2b
  obtain ⟨E, HE⟩ : ∃ E, Hid (E = stf X Y n) := ⟨_, rfl⟩
  have HA : Hid (∀ w', Below w.heap.size w w' → Sl w' a n X) := fun w' h => ha.later h
  have HB : Hid (∀ w', Below w.heap.size w w' → Sl w' b m Y) := fun w' h => hb.later h
  have HL : Hid (∀ w', Below w.heap.size w w' → Lst2 w' g a n k b m d) := fun w' h => hL.later h
  clear ha hb hL
  go_enter Try.func47, Try.ntmps47
  go_wp2
  clear z
  go_loopw [5, 7, 10] (fun _ _ st wr => ∃ (t q : Nat), t ≤ 2 ∧ st = .int .i64 (t : Int) ∧ (t = 0 ∧ q = 0 ∨ t = 1 ∧ q = n ∨ t = 2 ∧ q = n + m) ∧ BRowAt wr w.heap.size 256 (seen E q) ∧ (∀ i, i < q → seen E i (E i) = false) ∧ Below w.heap.size w wr) (fun _ _ st _ => 2 - (intOf st).toNat)
  case atStart => exact ⟨0, 0, by omega, rfl, .inl ⟨rfl, rfl⟩, by rw [HZ.out]; exact Array.getElem?_push_size, fun i h => by omega, alloc_low _ _⟩
  case round =>
    obtain ⟨t, q0, ht, rfl, htq, hr, hd, hbl⟩ := hrel
    have HR : Hid (BRowAt wr w.heap.size 256 (seen E q0)) := hr
    have HD : Hid (∀ i, i < q0 → seen E i (E i) = false) := hd
    have HW : Hid (Below w.heap.size w wr) := hbl
    clear hr hd hbl
    by_cases hlt : t < 2
    · obtain ⟨s, l, c, hcl, HS, hl, hnx⟩ : ∃ (s : Option Addr) (l c : Nat), wr.cell? ⟨g, t, none⟩ = some (.slice s l c) ∧ Hid (∀ w', Below w.heap.size w w' → Sl w' s l (fun j => E (q0 + j))) ∧ l ≤ 64 ∧ (t + 1 = 1 ∧ q0 + l = n ∨ t + 1 = 2 ∧ q0 + l = n + m) := by
        have hL := HL.out wr HW.out
        rcases htq with ⟨rfl, rfl⟩ | ⟨rfl, rfl⟩ | ⟨rfl, _⟩
        · exact ⟨a, n, k, hL.c0, fun w' h => (HA.out w' h).congr (fun j hj => by rw [HE.out, Nat.zero_add]; unfold stf; rw [if_pos hj]), hn, .inl ⟨rfl, by omega⟩⟩
        · exact ⟨b, m, d, hL.c1, fun w' h => (HB.out w' h).congr (fun j hj => by rw [HE.out]; unfold stf; rw [if_neg (by omega)]; congr 1; omega), hm, .inr ⟨rfl, by omega⟩⟩
        · omega
      have p0 : (0 : Int) ≤ (t : Int) := by omega
      have p1 : (t : Int) < 2 := by omega
      clear htq
      go_wp2
      go_loopw [7, 16] (fun _ sj wr => ∃ j : Nat, j ≤ l ∧ sj = .int .i64 (j : Int) ∧ BRowAt wr w.heap.size 256 (seen E (q0 + j)) ∧ (∀ i, i < q0 + j → seen E i (E i) = false) ∧ Below w.heap.size w wr) (fun _ sj _ => l - (intOf sj).toNat)
      case atStart => exact ⟨0, by omega, rfl, HR.out, HD.out, HW.out⟩
      case round =>
        clear HR HD HW hcl
        obtain ⟨j, hj, rfl, hr, hd, hbl⟩ := hrel
        have HR : Hid (BRowAt wr w.heap.size 256 (seen E (q0 + j))) := hr
        have HD : Hid (∀ i, i < q0 + j → seen E i (E i) = false) := hd
        have HW : Hid (Below w.heap.size w wr) := hbl
        clear hr hd hbl
        by_cases hlj : j < l
        · obtain ⟨bs, os, es, hcs⟩ := (HS.out wr HW.out).2 j hlj
          have hx8 := (HS.out wr HW.out).1 j hlj
          subst es
          obtain ⟨x, HX⟩ : ∃ x, Hid (E (q0 + j) = x) := ⟨_, rfl⟩
          dsimp only at hcs hx8
          rw [HX.out] at hcs hx8
          have hcm := HR.out.cell x hx8
          have hfm := HR.out.free x
          have r0 : (0 : Int) ≤ (j : Int) := by omega
          have r1 : (j : Int) < (l : Int) := by omega
          have r2 : (0 : Int) ≤ (x : Int) := by omega
          have r3 : (x : Int) < 256 := by omega
          cases hs : seen E (q0 + j) x with
          | true =>
            rw [hs] at hcm
            go_wp2
            go_ret
            refine .inr ⟨rfl, fun h => ?_, HW.out⟩
            have h1 := dst_seen.mp h (q0 + j) (by omega)
            rw [← HE.out, HX.out, hs] at h1
            cases h1
          | false =>
            rw [hs] at hcm
            go_wp2
            refine ⟨⟨j + 1, by omega, by go_num, (HR.out.set x true).congr (fun v _ => ?_), fun i hi => ?_, HW.out.setCell (Nat.le_refl _) _⟩, by simp [intOf]; omega⟩
            · show _ = (if v = E (q0 + j) then true else seen E (q0 + j) v)
              rw [HX.out]
            · by_cases hiq : i < q0 + j
              · exact HD.out i hiq
              · obtain rfl : i = q0 + j := by omega
                rw [HX.out]; exact hs
        · obtain rfl : j = l := by omega
          go_wp2
          refine ⟨⟨t + 1, q0 + j, by omega, by go_num, .inr hnx, HR.out, HD.out, HW.out⟩, by simp [intOf]; omega⟩
    · obtain rfl : t = 2 := by omega
      obtain rfl : q0 = n + m := by omega
      go_wp2
      go_ret
      exact .inl ⟨rfl, dst_seen.mpr (by rw [← HE.out]; exact HD.out), HW.out⟩
end Go.Proofs.Ytblfldjlehjnbaa

namespace Go.Proofs.Ytblfldjlehjnbaa
open Go.RowKit
theorem lst2_new (w : World) (a : Option Addr) (n k : Nat) (b : Option Addr) (m d : Nat) : Lst2 (w.alloc (.cells #[.slice a n k, .slice b m d] 22)) w.heap.size a n k b m d := Array.getElem?_push_size
set_option maxRecDepth 20000 in
set_option maxHeartbeats 2000000 in
theorem bcau_ok (w : World) (n m N k d : Nat) (a b : Option Addr) (X Y : Nat → Nat) (ha : Mt w a n k X) (hb : Mt w b m d Y) (hn : n ≤ 64) (hm : m ≤ 64) (HN : Hid (n * m = N)) (hD : Dst X n Y m) :
    Calls Try.prog 16 #[.slice a n k, .slice b m d] w fun e w' => ∃ g, e = .returned (.tuple #[mv n m (some ⟨g, 0, none⟩) N N, .int .i64 0]) ∧ RowAt w' g 5 N (cauf X Y m) ∧ w.heap.size ≤ g ∧ Below w.heap.size w w' := by
  have HRt : Hid (Rt n m N) := ⟨hn, hm, HN.out⟩
  have HA : Hid (Mt w a n k X) := ha
  have HB : Hid (Mt w b m d Y) := hb
  have HD0 : Hid (Dst X n Y m) := hD
  have hnl : decide (64 < n) = false := by simp; omega
  have hml : decide (64 < m) = false := by simp; omega
  have hN4 := HRt.out.le
  have hbox : Below w.heap.size w ((w.alloc (.cells #[.int .i64 0, .int .i64 0, .slice none 0 0] 24)).alloc (.cells #[.slice a n k, .slice b m d] 22)) := two_below (alloc_low _ _) (alloc_low _ _)
  have HBox : Hid (Below w.heap.size w ((w.alloc (.cells #[.int .i64 0, .int .i64 0, .slice none 0 0] 24)).alloc (.cells #[.slice a n k, .slice b m d] 22))) := hbox
  have HVb : Hid (Vr ((w.alloc (.cells #[.int .i64 0, .int .i64 0, .slice none 0 0] 24)).alloc (.cells #[.slice a n k, .slice b m d] 22)) w.heap.size (.int .i64 0) (.int .i64 0) (.slice none 0 0)) := (Vr.new w _ _ _).later (alloc_low _ _)
  have HTw : Hid (Calls Try.prog 47 #[.slice (some ⟨w.heap.size + 1, 0, none⟩) 2 2] ((w.alloc (.cells #[.int .i64 0, .int .i64 0, .slice none 0 0] 24)).alloc (.cells #[.slice a n k, .slice b m d] 22)) fun e w' => e = .returned (.bool false) ∧ Below ((w.alloc (.cells #[.int .i64 0, .int .i64 0, .slice none 0 0] 24)).alloc (.cells #[.slice a n k, .slice b m d] 22)).heap.size ((w.alloc (.cells #[.int .i64 0, .int .i64 0, .slice none 0 0] 24)).alloc (.cells #[.slice a n k, .slice b m d] 22)) w') := by
    have hl := lst2_new (w.alloc (.cells #[.int .i64 0, .int .i64 0, .slice none 0 0] 24)) a n k b m d
    rw [World.size_alloc] at hl
    refine (twice_any _ (w.heap.size + 1) n m k d a b X Y hl (ha.sl.later hbox) (hb.sl.later hbox) hn hm).mono ?_
    rintro e w' (⟨rfl, _, h2⟩ | ⟨_, hx, _⟩)
    · exact ⟨rfl, h2⟩
    · exact absurd hD hx
  clear ha hb hD hbox
  go_enter Try.func16, Try.ntmps16
  go_wp2_with (first
    | (go_at_call 47; refine HTw.out.mono ?_; rintro e w1 ⟨rfl, hb1⟩; have HB1 : Hid (Below w.heap.size w w1) := two_below HBox.out hb1; have HV1 : Hid (Vr w1 w.heap.size (.int .i64 0) (.int .i64 0) (.slice none 0 0)) := HVb.out.later hb1; clear hb1)
    | (go_at_call 37; refine (mmake_ok _ n m N hn hm HN).mono ?_; rintro e w4 ⟨g, rfl, hr4, hg4, hb4⟩; have HR4 : Hid (RowAt w4 g 5 N (fun _ => 0)) := hr4; have hg5 : w.heap.size < g := Nat.lt_of_lt_of_le HV1.out.lt hg4; have HB4 : Hid (Below w.heap.size w w4) := two_below HB1.out hb4; have HV4 : Hid (Vr w4 w.heap.size (.int .i64 0) (.int .i64 0) (.slice none 0 0)) := HV1.out.later hb4; clear hr4 hg4 hb4))
  have HI0 : Hid (ZInv w w4 (w4.alloc (.cells #[.int .i64 (n : Int), .int .i64 (m : Int), .slice (some ⟨g, 0, none⟩) N N] 24)) g n m N (upt (cauf X Y m) 0)) := ⟨(HR4.out.later (alloc_low _ _)).congr (fun i _ => (if_neg (by omega)).symm), Vr.new w4 _ _ _, HV4.out.later (alloc_low _ _), two_below HB4.out (alloc_low _ _), hg5, HR4.out.lt⟩
  clear HR4 HB4 HV4 HB1 HV1 HTw HBox HVb
  go_loopw [8, 9, 10, 11, 38] (fun _ _ _ _ si wr => ∃ i : Nat, i ≤ n ∧ si = .int .i64 (i : Int) ∧ ZInv w w4 wr g n m N (upt (cauf X Y m) (i * m))) (fun _ _ _ _ si _ => n - (intOf si).toNat)
  case atStart => exact ⟨0, by omega, rfl, HI0.out.congr (fun _ _ => by rw [Nat.zero_mul])⟩
  case round =>
    clear HI0
    obtain ⟨i, hi, rfl, I⟩ := hrel
    have HI : Hid (ZInv w w4 wr g n m N (upt (cauf X Y m) (i * m))) := I
    have c2 := I.vm.c2
    by_cases hlt : i < n
    · obtain ⟨ba, oa, ea, hca⟩ := (HA.out.later I.below).sl.2 i hlt
      subst ea
      obtain ⟨x, HX⟩ : ∃ x, Hid (X i = x) := ⟨_, rfl⟩
      have hx : x < 256 := by rw [← HX.out]; exact HA.out.sl.1 i hlt
      rw [HX.out] at hca
      have p2 : (0 : Int) ≤ (i : Int) := by omega
      have p3 : (i : Int) < (n : Int) := by omega
      clear I
      go_wp2
      go_loopw [10, 11, 45] (fun _ _ sj wr => ∃ j : Nat, j ≤ m ∧ sj = .int .i64 (j : Int) ∧ ZInv w w4 wr g n m N (upt (cauf X Y m) (i * m + j))) (fun _ _ sj _ => m - (intOf sj).toNat)
      case atStart => exact ⟨0, by omega, rfl, HI.out⟩
      case round =>
        clear HI c2 hca
        obtain ⟨j, hj, rfl, I⟩ := hrel
        have HI : Hid (ZInv w w4 wr g n m N (upt (cauf X Y m) (i * m + j))) := I
        have c2 := I.vm.c2
        by_cases hlj : j < m
        · obtain ⟨P, HP⟩ : ∃ x, Hid (i * m + j = x) := ⟨_, rfl⟩
          have hpn : P < N := by rw [← HP.out]; exact HRt.out.at hlt hlj
          obtain ⟨bb, ob, eb, hcb⟩ := (HB.out.later I.below).sl.2 j hlj
          subst eb
          obtain ⟨y, HY⟩ : ∃ x, Hid (Y j = x) := ⟨_, rfl⟩
          have hy : y < 256 := by rw [← HY.out]; exact HB.out.sl.1 j hlj
          rw [HY.out] at hcb
          obtain ⟨u, HU⟩ : ∃ u, Hid (x ^^^ y = u) := ⟨_, rfl⟩
          have hu : u < 256 := by rw [← HU.out]; exact xor_lt _ _ hx hy
          obtain ⟨z, HZ⟩ : ∃ z, Hid (finv u = z) := ⟨_, rfl⟩
          obtain ⟨E, HE⟩ : ∃ z, Hid (ive u = z) := ⟨_, rfl⟩
          have HAdd : Hid (∀ w, Calls Try.prog 49 #[.int .u8 (x : Int), .int .u8 (y : Int)] w fun e w' => e = .returned (.int .u8 (u : Int)) ∧ w = w') := by
            rw [← HU.out, ← ixor_nat]
            exact fun w => (add_any (x : Int) (y : Int) w ⟨by omega, by omega⟩ ⟨by omega, by omega⟩).mono fun _ _ h => ⟨h.1, h.2.symm⟩
          have HInv : Hid (∀ w, Calls Try.prog 48 #[.int .u8 (u : Int)] w fun e w' => e = .returned (.tuple #[.int .u8 (z : Int), .int .i64 E]) ∧ Below w.heap.size w w') := by rw [← HZ.out, ← HE.out]; exact fun w => inv_any u w hu
          have e1 : ((i : Int) * (m : Int)) = ((i * m : Nat) : Int) := by simp
          have hmp : i * m ≤ P := by rw [← HP.out]; omega
          have w1' : IntKind.i64.wrap ((i : Int) * (m : Int)) = (i : Int) * (m : Int) := by rw [e1, IntKind.wrap_i64]; omega
          have w2' : IntKind.i64.wrap ((i : Int) * (m : Int) + (j : Int)) = (P : Int) := by rw [e1, IntKind.wrap_i64]; have := HP.out; omega
          have p0 : (0 : Int) ≤ (P : Int) := by omega
          have p1 : (P : Int) < (N : Int) := by omega
          have p4 : (0 : Int) ≤ (j : Int) := by omega
          have p5 : (j : Int) < (m : Int) := by omega
          have HD : Hid (wr.drew.cell? ⟨w4.heap.size, 2, none⟩ = some (.slice (some ⟨g, 0, none⟩) N N)) := c2
          clear I e1
          go_wp2
          refine wp_region_held (S := fun w' => w'.cell? ⟨w4.heap.size, 2, none⟩ = some (.slice (some ⟨g, 0, none⟩) N N)) (by kernel_rfl) ?_
          change wpAnyH _ _ _ _ _ _ _ _ wr.drew
          refine wpAnyH_take (i := 0) (v := ?va0) rfl (by kernel_rfl) (by kernel_rfl) (by kernel_rfl) (fun _ _ _ h => h) (Or.inl ⟨by rfl, ?ya0⟩) HD.out ?za0
          case ya0 => (intro w hSw; (try dsimp only at hSw); go_simp; try with_reducible rfl)
          try simp only [List.getElem_toArray, List.getElem_cons_zero, Act.put, List.setIfInBounds_toArray, List.set_cons_zero, List.set_cons_succ]
          refine wpAnyH_take (i := 1) (v := ?va1) rfl (by kernel_rfl) (by kernel_rfl) (by kernel_rfl) (fun _ _ _ h => h) (Or.inl ⟨by rfl, ?ya1⟩) HD.out ?za1
          case ya1 => (intro w hSw; (try dsimp only at hSw); go_simp; try with_reducible rfl)
          try simp only [List.getElem_toArray, List.getElem_cons_succ, List.getElem_cons_zero, Act.put, List.setIfInBounds_toArray, List.set_cons_zero, List.set_cons_succ]
          refine wpAnyH_take (i := 2) (v := ?va2) rfl (by kernel_rfl) (by kernel_rfl) (by kernel_rfl) (fun _ _ _ h => h) (Or.inl ⟨by rfl, ?ya2⟩) HD.out ?za2
          case ya2 => (intro w hSw; (try dsimp only at hSw); go_simp; try with_reducible rfl)
          try simp only [List.getElem_toArray, List.getElem_cons_succ, List.getElem_cons_zero, Act.put, List.setIfInBounds_toArray, List.set_cons_zero, List.set_cons_succ]
          refine wpAnyH_take (i := 3) (v := ?va3) rfl (by kernel_rfl) (by kernel_rfl) (by kernel_rfl) (fun _ _ _ h => h) (Or.inl ⟨by rfl, ?ya3⟩) HD.out ?za3
          case ya3 => (intro w hSw; (try dsimp only at hSw); go_simp; try with_reducible rfl)
          try simp only [List.getElem_toArray, List.getElem_cons_succ, List.getElem_cons_zero, Act.put, List.setIfInBounds_toArray, List.set_cons_zero, List.set_cons_succ]
          refine wpAnyH_take (i := 4) (v := ?va4) rfl (by kernel_rfl) (by kernel_rfl) (by kernel_rfl) (fun _ _ _ h => h) (Or.inl ⟨by rfl, ?ya4⟩) HD.out ?za4
          case ya4 => (intro w hSw; (try dsimp only at hSw); go_simp; try with_reducible rfl)
          try simp only [List.getElem_toArray, List.getElem_cons_succ, List.getElem_cons_zero, Act.put, List.setIfInBounds_toArray, List.set_cons_zero, List.set_cons_succ]
          refine wpAnyH_take (i := 5) (v := ?va5) rfl (by kernel_rfl) (by kernel_rfl) (by kernel_rfl) (fun _ _ _ h => h) (Or.inl ⟨by rfl, ?ya5⟩) HD.out ?za5
          case ya5 => (intro w hSw; (try dsimp only at hSw); go_simp; try with_reducible rfl)
          try simp only [List.getElem_toArray, List.getElem_cons_succ, List.getElem_cons_zero, Act.put, List.setIfInBounds_toArray, List.set_cons_zero, List.set_cons_succ]
          refine wpAnyH_take (i := 6) (v := ?va6) rfl (by kernel_rfl) (by kernel_rfl) (by kernel_rfl) (fun _ _ _ h => h) (Or.inl ⟨by rfl, ?ya6⟩) HD.out ?za6
          case ya6 => (intro w hSw; (try dsimp only at hSw); go_simp; try with_reducible rfl)
          try simp only [List.getElem_toArray, List.getElem_cons_succ, List.getElem_cons_zero, Act.put, List.setIfInBounds_toArray, List.set_cons_zero, List.set_cons_succ]
          refine wpAnyH_take (i := 7) (v := ?va7) rfl (by kernel_rfl) (by kernel_rfl) (by kernel_rfl) (fun _ _ _ h => h) (Or.inl ⟨by rfl, ?ya7⟩) HD.out ?za7
          case ya7 => (intro w hSw; (try dsimp only at hSw); go_simp; try with_reducible rfl)
          try simp only [List.getElem_toArray, List.getElem_cons_succ, List.getElem_cons_zero, Act.put, List.setIfInBounds_toArray, List.set_cons_zero, List.set_cons_succ]
          refine wpAnyH_take (i := 8) (v := ?va8) rfl (by kernel_rfl) (by kernel_rfl) (by kernel_rfl) (fun _ _ _ h => h) (Or.inl ⟨by rfl, ?ya8⟩) HD.out ?za8
          case ya8 => (intro w hSw; (try dsimp only at hSw); go_simp; try with_reducible rfl)
          try simp only [List.getElem_toArray, List.getElem_cons_succ, List.getElem_cons_zero, Act.put, List.setIfInBounds_toArray, List.set_cons_zero, List.set_cons_succ]
          refine wpAnyH_take (i := 9) (v := ?va9) rfl (by kernel_rfl) (by kernel_rfl) (by kernel_rfl) (fun _ _ _ h => h) (Or.inl ⟨by rfl, ?ya9⟩) HD.out ?za9
          case ya9 => (intro w hSw; (try dsimp only at hSw); go_simp; try with_reducible rfl)
          try simp only [List.getElem_toArray, List.getElem_cons_succ, List.getElem_cons_zero, Act.put, List.setIfInBounds_toArray, List.set_cons_zero, List.set_cons_succ]
          refine wpAnyH_ready (rs := [10]) (by kernel_rfl) (by simp) ?_
          refine AllReadyH.cons rfl (fun K hK => ?_) AllReadyH.nil
          go_simp
          refine (HAdd.out _).mono ?_; rintro e w' ⟨rfl, rfl⟩
          refine hK.out _ _ HD.out (fun _ => ?_)
          clear hK K
          try simp only [List.getElem_toArray, List.getElem_cons_succ, List.getElem_cons_zero, Act.put, List.setIfInBounds_toArray, List.set_cons_zero, List.set_cons_succ]
          refine wpAnyH_ready (rs := [11]) (by kernel_rfl) (by simp) ?_
          refine AllReadyH.cons rfl (fun K hK => ?_) AllReadyH.nil
          go_simp
          refine (HInv.out _).mono ?_
          rintro e w7 ⟨rfl, hb7⟩
          have I7 : ZInv w w4 w7 g n m N (upt (cauf X Y m) (i * m + j)) := (HI.out.later (Below.refl _ _).drew).later hb7
          have hd := I7.row.cell P hpn
          have hf := I7.row.free P
          have HD1 : Hid (w7.cell? ⟨w4.heap.size, 2, none⟩ = some (.slice (some ⟨g, 0, none⟩) N N)) := I7.vm.c2
          have HN1 : Hid (ZInv w w4 (w7.setCell ⟨g, P, none⟩ (.int .u8 (z : Int))) g n m N (upt (cauf X Y m) (i * m + (j + 1)))) := (I7.set (p := P) (x := z)).congr (fun t _ => by
            rw [← HZ.out, ← HU.out, ← HX.out, ← HY.out, ← HP.out, ← cauf_at hlj]
            exact upt_step (cauf X Y m) (i * m + j) t)
          have HD2 : Hid ((w7.setCell ⟨g, P, none⟩ (.int .u8 (z : Int))).cell? ⟨w4.heap.size, 2, none⟩ = some (.slice (some ⟨g, 0, none⟩) N N)) := HN1.out.vm.c2
          clear I7 hb7
          refine hK.out _ _ HD1.out (fun _ => ?_)
          clear hK K
          try simp only [List.getElem_toArray, List.getElem_cons_succ, List.getElem_cons_zero, Act.put, List.setIfInBounds_toArray, List.set_cons_zero, List.set_cons_succ]
          refine wpAnyH_take (i := 12) (v := ?va12) rfl (by kernel_rfl) (by kernel_rfl) (by kernel_rfl) (fun _ _ _ h => h) (Or.inl ⟨by rfl, ?ya12⟩) HD1.out ?za12
          case ya12 => (intro w hSw; (try dsimp only at hSw); go_simp; try with_reducible rfl)
          try simp only [List.getElem_toArray, List.getElem_cons_succ, List.getElem_cons_zero, Act.put, List.setIfInBounds_toArray, List.set_cons_zero, List.set_cons_succ]
          refine wpAnyH_take (i := 13) (v := ?va13) rfl (by kernel_rfl) (by kernel_rfl) (by kernel_rfl) (fun _ _ _ h => h) (Or.inl ⟨by rfl, ?ya13⟩) HD1.out ?za13
          case ya13 => (intro w hSw; (try dsimp only at hSw); go_simp; try with_reducible rfl)
          try simp only [List.getElem_toArray, List.getElem_cons_succ, List.getElem_cons_zero, Act.put, List.setIfInBounds_toArray, List.set_cons_zero, List.set_cons_succ]
          refine wpAnyH_take (i := 14) (v := ?va14) rfl (by kernel_rfl) (by kernel_rfl) (by kernel_rfl) (fun _ _ _ h => h) (Or.inl ⟨by rfl, ?ya14⟩) HD1.out ?za14
          case ya14 => (intro w hSw; (try dsimp only at hSw); go_simp; try with_reducible rfl)
          try simp only [List.getElem_toArray, List.getElem_cons_succ, List.getElem_cons_zero, Act.put, List.setIfInBounds_toArray, List.set_cons_zero, List.set_cons_succ]
          refine wpAnyH_take (i := 15) (v := ?va15) rfl (by kernel_rfl) (by kernel_rfl) (by kernel_rfl) (fun _ _ _ h => h) (Or.inl ⟨by rfl, ?ya15⟩) HD1.out ?za15
          case ya15 => (intro w hSw; (try dsimp only at hSw); go_simp; try with_reducible rfl)
          try simp only [List.getElem_toArray, List.getElem_cons_succ, List.getElem_cons_zero, Act.put, List.setIfInBounds_toArray, List.set_cons_zero, List.set_cons_succ]
          refine wpAnyH_ready (rs := [16]) (by kernel_rfl) (by simp) ?_
          refine AllReadyH.cons rfl (fun K hK => ?_) AllReadyH.nil
          go_simp
          refine hK.out _ _ HD2.out (fun _ => ?_)
          clear hK K
          try simp only [List.getElem_toArray, List.getElem_cons_succ, List.getElem_cons_zero, Act.put]
          refine wpAnyH_done (by kernel_rfl) ?_ _
          go_wp2
          exact ⟨⟨j + 1, by omega, by go_num, HN1.out⟩, by simp [intOf]; omega⟩
        · obtain rfl : j = m := by omega
          clear I
          go_wp2
          exact ⟨⟨i + 1, by omega, by go_num, HI.out.congr (fun t _ => by rw [Nat.add_mul, Nat.one_mul])⟩, by simp [intOf]; omega⟩
    · obtain rfl : i = n := by omega
      have c0 := I.vm.c0
      have c1 := I.vm.c1
      clear I
      go_wp2_with (refine wpList_store_var rfl _ _ rfl w.heap.size _ _ _ (.int .i64 (i : Int)) (.int .i64 (m : Int)) (.slice (some ⟨g, 0, none⟩) N N) rfl rfl HI.out.vr rfl rfl rfl ?_; intro w5 HV5 HG5)
      have d0 := HV5.out.c0
      have d1 := HV5.out.c1
      have d2 := HV5.out.c2
      refine bodyPost_ret (v := .tuple #[mv i m (some ⟨g, 0, none⟩) N N, .int .i64 0]) (by simp [results, Try.results16, go_sem, d0, d1, d2, mv]) rfl ?_
      exact ⟨g, rfl, (HI.out.row.kept HG5.out (by have := HI.out.lo; omega)).congr (fun t ht => upt_all _ (by rw [HN.out]; exact ht)), by have := HI.out.lo; omega, below_row HI.out.below HG5.out (Nat.le_refl _)⟩
set_option maxRecDepth 20000 in
set_option maxHeartbeats 1000000 in
theorem bcau_dup (w : World) (n m k d : Nat) (a b : Option Addr) (X Y : Nat → Nat) (ha : Mt w a n k X) (hb : Mt w b m d Y) (hn : n ≤ 64) (hm : m ≤ 64) (hD : ¬ Dst X n Y m) :
    Calls Try.prog 16 #[.slice a n k, .slice b m d] w fun e w' => e = .returned (.tuple #[mv 0 0 none 0 0, .int .i64 2]) ∧ Below w.heap.size w w' := by
  have hnl : decide (64 < n) = false := by simp; omega
  have hml : decide (64 < m) = false := by simp; omega
  have hbox : Below w.heap.size w ((w.alloc (.cells #[.int .i64 0, .int .i64 0, .slice none 0 0] 24)).alloc (.cells #[.slice a n k, .slice b m d] 22)) := two_below (alloc_low _ _) (alloc_low _ _)
  have HBox : Hid (Below w.heap.size w ((w.alloc (.cells #[.int .i64 0, .int .i64 0, .slice none 0 0] 24)).alloc (.cells #[.slice a n k, .slice b m d] 22))) := hbox
  have HVb : Hid (Vr ((w.alloc (.cells #[.int .i64 0, .int .i64 0, .slice none 0 0] 24)).alloc (.cells #[.slice a n k, .slice b m d] 22)) w.heap.size (.int .i64 0) (.int .i64 0) (.slice none 0 0)) := (Vr.new w _ _ _).later (alloc_low _ _)
  have HTw : Hid (Calls Try.prog 47 #[.slice (some ⟨w.heap.size + 1, 0, none⟩) 2 2] ((w.alloc (.cells #[.int .i64 0, .int .i64 0, .slice none 0 0] 24)).alloc (.cells #[.slice a n k, .slice b m d] 22)) fun e w' => e = .returned (.bool true) ∧ Below ((w.alloc (.cells #[.int .i64 0, .int .i64 0, .slice none 0 0] 24)).alloc (.cells #[.slice a n k, .slice b m d] 22)).heap.size ((w.alloc (.cells #[.int .i64 0, .int .i64 0, .slice none 0 0] 24)).alloc (.cells #[.slice a n k, .slice b m d] 22)) w') := by
    have hl := lst2_new (w.alloc (.cells #[.int .i64 0, .int .i64 0, .slice none 0 0] 24)) a n k b m d
    rw [World.size_alloc] at hl
    refine (twice_any _ (w.heap.size + 1) n m k d a b X Y hl (ha.sl.later hbox) (hb.sl.later hbox) hn hm).mono ?_
    rintro e w' (⟨_, hx, _⟩ | ⟨rfl, _, h2⟩)
    · exact absurd hx hD
    · exact ⟨rfl, h2⟩
  clear ha hb hD hbox
  go_enter Try.func16, Try.ntmps16
  go_wp2_with (first
    | (go_at_call 47; refine HTw.out.mono ?_; rintro e w1 ⟨rfl, hb1⟩; have HB1 : Hid (Below w.heap.size w w1) := two_below HBox.out hb1; have HV1 : Hid (Vr w1 w.heap.size (.int .i64 0) (.int .i64 0) (.slice none 0 0)) := HVb.out.later hb1; clear hb1)
    | (refine wpList_store_var rfl _ _ rfl w.heap.size _ _ _ (.int .i64 0) (.int .i64 0) (.slice none 0 0) rfl rfl HV1.out rfl rfl rfl ?_; intro w5 HV5 HG5))
  have d0 := HV5.out.c0
  have d1 := HV5.out.c1
  have d2 := HV5.out.c2
  refine bodyPost_ret (v := .tuple #[mv 0 0 none 0 0, .int .i64 2]) (by simp [results, Try.results16, go_sem, d0, d1, d2, mv]) rfl ?_
  exact ⟨rfl, below_row HB1.out HG5.out (Nat.le_refl _)⟩
set_option maxRecDepth 20000 in
set_option maxHeartbeats 1000000 in
theorem bcau_limit (w : World) (n m k d : Nat) (a b : Option Addr) (h : 64 < n ∨ 64 < m) :
    Calls Try.prog 16 #[.slice a n k, .slice b m d] w fun e w' => e = .returned (.tuple #[mv 0 0 none 0 0, .int .i64 4]) ∧ Below w.heap.size w w' := by
  have HV1 : Hid (Vr (w.alloc (.cells #[.int .i64 0, .int .i64 0, .slice none 0 0] 24)) w.heap.size (.int .i64 0) (.int .i64 0) (.slice none 0 0)) := Vr.new w _ _ _
  by_cases h1 : 64 < n
  · have hnl : decide (64 < n) = true := by simpa using h1
    clear h
    go_enter Try.func16, Try.ntmps16
    go_wp2_with (refine wpList_store_var rfl _ _ rfl w.heap.size _ _ _ (.int .i64 0) (.int .i64 0) (.slice none 0 0) rfl rfl HV1.out rfl rfl rfl ?_; intro w5 HV5 HG5)
    have d0 := HV5.out.c0
    have d1 := HV5.out.c1
    have d2 := HV5.out.c2
    refine bodyPost_ret (v := .tuple #[mv 0 0 none 0 0, .int .i64 4]) (by simp [results, Try.results16, go_sem, d0, d1, d2, mv]) rfl ?_
    exact ⟨rfl, below_row (alloc_low _ _) HG5.out (Nat.le_refl _)⟩
  · have hnl : decide (64 < n) = false := by simpa using h1
    have hm1 : 64 < m := by omega
    have hml : decide (64 < m) = true := by simpa using hm1
    clear h
    go_enter Try.func16, Try.ntmps16
    go_wp2_with (refine wpList_store_var rfl _ _ rfl w.heap.size _ _ _ (.int .i64 0) (.int .i64 0) (.slice none 0 0) rfl rfl HV1.out rfl rfl rfl ?_; intro w5 HV5 HG5)
    have d0 := HV5.out.c0
    have d1 := HV5.out.c1
    have d2 := HV5.out.c2
    refine bodyPost_ret (v := .tuple #[mv 0 0 none 0 0, .int .i64 4]) (by simp [results, Try.results16, go_sem, d0, d1, d2, mv]) rfl ?_
    exact ⟨rfl, below_row (alloc_low _ _) HG5.out (Nat.le_refl _)⟩
end Go.Proofs.Ytblfldjlehjnbaa
