/-
  Contracts of the program's token: a token told, names, numbers.
  What holds at the jumps of the program's Cut.
-/
import Derived.Test.YtnjcpmkfghcogaaGreatDoorQbbks38
import Derived.Test.YtnjcpmkfghcogaaGreatDoorQbbks00
set_option maxRecDepth 100000
set_option maxHeartbeats 16000000
namespace Go.Proofs.YtnjcpmkfghcogaaGreatDoor
open Go.RowKit
theorem Cu.kept {w w' : World} {b c : Nat} {s : ByteArray} {bg p ln fs : Nat} {v : Value} (h : Cu w b s bg p ln fs v) (hg : w.grownBy w' (some c)) (hne : b ≠ c) : Cu w' b s bg p ln fs v := by
 have hlt := h.lt
 unfold Cu Vn at *
 rw [hg.block b hlt (by simpa using fun e => hne e)]
 exact h
theorem qeg {w : World} {B : Nat} {v : Value} {s : ByteArray} {L : List Tk} (h : Tls w B v s L) : v.cells = #[v] := by
 obtain ⟨a, d, rfl, _⟩ := h.form
 rfl
theorem qgw {w : World} {B : Nat} {v : Value} {s : ByteArray} {L : List Tk} (h : Tls w B v s L) : v.oneCell' = true := by
 obtain ⟨a, d, rfl, _⟩ := h.form
 rfl
theorem qcp {v : Value} {b : Nat} (h : ∀ g, v.ownBlock = some g → b + 1 ≤ g) : v.ownBlock = none ∨ v.ownBlock ≠ some b := by
  cases hv : v.ownBlock with
  | none => exact .inl rfl
  | some g => exact .inr (fun e => by have := h g hv; have : g = b := by simpa using e
                                      omega)
theorem qbx {ops : Array Oper} {op : Oper} {a : Act} {w : World} {K : Act → World → Prop} {Q : Exit → Act → World → Prop} {E : Prop} (hgd : op.guard = none) (sl x : Operand) (ho : op.op = .call { callee := .builtin .append, args := #[sl, x], argTypes := #[69, 69] })
  (B : Nat) (v : Value) (s : ByteArray) (L : List Tk) (t : Tk) (xs : List Value) (hs : a.eval sl = v) (hown : Tls w B v s L) (ad : Addr) (hx : a.eval x = .slice (some ad) 1 1) (hc : ∀ j u, xs[j]? = some u → w.cell? (ad.add j) = some u) (ht : tcs s t = xs) (hlim : L.length ≤ 65536) (hB : B ≤ w.heap.size)
  (h : ∀ v' w', Tls w' B v' s (L ++ [t]) → w.grownBy w' v.ownBlock → Below B w w' → K (a.put op.dst v') w') : if Region.wanted op (yielded ops a.tmps) = true then Oper.wp Tryz.prog op a w K Q else E := by
 obtain ⟨i0, hi0, hz0, hz1, hz2⟩ := info_parts jtok
 have hw : Region.wanted op (yielded ops a.tmps) = true := by simp [Region.wanted, hgd]
 rw [if_pos hw]
 subst ht
 refine wp_append_own w sl x 69 ho B 104 i0 (.agg #[.int .u8 0, .string ⟨#[]⟩, .int .i64 0, .int .i64 0, .int .i64 0]) 5 48 Tryz.underlying69 hi0 hz0 hz1 hz2 rfl (by decide) v L.length _ hs hown ad 1 1 (tcs s t) hx rfl hc (by intro u hu; simp [tcs] at hu; rcases hu with rfl | rfl | rfl | rfl | rfl <;> rfl) (by unfold maxLen; omega) (by omega) hB (fun v' w' h1 h2 _ => h v' w' (Tls.push rfl rfl h1) h2 (jbelow h2 hB (fun k hk => (hown.base hk).1)))
theorem ttell (w : World) (b bg p ln fs cl k nn : Nat) (s x : ByteArray) (v : Value) (L : List Tk) (t : Tk) (HV : Hid (Cu w b s bg p ln fs v)) (HT : Hid (Tls w (b + 1) v s L)) (hc : fs + cl = bg + 1) (h1 : 1 ≤ cl) (hb : bg ≤ 65536) (hL : L.length ≤ 65536)
  (HX : Hid (tcs s t = [.int .u8 (k : Int), .string x, .int .i64 (nn : Int), .int .i64 (ln : Int), .int .i64 (cl : Int)])) :
  Calls Tryz.prog 108 #[.pointer (some ⟨b, 0, none⟩), .agg #[.int .u8 (k : Int), .string x, .int .i64 (nn : Int), .int .i64 0, .int .i64 0]] w fun e w' => e = .returned (.tuple #[]) ∧ ∃ v', Cu w' b s bg p ln fs v' ∧ Tls w' (b + 1) v' s (L ++ [t]) ∧ Below b w w' := by
 have hlt := HV.out.lt
 go_enter Tryz.func108, Tryz.ntmps108
 go_wp2
 refine wp_region_held (S := fun w' => w'.cell? ⟨b, 3, none⟩ = some (.int .i64 (ln : Int))) (by kernel_rfl) ?_
 change wpAnyH _ _ _ _ _ _ _ _ (World.drew _)
 have hb0 : Below w.heap.size w (w.alloc (.cells #[.int .u8 (k : Int), .string x, .int .i64 (nn : Int), .int .i64 0, .int .i64 0] 104)).drew := (jlow _ _).drew
 have HY0' : Hid (Vn (w.alloc (.cells #[.int .u8 (k : Int), .string x, .int .i64 (nn : Int), .int .i64 0, .int .i64 0] 104)).drew w.heap.size 104 #[.int .u8 (k : Int), .string x, .int .i64 (nn : Int), .int .i64 0, .int .i64 0]) := (Vn.new w _ _).later (qas _)
 obtain ⟨W0, HW0⟩ : ∃ W0, Hid ((w.alloc (.cells #[.int .u8 (k : Int), .string x, .int .i64 (nn : Int), .int .i64 0, .int .i64 0] 104)).drew = W0) := ⟨_, rfl⟩
 rw [HW0.out] at hb0 HY0'
 rw [HW0.out]
 have HY0 := HY0'
 have HX0 := qa0 (HV.out.later hb0)
 have HZ0 := qa0 (HT.out.later hb0)
 have HZb : Hid (∀ g, v.ownBlock = some g → g < w.heap.size) := fun g e => (HT.out.base e).2
 have HB0 : Hid (Below b w W0) := hb0.mono (by omega)
 clear hb0 HY0' HW0
 refine wtkq 0 ?va0 rfl (by kernel_rfl) (fun _ _ _ h => h) (by rfl) ?ya0 HX0.out.c3 ?za0
 case ya0 => (intro w hSw; (try dsimp only at hSw); go_simp; try with_reducible rfl)
 try simp only [mz1, mz3, Act.put, mz4, mz5, mz6]
 refine wtkq 1 ?va1 rfl (by kernel_rfl) (fun _ _ _ h => h) (by rfl) ?ya1 HX0.out.c3 ?za1
 case ya1 => (intro w hSw; (try dsimp only at hSw); go_simp; try with_reducible rfl)
 try simp only [mz1, mz2, mz3, Act.put, mz4, mz5, mz6]
 refine wtkq 2 ?va2 rfl (by kernel_rfl) (fun _ _ _ h => h) (by rfl) ?ya2 HX0.out.c3 ?za2
 case ya2 => (intro w hSw; (try dsimp only at hSw); go_simp; try with_reducible rfl)
 try simp only [mz1, mz2, mz3, Act.put, mz4, mz5, mz6]
 refine wtkq 3 ?va3 rfl (by kernel_rfl) (fun _ _ _ h => h) (by rfl) ?ya3 HX0.out.c3 ?za3
 case ya3 => (intro w hSw; (try dsimp only at hSw); go_simp; try with_reducible rfl)
 try simp only [mz1, mz2, mz3, Act.put, mz4, mz5, mz6]
 refine wtkq 4 ?va4 rfl (by kernel_rfl) (fun _ _ _ h => h) (by rfl) ?ya4 HX0.out.c3 ?za4
 case ya4 => (intro w hSw; (try dsimp only at hSw); go_simp; try with_reducible rfl)
 try simp only [mz1, mz2, mz3, Act.put, mz4, mz5, mz6]
 refine wtkq 6 ?va6 rfl (by kernel_rfl) (fun _ _ _ h => h) (by rfl) ?ya6 HX0.out.c3 ?za6
 case ya6 => (intro w hSw; (try dsimp only at hSw); go_simp; try with_reducible rfl)
 try simp only [mz1, mz2, mz3, Act.put, mz4, mz5, mz6]
 refine wpAnyH_ready (rs := [5]) (by kernel_rfl) (by simp) ?_
 refine AllReadyH.cons rfl (fun KK hKK => ?_) AllReadyH.nil
 go_simp
 refine (tcol _ b bg p ln fs cl s v HX0 hc hb h1).mono ?_; rintro r1 w1 ⟨rfl, hb1⟩; have HX1 := qa0 (HX0.out.later hb1); have HY1 := qa0 (HY0.out.later hb1); have HZ1 := qa0 (HZ0.out.later hb1); have HB1 : Hid (Below b w w1) := HB0.out.trans (hb1.mono (by have := HB0.out.size; omega)); clear hb1
 refine hKK.out _ _ HX1.out.c3 (fun _ => ?_)
 clear hKK KK
 try simp only [mz1, mz2, mz3, Act.put, mz4, mz5, mz6]
 refine wpAnyH_ready (rs := [7]) (by kernel_rfl) (by simp) ?_
 refine AllReadyH.cons rfl (fun KK hKK => ?_) AllReadyH.nil
 refine qa8 3 _ _ rfl w.heap.size 3 104 _ (.int .i64 (ln : Int)) rfl rfl szInt rfl rfl HY1.out (by simp) ?_; intro W2 hv2 hg2; have HY2 : Hid (Vn W2 w.heap.size 104 #[.int .u8 (k : Int), .string x, .int .i64 (nn : Int), .int .i64 (ln : Int), .int .i64 0]) := hv2; have HX2 := qa0 (HX1.out.kept hg2.out (by omega)); have HZ2 := qa0 (HZ1.out.kept hg2.out (own_lt (fun g e => (HZb.out g e)))); have HB2 : Hid (Below b w W2) := HB1.out.trans (jbelow hg2.out (by have := HB1.out.size; omega) (fun g e => by cases e; omega)); clear hv2 hg2
 refine hKK.out _ _ HX2.out.c3 (fun _ => ?_)
 clear hKK KK
 try simp only [mz1, mz2, mz3, Act.put]
 refine wtkq 8 ?va8 rfl (by kernel_rfl) (fun _ _ _ h => h) (by rfl) ?ya8 HX2.out.c3 ?za8
 case ya8 => (intro w hSw; (try dsimp only at hSw); go_simp; try with_reducible rfl)
 try simp only [mz1, mz2, mz3, Act.put, mz4, mz5, mz6]
 refine wpAnyH_ready (rs := [9]) (by kernel_rfl) (by simp) ?_
 refine AllReadyH.cons rfl (fun KK hKK => ?_) AllReadyH.nil
 refine qa8 3 _ _ rfl w.heap.size 4 104 _ (.int .i64 (cl : Int)) rfl rfl szInt rfl rfl HY2.out (by simp) ?_; intro W3 hv3 hg3; have HY3 : Hid (Vn W3 w.heap.size 104 #[.int .u8 (k : Int), .string x, .int .i64 (nn : Int), .int .i64 (ln : Int), .int .i64 (cl : Int)]) := hv3; have HX3 := qa0 (HX2.out.kept hg3.out (by omega)); have HZ3 := qa0 (HZ2.out.kept hg3.out (own_lt (fun g e => (HZb.out g e)))); have HB3 : Hid (Below b w W3) := HB2.out.trans (jbelow hg3.out (by have := HB2.out.size; omega) (fun g e => by cases e; omega)); clear hv3 hg3
 refine hKK.out _ _ HX3.out.c3 (fun _ => ?_)
 clear hKK KK
 try simp only [mz1, mz2, mz3, Act.put]
 refine wpAnyH_done (by kernel_rfl) ?_ _
 go_wp2
 refine wp_region_held (S := fun _ => True) (by kernel_rfl) ?_
 change wpAnyH _ _ _ _ _ _ _ _ (World.drew _)
 obtain ⟨W4, HW4⟩ : ∃ W4, Hid (W3.drew = W4) := ⟨_, rfl⟩
 rw [HW4.out]
 have hb4 : Below W3.heap.size W3 W4 := by rw [← HW4.out]; exact qas _
 have HX4 := qa0 (HX3.out.later hb4)
 have HY4 := qa0 (HY3.out.later hb4)
 have HZ4 := qa0 (HZ3.out.later hb4)
 have HB4 : Hid (Below b w W4) := HB3.out.trans (hb4.mono (by have := HB3.out.size; omega))
 clear hb4 HW4
 have c5 := HX4.out.c5
 have g0 := HY4.out.cell 0 _ rfl
 have g1 := HY4.out.cell 1 _ rfl
 have g2 := HY4.out.cell 2 _ rfl
 have g3 := HY4.out.cell 3 _ rfl
 have g4 := HY4.out.cell 4 _ rfl
 refine wtkq 0 ?vb0 rfl (by kernel_rfl) (fun _ _ _ h => h) (by rfl) ?yb0 trivial ?zb0
 case yb0 => (intro w hSw; (try dsimp only at hSw); go_simp; try with_reducible rfl)
 try simp only [mz1, mz3, Act.put, mz4, mz5, mz6]
 refine wtkq 1 ?vb1 rfl (by kernel_rfl) (fun _ _ _ h => h) (by rfl) ?yb1 trivial ?zb1
 case yb1 => (intro w hSw; (try dsimp only at hSw); go_simp; try with_reducible rfl)
 try simp only [mz1, mz2, mz3, Act.put, mz4, mz5, mz6]
 refine wtkq 2 ?vb2 rfl (by kernel_rfl) (fun _ _ _ h => h) (by rfl) ?yb2 trivial ?zb2
 case yb2 => (intro w hSw; (try dsimp only at hSw); go_simp; try with_reducible rfl)
 try simp only [mz1, mz2, mz3, Act.put, mz4, mz5, mz6]
 refine wtkq 3 ?vb3 rfl (by kernel_rfl) (fun _ _ _ h => h) (by rfl) ?yb3 trivial ?zb3
 case yb3 => (intro w hSw; (try dsimp only at hSw); go_simp; try with_reducible rfl)
 try simp only [mz1, mz2, mz3, Act.put, mz4, mz5, mz6]
 refine wpAnyH_ready (rs := [4, 5]) (by kernel_rfl) (by simp) ?_
 refine AllReadyH.cons rfl (fun KK hKK => ?px1) (AllReadyH.cons rfl (fun KK hKK => ?px2) AllReadyH.nil)
 case px1 =>
  go_simp
  refine hKK.out _ _ trivial (fun _ => ?_)
  clear hKK KK
  try simp only [mz1, mz2, mz3, Act.put, mz4, mz5, mz6]
  refine wpAnyH_ready (rs := [5]) (by kernel_rfl) (by simp) ?_
  refine AllReadyH.cons rfl (fun KK hKK => ?_) AllReadyH.nil
  go_simp
  refine hKK.out _ _ trivial (fun _ => ?_)
  clear hKK KK
  try simp only [mz1, mz2, mz3, Act.put, mz4, mz5, mz6]
  refine wpAnyH_ready (rs := [6]) (by kernel_rfl) (by simp) ?_
  refine AllReadyH.cons rfl (fun KK hKK => ?_) AllReadyH.nil
  go_simp
  have hal := jlow W4 (.cells #[.int .u8 (k : Int), .string x, .int .i64 (nn : Int), .int .i64 (ln : Int), .int .i64 (cl : Int)] 104)
  have HX5 := qa0 (HX4.out.later hal)
  have HZ5 := qa0 (HZ4.out.later hal)
  have c5b := HX5.out.c5
  have hz4 := HB4.out.size
  clear hal
  refine hKK.out _ _ trivial (fun _ => ?_)
  clear hKK KK
  try simp only [mz1, mz2, mz3, Act.put, mz4, mz5, mz6]
  refine wpAnyH_ready (rs := [7]) (by kernel_rfl) (by simp) ?_
  refine AllReadyH.cons rfl (fun KK hKK => ?_) AllReadyH.nil
  refine qbx rfl _ _ rfl (b + 1) v s L t _ rfl HZ5.out ⟨W4.heap.size, 0, none⟩ (by first | rfl | (simp; rfl)) (qbm _ _ _) HX.out hL (by simp; omega) ?_
  intro v9 w6 ht6 hg6 hb6
  have HT6 := qa0 ht6
  have HX6 : Hid (Cu w6 b s bg p ln fs v) := by
   have h5 := HX5.out
   unfold Hid Cu Vn at *
   rw [hb6.block b (by omega)]
   exact h5
  have HB6 : Hid (Below b w w6) := HB4.out.trans (((jlow _ _).mono (by omega)).trans (hb6.mono (by omega)))
  clear ht6 hb6 hg6
  refine hKK.out _ _ trivial (fun _ => ?_)
  clear hKK KK
  try simp only [mz1, mz2, mz3, Act.put, mz4, mz5, mz6]
  refine wtkq 8 ?vc8 rfl (by kernel_rfl) (fun _ _ _ h => h) (by rfl) ?yc8 trivial ?zc8
  case yc8 => (intro w hSw; (try dsimp only at hSw); go_simp; try with_reducible rfl)
  try simp only [mz1, mz2, mz3, Act.put, mz4, mz5, mz6]
  refine wtkq 9 ?vc9 rfl (by kernel_rfl) (fun _ _ _ h => h) (by rfl) ?yc9 trivial ?zc9
  case yc9 => (intro w hSw; (try dsimp only at hSw); go_simp; try with_reducible rfl)
  try simp only [mz1, mz2, mz3, Act.put, mz4, mz5, mz6]
  refine wpAnyH_ready (rs := [10]) (by kernel_rfl) (by simp) ?_
  refine AllReadyH.cons rfl (fun KK hKK => ?_) AllReadyH.nil
  refine qa8 69 _ _ rfl b 5 134 _ v9 rfl rfl szTks (qeg HT6.out) (qgw HT6.out) HX6.out (by simp) ?_; intro W9 hv9 hg9; have HV9 : Hid (Cu W9 b s bg p ln fs v9) := hv9; have HT9 := qa0 (HT6.out.kept hg9.out (qcp (fun g e => (HT6.out.base e).1))); have HB9 : Hid (Below b w W9) := HB6.out.trans (jbelow hg9.out (by have := HB6.out.size; omega) (fun g e => by cases e; exact Nat.le_refl _)); clear hv9 hg9
  refine hKK.out _ _ trivial (fun _ => ?_)
  clear hKK KK
  try simp only [mz1, mz2, mz3, Act.put]
  refine wpAnyH_done (by kernel_rfl) ?_ _
  go_end0
  exact ⟨rfl, v9, HV9.out, HT9.out, HB9.out⟩
 case px2 =>
  go_simp
  refine hKK.out _ _ trivial (fun _ => ?_)
  clear hKK KK
  try simp only [mz1, mz2, mz3, Act.put, mz4, mz5, mz6]
  refine wpAnyH_ready (rs := [4, 6]) (by kernel_rfl) (by simp) ?_
  refine AllReadyH.cons rfl (fun KK hKK => ?py1) (AllReadyH.cons rfl (fun KK hKK => ?py2) AllReadyH.nil)
  case py1 =>
   go_simp
   refine hKK.out _ _ trivial (fun _ => ?_)
   clear hKK KK
   try simp only [mz1, mz2, mz3, Act.put, mz4, mz5, mz6]
   refine wpAnyH_ready (rs := [6]) (by kernel_rfl) (by simp) ?_
   refine AllReadyH.cons rfl (fun KK hKK => ?_) AllReadyH.nil
   go_simp
   have hal := jlow W4 (.cells #[.int .u8 (k : Int), .string x, .int .i64 (nn : Int), .int .i64 (ln : Int), .int .i64 (cl : Int)] 104)
   have HX5 := qa0 (HX4.out.later hal)
   have HZ5 := qa0 (HZ4.out.later hal)
   have c5b := HX5.out.c5
   have hz4 := HB4.out.size
   clear hal
   refine hKK.out _ _ trivial (fun _ => ?_)
   clear hKK KK
   try simp only [mz1, mz2, mz3, Act.put, mz4, mz5, mz6]
   refine wpAnyH_ready (rs := [7]) (by kernel_rfl) (by simp) ?_
   refine AllReadyH.cons rfl (fun KK hKK => ?_) AllReadyH.nil
   refine qbx rfl _ _ rfl (b + 1) v s L t _ rfl HZ5.out ⟨W4.heap.size, 0, none⟩ (by first | rfl | (simp; rfl)) (qbm _ _ _) HX.out hL (by simp; omega) ?_
   intro v9 w6 ht6 hg6 hb6
   have HT6 := qa0 ht6
   have HX6 : Hid (Cu w6 b s bg p ln fs v) := by
    have h5 := HX5.out
    unfold Hid Cu Vn at *
    rw [hb6.block b (by omega)]
    exact h5
   have HB6 : Hid (Below b w w6) := HB4.out.trans (((jlow _ _).mono (by omega)).trans (hb6.mono (by omega)))
   clear ht6 hb6 hg6
   refine hKK.out _ _ trivial (fun _ => ?_)
   clear hKK KK
   try simp only [mz1, mz2, mz3, Act.put, mz4, mz5, mz6]
   refine wtkq 8 ?ve8 rfl (by kernel_rfl) (fun _ _ _ h => h) (by rfl) ?ye8 trivial ?ze8
   case ye8 => (intro w hSw; (try dsimp only at hSw); go_simp; try with_reducible rfl)
   try simp only [mz1, mz2, mz3, Act.put, mz4, mz5, mz6]
   refine wtkq 9 ?ve9 rfl (by kernel_rfl) (fun _ _ _ h => h) (by rfl) ?ye9 trivial ?ze9
   case ye9 => (intro w hSw; (try dsimp only at hSw); go_simp; try with_reducible rfl)
   try simp only [mz1, mz2, mz3, Act.put, mz4, mz5, mz6]
   refine wpAnyH_ready (rs := [10]) (by kernel_rfl) (by simp) ?_
   refine AllReadyH.cons rfl (fun KK hKK => ?_) AllReadyH.nil
   refine qa8 69 _ _ rfl b 5 134 _ v9 rfl rfl szTks (qeg HT6.out) (qgw HT6.out) HX6.out (by simp) ?_; intro W9 hv9 hg9; have HV9 : Hid (Cu W9 b s bg p ln fs v9) := hv9; have HT9 := qa0 (HT6.out.kept hg9.out (qcp (fun g e => (HT6.out.base e).1))); have HB9 : Hid (Below b w W9) := HB6.out.trans (jbelow hg9.out (by have := HB6.out.size; omega) (fun g e => by cases e; exact Nat.le_refl _)); clear hv9 hg9
   refine hKK.out _ _ trivial (fun _ => ?_)
   clear hKK KK
   try simp only [mz1, mz2, mz3, Act.put]
   refine wpAnyH_done (by kernel_rfl) ?_ _
   go_end0
   exact ⟨rfl, v9, HV9.out, HT9.out, HB9.out⟩
  case py2 =>
   go_simp
   have hal := jlow W4 (.cells #[.int .u8 (k : Int), .string x, .int .i64 (nn : Int), .int .i64 (ln : Int), .int .i64 (cl : Int)] 104)
   have HX5 := qa0 (HX4.out.later hal)
   have HZ5 := qa0 (HZ4.out.later hal)
   have c5b := HX5.out.c5
   have hz4 := HB4.out.size
   clear hal
   refine hKK.out _ _ trivial (fun _ => ?_)
   clear hKK KK
   try simp only [mz1, mz2, mz3, Act.put, mz4, mz5, mz6]
   refine wpAnyH_ready (rs := [4]) (by kernel_rfl) (by simp) ?_
   refine AllReadyH.cons rfl (fun KK hKK => ?_) AllReadyH.nil
   go_simp
   refine hKK.out _ _ trivial (fun _ => ?_)
   clear hKK KK
   try simp only [mz1, mz2, mz3, Act.put, mz4, mz5, mz6]
   refine wpAnyH_ready (rs := [7]) (by kernel_rfl) (by simp) ?_
   refine AllReadyH.cons rfl (fun KK hKK => ?_) AllReadyH.nil
   refine qbx rfl _ _ rfl (b + 1) v s L t _ rfl HZ5.out ⟨W4.heap.size, 0, none⟩ (by first | rfl | (simp; rfl)) (qbm _ _ _) HX.out hL (by simp; omega) ?_
   intro v9 w6 ht6 hg6 hb6
   have HT6 := qa0 ht6
   have HX6 : Hid (Cu w6 b s bg p ln fs v) := by
    have h5 := HX5.out
    unfold Hid Cu Vn at *
    rw [hb6.block b (by omega)]
    exact h5
   have HB6 : Hid (Below b w w6) := HB4.out.trans (((jlow _ _).mono (by omega)).trans (hb6.mono (by omega)))
   clear ht6 hb6 hg6
   refine hKK.out _ _ trivial (fun _ => ?_)
   clear hKK KK
   try simp only [mz1, mz2, mz3, Act.put, mz4, mz5, mz6]
   refine wtkq 8 ?vf8 rfl (by kernel_rfl) (fun _ _ _ h => h) (by rfl) ?yf8 trivial ?zf8
   case yf8 => (intro w hSw; (try dsimp only at hSw); go_simp; try with_reducible rfl)
   try simp only [mz1, mz2, mz3, Act.put, mz4, mz5, mz6]
   refine wtkq 9 ?vf9 rfl (by kernel_rfl) (fun _ _ _ h => h) (by rfl) ?yf9 trivial ?zf9
   case yf9 => (intro w hSw; (try dsimp only at hSw); go_simp; try with_reducible rfl)
   try simp only [mz1, mz2, mz3, Act.put, mz4, mz5, mz6]
   refine wpAnyH_ready (rs := [10]) (by kernel_rfl) (by simp) ?_
   refine AllReadyH.cons rfl (fun KK hKK => ?_) AllReadyH.nil
   refine qa8 69 _ _ rfl b 5 134 _ v9 rfl rfl szTks (qeg HT6.out) (qgw HT6.out) HX6.out (by simp) ?_; intro W9 hv9 hg9; have HV9 : Hid (Cu W9 b s bg p ln fs v9) := hv9; have HT9 := qa0 (HT6.out.kept hg9.out (qcp (fun g e => (HT6.out.base e).1))); have HB9 : Hid (Below b w W9) := HB6.out.trans (jbelow hg9.out (by have := HB6.out.size; omega) (fun g e => by cases e; exact Nat.le_refl _)); clear hv9 hg9
   refine hKK.out _ _ trivial (fun _ => ?_)
   clear hKK KK
   try simp only [mz1, mz2, mz3, Act.put]
   refine wpAnyH_done (by kernel_rfl) ?_ _
   go_end0
   exact ⟨rfl, v9, HV9.out, HT9.out, HB9.out⟩
theorem tnamed (w : World) (x : ByteArray) (k : Nat) (HT : Hid (Wt9 w)) (HK : Hid (k = if isW x then 2 else 1)) : Calls Tryz.prog 109 #[.string x] w fun e w' => e = .returned (.agg #[.int .u8 (k : Int), .string x, .int .i64 0, .int .i64 0, .int .i64 0]) ∧ Below w.heap.size w w' := by
 have HVt := qa0 (Vn.new w 104 #[.int .u8 0, .string ⟨#[]⟩, .int .i64 0, .int .i64 0, .int .i64 0])
 have HCl : Hid (∀ w' : World, Below w.heap.size w w' → Calls Tryz.prog 149 #[.string x] w' fun e w'' => e = .returned (.bool (isW x)) ∧ w' = w'') := fun w' hb => qe8 w' x (HT.out.later hb)
 cases hw : isW x with
 | true =>
  obtain rfl : k = 2 := by rw [HK.out, hw]; rfl
  rw [hw] at HCl
  clear HK hw
  go_enter Tryz.func109, Tryz.ntmps109
  go_wp2_with (first
   | (go_at_call 149; refine (HCl.out _ (jlow _ _)).mono ?_; rintro e w1 ⟨rfl, rfl⟩)
   | (refine qa1 rfl 104 _ _ rfl w.heap.size _ #[.int .u8 2, .string x, .int .i64 0, .int .i64 0, .int .i64 0] rfl rfl HVt.out sizeTok rfl (all5 rfl rfl rfl rfl rfl) ?_; intro w8 HV8 hg8))
  have d0 := HV8.out.cell 0 _ rfl
  have d1 := HV8.out.cell 1 _ rfl
  have d2 := HV8.out.cell 2 _ rfl
  have d3 := HV8.out.cell 3 _ rfl
  have d4 := HV8.out.cell 4 _ rfl
  refine bodyPost_ret (v := .agg #[.int .u8 2, .string x, .int .i64 0, .int .i64 0, .int .i64 0]) (by simp [results, Tryz.results109, go_sem, d0, d1, d2, d3, d4]) rfl ?_
  exact ⟨rfl, (jlow _ _).trans (jbelow hg8.out (jlow _ _).size (fun g e => by cases e; exact Nat.le_refl _))⟩
 | false =>
  obtain rfl : k = 1 := by rw [HK.out, hw]; rfl
  rw [hw] at HCl
  clear HK hw
  go_enter Tryz.func109, Tryz.ntmps109
  go_wp2_with (first
   | (go_at_call 149; refine (HCl.out _ (jlow _ _)).mono ?_; rintro e w1 ⟨rfl, rfl⟩)
   | (refine qa1 rfl 104 _ _ rfl w.heap.size _ #[.int .u8 1, .string x, .int .i64 0, .int .i64 0, .int .i64 0] rfl rfl HVt.out sizeTok rfl (all5 rfl rfl rfl rfl rfl) ?_; intro w8 HV8 hg8))
  have d0 := HV8.out.cell 0 _ rfl
  have d1 := HV8.out.cell 1 _ rfl
  have d2 := HV8.out.cell 2 _ rfl
  have d3 := HV8.out.cell 3 _ rfl
  have d4 := HV8.out.cell 4 _ rfl
  refine bodyPost_ret (v := .agg #[.int .u8 1, .string x, .int .i64 0, .int .i64 0, .int .i64 0]) (by simp [results, Tryz.results109, go_sem, d0, d1, d2, d3, d4]) rfl ?_
  exact ⟨rfl, (jlow _ _).trans (jbelow hg8.out (jlow _ _).size (fun g e => by cases e; exact Nat.le_refl _))⟩
theorem qhm (w : World) (x : ByteArray) (n V : Nat) (hn : x.size = n) (h0 : 1 ≤ n) (hs : n ≤ 65536) (HD : Hid (∀ j, j < n → isD (tb x j) = true)) (hv : nvl x 0 n = V) (hlt : V < 9223372036854775808) :
  Calls Tryz.prog 150 #[.string x] w fun e w' => e = .returned (.tuple #[.int .i64 (V : Int), .nilIface]) ∧ Below w.heap.size w w' := by
 subst hn hv
 obtain ⟨T, h⟩ := qga w x (by omega) _ ((qfm h0 HD.out).1 hlt)
 refine h.mono (fun e w' h => ⟨h.1, ?_⟩)
 rcases h.2 with rfl | ⟨t, rfl⟩
 ·exact Below.refl _ _
 ·exact Lib.bytesWorld_below _ _ _
theorem atoi_no (w : World) (x : ByteArray) (n V : Nat) (hn : x.size = n) (h0 : 1 ≤ n) (hs : n ≤ 65536) (HD : Hid (∀ j, j < n → isD (tb x j) = true)) (hv : nvl x 0 n = V) (hlt : 9223372036854775808 ≤ V) (HE : Hid (Er9 w)) :
  ∃ T, Calls Tryz.prog 150 #[.string x] w fun e w' => ∃ N : Nat, e = .returned (.tuple #[.int .i64 9223372036854775807, .iface T (.pointer (some ⟨N, 0, none⟩))]) ∧ Below w.heap.size w w' := by
 subst hn hv
 obtain ⟨tp, p, hvar⟩ := HE.out
 obtain ⟨h1, h2⟩ := (qfm h0 HD.out).2 hlt
 obtain ⟨T, h⟩ := qen w x (by omega) h1 tp p hvar
 rw [h2] at h
 exact ⟨T, h⟩
theorem qcn (w : World) (x : ByteArray) (n V : Nat) (hn : x.size = n) (h0 : 1 ≤ n) (hs : n ≤ 65536) (HD : Hid (∀ j, j < n → isD (tb x j) = true)) (HO : Hid (NumOk x 0 n)) (hv : nvl x 0 n = V) :
  Calls Tryz.prog 112 #[.string x] w fun e w' => e = .returned (.tuple #[.int .i64 (V : Int), .bool true]) ∧ Below w.heap.size w w' := by
 have hV : V ≤ 2147483647 := by have := HO.out.2; rw [Nat.sub_zero, hv] at this; exact this
 have HC : Hid (∀ w' : World, Calls Tryz.prog 150 #[.string x] w' fun e w'' => e = .returned (.tuple #[.int .i64 (V : Int), .nilIface]) ∧ Below w'.heap.size w' w'') := fun w' => qhm w' x n V hn h0 hs HD hv (by omega)
 have qV : decide ((V : Int) ≤ 2147483647) = true := decide_eq_true (by omega)
 obtain ⟨c, HCc⟩ : ∃ c, Hid (tb x 0 = c) := ⟨_, rfl⟩
 have hx0 : 0 < x.size := by omega
 have hc : x[0].toNat = c := by rw [← HCc.out]; exact qca hx0
 have hHO : ¬ (c = 48 ∧ 1 < n) := by have := HO.out.1; rw [Nat.sub_zero, HCc.out] at this; exact this
 clear HD hv
 by_cases h2 : 1 < n
 ·have q48 : ((c : Int) == 48) = false := by simp; omega
  have q1 : decide (1 < x.size) = true := decide_eq_true (by omega)
  have q2 : decide ((1 : Int) < (x.size : Int)) = true := decide_eq_true (by omega)
  go_enter Tryz.func112, Tryz.ntmps112
  go_wp2_with (go_at_call 150; refine (HC.out _).mono ?_; rintro e w1 ⟨rfl, hb1⟩; have HB1 := qa0 hb1; clear hb1)
  go_ret2
  exact ⟨rfl, HB1.out⟩
 ·have q1 : decide (1 < x.size) = false := decide_eq_false (by omega)
  have q2 : decide ((1 : Int) < (x.size : Int)) = false := decide_eq_false (by omega)
  go_enter Tryz.func112, Tryz.ntmps112
  go_wp2_with (go_at_call 150; refine (HC.out _).mono ?_; rintro e w1 ⟨rfl, hb1⟩; have HB1 := qa0 hb1; clear hb1)
  go_ret2
  exact ⟨rfl, HB1.out⟩
theorem qg1 (w : World) (x : ByteArray) (n : Nat) (hn : x.size = n) (h0 : 1 ≤ n) (hs : n ≤ 65536) (HD : Hid (∀ j, j < n → isD (tb x j) = true)) (HO : Hid (¬ NumOk x 0 n)) (HE : Hid (Er9 w)) :
  Calls Tryz.prog 112 #[.string x] w fun e w' => ∃ m : Int, e = .returned (.tuple #[.int .i64 m, .bool false]) ∧ Below w.heap.size w w' := by
 obtain ⟨c, HCc⟩ : ∃ c, Hid (tb x 0 = c) := ⟨_, rfl⟩
 have hx0 : 0 < x.size := by omega
 have hc : x[0].toNat = c := by rw [← HCc.out]; exact qca hx0
 by_cases h48 : c = 48 ∧ 1 < n
 ·obtain ⟨rfl, h2⟩ := h48
  have q1 : decide (1 < x.size) = true := decide_eq_true (by omega)
  have q2 : decide ((1 : Int) < (x.size : Int)) = true := decide_eq_true (by omega)
  go_enter Tryz.func112, Tryz.ntmps112
  go_wp2
  go_ret2
  exact ⟨_, rfl, Below.refl _ _⟩
 ·obtain ⟨V, hv⟩ : ∃ V, nvl x 0 n = V := ⟨_, rfl⟩
  have hV : 2147483647 < V := by
   rcases Nat.lt_or_ge 2147483647 V with h | h
   ·exact h
   ·exact absurd ⟨by rw [Nat.sub_zero, HCc.out]; exact h48, by rw [Nat.sub_zero, hv]; exact h⟩ HO.out
  have HE0 := HE
  by_cases h63 : V < 9223372036854775808
  ·have HC : Hid (∀ w' : World, Calls Tryz.prog 150 #[.string x] w' fun e w'' => e = .returned (.tuple #[.int .i64 (V : Int), .nilIface]) ∧ Below w'.heap.size w' w'') := fun w' => qhm w' x n V hn h0 hs HD hv h63
   have qV : decide ((V : Int) ≤ 2147483647) = false := decide_eq_false (by omega)
   clear HD hv
   by_cases h2 : 1 < n
   ·have q48 : ((c : Int) == 48) = false := by simp; omega
    have q1 : decide (1 < x.size) = true := decide_eq_true (by omega)
    have q2 : decide ((1 : Int) < (x.size : Int)) = true := decide_eq_true (by omega)
    go_enter Tryz.func112, Tryz.ntmps112
    go_wp2_with (go_at_call 150; refine (HC.out _).mono ?_; rintro e w1 ⟨rfl, hb1⟩; have HB1 := qa0 hb1; clear hb1)
    go_ret2
    exact ⟨_, rfl, HB1.out⟩
   ·have q1 : decide (1 < x.size) = false := decide_eq_false (by omega)
    have q2 : decide ((1 : Int) < (x.size : Int)) = false := decide_eq_false (by omega)
    go_enter Tryz.func112, Tryz.ntmps112
    go_wp2_with (go_at_call 150; refine (HC.out _).mono ?_; rintro e w1 ⟨rfl, hb1⟩; have HB1 := qa0 hb1; clear hb1)
    go_ret2
    exact ⟨_, rfl, HB1.out⟩
  ·obtain ⟨T, hC⟩ := atoi_no w x n V hn h0 hs HD hv (by omega) HE
   have HC := qa0 hC
   clear HD hv hC
   by_cases h2 : 1 < n
   ·have q48 : ((c : Int) == 48) = false := by simp; omega
    have q1 : decide (1 < x.size) = true := decide_eq_true (by omega)
    have q2 : decide ((1 : Int) < (x.size : Int)) = true := decide_eq_true (by omega)
    go_enter Tryz.func112, Tryz.ntmps112
    go_wp2_with (go_at_call 150; refine HC.out.mono ?_; rintro e w1 ⟨N, rfl, hb1⟩; have HB1 := qa0 hb1; clear hb1)
    go_ret2
    exact ⟨_, rfl, HB1.out⟩
   ·have q1 : decide (1 < x.size) = false := decide_eq_false (by omega)
    have q2 : decide ((1 : Int) < (x.size : Int)) = false := decide_eq_false (by omega)
    go_enter Tryz.func112, Tryz.ntmps112
    go_wp2_with (go_at_call 150; refine HC.out.mono ?_; rintro e w1 ⟨N, rfl, hb1⟩; have HB1 := qa0 hb1; clear hb1)
    go_ret2
    exact ⟨_, rfl, HB1.out⟩
open Go.RowKit
theorem Cuts.blank {s : ByteArray} {p E a : Nat} {R : List Tk} (h : Cuts s p R E a) (hp : p < s.size) (hc : isB (tb s p) = true) : Cuts s (p + 1) R E a := by
 have h0 := qe6.1 hc
 rcases h.inv with ⟨h, _⟩ | ⟨_, h, h'⟩ | ⟨e, h1, h2, h, h3, h4, h'⟩ | ⟨e, L', _, h, hE, hW, h', hl⟩ | ⟨e, L', _, h, hE, hW, h5, h', hl⟩ | ⟨e, _, h, hE, hW, h5, hl, h6, h7⟩ | ⟨e, L', _, h, hE, hN, h5, h', hl⟩ | ⟨e, _, h, hE, hN, hl, h6, h7⟩ | ⟨e, _, h, hE, hN, h4, h5, hl, h6, h7⟩ | ⟨L', _, h, h', hl⟩ | ⟨_, hb, hr, hL, hD, hS, hl, h6, h7⟩
 ·omega
 ·exact h'
 ·omega
 ·have := qbb.1 h; omega
 ·have := qbb.1 h; omega
 ·have := qbb.1 h; omega
 ·have := qb5.1 h; omega
 ·have := qb5.1 h; omega
 ·have := qb5.1 h; omega
 ·have := qdq.1 h; omega
 ·rw [hc] at hb; cases hb
theorem Cuts.remark {s : ByteArray} {p E a : Nat} {R : List Tk} (h : Cuts s p R E a) (hp : p < s.size) (hc : tb s p = 35) : ∃ e, p < e ∧ e ≤ s.size ∧ (∀ j, p ≤ j → j < e → tb s j ≠ 10) ∧ (e < s.size → tb s e = 10) ∧ Cuts s e R E a := by
 rcases h.inv with ⟨h, _⟩ | ⟨_, h, h'⟩ | ⟨e, h1, h2, h, h3, h4, h'⟩ | ⟨e, L', _, h, hE, hW, h', hl⟩ | ⟨e, L', _, h, hE, hW, h5, h', hl⟩ | ⟨e, _, h, hE, hW, h5, hl, h6, h7⟩ | ⟨e, L', _, h, hE, hN, h5, h', hl⟩ | ⟨e, _, h, hE, hN, hl, h6, h7⟩ | ⟨e, _, h, hE, hN, h4, h5, hl, h6, h7⟩ | ⟨L', _, h, h', hl⟩ | ⟨_, hb, hr, hL, hD, hS, hl, h6, h7⟩
 ·omega
 ·have := qe6.1 h; omega
 ·exact ⟨e, h1, h2, h3, h4, h'⟩
 ·have := qbb.1 h; omega
 ·have := qbb.1 h; omega
 ·have := qbb.1 h; omega
 ·have := qb5.1 h; omega
 ·have := qb5.1 h; omega
 ·have := qb5.1 h; omega
 ·have := qdq.1 h; omega
 ·exact absurd hc hr
theorem Cuts.letter {s : ByteArray} {p E a : Nat} {R : List Tk} (h : Cuts s p R E a) (hp : p < s.size) (hc : isL (tb s p) = true) :
  ∃ e, Ends s true p e ∧ ((isW (s.extract p e) = true ∧ ∃ R', Cuts s e R' E a ∧ R = ⟨2, p, e, 0⟩ :: R') ∨ (isW (s.extract p e) = false ∧ e - p ≤ 16 ∧ ∃ R', Cuts s e R' E a ∧ R = ⟨1, p, e, 0⟩ :: R') ∨ (16 < e - p ∧ E = 90 ∧ p = a)) := by
 have h0 := qbb.1 hc
 rcases h.inv with ⟨h, _⟩ | ⟨_, h, h'⟩ | ⟨e, h1, h2, h, h3, h4, h'⟩ | ⟨e, L', _, h, hE, hW, h', hl⟩ | ⟨e, L', _, h, hE, hW, h5, h', hl⟩ | ⟨e, _, h, hE, hW, h5, hl, h6, h7⟩ | ⟨e, L', _, h, hE, hN, h5, h', hl⟩ | ⟨e, _, h, hE, hN, hl, h6, h7⟩ | ⟨e, _, h, hE, hN, h4, h5, hl, h6, h7⟩ | ⟨L', _, h, h', hl⟩ | ⟨_, hb, hr, hL, hD, hS, hl, h6, h7⟩
 ·omega
 ·have := qe6.1 h; omega
 ·omega
 ·exact ⟨e, hE, .inl ⟨hW, L', h', hl⟩⟩
 ·exact ⟨e, hE, .inr (.inl ⟨hW, h5, L', h', hl⟩)⟩
 ·exact ⟨e, hE, .inr (.inr ⟨h5, h6, h7⟩)⟩
 ·have := qb5.1 h; omega
 ·have := qb5.1 h; omega
 ·have := qb5.1 h; omega
 ·have := qdq.1 h; omega
 ·rw [hc] at hL; cases hL
theorem Cuts.digit {s : ByteArray} {p E a : Nat} {R : List Tk} (h : Cuts s p R E a) (hp : p < s.size) (hc : isD (tb s p) = true) :
  ∃ e, Ends s false p e ∧ ((NumOk s p e ∧ (e < s.size → isL (tb s e) = false) ∧ ∃ R', Cuts s e R' E a ∧ R = ⟨3, p, e, nvl s p (e - p)⟩ :: R') ∨ (¬ NumOk s p e ∧ E = 90 ∧ p = a) ∨ (NumOk s p e ∧ e < s.size ∧ isL (tb s e) = true ∧ E = 90 ∧ e = a)) := by
 have h0 := qb5.1 hc
 rcases h.inv with ⟨h, _⟩ | ⟨_, h, h'⟩ | ⟨e, h1, h2, h, h3, h4, h'⟩ | ⟨e, L', _, h, hE, hW, h', hl⟩ | ⟨e, L', _, h, hE, hW, h5, h', hl⟩ | ⟨e, _, h, hE, hW, h5, hl, h6, h7⟩ | ⟨e, L', _, h, hE, hN, h5, h', hl⟩ | ⟨e, _, h, hE, hN, hl, h6, h7⟩ | ⟨e, _, h, hE, hN, h4, h5, hl, h6, h7⟩ | ⟨L', _, h, h', hl⟩ | ⟨_, hb, hr, hL, hD, hS, hl, h6, h7⟩
 ·omega
 ·have := qe6.1 h; omega
 ·omega
 ·have := qbb.1 h; omega
 ·have := qbb.1 h; omega
 ·have := qbb.1 h; omega
 ·exact ⟨e, hE, .inl ⟨hN, h5, L', h', hl⟩⟩
 ·exact ⟨e, hE, .inr (.inl ⟨hN, h6, h7⟩)⟩
 ·exact ⟨e, hE, .inr (.inr ⟨hN, h4, h5, h6, h7⟩)⟩
 ·have := qdq.1 h; omega
 ·rw [hc] at hD; cases hD
theorem Cuts.signed {s : ByteArray} {p E a : Nat} {R : List Tk} (h : Cuts s p R E a) (hp : p < s.size) (hc : isS (tb s p) = true) : ∃ R', Cuts s (p + 1) R' E a ∧ R = ⟨4, p, p + 1, 0⟩ :: R' := by
 have h0 := qdq.1 hc
 rcases h.inv with ⟨h, _⟩ | ⟨_, h, h'⟩ | ⟨e, h1, h2, h, h3, h4, h'⟩ | ⟨e, L', _, h, hE, hW, h', hl⟩ | ⟨e, L', _, h, hE, hW, h5, h', hl⟩ | ⟨e, _, h, hE, hW, h5, hl, h6, h7⟩ | ⟨e, L', _, h, hE, hN, h5, h', hl⟩ | ⟨e, _, h, hE, hN, hl, h6, h7⟩ | ⟨e, _, h, hE, hN, h4, h5, hl, h6, h7⟩ | ⟨L', _, h, h', hl⟩ | ⟨_, hb, hr, hL, hD, hS, hl, h6, h7⟩
 ·omega
 ·have := qe6.1 h; omega
 ·omega
 ·have := qbb.1 h; omega
 ·have := qbb.1 h; omega
 ·have := qbb.1 h; omega
 ·have := qb5.1 h; omega
 ·have := qb5.1 h; omega
 ·have := qb5.1 h; omega
 ·exact ⟨L', h', hl⟩
 ·rw [hc] at hS; cases hS
theorem Cuts.other {s : ByteArray} {p E a : Nat} {R : List Tk} (h : Cuts s p R E a) (hp : p < s.size) (h1 : isB (tb s p) = false) (h2 : tb s p ≠ 35) (h3 : isL (tb s p) = false) (h4 : isD (tb s p) = false) (h5 : isS (tb s p) = false) : E = 90 ∧ p = a := by
 rcases h.inv with ⟨h, _⟩ | ⟨_, h, h'⟩ | ⟨e, _, _, h, _⟩ | ⟨e, L', _, h, _⟩ | ⟨e, L', _, h, _⟩ | ⟨e, _, h, _⟩ | ⟨e, L', _, h, _⟩ | ⟨e, _, h, _⟩ | ⟨e, _, h, _⟩ | ⟨L', _, h, _⟩ | ⟨_, hb, hr, hL, hD, hS, hl, h6, h7⟩
 ·omega
 ·rw [h1] at h; cases h
 ·exact absurd h h2
 ·rw [h3] at h; cases h
 ·rw [h3] at h; cases h
 ·rw [h3] at h; cases h
 ·rw [h4] at h; cases h
 ·rw [h4] at h; cases h
 ·rw [h4] at h; cases h
 ·rw [h5] at h; cases h
 ·exact ⟨h6, h7⟩
theorem word_le : ∀ x ∈ wds, x.size ≤ 9 := by decide
def CFr (w0 : World) (s : ByteArray) (a : Act) : Prop := ∃ f : Nat → Value, a = { tmps := #[.string s, undef, .slice none 0 0, .pointer (some ⟨w0.heap.size, 0, none⟩), .pointer (some ⟨w0.heap.size + 1, 0, none⟩), f 5, f 6, f 7, f 8, f 9, f 10, f 11, f 12, f 13, f 14, f 15, f 16, f 17, f 18, f 19, f 20, f 21, f 22, f 23, f 24, f 25, f 26, f 27, f 28, f 29, f 30, f 31, f 32, f 33, f 34, f 35, f 36, f 37, f 38, f 39, f 40, f 41, f 42, f 43, f 44, f 45, f 46, f 47, f 48, f 49, f 50, f 51, f 52, f 53, f 54, f 55, f 56, f 57, f 58, f 59, f 60, f 61, f 62, f 63, f 64, f 65, f 66, f 67, f 68, f 69, f 70, f 71, f 72, f 73, f 74, f 75, f 76, f 77, f 78, f 79, f 80, f 81, f 82, f 83, f 84, f 85, f 86, f 87, f 88, f 89, f 90, f 91, f 92, f 93, f 94, f 95, f 96], defers := [] }
theorem CFr.mk (w0 : World) (s : ByteArray) (u5 u6 u7 u8 u9 u10 u11 u12 u13 u14 u15 u16 u17 u18 u19 u20 u21 u22 u23 u24 u25 u26 u27 u28 u29 u30 u31 u32 u33 u34 u35 u36 u37 u38 u39 u40 u41 u42 u43 u44 u45 u46 u47 u48 u49 u50 u51 u52 u53 u54 u55 u56 u57 u58 u59 u60 u61 u62 u63 u64 u65 u66 u67 u68 u69 u70 u71 u72 u73 u74 u75 u76 u77 u78 u79 u80 u81 u82 u83 u84 u85 u86 u87 u88 u89 u90 u91 u92 u93 u94 u95 u96 : Value) : CFr w0 s { tmps := #[.string s, undef, .slice none 0 0, .pointer (some ⟨w0.heap.size, 0, none⟩), .pointer (some ⟨w0.heap.size + 1, 0, none⟩), u5, u6, u7, u8, u9, u10, u11, u12, u13, u14, u15, u16, u17, u18, u19, u20, u21, u22, u23, u24, u25, u26, u27, u28, u29, u30, u31, u32, u33, u34, u35, u36, u37, u38, u39, u40, u41, u42, u43, u44, u45, u46, u47, u48, u49, u50, u51, u52, u53, u54, u55, u56, u57, u58, u59, u60, u61, u62, u63, u64, u65, u66, u67, u68, u69, u70, u71, u72, u73, u74, u75, u76, u77, u78, u79, u80, u81, u82, u83, u84, u85, u86, u87, u88, u89, u90, u91, u92, u93, u94, u95, u96], defers := [] } :=
 ⟨fun i => match i with | 5 => u5 | 6 => u6 | 7 => u7 | 8 => u8 | 9 => u9 | 10 => u10 | 11 => u11 | 12 => u12 | 13 => u13 | 14 => u14 | 15 => u15 | 16 => u16 | 17 => u17 | 18 => u18 | 19 => u19 | 20 => u20 | 21 => u21 | 22 => u22 | 23 => u23 | 24 => u24 | 25 => u25 | 26 => u26 | 27 => u27 | 28 => u28 | 29 => u29 | 30 => u30 | 31 => u31 | 32 => u32 | 33 => u33 | 34 => u34 | 35 => u35 | 36 => u36 | 37 => u37 | 38 => u38 | 39 => u39 | 40 => u40 | 41 => u41 | 42 => u42 | 43 => u43 | 44 => u44 | 45 => u45 | 46 => u46 | 47 => u47 | 48 => u48 | 49 => u49 | 50 => u50 | 51 => u51 | 52 => u52 | 53 => u53 | 54 => u54 | 55 => u55 | 56 => u56 | 57 => u57 | 58 => u58 | 59 => u59 | 60 => u60 | 61 => u61 | 62 => u62 | 63 => u63 | 64 => u64 | 65 => u65 | 66 => u66 | 67 => u67 | 68 => u68 | 69 => u69 | 70 => u70 | 71 => u71 | 72 => u72 | 73 => u73 | 74 => u74 | 75 => u75 | 76 => u76 | 77 => u77 | 78 => u78 | 79 => u79 | 80 => u80 | 81 => u81 | 82 => u82 | 83 => u83 | 84 => u84 | 85 => u85 | 86 => u86 | 87 => u87 | 88 => u88 | 89 => u89 | 90 => u90 | 91 => u91 | 92 => u92 | 93 => u93 | 94 => u94 | 95 => u95 | 96 => u96 | _ => undef, rfl⟩
structure CSt (w0 : World) (s : ByteArray) (L : List Tk) (E a0 : Nat) (w : World) (bg p ln fs : Nat) (v : Value) (L0 R : List Tk) : Prop where
 fit : p ≤ s.size
 cu : Cu w (w0.heap.size + 1) s bg p ln fs v
 tl : Tls w (w0.heap.size + 1 + 1) v s L0
 hln : lnn s p = ln
 hfs : fs + cln s p = p + 1
 eq : L = L0 ++ R
 cut : Cuts s p R E a0
 len : L0.length ≤ p
 bel : Below (w0.heap.size + 1) (W9 w0) w
def CJ (w0 : World) (s : ByteArray) (L : List Tk) (E a0 : Nat) (l : Nat) (a : Act) (w : World) : Prop := CFr w0 s a ∧
  ((l = 0 ∧ ∃ bg p ln fs v L0 R, CSt w0 s L E a0 w bg p ln fs v L0 R) ∨
   (1 ≤ l ∧ l ≤ 5 ∧ ∃ p ln fs v L0 R, CSt w0 s L E a0 w p p ln fs v L0 R ∧ p < s.size ∧ (l = 1 → isB (tb s p) = true) ∧ (l = 2 → tb s p = 35) ∧ (l = 3 → isL (tb s p) = true) ∧ (l = 4 → isD (tb s p) = true) ∧ (l = 5 → isS (tb s p) = true)) ∨
   (l = 6 ∧ E = 90 ∧ a0 ≤ s.size ∧ ∃ p ln fs v, Cu w (w0.heap.size + 1) s a0 p ln fs v ∧ lnn s a0 = ln ∧ fs + cln s a0 = a0 + 1 ∧ Below (w0.heap.size + 1) (W9 w0) w))
theorem CJ.lt {w0 : World} {s : ByteArray} {L : List Tk} {E a0 l : Nat} {a : Act} {w : World} (h : CJ w0 s L E a0 l a w) : l < 7 := by
 rcases h.2 with ⟨h, _⟩ | ⟨_, h, _⟩ | ⟨h, _⟩ <;> omega
def cm (w0 : World) (s : ByteArray) (l : Nat) (w : World) : Nat := if l = 6 then 0 else if l = 0 then 2 * (s.size - (intOf ((w.cell? ⟨w0.heap.size + 1, 2, none⟩).getD (.int .i64 0))).toNat) + 1 else 2 * (s.size - (intOf ((w.cell? ⟨w0.heap.size + 1, 2, none⟩).getD (.int .i64 0))).toNat)
theorem cm_pos {w0 w : World} {s : ByteArray} {bg p ln fs : Nat} {v : Value} (h : Cu w (w0.heap.size + 1) s bg p ln fs v) : (intOf ((w.cell? ⟨w0.heap.size + 1, 2, none⟩).getD (.int .i64 0))).toNat = p := by rw [h.c2]; simp [intOf]
theorem qgx {w0 w : World} {s : ByteArray} {bg p ln fs : Nat} {v : Value} (h : Cu w (w0.heap.size + 1) s bg p ln fs v) : cm w0 s 0 w = 2 * (s.size - p) + 1 := by
 unfold cm
 rw [if_neg (by decide), if_pos rfl, cm_pos h]
theorem qjs {w0 w : World} {s : ByteArray} {bg p ln fs l : Nat} {v : Value} (h : Cu w (w0.heap.size + 1) s bg p ln fs v) (h1 : 1 ≤ l) (h2 : l ≤ 5) : cm w0 s l w = 2 * (s.size - p) := by
 unfold cm
 rw [if_neg (by omega), if_neg (by omega), cm_pos h]
theorem cm_six (w0 w : World) (s : ByteArray) : cm w0 s 6 w = 0 := rfl
theorem CJ.back {w0 : World} {s : ByteArray} {L : List Tk} {E a0 l : Nat} {a : Act} {w w1 : World} {bg p ln fs bg' p' ln' fs' : Nat} {v v' : Value} {L0 R : List Tk} (hf : CFr w0 s a) (h : CSt w0 s L E a0 w bg p ln fs v L0 R) (h1 : 1 ≤ l) (h2 : l ≤ 5) (hc : Cu w1 (w0.heap.size + 1) s bg' p' ln' fs' v') (hp : p' < p) : CJ w0 s L E a0 0 a w ∧ cm w0 s 0 w < cm w0 s l w1 :=
 ⟨⟨hf, .inl ⟨rfl, bg, p, ln, fs, v, L0, R, h⟩⟩, by rw [qgx h.cu, qjs hc h1 h2]; have := h.fit; omega⟩
theorem CJ.on {w0 : World} {s : ByteArray} {L : List Tk} {E a0 l : Nat} {a : Act} {w w1 : World} {p ln fs bg' ln' fs' : Nat} {v v' : Value} {L0 R : List Tk} (h1 : 1 ≤ l) (h2 : l ≤ 5) (hf : CFr w0 s a) (h : CSt w0 s L E a0 w p p ln fs v L0 R) (hp : p < s.size) (q1 : l = 1 → isB (tb s p) = true) (q2 : l = 2 → tb s p = 35) (q3 : l = 3 → isL (tb s p) = true) (q4 : l = 4 → isD (tb s p) = true) (q5 : l = 5 → isS (tb s p) = true) (hc : Cu w1 (w0.heap.size + 1) s bg' p ln' fs' v') : CJ w0 s L E a0 l a w ∧ cm w0 s l w < cm w0 s 0 w1 :=
 ⟨⟨hf, .inr (.inl ⟨h1, h2, p, ln, fs, v, L0, R, h, hp, q1, q2, q3, q4, q5⟩)⟩, by rw [qgx hc, qjs h.cu h1 h2]; omega⟩
theorem CJ.off {w0 : World} {s : ByteArray} {L : List Tk} {E a0 l : Nat} {a : Act} {w w1 : World} {p ln fs bg' p' ln' fs' : Nat} {v v' : Value} (hf : CFr w0 s a) (hE : E = 90) (ha : a0 ≤ s.size) (h : Cu w (w0.heap.size + 1) s a0 p ln fs v) (hl : lnn s a0 = ln) (hfs : fs + cln s a0 = a0 + 1) (hb : Below (w0.heap.size + 1) (W9 w0) w) (hc : Cu w1 (w0.heap.size + 1) s bg' p' ln' fs' v') (h2 : l ≤ 5) (hp : p' < s.size) : CJ w0 s L E a0 6 a w ∧ cm w0 s 6 w < cm w0 s l w1 :=
 ⟨⟨hf, .inr (.inr ⟨rfl, hE, ha, p, ln, fs, v, h, hl, hfs, hb⟩)⟩, by
  rw [cm_six]
  by_cases h0 : l = 0
  ·subst h0; rw [qgx hc]; omega
  ·rw [qjs hc (by omega) h2]; omega⟩
end Go.Proofs.YtnjcpmkfghcogaaGreatDoor
