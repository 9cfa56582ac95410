/-
  Contracts of the program's token: a token told, names, numbers.
-/
import Derived.Test.YtipjejkjoiifdabDoorBe
import Derived.Test.YtipjejkjoiifdabDoorAh
namespace Go.Proofs.YtipjejkjoiifdabDoor
open Go.RowKit
theorem Cu.kept {w w' : World} {b c : Nat} {s : ByteArray} {bg p ln fs : Nat} {v : Value} (h : Cu w b s bg p ln fs v) (hg : w.grownBy w' (some c)) (hne : b ≠ c) : Cu w' b s bg p ln fs v := by
  have hlt := h.lt
  unfold Cu Vn at *
  rw [hg.block b hlt (by simpa using fun e => hne e)]
  exact h
theorem tls_cells {w : World} {B : Nat} {v : Value} {s : ByteArray} {L : List Tk} (h : Tls w B v s L) : v.cells = #[v] := by
  obtain ⟨a, d, rfl, _⟩ := h.form
  rfl
theorem tls_one {w : World} {B : Nat} {v : Value} {s : ByteArray} {L : List Tk} (h : Tls w B v s L) : v.oneCell' = true := by
  obtain ⟨a, d, rfl, _⟩ := h.form
  rfl
theorem own_gt {v : Value} {b : Nat} (h : ∀ g, v.ownBlock = some g → b + 1 ≤ g) : v.ownBlock = none ∨ v.ownBlock ≠ some b := by
  cases hv : v.ownBlock with
  | none => exact .inl rfl
  | some g => exact .inr (fun e => by have := h g hv; have : g = b := by simpa using e
                                      omega)
theorem step_append_tls {ops : Array Oper} {op : Oper} {a : Act} {w : World} {K : Act → World → Prop} {Q : Exit → Act → World → Prop} {E : Prop} (hgd : op.guard = none) (sl x : Operand) (ho : op.op = .call { callee := .builtin .append, args := #[sl, x], argTypes := #[22, 22] })
    (B : Nat) (v : Value) (s : ByteArray) (L : List Tk) (t : Tk) (xs : List Value) (hs : a.eval sl = v) (hown : Tls w B v s L) (ad : Addr) (hx : a.eval x = .slice (some ad) 1 1) (hc : ∀ j u, xs[j]? = some u → w.cell? (ad.add j) = some u) (ht : tcs s t = xs) (hlim : L.length ≤ 65536) (hB : B ≤ w.heap.size)
    (h : ∀ v' w', Tls w' B v' s (L ++ [t]) → w.grownBy w' v.ownBlock → Below B w w' → K (a.put op.dst v') w') : if Region.wanted op (yielded ops a.tmps) = true then Oper.wp Tryd.prog op a w K Q else E := by
  obtain ⟨i0, hi0, hz0, hz1, hz2⟩ := info_parts jtok
  have hw : Region.wanted op (yielded ops a.tmps) = true := by simp [Region.wanted, hgd]
  rw [if_pos hw]
  subst ht
  refine wp_append_own w sl x 22 ho B 32 i0 (.agg #[.int .u8 0, .string ⟨#[]⟩, .int .i64 0, .int .i64 0, .int .i64 0]) 5 48 Tryd.underlying22 hi0 hz0 hz1 hz2 rfl (by decide) v L.length _ hs hown ad 1 1 (tcs s t) hx rfl hc (by intro u hu; simp [tcs] at hu; rcases hu with rfl | rfl | rfl | rfl | rfl <;> rfl) (by unfold maxLen; omega) (by omega) hB (fun v' w' h1 h2 _ => h v' w' (Tls.push rfl rfl h1) h2 (jbelow h2 hB (fun k hk => (hown.base hk).1)))
set_option maxRecDepth 20000 in
set_option maxHeartbeats 4000000 in
theorem ttell (w : World) (b bg p ln fs cl k nn : Nat) (s x : ByteArray) (v : Value) (L : List Tk) (t : Tk) (HV : Hid (Cu w b s bg p ln fs v)) (HT : Hid (Tls w (b + 1) v s L)) (hc : fs + cl = bg + 1) (h1 : 1 ≤ cl) (hb : bg ≤ 65536) (hL : L.length ≤ 65536)
    (HX : Hid (tcs s t = [.int .u8 (k : Int), .string x, .int .i64 (nn : Int), .int .i64 (ln : Int), .int .i64 (cl : Int)])) :
    Calls Tryd.prog 18 #[.pointer (some ⟨b, 0, none⟩), .agg #[.int .u8 (k : Int), .string x, .int .i64 (nn : Int), .int .i64 0, .int .i64 0]] w fun e w' => e = .returned (.tuple #[]) ∧ ∃ v', Cu w' b s bg p ln fs v' ∧ Tls w' (b + 1) v' s (L ++ [t]) ∧ Below b w w' := by
  have hlt := HV.out.lt
  go_enter Tryd.func18, Tryd.ntmps18
  go_wp2
  refine wp_region_held (S := fun w' => w'.cell? ⟨b, 3, none⟩ = some (.int .i64 (ln : Int))) (by kernel_rfl) ?_
  change wpAnyH _ _ _ _ _ _ _ _ (World.drew _)
  have hb0 : Below w.heap.size w (w.alloc (.cells #[.int .u8 (k : Int), .string x, .int .i64 (nn : Int), .int .i64 0, .int .i64 0] 32)).drew := (jlow _ _).drew
  have HY0' : Hid (Vn (w.alloc (.cells #[.int .u8 (k : Int), .string x, .int .i64 (nn : Int), .int .i64 0, .int .i64 0] 32)).drew w.heap.size 32 #[.int .u8 (k : Int), .string x, .int .i64 (nn : Int), .int .i64 0, .int .i64 0]) := (Vn.new w _ _).later (drew_below _)
  obtain ⟨W0, HW0⟩ : ∃ W0, Hid ((w.alloc (.cells #[.int .u8 (k : Int), .string x, .int .i64 (nn : Int), .int .i64 0, .int .i64 0] 32)).drew = W0) := ⟨_, rfl⟩
  rw [HW0.out] at hb0 HY0'
  rw [HW0.out]
  have HY0 := HY0'
  have HX0 := jhid9 (HV.out.later hb0)
  have HZ0 := jhid9 (HT.out.later hb0)
  have HZb : Hid (∀ g, v.ownBlock = some g → g < w.heap.size) := fun g e => (HT.out.base e).2
  have HB0 : Hid (Below b w W0) := hb0.mono (by omega)
  clear hb0 HY0' HW0
  refine wpAnyH_take (i := 0) (v := ?va0) rfl (by kernel_rfl) (by kernel_rfl) (by kernel_rfl) (fun _ _ _ h => h) (Or.inl ⟨by rfl, ?ya0⟩) HX0.out.c3 ?za0
  case ya0 => (intro w hSw; (try dsimp only at hSw); go_simp; try with_reducible rfl)
  try simp only [List.getElem_toArray, List.getElem_cons_zero, Act.put, List.setIfInBounds_toArray, List.set_cons_zero, List.set_cons_succ]
  refine wpAnyH_take (i := 1) (v := ?va1) rfl (by kernel_rfl) (by kernel_rfl) (by kernel_rfl) (fun _ _ _ h => h) (Or.inl ⟨by rfl, ?ya1⟩) HX0.out.c3 ?za1
  case ya1 => (intro w hSw; (try dsimp only at hSw); go_simp; try with_reducible rfl)
  try simp only [List.getElem_toArray, List.getElem_cons_succ, List.getElem_cons_zero, Act.put, List.setIfInBounds_toArray, List.set_cons_zero, List.set_cons_succ]
  refine wpAnyH_take (i := 2) (v := ?va2) rfl (by kernel_rfl) (by kernel_rfl) (by kernel_rfl) (fun _ _ _ h => h) (Or.inl ⟨by rfl, ?ya2⟩) HX0.out.c3 ?za2
  case ya2 => (intro w hSw; (try dsimp only at hSw); go_simp; try with_reducible rfl)
  try simp only [List.getElem_toArray, List.getElem_cons_succ, List.getElem_cons_zero, Act.put, List.setIfInBounds_toArray, List.set_cons_zero, List.set_cons_succ]
  refine wpAnyH_take (i := 3) (v := ?va3) rfl (by kernel_rfl) (by kernel_rfl) (by kernel_rfl) (fun _ _ _ h => h) (Or.inl ⟨by rfl, ?ya3⟩) HX0.out.c3 ?za3
  case ya3 => (intro w hSw; (try dsimp only at hSw); go_simp; try with_reducible rfl)
  try simp only [List.getElem_toArray, List.getElem_cons_succ, List.getElem_cons_zero, Act.put, List.setIfInBounds_toArray, List.set_cons_zero, List.set_cons_succ]
  refine wpAnyH_take (i := 4) (v := ?va4) rfl (by kernel_rfl) (by kernel_rfl) (by kernel_rfl) (fun _ _ _ h => h) (Or.inl ⟨by rfl, ?ya4⟩) HX0.out.c3 ?za4
  case ya4 => (intro w hSw; (try dsimp only at hSw); go_simp; try with_reducible rfl)
  try simp only [List.getElem_toArray, List.getElem_cons_succ, List.getElem_cons_zero, Act.put, List.setIfInBounds_toArray, List.set_cons_zero, List.set_cons_succ]
  refine wpAnyH_take (i := 6) (v := ?va6) rfl (by kernel_rfl) (by kernel_rfl) (by kernel_rfl) (fun _ _ _ h => h) (Or.inl ⟨by rfl, ?ya6⟩) HX0.out.c3 ?za6
  case ya6 => (intro w hSw; (try dsimp only at hSw); go_simp; try with_reducible rfl)
  try simp only [List.getElem_toArray, List.getElem_cons_succ, List.getElem_cons_zero, Act.put, List.setIfInBounds_toArray, List.set_cons_zero, List.set_cons_succ]
  refine wpAnyH_ready (rs := [5]) (by kernel_rfl) (by simp) ?_
  refine AllReadyH.cons rfl (fun KK hKK => ?_) AllReadyH.nil
  go_simp
  refine (tcol _ b bg p ln fs cl s v HX0 hc hb h1).mono ?_; rintro r1 w1 ⟨rfl, hb1⟩; have HX1 := jhid9 (HX0.out.later hb1); have HY1 := jhid9 (HY0.out.later hb1); have HZ1 := jhid9 (HZ0.out.later hb1); have HB1 : Hid (Below b w w1) := HB0.out.trans (hb1.mono (by have := HB0.out.size; omega)); clear hb1
  refine hKK.out _ _ HX1.out.c3 (fun _ => ?_)
  clear hKK KK
  try simp only [List.getElem_toArray, List.getElem_cons_succ, List.getElem_cons_zero, Act.put, List.setIfInBounds_toArray, List.set_cons_zero, List.set_cons_succ]
  refine wpAnyH_ready (rs := [7]) (by kernel_rfl) (by simp) ?_
  refine AllReadyH.cons rfl (fun KK hKK => ?_) AllReadyH.nil
  refine wp_store_one 3 _ _ rfl w.heap.size 3 32 _ (.int .i64 (ln : Int)) rfl rfl szInt rfl rfl HY1.out (by simp) ?_; intro W2 hv2 hg2; have HY2 : Hid (Vn W2 w.heap.size 32 #[.int .u8 (k : Int), .string x, .int .i64 (nn : Int), .int .i64 (ln : Int), .int .i64 0]) := hv2; have HX2 := jhid9 (HX1.out.kept hg2.out (by omega)); have HZ2 := jhid9 (HZ1.out.kept hg2.out (own_lt (fun g e => (HZb.out g e)))); have HB2 : Hid (Below b w W2) := HB1.out.trans (jbelow hg2.out (by have := HB1.out.size; omega) (fun g e => by cases e; omega)); clear hv2 hg2
  refine hKK.out _ _ HX2.out.c3 (fun _ => ?_)
  clear hKK KK
  try simp only [List.getElem_toArray, List.getElem_cons_succ, List.getElem_cons_zero, Act.put]
  refine wpAnyH_take (i := 8) (v := ?va8) rfl (by kernel_rfl) (by kernel_rfl) (by kernel_rfl) (fun _ _ _ h => h) (Or.inl ⟨by rfl, ?ya8⟩) HX2.out.c3 ?za8
  case ya8 => (intro w hSw; (try dsimp only at hSw); go_simp; try with_reducible rfl)
  try simp only [List.getElem_toArray, List.getElem_cons_succ, List.getElem_cons_zero, Act.put, List.setIfInBounds_toArray, List.set_cons_zero, List.set_cons_succ]
  refine wpAnyH_ready (rs := [9]) (by kernel_rfl) (by simp) ?_
  refine AllReadyH.cons rfl (fun KK hKK => ?_) AllReadyH.nil
  refine wp_store_one 3 _ _ rfl w.heap.size 4 32 _ (.int .i64 (cl : Int)) rfl rfl szInt rfl rfl HY2.out (by simp) ?_; intro W3 hv3 hg3; have HY3 : Hid (Vn W3 w.heap.size 32 #[.int .u8 (k : Int), .string x, .int .i64 (nn : Int), .int .i64 (ln : Int), .int .i64 (cl : Int)]) := hv3; have HX3 := jhid9 (HX2.out.kept hg3.out (by omega)); have HZ3 := jhid9 (HZ2.out.kept hg3.out (own_lt (fun g e => (HZb.out g e)))); have HB3 : Hid (Below b w W3) := HB2.out.trans (jbelow hg3.out (by have := HB2.out.size; omega) (fun g e => by cases e; omega)); clear hv3 hg3
  refine hKK.out _ _ HX3.out.c3 (fun _ => ?_)
  clear hKK KK
  try simp only [List.getElem_toArray, List.getElem_cons_succ, List.getElem_cons_zero, Act.put]
  refine wpAnyH_done (by kernel_rfl) ?_ _
  go_wp2
  refine wp_region_held (S := fun _ => True) (by kernel_rfl) ?_
  change wpAnyH _ _ _ _ _ _ _ _ (World.drew _)
  obtain ⟨W4, HW4⟩ : ∃ W4, Hid (W3.drew = W4) := ⟨_, rfl⟩
  rw [HW4.out]
  have hb4 : Below W3.heap.size W3 W4 := by rw [← HW4.out]; exact drew_below _
  have HX4 := jhid9 (HX3.out.later hb4)
  have HY4 := jhid9 (HY3.out.later hb4)
  have HZ4 := jhid9 (HZ3.out.later hb4)
  have HB4 : Hid (Below b w W4) := HB3.out.trans (hb4.mono (by have := HB3.out.size; omega))
  clear hb4 HW4
  have c5 := HX4.out.c5
  have g0 := HY4.out.cell 0 _ rfl
  have g1 := HY4.out.cell 1 _ rfl
  have g2 := HY4.out.cell 2 _ rfl
  have g3 := HY4.out.cell 3 _ rfl
  have g4 := HY4.out.cell 4 _ rfl
  refine wpAnyH_take (i := 0) (v := ?vb0) rfl (by kernel_rfl) (by kernel_rfl) (by kernel_rfl) (fun _ _ _ h => h) (Or.inl ⟨by rfl, ?yb0⟩) trivial ?zb0
  case yb0 => (intro w hSw; (try dsimp only at hSw); go_simp; try with_reducible rfl)
  try simp only [List.getElem_toArray, List.getElem_cons_zero, Act.put, List.setIfInBounds_toArray, List.set_cons_zero, List.set_cons_succ]
  refine wpAnyH_take (i := 1) (v := ?vb1) rfl (by kernel_rfl) (by kernel_rfl) (by kernel_rfl) (fun _ _ _ h => h) (Or.inl ⟨by rfl, ?yb1⟩) trivial ?zb1
  case yb1 => (intro w hSw; (try dsimp only at hSw); go_simp; try with_reducible rfl)
  try simp only [List.getElem_toArray, List.getElem_cons_succ, List.getElem_cons_zero, Act.put, List.setIfInBounds_toArray, List.set_cons_zero, List.set_cons_succ]
  refine wpAnyH_take (i := 2) (v := ?vb2) rfl (by kernel_rfl) (by kernel_rfl) (by kernel_rfl) (fun _ _ _ h => h) (Or.inl ⟨by rfl, ?yb2⟩) trivial ?zb2
  case yb2 => (intro w hSw; (try dsimp only at hSw); go_simp; try with_reducible rfl)
  try simp only [List.getElem_toArray, List.getElem_cons_succ, List.getElem_cons_zero, Act.put, List.setIfInBounds_toArray, List.set_cons_zero, List.set_cons_succ]
  refine wpAnyH_take (i := 3) (v := ?vb3) rfl (by kernel_rfl) (by kernel_rfl) (by kernel_rfl) (fun _ _ _ h => h) (Or.inl ⟨by rfl, ?yb3⟩) trivial ?zb3
  case yb3 => (intro w hSw; (try dsimp only at hSw); go_simp; try with_reducible rfl)
  try simp only [List.getElem_toArray, List.getElem_cons_succ, List.getElem_cons_zero, Act.put, List.setIfInBounds_toArray, List.set_cons_zero, List.set_cons_succ]
  refine wpAnyH_ready (rs := [4, 5]) (by kernel_rfl) (by simp) ?_
  refine AllReadyH.cons rfl (fun KK hKK => ?px1) (AllReadyH.cons rfl (fun KK hKK => ?px2) AllReadyH.nil)
  case px1 =>
    go_simp
    refine hKK.out _ _ trivial (fun _ => ?_)
    clear hKK KK
    try simp only [List.getElem_toArray, List.getElem_cons_succ, List.getElem_cons_zero, Act.put, List.setIfInBounds_toArray, List.set_cons_zero, List.set_cons_succ]
    refine wpAnyH_ready (rs := [5]) (by kernel_rfl) (by simp) ?_
    refine AllReadyH.cons rfl (fun KK hKK => ?_) AllReadyH.nil
    go_simp
    refine hKK.out _ _ trivial (fun _ => ?_)
    clear hKK KK
    try simp only [List.getElem_toArray, List.getElem_cons_succ, List.getElem_cons_zero, Act.put, List.setIfInBounds_toArray, List.set_cons_zero, List.set_cons_succ]
    refine wpAnyH_ready (rs := [6]) (by kernel_rfl) (by simp) ?_
    refine AllReadyH.cons rfl (fun KK hKK => ?_) AllReadyH.nil
    go_simp
    have hal := jlow W4 (.cells #[.int .u8 (k : Int), .string x, .int .i64 (nn : Int), .int .i64 (ln : Int), .int .i64 (cl : Int)] 32)
    have HX5 := jhid9 (HX4.out.later hal)
    have HZ5 := jhid9 (HZ4.out.later hal)
    have c5b := HX5.out.c5
    have hz4 := HB4.out.size
    clear hal
    refine hKK.out _ _ trivial (fun _ => ?_)
    clear hKK KK
    try simp only [List.getElem_toArray, List.getElem_cons_succ, List.getElem_cons_zero, Act.put, List.setIfInBounds_toArray, List.set_cons_zero, List.set_cons_succ]
    refine wpAnyH_ready (rs := [7]) (by kernel_rfl) (by simp) ?_
    refine AllReadyH.cons rfl (fun KK hKK => ?_) AllReadyH.nil
    refine step_append_tls rfl _ _ rfl (b + 1) v s L t _ rfl HZ5.out ⟨W4.heap.size, 0, none⟩ (by first | rfl | (simp; rfl)) (five_new _ _ _) HX.out hL (by simp; omega) ?_
    intro v9 w6 ht6 hg6 hb6
    have HT6 := jhid9 ht6
    have HX6 : Hid (Cu w6 b s bg p ln fs v) := by
      have h5 := HX5.out
      unfold Hid Cu Vn at *
      rw [hb6.block b (by omega)]
      exact h5
    have HB6 : Hid (Below b w w6) := HB4.out.trans (((jlow _ _).mono (by omega)).trans (hb6.mono (by omega)))
    clear ht6 hb6 hg6
    refine hKK.out _ _ trivial (fun _ => ?_)
    clear hKK KK
    try simp only [List.getElem_toArray, List.getElem_cons_succ, List.getElem_cons_zero, Act.put, List.setIfInBounds_toArray, List.set_cons_zero, List.set_cons_succ]
    refine wpAnyH_take (i := 8) (v := ?vc8) rfl (by kernel_rfl) (by kernel_rfl) (by kernel_rfl) (fun _ _ _ h => h) (Or.inl ⟨by rfl, ?yc8⟩) trivial ?zc8
    case yc8 => (intro w hSw; (try dsimp only at hSw); go_simp; try with_reducible rfl)
    try simp only [List.getElem_toArray, List.getElem_cons_succ, List.getElem_cons_zero, Act.put, List.setIfInBounds_toArray, List.set_cons_zero, List.set_cons_succ]
    refine wpAnyH_take (i := 9) (v := ?vc9) rfl (by kernel_rfl) (by kernel_rfl) (by kernel_rfl) (fun _ _ _ h => h) (Or.inl ⟨by rfl, ?yc9⟩) trivial ?zc9
    case yc9 => (intro w hSw; (try dsimp only at hSw); go_simp; try with_reducible rfl)
    try simp only [List.getElem_toArray, List.getElem_cons_succ, List.getElem_cons_zero, Act.put, List.setIfInBounds_toArray, List.set_cons_zero, List.set_cons_succ]
    refine wpAnyH_ready (rs := [10]) (by kernel_rfl) (by simp) ?_
    refine AllReadyH.cons rfl (fun KK hKK => ?_) AllReadyH.nil
    refine wp_store_one 22 _ _ rfl b 5 37 _ v9 rfl rfl szTks (tls_cells HT6.out) (tls_one HT6.out) HX6.out (by simp) ?_; intro W9 hv9 hg9; have HV9 : Hid (Cu W9 b s bg p ln fs v9) := hv9; have HT9 := jhid9 (HT6.out.kept hg9.out (own_gt (fun g e => (HT6.out.base e).1))); have HB9 : Hid (Below b w W9) := HB6.out.trans (jbelow hg9.out (by have := HB6.out.size; omega) (fun g e => by cases e; exact Nat.le_refl _)); clear hv9 hg9
    refine hKK.out _ _ trivial (fun _ => ?_)
    clear hKK KK
    try simp only [List.getElem_toArray, List.getElem_cons_succ, List.getElem_cons_zero, Act.put]
    refine wpAnyH_done (by kernel_rfl) ?_ _
    go_end0
    exact ⟨rfl, v9, HV9.out, HT9.out, HB9.out⟩
  case px2 =>
    go_simp
    refine hKK.out _ _ trivial (fun _ => ?_)
    clear hKK KK
    try simp only [List.getElem_toArray, List.getElem_cons_succ, List.getElem_cons_zero, Act.put, List.setIfInBounds_toArray, List.set_cons_zero, List.set_cons_succ]
    refine wpAnyH_ready (rs := [4, 6]) (by kernel_rfl) (by simp) ?_
    refine AllReadyH.cons rfl (fun KK hKK => ?py1) (AllReadyH.cons rfl (fun KK hKK => ?py2) AllReadyH.nil)
    case py1 =>
      go_simp
      refine hKK.out _ _ trivial (fun _ => ?_)
      clear hKK KK
      try simp only [List.getElem_toArray, List.getElem_cons_succ, List.getElem_cons_zero, Act.put, List.setIfInBounds_toArray, List.set_cons_zero, List.set_cons_succ]
      refine wpAnyH_ready (rs := [6]) (by kernel_rfl) (by simp) ?_
      refine AllReadyH.cons rfl (fun KK hKK => ?_) AllReadyH.nil
      go_simp
      have hal := jlow W4 (.cells #[.int .u8 (k : Int), .string x, .int .i64 (nn : Int), .int .i64 (ln : Int), .int .i64 (cl : Int)] 32)
      have HX5 := jhid9 (HX4.out.later hal)
      have HZ5 := jhid9 (HZ4.out.later hal)
      have c5b := HX5.out.c5
      have hz4 := HB4.out.size
      clear hal
      refine hKK.out _ _ trivial (fun _ => ?_)
      clear hKK KK
      try simp only [List.getElem_toArray, List.getElem_cons_succ, List.getElem_cons_zero, Act.put, List.setIfInBounds_toArray, List.set_cons_zero, List.set_cons_succ]
      refine wpAnyH_ready (rs := [7]) (by kernel_rfl) (by simp) ?_
      refine AllReadyH.cons rfl (fun KK hKK => ?_) AllReadyH.nil
      refine step_append_tls rfl _ _ rfl (b + 1) v s L t _ rfl HZ5.out ⟨W4.heap.size, 0, none⟩ (by first | rfl | (simp; rfl)) (five_new _ _ _) HX.out hL (by simp; omega) ?_
      intro v9 w6 ht6 hg6 hb6
      have HT6 := jhid9 ht6
      have HX6 : Hid (Cu w6 b s bg p ln fs v) := by
        have h5 := HX5.out
        unfold Hid Cu Vn at *
        rw [hb6.block b (by omega)]
        exact h5
      have HB6 : Hid (Below b w w6) := HB4.out.trans (((jlow _ _).mono (by omega)).trans (hb6.mono (by omega)))
      clear ht6 hb6 hg6
      refine hKK.out _ _ trivial (fun _ => ?_)
      clear hKK KK
      try simp only [List.getElem_toArray, List.getElem_cons_succ, List.getElem_cons_zero, Act.put, List.setIfInBounds_toArray, List.set_cons_zero, List.set_cons_succ]
      refine wpAnyH_take (i := 8) (v := ?ve8) rfl (by kernel_rfl) (by kernel_rfl) (by kernel_rfl) (fun _ _ _ h => h) (Or.inl ⟨by rfl, ?ye8⟩) trivial ?ze8
      case ye8 => (intro w hSw; (try dsimp only at hSw); go_simp; try with_reducible rfl)
      try simp only [List.getElem_toArray, List.getElem_cons_succ, List.getElem_cons_zero, Act.put, List.setIfInBounds_toArray, List.set_cons_zero, List.set_cons_succ]
      refine wpAnyH_take (i := 9) (v := ?ve9) rfl (by kernel_rfl) (by kernel_rfl) (by kernel_rfl) (fun _ _ _ h => h) (Or.inl ⟨by rfl, ?ye9⟩) trivial ?ze9
      case ye9 => (intro w hSw; (try dsimp only at hSw); go_simp; try with_reducible rfl)
      try simp only [List.getElem_toArray, List.getElem_cons_succ, List.getElem_cons_zero, Act.put, List.setIfInBounds_toArray, List.set_cons_zero, List.set_cons_succ]
      refine wpAnyH_ready (rs := [10]) (by kernel_rfl) (by simp) ?_
      refine AllReadyH.cons rfl (fun KK hKK => ?_) AllReadyH.nil
      refine wp_store_one 22 _ _ rfl b 5 37 _ v9 rfl rfl szTks (tls_cells HT6.out) (tls_one HT6.out) HX6.out (by simp) ?_; intro W9 hv9 hg9; have HV9 : Hid (Cu W9 b s bg p ln fs v9) := hv9; have HT9 := jhid9 (HT6.out.kept hg9.out (own_gt (fun g e => (HT6.out.base e).1))); have HB9 : Hid (Below b w W9) := HB6.out.trans (jbelow hg9.out (by have := HB6.out.size; omega) (fun g e => by cases e; exact Nat.le_refl _)); clear hv9 hg9
      refine hKK.out _ _ trivial (fun _ => ?_)
      clear hKK KK
      try simp only [List.getElem_toArray, List.getElem_cons_succ, List.getElem_cons_zero, Act.put]
      refine wpAnyH_done (by kernel_rfl) ?_ _
      go_end0
      exact ⟨rfl, v9, HV9.out, HT9.out, HB9.out⟩
    case py2 =>
      go_simp
      have hal := jlow W4 (.cells #[.int .u8 (k : Int), .string x, .int .i64 (nn : Int), .int .i64 (ln : Int), .int .i64 (cl : Int)] 32)
      have HX5 := jhid9 (HX4.out.later hal)
      have HZ5 := jhid9 (HZ4.out.later hal)
      have c5b := HX5.out.c5
      have hz4 := HB4.out.size
      clear hal
      refine hKK.out _ _ trivial (fun _ => ?_)
      clear hKK KK
      try simp only [List.getElem_toArray, List.getElem_cons_succ, List.getElem_cons_zero, Act.put, List.setIfInBounds_toArray, List.set_cons_zero, List.set_cons_succ]
      refine wpAnyH_ready (rs := [4]) (by kernel_rfl) (by simp) ?_
      refine AllReadyH.cons rfl (fun KK hKK => ?_) AllReadyH.nil
      go_simp
      refine hKK.out _ _ trivial (fun _ => ?_)
      clear hKK KK
      try simp only [List.getElem_toArray, List.getElem_cons_succ, List.getElem_cons_zero, Act.put, List.setIfInBounds_toArray, List.set_cons_zero, List.set_cons_succ]
      refine wpAnyH_ready (rs := [7]) (by kernel_rfl) (by simp) ?_
      refine AllReadyH.cons rfl (fun KK hKK => ?_) AllReadyH.nil
      refine step_append_tls rfl _ _ rfl (b + 1) v s L t _ rfl HZ5.out ⟨W4.heap.size, 0, none⟩ (by first | rfl | (simp; rfl)) (five_new _ _ _) HX.out hL (by simp; omega) ?_
      intro v9 w6 ht6 hg6 hb6
      have HT6 := jhid9 ht6
      have HX6 : Hid (Cu w6 b s bg p ln fs v) := by
        have h5 := HX5.out
        unfold Hid Cu Vn at *
        rw [hb6.block b (by omega)]
        exact h5
      have HB6 : Hid (Below b w w6) := HB4.out.trans (((jlow _ _).mono (by omega)).trans (hb6.mono (by omega)))
      clear ht6 hb6 hg6
      refine hKK.out _ _ trivial (fun _ => ?_)
      clear hKK KK
      try simp only [List.getElem_toArray, List.getElem_cons_succ, List.getElem_cons_zero, Act.put, List.setIfInBounds_toArray, List.set_cons_zero, List.set_cons_succ]
      refine wpAnyH_take (i := 8) (v := ?vf8) rfl (by kernel_rfl) (by kernel_rfl) (by kernel_rfl) (fun _ _ _ h => h) (Or.inl ⟨by rfl, ?yf8⟩) trivial ?zf8
      case yf8 => (intro w hSw; (try dsimp only at hSw); go_simp; try with_reducible rfl)
      try simp only [List.getElem_toArray, List.getElem_cons_succ, List.getElem_cons_zero, Act.put, List.setIfInBounds_toArray, List.set_cons_zero, List.set_cons_succ]
      refine wpAnyH_take (i := 9) (v := ?vf9) rfl (by kernel_rfl) (by kernel_rfl) (by kernel_rfl) (fun _ _ _ h => h) (Or.inl ⟨by rfl, ?yf9⟩) trivial ?zf9
      case yf9 => (intro w hSw; (try dsimp only at hSw); go_simp; try with_reducible rfl)
      try simp only [List.getElem_toArray, List.getElem_cons_succ, List.getElem_cons_zero, Act.put, List.setIfInBounds_toArray, List.set_cons_zero, List.set_cons_succ]
      refine wpAnyH_ready (rs := [10]) (by kernel_rfl) (by simp) ?_
      refine AllReadyH.cons rfl (fun KK hKK => ?_) AllReadyH.nil
      refine wp_store_one 22 _ _ rfl b 5 37 _ v9 rfl rfl szTks (tls_cells HT6.out) (tls_one HT6.out) HX6.out (by simp) ?_; intro W9 hv9 hg9; have HV9 : Hid (Cu W9 b s bg p ln fs v9) := hv9; have HT9 := jhid9 (HT6.out.kept hg9.out (own_gt (fun g e => (HT6.out.base e).1))); have HB9 : Hid (Below b w W9) := HB6.out.trans (jbelow hg9.out (by have := HB6.out.size; omega) (fun g e => by cases e; exact Nat.le_refl _)); clear hv9 hg9
      refine hKK.out _ _ trivial (fun _ => ?_)
      clear hKK KK
      try simp only [List.getElem_toArray, List.getElem_cons_succ, List.getElem_cons_zero, Act.put]
      refine wpAnyH_done (by kernel_rfl) ?_ _
      go_end0
      exact ⟨rfl, v9, HV9.out, HT9.out, HB9.out⟩
set_option maxRecDepth 20000 in
set_option maxHeartbeats 1000000 in
theorem tnamed (w : World) (x : ByteArray) (k : Nat) (HT : Hid (Wt9 w)) (HK : Hid (k = if isW x then 2 else 1)) : Calls Tryd.prog 19 #[.string x] w fun e w' => e = .returned (.agg #[.int .u8 (k : Int), .string x, .int .i64 0, .int .i64 0, .int .i64 0]) ∧ Below w.heap.size w w' := by
  have HVt := jhid9 (Vn.new w 32 #[.int .u8 0, .string ⟨#[]⟩, .int .i64 0, .int .i64 0, .int .i64 0])
  have HCl : Hid (∀ w' : World, Below w.heap.size w w' → Calls Tryd.prog 36 #[.string x] w' fun e w'' => e = .returned (.bool (isW x)) ∧ w' = w'') := fun w' hb => tword_any w' x (HT.out.later hb)
  cases hw : isW x with
  | true =>
    obtain rfl : k = 2 := by rw [HK.out, hw]; rfl
    rw [hw] at HCl
    clear HK hw
    go_enter Tryd.func19, Tryd.ntmps19
    go_wp2_with (first
      | (go_at_call 36; refine (HCl.out _ (jlow _ _)).mono ?_; rintro e w1 ⟨rfl, rfl⟩)
      | (refine wpList_store_vn rfl 32 _ _ rfl w.heap.size _ #[.int .u8 2, .string x, .int .i64 0, .int .i64 0, .int .i64 0] rfl rfl HVt.out sizeTok rfl (all5 rfl rfl rfl rfl rfl) ?_; intro w8 HV8 hg8))
    have d0 := HV8.out.cell 0 _ rfl
    have d1 := HV8.out.cell 1 _ rfl
    have d2 := HV8.out.cell 2 _ rfl
    have d3 := HV8.out.cell 3 _ rfl
    have d4 := HV8.out.cell 4 _ rfl
    refine bodyPost_ret (v := .agg #[.int .u8 2, .string x, .int .i64 0, .int .i64 0, .int .i64 0]) (by simp [results, Tryd.results19, go_sem, d0, d1, d2, d3, d4]) rfl ?_
    exact ⟨rfl, (jlow _ _).trans (jbelow hg8.out (jlow _ _).size (fun g e => by cases e; exact Nat.le_refl _))⟩
  | false =>
    obtain rfl : k = 1 := by rw [HK.out, hw]; rfl
    rw [hw] at HCl
    clear HK hw
    go_enter Tryd.func19, Tryd.ntmps19
    go_wp2_with (first
      | (go_at_call 36; refine (HCl.out _ (jlow _ _)).mono ?_; rintro e w1 ⟨rfl, rfl⟩)
      | (refine wpList_store_vn rfl 32 _ _ rfl w.heap.size _ #[.int .u8 1, .string x, .int .i64 0, .int .i64 0, .int .i64 0] rfl rfl HVt.out sizeTok rfl (all5 rfl rfl rfl rfl rfl) ?_; intro w8 HV8 hg8))
    have d0 := HV8.out.cell 0 _ rfl
    have d1 := HV8.out.cell 1 _ rfl
    have d2 := HV8.out.cell 2 _ rfl
    have d3 := HV8.out.cell 3 _ rfl
    have d4 := HV8.out.cell 4 _ rfl
    refine bodyPost_ret (v := .agg #[.int .u8 1, .string x, .int .i64 0, .int .i64 0, .int .i64 0]) (by simp [results, Tryd.results19, go_sem, d0, d1, d2, d3, d4]) rfl ?_
    exact ⟨rfl, (jlow _ _).trans (jbelow hg8.out (jlow _ _).size (fun g e => by cases e; exact Nat.le_refl _))⟩
theorem atoi_yes (w : World) (x : ByteArray) (n V : Nat) (hn : x.size = n) (h0 : 1 ≤ n) (hs : n ≤ 65536) (HD : Hid (∀ j, j < n → isD (tb x j) = true)) (hv : nvl x 0 n = V) (hlt : V < 9223372036854775808) :
    Calls Tryd.prog 37 #[.string x] w fun e w' => e = .returned (.tuple #[.int .i64 (V : Int), .nilIface]) ∧ Below w.heap.size w w' := by
  subst hn hv
  obtain ⟨T, h⟩ := atoi_ok_raw w x (by omega) _ ((atoi_text h0 HD.out).1 hlt)
  refine h.mono (fun e w' h => ⟨h.1, ?_⟩)
  rcases h.2 with rfl | ⟨t, rfl⟩
  · exact Below.refl _ _
  · exact Lib.bytesWorld_below _ _ _
theorem atoi_no (w : World) (x : ByteArray) (n V : Nat) (hn : x.size = n) (h0 : 1 ≤ n) (hs : n ≤ 65536) (HD : Hid (∀ j, j < n → isD (tb x j) = true)) (hv : nvl x 0 n = V) (hlt : 9223372036854775808 ≤ V) (HE : Hid (Er9 w)) :
    ∃ T, Calls Tryd.prog 37 #[.string x] w fun e w' => ∃ N : Nat, e = .returned (.tuple #[.int .i64 9223372036854775807, .iface T (.pointer (some ⟨N, 0, none⟩))]) ∧ Below w.heap.size w w' := by
  subst hn hv
  obtain ⟨tp, p, hvar⟩ := HE.out
  obtain ⟨h1, h2⟩ := (atoi_text h0 HD.out).2 hlt
  obtain ⟨T, h⟩ := atoi_range_raw w x (by omega) h1 tp p hvar
  rw [h2] at h
  exact ⟨T, h⟩
set_option maxRecDepth 20000 in
set_option maxHeartbeats 2000000 in
theorem tnumbered_yes (w : World) (x : ByteArray) (n V : Nat) (hn : x.size = n) (h0 : 1 ≤ n) (hs : n ≤ 65536) (HD : Hid (∀ j, j < n → isD (tb x j) = true)) (HO : Hid (NumOk x 0 n)) (hv : nvl x 0 n = V) :
    Calls Tryd.prog 22 #[.string x] w fun e w' => e = .returned (.tuple #[.int .i64 (V : Int), .bool true]) ∧ Below w.heap.size w w' := by
  have hV : V ≤ 2147483647 := by have := HO.out.2; rw [Nat.sub_zero, hv] at this; exact this
  have HC : Hid (∀ w' : World, Calls Tryd.prog 37 #[.string x] w' fun e w'' => e = .returned (.tuple #[.int .i64 (V : Int), .nilIface]) ∧ Below w'.heap.size w' w'') := fun w' => atoi_yes w' x n V hn h0 hs HD hv (by omega)
  have qV : decide ((V : Int) ≤ 2147483647) = true := decide_eq_true (by omega)
  obtain ⟨c, HCc⟩ : ∃ c, Hid (tb x 0 = c) := ⟨_, rfl⟩
  have hx0 : 0 < x.size := by omega
  have hc : x[0].toNat = c := by rw [← HCc.out]; exact tb_at hx0
  have hHO : ¬ (c = 48 ∧ 1 < n) := by have := HO.out.1; rw [Nat.sub_zero, HCc.out] at this; exact this
  clear HD hv
  by_cases h2 : 1 < n
  · have q48 : ((c : Int) == 48) = false := by simp; omega
    have q1 : decide (1 < x.size) = true := decide_eq_true (by omega)
    have q2 : decide ((1 : Int) < (x.size : Int)) = true := decide_eq_true (by omega)
    go_enter Tryd.func22, Tryd.ntmps22
    go_wp2_with (go_at_call 37; refine (HC.out _).mono ?_; rintro e w1 ⟨rfl, hb1⟩; have HB1 := jhid9 hb1; clear hb1)
    go_ret2
    exact ⟨rfl, HB1.out⟩
  · have q1 : decide (1 < x.size) = false := decide_eq_false (by omega)
    have q2 : decide ((1 : Int) < (x.size : Int)) = false := decide_eq_false (by omega)
    go_enter Tryd.func22, Tryd.ntmps22
    go_wp2_with (go_at_call 37; refine (HC.out _).mono ?_; rintro e w1 ⟨rfl, hb1⟩; have HB1 := jhid9 hb1; clear hb1)
    go_ret2
    exact ⟨rfl, HB1.out⟩
set_option maxRecDepth 20000 in
set_option maxHeartbeats 4000000 in
theorem tnumbered_no (w : World) (x : ByteArray) (n : Nat) (hn : x.size = n) (h0 : 1 ≤ n) (hs : n ≤ 65536) (HD : Hid (∀ j, j < n → isD (tb x j) = true)) (HO : Hid (¬ NumOk x 0 n)) (HE : Hid (Er9 w)) :
    Calls Tryd.prog 22 #[.string x] w fun e w' => ∃ m : Int, e = .returned (.tuple #[.int .i64 m, .bool false]) ∧ Below w.heap.size w w' := by
  obtain ⟨c, HCc⟩ : ∃ c, Hid (tb x 0 = c) := ⟨_, rfl⟩
  have hx0 : 0 < x.size := by omega
  have hc : x[0].toNat = c := by rw [← HCc.out]; exact tb_at hx0
  by_cases h48 : c = 48 ∧ 1 < n
  · obtain ⟨rfl, h2⟩ := h48
    have q1 : decide (1 < x.size) = true := decide_eq_true (by omega)
    have q2 : decide ((1 : Int) < (x.size : Int)) = true := decide_eq_true (by omega)
    go_enter Tryd.func22, Tryd.ntmps22
    go_wp2
    go_ret2
    exact ⟨_, rfl, Below.refl _ _⟩
  · obtain ⟨V, hv⟩ : ∃ V, nvl x 0 n = V := ⟨_, rfl⟩
    have hV : 2147483647 < V := by
      rcases Nat.lt_or_ge 2147483647 V with h | h
      · exact h
      · exact absurd ⟨by rw [Nat.sub_zero, HCc.out]; exact h48, by rw [Nat.sub_zero, hv]; exact h⟩ HO.out
    have HE0 := HE
    by_cases h63 : V < 9223372036854775808
    · have HC : Hid (∀ w' : World, Calls Tryd.prog 37 #[.string x] w' fun e w'' => e = .returned (.tuple #[.int .i64 (V : Int), .nilIface]) ∧ Below w'.heap.size w' w'') := fun w' => atoi_yes w' x n V hn h0 hs HD hv h63
      have qV : decide ((V : Int) ≤ 2147483647) = false := decide_eq_false (by omega)
      clear HD hv
      by_cases h2 : 1 < n
      · have q48 : ((c : Int) == 48) = false := by simp; omega
        have q1 : decide (1 < x.size) = true := decide_eq_true (by omega)
        have q2 : decide ((1 : Int) < (x.size : Int)) = true := decide_eq_true (by omega)
        go_enter Tryd.func22, Tryd.ntmps22
        go_wp2_with (go_at_call 37; refine (HC.out _).mono ?_; rintro e w1 ⟨rfl, hb1⟩; have HB1 := jhid9 hb1; clear hb1)
        go_ret2
        exact ⟨_, rfl, HB1.out⟩
      · have q1 : decide (1 < x.size) = false := decide_eq_false (by omega)
        have q2 : decide ((1 : Int) < (x.size : Int)) = false := decide_eq_false (by omega)
        go_enter Tryd.func22, Tryd.ntmps22
        go_wp2_with (go_at_call 37; refine (HC.out _).mono ?_; rintro e w1 ⟨rfl, hb1⟩; have HB1 := jhid9 hb1; clear hb1)
        go_ret2
        exact ⟨_, rfl, HB1.out⟩
    · obtain ⟨T, hC⟩ := atoi_no w x n V hn h0 hs HD hv (by omega) HE
      have HC := jhid9 hC
      clear HD hv hC
      by_cases h2 : 1 < n
      · have q48 : ((c : Int) == 48) = false := by simp; omega
        have q1 : decide (1 < x.size) = true := decide_eq_true (by omega)
        have q2 : decide ((1 : Int) < (x.size : Int)) = true := decide_eq_true (by omega)
        go_enter Tryd.func22, Tryd.ntmps22
        go_wp2_with (go_at_call 37; refine HC.out.mono ?_; rintro e w1 ⟨N, rfl, hb1⟩; have HB1 := jhid9 hb1; clear hb1)
        go_ret2
        exact ⟨_, rfl, HB1.out⟩
      · have q1 : decide (1 < x.size) = false := decide_eq_false (by omega)
        have q2 : decide ((1 : Int) < (x.size : Int)) = false := decide_eq_false (by omega)
        go_enter Tryd.func22, Tryd.ntmps22
        go_wp2_with (go_at_call 37; refine HC.out.mono ?_; rintro e w1 ⟨N, rfl, hb1⟩; have HB1 := jhid9 hb1; clear hb1)
        go_ret2
        exact ⟨_, rfl, HB1.out⟩
end Go.Proofs.YtipjejkjoiifdabDoor
