/-
  Contract of the matrices' reference: Transpose.
-/
import Derived.Test.YtaoehildaenbnaaSe
import Derived.Test.YtaoehildaenbnaaPk
import Derived.Deep.AppendLies
namespace Go.Proofs.Ytaoehildaenbnaa
open Go.RowKit
/-- The entries transposed: r rows and c columns become c rows and r columns. -/
def trf (F : Nat → Nat) (r c p : Nat) : Nat := F (p % r * c + p / r)
theorem trf_at (F : Nat → Nat) (r c i j : Nat) (hi : i < r) : trf F r c (j * r + i) = F (i * c + j) := by
  unfold trf
  rw [Nat.mul_comm j r, Nat.mul_add_mod, Nat.mod_eq_of_lt hi, Nat.mul_add_div (by omega), Nat.div_eq_of_lt hi, Nat.add_zero]
theorem keepg {w w' : World} {b o : Nat} {x : Value} {row : Option Nat} (hg : w.grownBy w' row) (h : w.cell? ⟨b, o, none⟩ = some x) (hne : row ≠ some b) : w'.cell? ⟨b, o, none⟩ = some x := hg.cell h (fun e => hne e.symm)
theorem keepgf {w w' : World} {b o : Nat} {x : Value} {row : Option Nat} (hg : w.grownBy w' row) (hc : w.cell? ⟨b, o, none⟩ = some x) (h : w.frozen? ⟨b, o, none⟩ = false) (hne : row ≠ some b) : w'.frozen? ⟨b, o, none⟩ = false := by
  unfold World.frozen? at *
  rw [hg.block b (cell_lt hc) (fun e => hne e.symm)]; exact h
theorem Vr.grown {w w' : World} {b : Nat} {x y z : Value} {row : Option Nat} (h : Vr w b x y z) (hg : w.grownBy w' row) (hne : row ≠ some b) : Vr w' b x y z := by unfold Vr; rw [hg.block b h.lt (fun e => hne e.symm)]; exact h
theorem own_sl' {w : World} {base : Nat} {v : Value} {n : Nat} {ls : List Value} (h : w.ownsRow base 5 1 v n ls) : ∃ s d, v = .slice s n d ∧ n ≤ d ∧ True := by
  rcases h.2 with ⟨e, h0⟩ | ⟨g, cap, cur, e, _, _, hc, _⟩
  · subst h0; exact ⟨none, 0, e, Nat.le_refl _, trivial⟩
  · exact ⟨_, cap, e, hc, trivial⟩
/-- What the loops of Transpose keep. -/
structure TInv (w w1 wr : World) (g4 r c n k q : Nat) (a : Option Addr) (F : Nat → Nat) (v : Value) : Prop where
  vb : Vr wr w.heap.size (.int .i64 (r : Int)) (.int .i64 (c : Int)) (.slice a n k)
  vr : Vr wr (w.heap.size + 1) (.int .i64 0) (.int .i64 0) (.slice none 0 0)
  vt : Vr wr g4 (.int .i64 (c : Int)) (.int .i64 (r : Int)) v
  own : wr.ownsRow (g4 + 1) 5 1 v q (row q (trf F r c)).toList
  below : Below w1.heap.size w1 wr
theorem tinv_next {w w1 wr w5 w8 : World} {r c n k q q' p x gg cap : Nat} {a : Option Addr} {F : Nat → Nat} {v : Value} (I : TInv w w1 wr w1.heap.size r c n k q a F v) (hb5 : Below wr.heap.size wr w5)
    (ho : w5.ownsRow (w1.heap.size + 1) 5 1 v p (row p (trf F r c)).toList)
    (hown : w8.ownsRow (w1.heap.size + 1) 5 1 (.slice (some ⟨gg, 0, none⟩) (p + 1) cap) (p + 1) ((row p (trf F r c)).toList ++ [.int .u8 (x : Int)])) (hg : (w5.alloc (.cells #[.int .u8 (x : Int)] 5)).grownBy w8 v.ownBlock) (hx : trf F r c p = x) (hq : p + 1 = q') (hw : w.heap.size + 1 < w1.heap.size) :
    TInv w w1 (w8.setCell ⟨w1.heap.size, 2, none⟩ (.slice (some ⟨gg, 0, none⟩) (p + 1) cap)) w1.heap.size r c n k q' a F (.slice (some ⟨gg, 0, none⟩) (p + 1) cap) := by
  subst hq
  have base := own_base ho
  have gb := (own_block hown).1
  refine ⟨?_, ?_, ?_, ?_, ?_⟩
  · exact (((I.vb.later hb5).later (alloc_low _ _)).grown hg (fun e => by have := base _ e; omega)).kept (grown_setCell _ _ _ _) (by omega)
  · exact (((I.vr.later hb5).later (alloc_low _ _)).grown hg (fun e => by have := base _ e; omega)).kept (grown_setCell _ _ _ _) (by omega)
  · exact Vr.set2 (((I.vt.later hb5).later (alloc_low _ _)).grown hg (fun e => by have := base _ e; omega)) _
  · rw [← row_snoc, hx]
    exact hown.kept (grown_setCell _ _ _ _) (.inr (by simp [Value.ownBlock]; omega))
  · have b8 : Below w1.heap.size w1 w8 := ((two_below I.below hb5).alloc (two_below I.below hb5).size _).grown hg (by have := (two_below I.below hb5).size; simp; omega) (fun k hk => by have := base k hk; omega)
    exact b8.setCell (Nat.le_refl _) _
set_option maxRecDepth 20000 in
set_option maxHeartbeats 4000000 in
theorem rtrans_ok (w : World) (r c n k : Nat) (a : Option Addr) (F : Nat → Nat) (ha : Sl w a n F) (R : Rt r c n) :
    Calls Try.prog 28 #[mv r c a n k] w fun e w' => ∃ s d, e = .returned (.tuple #[mv c r s n d, .int .i64 0]) ∧ w'.ownsRow w.heap.size 5 1 (.slice s n d) n (row n (trf F r c)).toList ∧ Below w.heap.size w w' := by
  obtain ⟨i0, hi0, hz0, hz1, hz2⟩ := info_parts info8
  have HRt : Hid (Rt r c n) := R
  have hn := R.le
  have hr := R.r64
  have hc := R.c64
  obtain ⟨wb, HW⟩ : ∃ wb, Hid (wb = (w.alloc (.cells #[.int .i64 (r : Int), .int .i64 (c : Int), .slice a n k] 24)).alloc (.cells #[.int .i64 0, .int .i64 0, .slice none 0 0] 24)) := ⟨_, rfl⟩
  have HVb : Hid (Vr wb w.heap.size (.int .i64 (r : Int)) (.int .i64 (c : Int)) (.slice a n k)) := by rw [HW.out]; exact (Vr.new w _ _ _).later (alloc_low _ _)
  have HVr : Hid (Vr wb (w.heap.size + 1) (.int .i64 0) (.int .i64 0) (.slice none 0 0)) := by show Vr _ _ _ _ _; rw [HW.out]; have := Vr.new (w.alloc (.cells #[.int .i64 (r : Int), .int .i64 (c : Int), .slice a n k] 24)) (.int .i64 0) (.int .i64 0) (.slice none 0 0); simpa using this
  have HB0 : Hid (Below w.heap.size w wb) := by rw [HW.out]; exact two_below (alloc_low _ _) (alloc_low _ _)
  have HSa : Hid (Sl w a n F) := ha
  clear ha R
  go_enter Try.func28, Try.ntmps28
  go_wp2_with (go_at_call 14; rw [← HW.out]; refine (right_yes _ _ _ _ _ _ HRt.out.p).mono ?_; rintro e w1 ⟨rfl, hb1⟩; have HB1 : Hid (Below wb.heap.size wb w1) := hb1; have b0 := (HVb.out.later hb1).c0; have b1 := (HVb.out.later hb1).c1; clear hb1)
  have HI0 : Hid (TInv w w1 (w1.alloc (.cells #[.int .i64 (c : Int), .int .i64 (r : Int), .slice none 0 0] 24)) w1.heap.size r c n k 0 a F (.slice none 0 0)) :=
    ⟨(HVb.out.later HB1.out).later (alloc_low _ _), (HVr.out.later HB1.out).later (alloc_low _ _), Vr.new w1 _ _ _, by rw [row_empty]; exact World.ownsRow_nil _ _ _ _, alloc_low _ _⟩
  have HBw : Hid (Below w.heap.size w w1) := two_below HB0.out HB1.out
  have l1 := HVr.out.lt
  have l2 := HB1.out.size
  have l3 := HB0.out.size
  clear HW HVb HVr HB0 HB1 b0 b1
  go_loopw [5] (fun j wr => ∃ (m : Nat) (v : Value), m ≤ c ∧ j = .int .i64 (m : Int) ∧ TInv w w1 wr w1.heap.size r c n k (m * r) a F v) (fun j _ => c - (intOf j).toNat)
  case atStart => exact ⟨0, _, by omega, rfl, by rw [Nat.zero_mul]; exact HI0.out⟩
  case round =>
    clear HI0
    obtain ⟨m, v, hm, rfl, I⟩ := hrel
    have HI : Hid (TInv w w1 wr w1.heap.size r c n k (m * r) a F v) := I
    have b1 := I.vb.c1
    clear I
    by_cases hlt : m < c
    · go_wp2
      go_loopw [6] (fun i wi => ∃ (q : Nat) (v : Value), q ≤ r ∧ i = .int .i64 (q : Int) ∧ TInv w w1 wi w1.heap.size r c n k (m * r + q) a F v) (fun i _ => r - (intOf i).toNat)
      case atStart => exact ⟨0, v, by omega, rfl, HI.out⟩
      case round =>
        clear HI b1
        obtain ⟨q, v, hq, rfl, I⟩ := hrel
        have HI : Hid (TInv w w1 wr w1.heap.size r c n k (m * r + q) a F v) := I
        have b0 := I.vb.c0
        by_cases hlq : q < r
        · have b1 := I.vb.c1
          have b2 := I.vb.c2
          have t2 := I.vt.c2
          have tf := I.vt.free 2
          obtain ⟨p, HP⟩ : ∃ p, Hid (m * r + q = p) := ⟨_, rfl⟩
          have hpn : p < n := by
            rw [← HP.out, ← HRt.out.len, Nat.mul_comm r c]
            exact Nat.lt_of_lt_of_le (show m * r + q < (m + 1) * r by rw [Nat.add_mul, Nat.one_mul]; omega) (Nat.mul_le_mul_right r hlt)
          obtain ⟨x, HX⟩ : ∃ x, Hid (F (q * c + m) = x) := ⟨_, rfl⟩
          have HXt : Hid (trf F r c p = x) := by show _ = _; rw [← HP.out, trf_at F r c q m hlq, HX.out]
          have HO : Hid (wr.ownsRow (w1.heap.size + 1) 5 1 v p (row p (trf F r c)).toList) := by rw [← HP.out]; exact I.own
          have hml : p + 1 ≤ maxLen := by unfold maxLen; omega
          have HAt : Hid (Calls Try.prog 44 #[.agg #[.int .i64 (r : Int), .int .i64 (c : Int), .slice a n k], .int .i64 (q : Int), .int .i64 (m : Int)] wr.drew fun e w'' => e = .returned (.int .u8 (x : Int)) ∧ Below wr.drew.heap.size wr.drew w'') := at3_any wr.drew _ c q m n k x a F (HSa.out.later (two_below HBw.out (I.below.drew))) (HRt.out.at hlq hlt) hn HX
          have t2d : wr.drew.cell? ⟨w1.heap.size, 2, none⟩ = some v := t2
          have tfd : wr.drew.frozen? ⟨w1.heap.size, 2, none⟩ = false := tf
          have b0d : wr.drew.cell? ⟨w.heap.size, 0, none⟩ = some (.int .i64 (r : Int)) := b0
          have b1d : wr.drew.cell? ⟨w.heap.size, 1, none⟩ = some (.int .i64 (c : Int)) := b1
          have b2d : wr.drew.cell? ⟨w.heap.size, 2, none⟩ = some (.slice a n k) := b2
          have hsz := I.below.size
          have hg4 := I.vt.lt
          have HD : Hid ((fun w' => w'.cell? ⟨w1.heap.size, 2, none⟩ = some v ∧ w'.frozen? ⟨w1.heap.size, 2, none⟩ = false ∧ w'.cell? ⟨w.heap.size, 0, none⟩ = some (.int .i64 (r : Int)) ∧ w'.cell? ⟨w.heap.size, 1, none⟩ = some (.int .i64 (c : Int)) ∧ w'.cell? ⟨w.heap.size, 2, none⟩ = some (.slice a n k)) wr.drew) := ⟨t2, tf, b0, b1, b2⟩
          clear I
          go_wp2
          refine wp_region_park (k := 9) (n := 9) (fun w' => w'.cell? ⟨w1.heap.size, 2, none⟩ = some v ∧ w'.frozen? ⟨w1.heap.size, 2, none⟩ = false ∧ w'.cell? ⟨w.heap.size, 0, none⟩ = some (.int .i64 (r : Int)) ∧ w'.cell? ⟨w.heap.size, 1, none⟩ = some (.int .i64 (c : Int)) ∧ w'.cell? ⟨w.heap.size, 2, none⟩ = some (.slice a n k)) (by kernel_rfl) (by kernel_rfl) (by decide) (by rfl) ?_
          refine wpAnyH_take (i := 0) (v := ?v0) rfl (by kernel_rfl) (by kernel_rfl) (by kernel_rfl) (fun _ _ _ h => h) (Or.inl ⟨by rfl, ?y0⟩) HD.out ?z0
          case y0 => (intro w hSw; (try dsimp only at hSw); go_simp; try with_reducible rfl)
          try simp only [List.getElem_toArray, List.getElem_cons_zero, Act.put, List.setIfInBounds_toArray, List.set_cons_zero, List.set_cons_succ]
          refine wpAnyH_take (i := 1) (v := ?v1) rfl (by kernel_rfl) (by kernel_rfl) (by kernel_rfl) (fun _ _ _ h => h) (Or.inl ⟨by rfl, ?y1⟩) HD.out ?z1
          case y1 => (intro w hSw; (try dsimp only at hSw); go_simp; try with_reducible rfl)
          try simp only [List.getElem_toArray, List.getElem_cons_succ, List.getElem_cons_zero, Act.put, List.setIfInBounds_toArray, List.set_cons_zero, List.set_cons_succ]
          refine wpAnyH_take (i := 2) (v := ?v2) rfl (by kernel_rfl) (by kernel_rfl) (by kernel_rfl) (fun _ _ _ h => h) (Or.inl ⟨by rfl, ?y2⟩) HD.out ?z2
          case y2 => (intro w hSw; (try dsimp only at hSw); go_simp; try with_reducible rfl)
          try simp only [List.getElem_toArray, List.getElem_cons_succ, List.getElem_cons_zero, Act.put, List.setIfInBounds_toArray, List.set_cons_zero, List.set_cons_succ]
          refine wpAnyH_take (i := 3) (v := ?v3) rfl (by kernel_rfl) (by kernel_rfl) (by kernel_rfl) (fun _ _ _ h => h) (Or.inl ⟨by rfl, ?y3⟩) HD.out ?z3
          case y3 => (intro w hSw; (try dsimp only at hSw); go_simp; try with_reducible rfl)
          try simp only [List.getElem_toArray, List.getElem_cons_succ, List.getElem_cons_zero, Act.put, List.setIfInBounds_toArray, List.set_cons_zero, List.set_cons_succ]
          refine wpAnyH_take (i := 4) (v := ?v4) rfl (by kernel_rfl) (by kernel_rfl) (by kernel_rfl) (fun _ _ _ h => h) (Or.inl ⟨by rfl, ?y4⟩) HD.out ?z4
          case y4 => (intro w hSw; (try dsimp only at hSw); go_simp; try with_reducible rfl)
          try simp only [List.getElem_toArray, List.getElem_cons_succ, List.getElem_cons_zero, Act.put, List.setIfInBounds_toArray, List.set_cons_zero, List.set_cons_succ]
          refine wpAnyH_ready (rs := [5]) (by kernel_rfl) (by simp) ?_
          refine AllReadyH.cons rfl (fun K hK => ?_) AllReadyH.nil
          go_simp
          refine HAt.out.mono ?_; rintro e w5 ⟨rfl, hbk⟩; have t25 := keepc hbk t2d; have tf5 := keepf hbk t2d tfd; have b05 := keepc hbk b0d; have b15 := keepc hbk b1d; have b25 := keepc hbk b2d; have HB5 : Hid (Below wr.heap.size wr w5) := two_below (Below.refl _ _).drew hbk; have HO5 : Hid (w5.ownsRow (w1.heap.size + 1) 5 1 v p (row p (trf F r c)).toList) := HO.out.kept (grown_none.mpr HB5.out) (by cases hv : v.ownBlock <;> simp); have hs5 := HB5.out.size; clear hbk; dsimp only
          refine hK.out _ _ ⟨t25, tf5, b05, b15, b25⟩ (fun _ => ?_)
          clear hK K
          try simp only [List.getElem_toArray, List.getElem_cons_succ, List.getElem_cons_zero, Act.put, List.setIfInBounds_toArray, List.set_cons_zero, List.set_cons_succ]
          refine wpAnyH_ready (rs := [6]) (by kernel_rfl) (by simp) ?_
          refine AllReadyH.cons rfl (fun K hK => ?_) AllReadyH.nil
          go_simp
          refine hK.out _ _ ⟨keepc (alloc_low _ _) t25, keepf (alloc_low _ _) t25 tf5, keepc (alloc_low _ _) b05, keepc (alloc_low _ _) b15, keepc (alloc_low _ _) b25⟩ (fun _ => ?_)
          clear hK K
          try simp only [List.getElem_toArray, List.getElem_cons_succ, List.getElem_cons_zero, Act.put, List.setIfInBounds_toArray, List.set_cons_zero, List.set_cons_succ]
          refine wpAnyH_ready (rs := [7]) (by kernel_rfl) (by simp) ?_
          refine AllReadyH.cons rfl (fun K hK => ?_) AllReadyH.nil
          refine step_append_lies _ (by rfl) _ _ _ (by rfl) (w1.heap.size + 1) 5 i0 _ 1 1 Try.underlying22 hi0 hz0 hz1 hz2 rfl (by omega) v p (row p (trf F r c)).toList (by rfl) (HO5.out.alloc _) ⟨w5.heap.size, 0, none⟩ 1 1 [.int .u8 (x : Int)] (by rfl) (by rfl) (one_new _ _ _) (one_one _) (by omega) hml (by omega) (by simp; omega) (w5.heap.size + 1) (by simp) ?_; intro gg cap w8 hown8 hgrow8 hat8 hlt8; have hva : v.ownBlock ≠ some w1.heap.size := (fun e => by { have := own_base HO5.out _ e; omega }); have hvb : v.ownBlock ≠ some w.heap.size := (fun e => by { have := own_base HO5.out _ e; omega }); have hal := alloc_low w5 (.cells #[.int .u8 (x : Int)] 5); have t28 := keepg hgrow8 (keepc hal t25) hva; have tf8 := keepgf hgrow8 (keepc hal t25) (keepf hal t25 tf5) hva; have b08 := keepg hgrow8 (keepc hal b05) hvb; have b18 := keepg hgrow8 (keepc hal b15) hvb; have b28 := keepg hgrow8 (keepc hal b25) hvb
          refine hK.out _ _ ⟨t28, tf8, b08, b18, b28⟩ (fun _ => ?_)
          clear hK K
          try simp only [List.getElem_toArray, List.getElem_cons_succ, List.getElem_cons_zero, Act.put, List.setIfInBounds_toArray, List.set_cons_zero, List.set_cons_succ]
          refine wpAnyH_take (i := 8) (v := ?v8) rfl (by kernel_rfl) (by kernel_rfl) (by kernel_rfl) (fun _ _ _ h => h) (Or.inl ⟨by rfl, ?y8⟩) ⟨t28, tf8, b08, b18, b28⟩ ?z8
          case y8 => (intro w hSw; (try dsimp only at hSw); go_simp; try with_reducible rfl)
          try simp only [List.getElem_toArray, List.getElem_cons_succ, List.getElem_cons_zero, Act.put, List.setIfInBounds_toArray, List.set_cons_zero, List.set_cons_succ]
          refine wpAnyH_done (by kernel_rfl) ?_ _
          refine park_last rfl (fun K hK => ?_)
          go_simp
          refine hK.out _ _ ?_
          clear hK K
          try simp only [List.getElem_toArray, List.getElem_cons_succ, List.getElem_cons_zero, Act.put, List.setIfInBounds_toArray, List.set_cons_zero, List.set_cons_succ]
          have HN : Hid (TInv w w1 (w8.setCell ⟨w1.heap.size, 2, none⟩ (.slice (some ⟨gg, 0, none⟩) (p + 1) cap)) w1.heap.size r c n k (m * r + (q + 1)) a F (.slice (some ⟨gg, 0, none⟩) (p + 1) cap)) := tinv_next HI.out HB5.out HO5.out hown8 hgrow8 HXt.out (by rw [← HP.out]; omega) (by omega)
          clear hown8 hgrow8 hat8 hlt8 t28 tf8 b08 b18 b28 hal
          go_wp2
          exact ⟨⟨q + 1, _, by omega, by go_num, HN.out⟩, by simp [intOf]; omega⟩
        · obtain rfl : q = r := by omega
          clear I
          go_wp2
          exact ⟨⟨m + 1, v, by omega, by go_num, by rw [Nat.add_mul, Nat.one_mul]; exact HI.out⟩, by simp [intOf]; omega⟩
    · obtain rfl : m = c := by omega
      have e1 : m * r = n := by rw [Nat.mul_comm]; exact HRt.out.len
      have hown := HI.out.own
      rw [e1] at hown
      obtain ⟨s, d, e3, _, _⟩ := own_sl' hown
      subst e3
      have c0 := HI.out.vt.c0
      have c1 := HI.out.vt.c1
      have c2 := HI.out.vt.c2
      have HVr : Hid (Vr wr (w.heap.size + 1) (.int .i64 0) (.int .i64 0) (.slice none 0 0)) := HI.out.vr
      have HO : Hid (wr.ownsRow (w1.heap.size + 1) 5 1 (.slice s n d) n (row n (trf F r m)).toList) := hown
      clear hown
      go_wp2_with (refine wpList_store_var rfl _ _ rfl (w.heap.size + 1) _ _ _ (.int .i64 (m : Int)) (.int .i64 (r : Int)) (.slice s n d) rfl rfl HVr.out rfl rfl rfl ?_; intro w4 HV4 HG4)
      have d0 := HV4.out.c0
      have d1 := HV4.out.c1
      have d2 := HV4.out.c2
      refine bodyPost_ret (v := .tuple #[mv m r s n d, .int .i64 0]) (by simp [results, Try.results28, go_sem, d0, d1, d2, mv]) rfl ?_
      have own4 := HO.out.kept HG4.out (.inr (fun e => by have := own_base HO.out _ e; omega))
      refine ⟨s, d, rfl, ⟨own4.1, ?_⟩, below_row (two_below HBw.out HI.out.below) HG4.out (by omega)⟩
      rcases own4.2 with h' | ⟨g, cp, cur, e, hb, rr⟩
      · exact .inl h'
      · exact .inr ⟨g, cp, cur, e, by omega, rr⟩
end Go.Proofs.Ytaoehildaenbnaa
