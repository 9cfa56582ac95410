/-
  Contracts of the matrices' reference: Of.
-/
import Derived.Test.YtaoehildaenbnaaSn
namespace Go.Proofs.Ytaoehildaenbnaa
open Go.RowKit
/-- A slice of lists: the i-th lies at A i, has the length L i and the room C i, and reads as f i 0, f i 1, .. -/
structure Rl (w : World) (b : Option Addr) (m : Nat) (A : Nat → Option Addr) (L C : Nat → Nat) (f : Nat → Nat → Nat) : Prop where
  at' : ∀ i, i < m → ∃ x o, b = some ⟨x, o, none⟩ ∧ w.cell? ⟨x, o + i, none⟩ = some (.slice (A i) (L i) (C i))
  sl : ∀ i, i < m → Sl w (A i) (L i) (f i)
  nil : ∀ i, i < m → A i = none → L i = 0 ∧ C i = 0
theorem Rl.later {w w' : World} {b : Option Addr} {m : Nat} {A : Nat → Option Addr} {L C : Nat → Nat} {f : Nat → Nat → Nat} (h : Rl w b m A L C f) (hb : Below w.heap.size w w') : Rl w' b m A L C f :=
  ⟨fun i hi => by
    obtain ⟨x, o, e, hc⟩ := h.at' i hi
    exact ⟨x, o, e, by rw [hb.cell (p := ⟨x, o + i, none⟩) (cell_lt hc)]; exact hc⟩, fun i hi => (h.sl i hi).later hb, h.nil⟩
/-- The rows' entries, one behind the other. -/
def off (f : Nat → Nat → Nat) (c p : Nat) : Nat := f (p / c) (p % c)
theorem off_at (f : Nat → Nat → Nat) (c i j : Nat) (hj : j < c) : off f c (i * c + j) = f i j := by
  unfold off
  rw [Nat.mul_comm i c, Nat.mul_add_div (by omega), Nat.div_eq_of_lt hj, Nat.add_zero, Nat.mul_add_mod, Nat.mod_eq_of_lt hj]
theorem row_off (f : Nat → Nat → Nat) (c i : Nat) : (row (i * c) (off f c)).toList ++ (row c (f i)).toList = (row ((i + 1) * c) (off f c)).toList := by
  rw [row_stf, Nat.add_mul, Nat.one_mul]
  congr 1
  apply row_congr
  intro p hp
  unfold stf
  by_cases h : p < i * c
  · rw [if_pos h]
  · rw [if_neg h, ← off_at f c i (p - i * c) (by omega)]
    congr 1; omega
/-- What the loop of Of keeps. -/
structure OInv (w wr : World) (m c q : Nat) (G : Nat → Nat) (v : Value) : Prop where
  vr : Vr wr w.heap.size (.int .i64 0) (.int .i64 0) (.slice none 0 0)
  vt : Vr wr (w.heap.size + 1) (.int .i64 (m : Int)) (.int .i64 (c : Int)) v
  own : wr.ownsRow (w.heap.size + 1 + 1) 5 1 v q (row q G).toList
  below : Below w.heap.size w wr
theorem OInv.grown {w w5 w8 : World} {m c q q' cap : Nat} {gg : Option Addr} {G : Nat → Nat} {v : Value} (I : OInv w w5 m c q G v)
    (hown : w8.ownsRow (w.heap.size + 1 + 1) 5 1 (.slice gg q' cap) q' (row q' G).toList) (hg : w5.grownBy w8 v.ownBlock) :
    OInv w (w8.setCell ⟨w.heap.size + 1, 2, none⟩ (.slice gg q' cap)) m c q' G (.slice gg q' cap) := by
  have base := own_base I.own
  refine ⟨?_, ?_, ?_, ?_⟩
  · exact (I.vr.grown hg (fun e => by have := base _ e; omega)).kept (grown_setCell _ _ _ _) (by omega)
  · exact Vr.set2 (I.vt.grown hg (fun e => by have := base _ e; omega)) _
  · exact hown.kept (grown_setCell _ _ _ _) (.inr (fun e => by have := own_base hown _ e; omega))
  · have b8 : Below w.heap.size w w8 := I.below.grown hg I.below.size (fun k hk => by have := base k hk; omega)
    exact b8.setCell (show w.heap.size ≤ w.heap.size + 1 by omega) _
theorem oinv_drew {w wr : World} {m c q : Nat} {G : Nat → Nat} {v : Value} (I : OInv w wr m c q G v) : OInv w wr.drew m c q G v :=
  ⟨I.vr, I.vt, I.own, I.below.drew⟩
set_option maxRecDepth 20000 in
set_option maxHeartbeats 4000000 in
theorem rof_pos (w : World) (m c d N : Nat) (b : Option Addr) (A : Nat → Option Addr) (L C : Nat → Nat) (f : Nat → Nat → Nat) (hb : Rl w b m A L C f) (hL : ∀ i, i < m → L i = c) (hm : m ≤ 64) (hc : c ≤ 64) (h0 : 0 < m) (HN : Hid (m * c = N)) :
    Calls Try.prog 17 #[.slice b m d] w fun e w' => ∃ s d, e = .returned (.tuple #[mv m c s N d, .int .i64 0]) ∧ w'.ownsRow w.heap.size 5 1 (.slice s N d) N (row N (off f c)).toList ∧ Below w.heap.size w w' := by
  have HSb : Hid (Rl w b m A L C f) := hb
  have HL : Hid (∀ i, i < m → L i = c) := hL
  obtain ⟨wb, HW⟩ : ∃ wb, Hid (wb = (w.alloc (.cells #[.int .i64 0, .int .i64 0, .slice none 0 0] 24)).alloc (.cells #[.int .i64 (m : Int), .int .i64 0, .slice none 0 0] 24)) := ⟨_, rfl⟩
  have HVr : Hid (Vr wb w.heap.size (.int .i64 0) (.int .i64 0) (.slice none 0 0)) := by rw [HW.out]; exact (Vr.new w _ _ _).later (alloc_low _ _)
  have HVt : Hid (Vr wb (w.heap.size + 1) (.int .i64 (m : Int)) (.int .i64 0) (.slice none 0 0)) := by show Vr _ _ _ _ _; rw [HW.out]; have := Vr.new (w.alloc (.cells #[.int .i64 0, .int .i64 0, .slice none 0 0] 24)) (.int .i64 (m : Int)) (.int .i64 0) (.slice none 0 0); simpa using this
  have HB0 : Hid (Below w.heap.size w wb) := by rw [HW.out]; exact two_below (alloc_low _ _) (alloc_low _ _)
  clear hb hL
  go_enter Try.func17, Try.ntmps17
  go_wp2
  rw [← HW.out]
  clear HW
  go_loopw [5] (fun j wr => ∃ q : Nat, q ≤ m ∧ j = .int .i64 (q : Int) ∧ Below wb.heap.size wb wr) (fun j _ => m - (intOf j).toNat)
  case atStart => exact ⟨0, by omega, rfl, Below.refl _ _⟩
  case round =>
    obtain ⟨q, hq, rfl, hbr⟩ := hrel
    have HB : Hid (Below wb.heap.size wb wr) := hbr
    clear hbr
    by_cases hlt : q < m
    · have hm0 := h0
      have HS := HSb.out.later (two_below HB0.out HB.out)
      obtain ⟨x, o, eb, hcell⟩ := HS.at' q hlt
      obtain ⟨x', o', eb', hcell'⟩ := HS.at' 0 hm0
      rw [HL.out q hlt] at hcell
      rw [HL.out 0 hm0] at hcell'
      rw [eb] at eb'
      simp only [Option.some.injEq, Addr.mk.injEq, and_true] at eb'
      obtain ⟨rfl, rfl⟩ := eb'
      rw [Nat.add_zero] at hcell'
      subst eb
      clear HS
      go_wp2
      go_region
      go_wp2
      exact ⟨⟨q + 1, by omega, by go_num, by first | exact HB.out | exact HB.out.drew⟩, by simp [intOf]; omega⟩
    · obtain rfl : q = m := by omega
      have HS := HSb.out.later (two_below HB0.out HB.out)
      obtain ⟨x, o, eb, hcell⟩ := HS.at' 0 h0
      rw [HL.out 0 h0, Nat.add_zero] at hcell
      have g1 : decide (0 < q) = true := by simpa using h0
      have v0 := (HVt.out.later HB.out).c0
      have v1 := (HVt.out.later HB.out).c1
      have vf1 := (HVt.out.later HB.out).free 1
      subst eb
      clear HS
      go_wp2
      obtain ⟨w2, HW2⟩ : ∃ w2, Hid (w2 = wr.setCell ⟨w.heap.size + 1, 1, none⟩ (.int .i64 (c : Int))) := ⟨_, rfl⟩
      have HI0 : Hid (OInv w w2 q c 0 (off f c) (.slice none 0 0)) := by
        show OInv _ _ _ _ _ _ _
        rw [HW2.out]
        exact ⟨(HVr.out.later HB.out).kept (grown_setCell _ _ _ _) (by omega), (HVt.out.later HB.out).set1 _, by rw [row_empty]; exact World.ownsRow_nil _ _ _ _, (two_below HB0.out HB.out).setCell (show w.heap.size ≤ w.heap.size + 1 by omega) _⟩
      try rw [← HW2.out]
      clear HW2 HB HVr HVt HB0 hcell v0 v1 vf1
      go_loopw [6] (fun j wr => ∃ (t : Nat) (v : Value), t ≤ q ∧ j = .int .i64 (t : Int) ∧ OInv w wr q c (t * c) (off f c) v) (fun j _ => q - (intOf j).toNat)
      case atStart => exact ⟨0, _, by omega, rfl, by rw [Nat.zero_mul]; exact HI0.out⟩
      case round =>
        clear HI0
        obtain ⟨t, v, ht, rfl, I⟩ := hrel
        have HI : Hid (OInv w wr q c (t * c) (off f c) v) := I
        clear I
        by_cases hlt : t < q
        · have HS := HSb.out.later HI.out.below
          obtain ⟨x', o', eb', hcell⟩ := HS.at' t hlt
          simp only [Option.some.injEq, Addr.mk.injEq, and_true] at eb'
          obtain ⟨rfl, rfl⟩ := eb'
          rw [HL.out t hlt] at hcell
          have hst := HS.sl t hlt
          rw [HL.out t hlt] at hst
          have hnt := HS.nil t hlt
          rw [HL.out t hlt] at hnt
          have HId : Hid (OInv w wr.drew q c (t * c) (off f c) v) := oinv_drew HI.out
          have HSt : Hid (Sl wr.drew (A t) c (f t)) := hst
          have HNt : Hid (A t = none → c = 0 ∧ C t = 0) := hnt
          have hx0 := cell_lt (HSb.out.at' t hlt |>.choose_spec.choose_spec.2)
          have HOx : Hid (¬ w.heap.size + 1 + 1 ≤ x) := by
            obtain ⟨x', o', eb', hcell0⟩ := HSb.out.at' t hlt
            simp only [Option.some.injEq, Addr.mk.injEq, and_true] at eb'
            obtain ⟨rfl, rfl⟩ := eb'
            have := cell_lt hcell0
            show ¬ _
            omega
          have HD : Hid ((fun w' => w'.cell? ⟨w.heap.size + 1, 2, none⟩ = some v ∧ w'.frozen? ⟨w.heap.size + 1, 2, none⟩ = false ∧ w'.cell? ⟨x, o + t, none⟩ = some (.slice (A t) c (C t))) wr.drew) := ⟨HI.out.vt.c2, HI.out.vt.free 2, hcell⟩
          clear HS hst hnt hx0 hcell
          go_wp2
          refine wp_region_park (k := 8) (n := 8) (fun w' => w'.cell? ⟨w.heap.size + 1, 2, none⟩ = some v ∧ w'.frozen? ⟨w.heap.size + 1, 2, none⟩ = false ∧ w'.cell? ⟨x, o + t, none⟩ = some (.slice (A t) c (C t))) (by kernel_rfl) (by kernel_rfl) (by decide) (by rfl) ?_
          refine wpAnyH_take (i := 0) (v := ?v0) rfl (by kernel_rfl) (by kernel_rfl) (by kernel_rfl) (fun _ _ _ h => h) (Or.inl ⟨by rfl, ?y0⟩) HD.out ?z0
          case y0 => (intro w hSw; (try dsimp only at hSw); go_simp; try with_reducible rfl)
          try simp only [List.getElem_toArray, List.getElem_cons_zero, Act.put, List.setIfInBounds_toArray, List.set_cons_zero, List.set_cons_succ]
          refine wpAnyH_take (i := 1) (v := ?v1) rfl (by kernel_rfl) (by kernel_rfl) (by kernel_rfl) (fun _ _ _ h => h) (Or.inl ⟨by rfl, ?y1⟩) HD.out ?z1
          case y1 => (intro w hSw; (try dsimp only at hSw); go_simp; try with_reducible rfl)
          try simp only [List.getElem_toArray, List.getElem_cons_succ, List.getElem_cons_zero, Act.put, List.setIfInBounds_toArray, List.set_cons_zero, List.set_cons_succ]
          refine wpAnyH_take (i := 2) (v := ?v2) rfl (by kernel_rfl) (by kernel_rfl) (by kernel_rfl) (fun _ _ _ h => h) (Or.inl ⟨by rfl, ?y2⟩) HD.out ?z2
          case y2 => (intro w hSw; (try dsimp only at hSw); go_simp; try with_reducible rfl)
          try simp only [List.getElem_toArray, List.getElem_cons_succ, List.getElem_cons_zero, Act.put, List.setIfInBounds_toArray, List.set_cons_zero, List.set_cons_succ]
          refine wpAnyH_take (i := 3) (v := ?v3) rfl (by kernel_rfl) (by kernel_rfl) (by kernel_rfl) (fun _ _ _ h => h) (Or.inl ⟨by rfl, ?y3⟩) HD.out ?z3
          case y3 => (intro w hSw; (try dsimp only at hSw); go_simp; try with_reducible rfl)
          try simp only [List.getElem_toArray, List.getElem_cons_succ, List.getElem_cons_zero, Act.put, List.setIfInBounds_toArray, List.set_cons_zero, List.set_cons_succ]
          refine wpAnyH_take (i := 4) (v := ?v4) rfl (by kernel_rfl) (by kernel_rfl) (by kernel_rfl) (fun _ _ _ h => h) (Or.inl ⟨by rfl, ?y4⟩) HD.out ?z4
          case y4 => (intro w hSw; (try dsimp only at hSw); go_simp; try with_reducible rfl)
          try simp only [List.getElem_toArray, List.getElem_cons_succ, List.getElem_cons_zero, Act.put, List.setIfInBounds_toArray, List.set_cons_zero, List.set_cons_succ]
          refine wpAnyH_take (i := 5) (v := ?v5) rfl (by kernel_rfl) (by kernel_rfl) (by kernel_rfl) (fun _ _ _ h => h) (Or.inl ⟨by rfl, ?y5⟩) HD.out ?z5
          case y5 => (intro w hSw; (try dsimp only at hSw); go_simp; try with_reducible rfl)
          try simp only [List.getElem_toArray, List.getElem_cons_succ, List.getElem_cons_zero, Act.put, List.setIfInBounds_toArray, List.set_cons_zero, List.set_cons_succ]
          refine wpAnyH_ready (rs := [6]) (by kernel_rfl) (by simp) ?_
          refine AllReadyH.cons rfl (fun K hK => ?_) AllReadyH.nil
          refine step_append_list rfl _ _ rfl (w.heap.size + 1 + 1) (t * c) v _ rfl HId.out.own (A t) c (C t) (f t) rfl HSt.out HNt.out (by have : t * c ≤ 64 * 64 := Nat.mul_le_mul (by omega) hc; omega) (by have := HId.out.vt.lt; omega) ?_; intro v8 w8 hown8 hgrow8; have nev : v.ownBlock ≠ some (w.heap.size + 1) := (fun e => by { have := own_base HId.out.own _ e; omega }); have HD8 : Hid ((fun w' => w'.cell? ⟨w.heap.size + 1, 2, none⟩ = some v ∧ w'.frozen? ⟨w.heap.size + 1, 2, none⟩ = false ∧ w'.cell? ⟨x, o + t, none⟩ = some (.slice (A t) c (C t))) w8) := ⟨keepg hgrow8 HD.out.1 nev, keepgf hgrow8 HD.out.1 HD.out.2.1 nev, keepg hgrow8 HD.out.2.2 (fun e => HOx.out (own_base HId.out.own _ e))⟩; have HO8 : Hid (w8.ownsRow (w.heap.size + 1 + 1) 5 1 v8 ((t + 1) * c) (row ((t + 1) * c) (off f c)).toList) := (by show World.ownsRow _ _ _ _ _ _ _; rw [← row_off, Nat.add_mul, Nat.one_mul]; exact hown8); have HG8 : Hid (wr.drew.grownBy w8 v.ownBlock) := hgrow8; clear hown8 hgrow8; obtain ⟨s8, d8, e8, _, _⟩ := own_sl' HO8.out; subst e8
          refine hK.out _ _ HD8.out (fun _ => ?_)
          clear hK K
          try simp only [List.getElem_toArray, List.getElem_cons_succ, List.getElem_cons_zero, Act.put, List.setIfInBounds_toArray, List.set_cons_zero, List.set_cons_succ]
          refine wpAnyH_take (i := 7) (v := ?v7) rfl (by kernel_rfl) (by kernel_rfl) (by kernel_rfl) (fun _ _ _ h => h) (Or.inl ⟨by rfl, ?y7⟩) HD8.out ?z7
          case y7 => (intro w hSw; (try dsimp only at hSw); go_simp; try with_reducible rfl)
          try simp only [List.getElem_toArray, List.getElem_cons_succ, List.getElem_cons_zero, Act.put, List.setIfInBounds_toArray, List.set_cons_zero, List.set_cons_succ]
          refine wpAnyH_done (by kernel_rfl) ?_ _
          refine park_last rfl (fun K hK => ?_)
          go_simp
          refine hK.out _ _ ?_
          clear hK K
          try simp only [List.getElem_toArray, List.getElem_cons_succ, List.getElem_cons_zero, Act.put, List.setIfInBounds_toArray, List.set_cons_zero, List.set_cons_succ]
          have HN8 := HId.out.grown HO8.out HG8.out
          go_wp2
          exact ⟨⟨t + 1, _, by omega, by go_num, HN8⟩, by simp [intOf]; omega⟩
        · obtain rfl : t = q := by omega
          have hown := HI.out.own
          rw [HN.out] at hown
          obtain ⟨s, e, e3, _, _⟩ := own_sl' hown
          subst e3
          have c0 := HI.out.vt.c0
          have c1 := HI.out.vt.c1
          have c2 := HI.out.vt.c2
          have HVr : Hid (Vr wr w.heap.size (.int .i64 0) (.int .i64 0) (.slice none 0 0)) := HI.out.vr
          have HO : Hid (wr.ownsRow (w.heap.size + 1 + 1) 5 1 (.slice s N e) N (row N (off f c)).toList) := hown
          clear hown
          go_wp2_with (refine wpList_store_var rfl _ _ rfl w.heap.size _ _ _ (.int .i64 (t : Int)) (.int .i64 (c : Int)) (.slice s N e) rfl rfl HVr.out rfl rfl rfl ?_; intro w4 HV4 HG4)
          have d0 := HV4.out.c0
          have d1 := HV4.out.c1
          have d2 := HV4.out.c2
          refine bodyPost_ret (v := .tuple #[mv t c s N e, .int .i64 0]) (by simp [results, Try.results17, go_sem, d0, d1, d2, mv]) rfl ?_
          have own4 := HO.out.kept HG4.out (.inr (fun h => by have := own_base HO.out _ h; omega))
          exact ⟨s, e, rfl, own_mono own4 (by omega), below_row HI.out.below HG4.out (by omega)⟩
end Go.Proofs.Ytaoehildaenbnaa
