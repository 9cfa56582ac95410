/-
  Stage 12: byName, the environment as a map.
-/
import Derived.Test.YtgmndjbicandfaaDoorQnnes00
import Derived.Test.YtgmndjbicandfaaDoorQnnes11
set_option maxRecDepth 100000
set_option maxHeartbeats 16000000
namespace Go.Proofs.YtgmndjbicandfaaDoor
open Go.RowKit Go.Maps
/-- What byName answers. -/
def BnA (w' : World) (F : Nat → Cn) (n : Nat) (e : Ending) : Prop :=
 (mayE F n = true ∧ ∃ b, e = .returned (.tuple #[.map (some b), .bool true]) ∧ Mp w' b n (elk F n)) ∨ (mayE F n = false ∧ e = .returned (.tuple #[.map none, .bool false]))
theorem qdc (w : World) (a : Option Addr) (n c : Nat) (F : Nat → Cn) (hE : EL w a n F) (hn : n ≤ 140737488351232) (hw : Wt9 w) :
  Calls Tryd.prog 22 #[.slice a n c] w fun e w' => BnA w' F n e ∧ Below w.heap.size w w' := by
 have HE := qa0 hE
 have HW := qa0 hw
 clear hE hw
 have hmm := @run_makeMap Tryd.prog
 go_enter Tryd.func22, Tryd.ntmps22
 go_wp2
 go_loopw [12] (fun vi wr => ∃ (i : Nat), i ≤ n ∧ vi = .int .i64 (i : Int) ∧ Hid (mayE F i = true) ∧ Hid (Mp wr w.heap.size i (elk F i)) ∧ Below w.heap.size w wr) (fun vi _ => n - (intOf vi).toNat)
 case atStart => exact ⟨0, by omega, rfl, rfl, ⟨_, World.ownsMap_made _ _ _ _, mpD_nil⟩, jlow _ _⟩
 case round =>
  obtain ⟨i, hi, rfl, HM, HO, hb⟩ := hrel
  have HB := qa0 hb
  by_cases hlt : i < n
  ·have p0 : (0 : Int) ≤ (i : Int) := by omega
   have p1 : (i : Int) < (n : Int) := by omega
   obtain ⟨⟨hs, hn1, hn2⟩, b, o, rfl, k0, k1⟩ := (HE.out.later hb) i hlt
   have HNo : Hid ((isN (F i).nm && nmB (F i).n && (elk F i (F i).nm).isNone) = false → mayE F n = false) := fun h => mayE_no hlt h
   have HYes : Hid ((isN (F i).nm && nmB (F i).n && (elk F i (F i).nm).isNone) = true → mayE F (i + 1) = true) := fun h => by
    show (mayE F i && _) = true
    rw [HM.out, h]
    rfl
   obtain ⟨D, hO, hD⟩ := HO.out
   have HOw := qa0 hO
   have HDn : Hid (MpD (D.put (.string (F i).nm.data.toList) (.lit (.int .i64 (F i).n))) (elk F (i + 1))) := mpD_put hD hO.isMap
   have hh := (hD (F i).nm hs).1
   have HK := qa0 (WideMaps.keyOf_string_mk (P := Tryd.prog) (k := 9) Tryd.underlying9 (s := (F i).nm) (by unfold maxLen; omega))
   have HI : Hid (∀ w' : World, Below w.heap.size w w' → Calls Tryd.prog 30 #[.string (F i).nm] w' fun e w'' => e = .returned (.bool (isN (F i).nm)) ∧ Below w'.heap.size w' w'') := fun w' hb => qd0 w' _ hs (HW.out.later hb)
   have HN : Hid (∀ w' : World, Calls Tryd.prog 38 #[.int .i64 (F i).n] w' fun e w'' => e = .returned (.bool (nmB (F i).n)) ∧ w' = w'') := fun w' => qaw w' _
   have hwf : (Lit.int .i64 (F i).n).wf = true := WalkArith.wf_i64 (by omega)
   have HWf := qa0 hwf
   clear hwf hO hD HO
   generalize (elk F i (F i).nm) = r at *
   generalize isN (F i).nm = r1 at *
   generalize nmB (F i).n = r2 at *
   generalize (F i).nm = s at *
   generalize (F i).n = v at *
   have MS : True := trivial
   cases r with
   | some rv =>
    have hf := HNo.out (by simp)
    have hh : Maps.has D (.string s.data.toList) = true := hh
    clear HNo HYes
    go_wp2_with (first
     | (clear MS; refine qa1 rfl 50 _ _ rfl wr.heap.size _ #[.string s, .int .i64 v] rfl rfl (Vn.new wr _ _) sizeCn rfl (all2 rfl rfl) ?_; intro w1 HV1 hg1; have hb1 : Below wr.heap.size wr w1 := (jlow _ _).trans (jbelow hg1.out (jlow _ _).size (fun g e => by cases e; exact Nat.le_refl _)); have HB1 := qa0 (jtwo HB.out hb1); have HO1 := qa0 (qab HOw.out hb1); have m0 := HV1.out.cell 0 _ rfl; have m1 := HV1.out.cell 1 _ rfl; clear hg1 hb1)
     | (at_lookup; refine wpList_lookup_own_ok_int _ rfl _ _ 57 rfl 9 3 .i64 qb0 Tryd.underlying57 Tryd.underlying3 (qb2 _) w.heap.size i D rfl HO1.out _ _ rfl HK.out ?_; intro c hat hwc))
    go_ret2
    exact ⟨.inr ⟨hf, rfl⟩, HB1.out⟩
   | none =>
    have hh : Maps.has D (.string s.data.toList) = false := hh
    cases r1 with
    | false =>
     have hf := HNo.out (by simp)
     clear HNo HYes
     go_wp2_with (first
      | (clear MS; refine qa1 rfl 50 _ _ rfl wr.heap.size _ #[.string s, .int .i64 v] rfl rfl (Vn.new wr _ _) sizeCn rfl (all2 rfl rfl) ?_; intro w1 HV1 hg1; have hb1 : Below wr.heap.size wr w1 := (jlow _ _).trans (jbelow hg1.out (jlow _ _).size (fun g e => by cases e; exact Nat.le_refl _)); have HB1 := qa0 (jtwo HB.out hb1); have HO1 := qa0 (qab HOw.out hb1); have m0 := HV1.out.cell 0 _ rfl; have m1 := HV1.out.cell 1 _ rfl; clear hg1 hb1)
      | (at_lookup; refine wpList_lookup_own_ok_int _ rfl _ _ 57 rfl 9 3 .i64 qb0 Tryd.underlying57 Tryd.underlying3 (qb2 _) w.heap.size i D rfl HO1.out _ _ rfl HK.out ?_; intro c hat hwc)
      | (go_at_call 30; refine (HI.out _ HB1.out).mono ?_; rintro e w2 ⟨rfl, hb2⟩; have HB2 := qa0 (jtwo HB1.out hb2); clear hb2))
     go_ret2
     exact ⟨.inr ⟨hf, rfl⟩, HB2.out⟩
    | true =>
     cases r2 with
     | false =>
      have hf := HNo.out (by simp)
      clear HNo HYes
      go_wp2_with (first
       | (clear MS; refine qa1 rfl 50 _ _ rfl wr.heap.size _ #[.string s, .int .i64 v] rfl rfl (Vn.new wr _ _) sizeCn rfl (all2 rfl rfl) ?_; intro w1 HV1 hg1; have hb1 : Below wr.heap.size wr w1 := (jlow _ _).trans (jbelow hg1.out (jlow _ _).size (fun g e => by cases e; exact Nat.le_refl _)); have HB1 := qa0 (jtwo HB.out hb1); have HO1 := qa0 (qab HOw.out hb1); have m0 := HV1.out.cell 0 _ rfl; have m1 := HV1.out.cell 1 _ rfl; have HV1k := HV1; clear hg1 hb1)
       | (at_lookup; refine wpList_lookup_own_ok_int _ rfl _ _ 57 rfl 9 3 .i64 qb0 Tryd.underlying57 Tryd.underlying3 (qb2 _) w.heap.size i D rfl HO1.out _ _ rfl HK.out ?_; intro c hat hwc)
       | (go_at_call 30; refine (HI.out _ HB1.out).mono ?_; rintro e w2 ⟨rfl, hb2⟩; have HB2 := qa0 (jtwo HB1.out hb2); have HV2 := qa0 (HV1.out.later hb2); have n0 := HV2.out.cell 0 _ rfl; have n1 := HV2.out.cell 1 _ rfl; clear hb2)
       | (go_at_call 38; refine (HN.out _).mono ?_; rintro e w3 ⟨rfl, rfl⟩))
      go_ret2
      exact ⟨.inr ⟨hf, rfl⟩, HB2.out⟩
     | true =>
      have hf := qa0 (HYes.out (by simp))
      clear HNo HYes
      go_wp2_with (first
       | (clear MS; refine qa1 rfl 50 _ _ rfl wr.heap.size _ #[.string s, .int .i64 v] rfl rfl (Vn.new wr _ _) sizeCn rfl (all2 rfl rfl) ?_; intro w1 HV1 hg1; have hb1 : Below wr.heap.size wr w1 := (jlow _ _).trans (jbelow hg1.out (jlow _ _).size (fun g e => by cases e; exact Nat.le_refl _)); have HB1 := qa0 (jtwo HB.out hb1); have HO1 := qa0 (qab HOw.out hb1); have m0 := HV1.out.cell 0 _ rfl; have m1 := HV1.out.cell 1 _ rfl; clear hg1 hb1)
       | (at_lookup; refine wpList_lookup_own_ok_int _ rfl _ _ 57 rfl 9 3 .i64 qb0 Tryd.underlying57 Tryd.underlying3 (qb2 _) w.heap.size i D rfl HO1.out _ _ rfl HK.out ?_; intro c hat hwc)
       | (go_at_call 30; refine (HI.out _ HB1.out).mono ?_; rintro e w2 ⟨rfl, hb2⟩; have HB2 := qa0 (jtwo HB1.out hb2); have HO2 := qa0 (qab HO1.out hb2); have HV2 := qa0 (HV1.out.later hb2); have n0 := HV2.out.cell 0 _ rfl; have n1 := HV2.out.cell 1 _ rfl; clear hb2)
       | (go_at_call 38; refine (HN.out _).mono ?_; rintro e w3 ⟨rfl, rfl⟩)
       | (at_mapUpdate; refine wpList_mapUpdate_own _ rfl _ _ _ 57 rfl 9 3 qb0 Tryd.underlying57 _ w.heap.size i D rfl HO2.out (by unfold maxLen; omega) _ _ _ rfl rfl HK.out _ [] (plainElem_int Tryd.underlying3 HWf.out) ?_; intro w4 hO4 hg4))
      exact ⟨⟨i + 1, by omega, by go_num, hf, ⟨_, hO4, HDn.out⟩, HB2.out.trans (jbelow hg4 HB2.out.size (fun g e => by cases e; exact Nat.le_refl _))⟩, by simp [intOf]; omega⟩
  ·obtain rfl : i = n := by omega
   clear hb
   go_wp2
   go_ret2
   exact ⟨.inl ⟨HM.out, _, rfl, HO.out⟩, HB.out⟩
end Go.Proofs.YtgmndjbicandfaaDoor
