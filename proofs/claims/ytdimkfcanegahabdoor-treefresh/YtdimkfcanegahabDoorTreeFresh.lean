/-
  Proved: for all descriptions: what Strip answers is new memory: it may be written over, and nothing that is told of what was handed in changes (the rules); no condition.
-/
import Derived.Test.YtdimkfcanegahabDoorFu
import Derived.Test.YtdimkfcanegahabDoorTie
import Derived.Test.YtdimkfcanegahabDoorCards
import Derived.Test.YtdimkfcanegahabDoorFf
import Derived.Test.YtdimkfcanegahabDoorDt
import Derived.Test.YtdimkfcanegahabDoorDh
import Derived.WalkKit
import Derived.SizedLaws
import Derived.ProofKit
import Derived.LaidMore
import Derived.OpenShut
import Derived.ShutString
import Derived.ChangeOld
import Derived.Below
import Derived.Stop.Joined
import Derived.SevenTiedAt
import Derived.Lib.SmallJoins
import Derived.Lib.LaidTab
import Derived.MakeChecks
import Derived.Handed
import Derived.Stop.LaidErr
namespace Go.Proofs.YtdimkfcanegahabDoor.treeFresh
open Go.ChangeShapes Go.WideShapes Go.ChangeAt Go.RowKit Go.Joins
set_option linter.unusedVariables false
theorem own : ownKnob Tryd.prog.godebug = none := by kernel_rfl
theorem laidOut : laidOutB Tryd.prog = true := by kernel_rfl
/-- What the listed variables hold. -/
def laidL : List (String × DataW Unit) := [("math/bits.deBruijn32tab", Rows.laid_math_bits_deBruijn32tab), ("math/bits.deBruijn64tab", Rows.laid_math_bits_deBruijn64tab), ("internal/strconv.uint64pow10", Rows.laid_internal_strconv_uint64pow10), ("recoup/token.words", Rows.laid_recoup_token_words), ("recoup/tree.exprSigns", Rows.laid_recoup_tree_exprSigns), ("recoup/tree.shapeWords", Rows.laid_recoup_tree_shapeWords), ("recoup/tree.itemWords", Rows.laid_recoup_tree_itemWords), ("recoup/tree.placeWords", Rows.laid_recoup_tree_placeWords)]
theorem door_met (os : Os) (args : Array Value) : laidMetH Tryd.prog laidL ((World.doorLaid Tryd.prog 4000 os).forCall (fun _ _ => 0) ⟨#[], args, []⟩).memory :=
  laidMetH_of_parts3 (fuel := 8) (laidMet_of_run' 8 (by kernel_rfl) (by kernel_rfl)) (by kernel_rfl) (by kernel_rfl)
theorem gTab : Tryd.prog.globalNamed "internal/strconv.uint64pow10" = some 6 := by kernel_rfl
theorem tTab : (Tryd.prog.globals[6]?).map (·.type) = some 111 := by kernel_rfl
theorem dTab : (Rows.laid_internal_strconv_uint64pow10 : DataW Unit) = Lib.tabData .u64 Lib.pow10Tab := by kernel_rfl
theorem of_pow {W : World} (h : laidMet Tryd.prog laidL W) : Tab9 W := by
  have hk := h.tail.tail
  rw [dTab] at hk
  exact Lib.tabIs_of_head gTab tTab Tryd.underlying111 Tryd.underlying104 (by kernel_rfl) (by kernel_rfl) hk
theorem gWds : Tryd.prog.globalNamed "recoup/token.words" = some 4 := by kernel_rfl
theorem tWds : (Tryd.prog.globals[4]?).map (·.type) = some 100 := by kernel_rfl
theorem dWds : (Rows.laid_recoup_token_words : DataW Unit) = .agg ((wds.map fun x => x.data.toList).map fun z => .lit (.string z)) := by kernel_rfl
theorem of_words {W : World} (h : laidMet Tryd.prog laidL W) : Wt9 W := by
  have hk := h.tail.tail.tail
  obtain ⟨ps, ⟨g0, t0, cs0, f0, p0, q0, hg0, ht0, hv0, hd0, _, _⟩, _, _⟩ := hk
  obtain rfl := Option.some.inj (gWds.symm.trans hg0)
  obtain rfl := Option.some.inj (tWds.symm.trans ht0)
  rw [dWds] at hd0
  have hc := cells_of_texts Tryd.underlying100 Tryd.underlying9 (by kernel_rfl) (by kernel_rfl) hd0
  unfold Wt9
  rw [hv0]
  obtain ⟨l⟩ := cs0
  have hl : l = wds.map Value.string := hc.trans (by kernel_rfl)
  rw [hl]
theorem gXs10 : Tryd.prog.globalNamed "recoup/tree.exprSigns" = some 1 := by kernel_rfl
theorem tXs10 : (Tryd.prog.globals[1]?).map (·.type) = some 85 := by kernel_rfl
theorem dXs10 : (Rows.laid_recoup_tree_exprSigns : DataW Unit) = .agg ((xsg.map fun x => x.data.toList).map fun z => .lit (.string z)) := by kernel_rfl
theorem of_Xs10 {W : World} (h : laidMet Tryd.prog laidL W) : Xs10 W := by
  have hk := h.tail.tail.tail.tail
  obtain ⟨ps, ⟨g0, t0, cs0, f0, p0, q0, hg0, ht0, hv0, hd0, _, _⟩, _, _⟩ := hk
  obtain rfl := Option.some.inj (gXs10.symm.trans hg0)
  obtain rfl := Option.some.inj (tXs10.symm.trans ht0)
  rw [dXs10] at hd0
  have hc := cells_of_texts Tryd.underlying85 Tryd.underlying9 (by kernel_rfl) (by kernel_rfl) hd0
  unfold Xs10
  rw [hv0]
  obtain ⟨l⟩ := cs0
  have hl : l = xsg.map Value.string := hc.trans (by kernel_rfl)
  rw [hl]
theorem gSw10 : Tryd.prog.globalNamed "recoup/tree.shapeWords" = some 2 := by kernel_rfl
theorem tSw10 : (Tryd.prog.globals[2]?).map (·.type) = some 85 := by kernel_rfl
theorem dSw10 : (Rows.laid_recoup_tree_shapeWords : DataW Unit) = .agg ((swd.map fun x => x.data.toList).map fun z => .lit (.string z)) := by kernel_rfl
theorem of_Sw10 {W : World} (h : laidMet Tryd.prog laidL W) : Sw10 W := by
  have hk := h.tail.tail.tail.tail.tail
  obtain ⟨ps, ⟨g0, t0, cs0, f0, p0, q0, hg0, ht0, hv0, hd0, _, _⟩, _, _⟩ := hk
  obtain rfl := Option.some.inj (gSw10.symm.trans hg0)
  obtain rfl := Option.some.inj (tSw10.symm.trans ht0)
  rw [dSw10] at hd0
  have hc := cells_of_texts Tryd.underlying85 Tryd.underlying9 (by kernel_rfl) (by kernel_rfl) hd0
  unfold Sw10
  rw [hv0]
  obtain ⟨l⟩ := cs0
  have hl : l = swd.map Value.string := hc.trans (by kernel_rfl)
  rw [hl]
theorem gIw10 : Tryd.prog.globalNamed "recoup/tree.itemWords" = some 0 := by kernel_rfl
theorem tIw10 : (Tryd.prog.globals[0]?).map (·.type) = some 65 := by kernel_rfl
theorem dIw10 : (Rows.laid_recoup_tree_itemWords : DataW Unit) = .agg ((iwl.map fun x => x.data.toList).map fun z => .lit (.string z)) := by kernel_rfl
theorem of_Iw10 {W : World} (h : laidMet Tryd.prog laidL W) : Iw10 W := by
  have hk := h.tail.tail.tail.tail.tail.tail
  obtain ⟨ps, ⟨g0, t0, cs0, f0, p0, q0, hg0, ht0, hv0, hd0, _, _⟩, _, _⟩ := hk
  obtain rfl := Option.some.inj (gIw10.symm.trans hg0)
  obtain rfl := Option.some.inj (tIw10.symm.trans ht0)
  rw [dIw10] at hd0
  have hc := cells_of_texts Tryd.underlying65 Tryd.underlying9 (by kernel_rfl) (by kernel_rfl) hd0
  unfold Iw10
  rw [hv0]
  obtain ⟨l⟩ := cs0
  have hl : l = iwl.map Value.string := hc.trans (by kernel_rfl)
  rw [hl]
theorem gPw10 : Tryd.prog.globalNamed "recoup/tree.placeWords" = some 3 := by kernel_rfl
theorem tPw10 : (Tryd.prog.globals[3]?).map (·.type) = some 89 := by kernel_rfl
theorem dPw10 : (Rows.laid_recoup_tree_placeWords : DataW Unit) = .agg ((pwl.map fun x => x.data.toList).map fun z => .lit (.string z)) := by kernel_rfl
theorem of_Pw10 {W : World} (h : laidMet Tryd.prog laidL W) : Pw10 W := by
  have hk := h.tail.tail.tail.tail.tail.tail.tail
  obtain ⟨ps, ⟨g0, t0, cs0, f0, p0, q0, hg0, ht0, hv0, hd0, _, _⟩, _, _⟩ := hk
  obtain rfl := Option.some.inj (gPw10.symm.trans hg0)
  obtain rfl := Option.some.inj (tPw10.symm.trans ht0)
  rw [dPw10] at hd0
  have hc := cells_of_texts Tryd.underlying89 Tryd.underlying9 (by kernel_rfl) (by kernel_rfl) hd0
  unfold Pw10
  rw [hv0]
  obtain ⟨l⟩ := cs0
  have hl : l = pwl.map Value.string := hc.trans (by kernel_rfl)
  rw [hl]

set_option maxRecDepth 20000 in
set_option maxHeartbeats 16000000 in
theorem walk (a0 : Option Addr) (len0 cap0 : Nat) (F0 : Nat → It) (w : World) (w0 : Its w a0 len0 F0) (l0 : len0 ≤ 549755813888) (t0 : Tab9 w) (t1 : Wt9 w) (t2 : Xs10 w) (t3 : Sw10 w) (t4 : Iw10 w) (t5 : Pw10 w) :
    Calls Tryd.prog 3 #[.slice a0 len0 cap0] w fun e w' => e = .returned (.bool true) ∧ Below w.heap.size w w' := by
  have HI := jhid9 w0
  have HE : Hid (Ev10 w) := ⟨t0, t1, t2, t3, t4, t5⟩
  have HSt : Hid (Calls Tryd.prog 4 #[.slice a0 len0 cap0] w fun e w' => ∃ a' m E, e = .returned (.tuple #[.slice a' m m, .int .i64 (E : Nat)]) ∧ ((mayD F0 len0 = false ∧ E = 2 ∧ m = 0 ∧ a' = none) ∨ (mayD F0 len0 = true ∧ E = 0 ∧ m = len0)) ∧ Fr w.heap.size w' (fun u => IN w.heap.size u a' m (fun i => ist (F0 i))) ∧ Below w.heap.size w w') := tstrip10 w a0 len0 cap0 F0 w0 l0 t1
  have HT : Hid (∀ w' : World, Below w.heap.size w w' → Calls Tryd.prog 5 #[.slice a0 len0 cap0] w' fun e w'' => e = .returned (.tuple #[.string (dS F0 len0), .int .i64 (dE F0 len0 : Nat)]) ∧ Below w'.heap.size w' w'') := fun w' hb => ttext10 w' a0 len0 cap0 F0 (HI.out.later hb) l0 (HE.out.later hb)
  have HM : Hid (∀ w' : World, Below w.heap.size w w' → Calls Tryd.prog 8 #[.slice a0 len0 cap0] w' fun e w'' => e = .returned (.bool (mayD F0 len0)) ∧ Below w'.heap.size w' w'') := fun w' hb => rmay10 w' a0 len0 cap0 F0 (HI.out.later hb) l0
  have HA : Hid (∀ w' : World, Below w.heap.size w w' → Calls Tryd.prog 7 #[] w' fun e w'' => e = .returned (.bool true) ∧ Below w'.heap.size w' w'') := fun w' hb => anch10_any w' (HE.out.later hb).t0 (HE.out.later hb).t1 (HE.out.later hb).t2
  have HSm : Hid (mayD F0 len0 = true → ∀ j, j < len0 → ((ist (F0 j)).val []).len ≤ 64 ∧ ((ist (F0 j)).shp []).na ≤ 64 ∧ ((ist (F0 j)).shp []).nr ≤ 64 ∧ (∀ q, q < ((ist (F0 j)).shp []).nr → ((ist (F0 j)).shp []).rl q ≤ 64) ∧ (ist (F0 j)).nl ≤ 64) := fun hm j hj => by
    obtain ⟨h1, h2, h3⟩ := ((mayD_mi hm).2 j hj).sm
    exact ⟨h1.1, h2.1, h2.2.2.1, fun q hq => (h2.2.2.2.1 q hq).1, (show (F0 j).nl ≤ 64 from iwant_few (mayD_nl hm j hj))⟩
  clear t0 t1 t2 t3 t4 t5 w0 HI HE
  generalize dS F0 len0 = S0 at *
  generalize dE F0 len0 = E0 at *
  generalize hFI : (fun i => ist (F0 i)) = FI at *
  replace HSm : Hid (mayD F0 len0 = true → ∀ j, j < len0 → ((FI j).val []).len ≤ 64 ∧ ((FI j).shp []).na ≤ 64 ∧ ((FI j).shp []).nr ≤ 64 ∧ (∀ q, q < ((FI j).shp []).nr → ((FI j).shp []).rl q ≤ 64) ∧ (FI j).nl ≤ 64) := by rw [← hFI]; exact HSm
  clear hFI
  generalize mayD F0 len0 = my at *
  have M1 : True := trivial
  go_enter Tryd.func3, Tryd.ntmps3
  go_wp2_with (first
    | (go_at_call 4; refine HSt.out.mono ?_; rintro e w1 ⟨a', m, E, rfl, hw, hfr, hb1⟩; have HF1 := jhid9 hfr; have HB1 := jhid9 hb1; have HWy := jhid9 hw; clear hb1 hfr hw)
    | (go_at_call 5; refine (HT.out _ HB1.out).mono ?_; rintro e w2 ⟨rfl, hb2⟩; have HB2 := jhid9 (jtwo HB1.out hb2); have HF2 := jhid9 (HF1.out.step (Ag.of hb2)); clear hb2))
  have HIn := jhid9 HF2.out.now
  clear HF1 HF2 HB1 HSt
  have HEm : Hid ((((E : Nat) : Int) == 0) = my) := by
    show _ = _
    rcases HWy.out with ⟨rfl, rfl, _⟩ | ⟨rfl, rfl, _⟩ <;> rfl
  rcases HIn.out with ⟨rfl, rfl⟩ | ⟨g, cs0, rfl, hgB, hV0, hc0, hj0⟩
  · go_loopw [7] (fun vi wr => vi = .int .i64 0 ∧ Hid (Below w.heap.size w wr)) (fun _ _ => 0)
    case atStart => exact ⟨rfl, HB2⟩
    case round =>
      obtain ⟨rfl, HB⟩ := hrel
      have qE := HEm.out
      go_wp2_with (first
        | (go_at_call 5; refine (HT.out _ HB.out).mono ?_; rintro e w3 ⟨rfl, hb3⟩; have HB3 := jhid9 (jtwo HB.out hb3); clear hb3)
        | (go_at_call 7; refine (HA.out _ HB3.out).mono ?_; rintro e w4 ⟨rfl, hb4⟩; have HB4 := jhid9 (jtwo HB3.out hb4); clear hb4)
        | (go_at_call 8; refine (HM.out _ HB4.out).mono ?_; rintro e w5 ⟨rfl, hb5⟩; have HB5 := jhid9 (jtwo HB4.out hb5); clear hb5))
      go_ret
      exact ⟨rfl, HB5.out⟩
  · obtain ⟨Y, hY⟩ := pick_list hj0
    have HY := jhid9 hY
    have HSq : Hid (∀ j, j < m → ((FI j).val []).len ≤ 64 ∧ ((FI j).shp []).na ≤ 64 ∧ ((FI j).shp []).nr ≤ 64 ∧ (∀ q, q < ((FI j).shp []).nr → ((FI j).shp []).rl q ≤ 64) ∧ (FI j).nl ≤ 64) := fun j hj => by
      rcases HWy.out with ⟨_, _, rfl, _⟩ | ⟨h1, _, rfl⟩
      · omega
      · exact HSm.out h1 j hj
    have hm64 : m ≤ 549755813888 := by
      rcases HWy.out with ⟨_, _, rfl, _⟩ | ⟨_, _, rfl⟩
      · omega
      · exact l0
    have HV2 := jhid9 hV0
    have HC0 := jhid9 hc0
    have HP2 : Hid (∀ j, j < m → PT w.heap.size w2 (Y j) (FI j)) := fun j hj => (HY.out j hj).2.2.pt
    have HYc : Hid (∀ j, j < m → ∀ q x, (Y j)[q]? = some x → cs0[j * 19 + q]? = some x) := fun j hj => (HY.out j hj).2.1
    clear hY HY hj0 hV0 hc0 HIn HSm HWy
    go_loopw [7] (fun vi wr => ∃ (i : Nat) (cs : Array Value), i ≤ m ∧ vi = .int .i64 (i : Int) ∧ Hid (Vn wr g 41 cs) ∧ Hid (cs.size = m * 19) ∧ Hid (∀ q, i * 19 ≤ q → cs[q]? = cs0[q]?) ∧ Hid (∀ j, j < m → PT w.heap.size wr (Y j) (FI j)) ∧ Hid (Below w.heap.size w wr)) (fun vi _ => m - (intOf vi).toNat)
    case atStart => exact ⟨0, cs0, by omega, rfl, HV2, HC0, fun _ _ => rfl, HP2, HB2⟩
    case round =>
      obtain ⟨i, cs, hi, rfl, HV, HC, HQ, HP, HB⟩ := hrel
      by_cases hlt : i < m
      · have p0 : (0 : Int) ≤ (i : Int) := by omega
        have p1 : (i : Int) < (m : Int) := by omega
        obtain ⟨va, aa, ra, la, a1, _, a3, _, a5, _, a7, _⟩ := HP.out i hlt
        have k5 : cs[i * 19 + 5]? = _ := (HQ.out _ (by omega)).trans (HYc.out i hlt 5 _ a1)
        have k10 : cs[i * 19 + 10]? = _ := (HQ.out _ (by omega)).trans (HYc.out i hlt 10 _ a3)
        have k12 : cs[i * 19 + 12]? = _ := (HQ.out _ (by omega)).trans (HYc.out i hlt 12 _ a5)
        have k16 : cs[i * 19 + 16]? = _ := (HQ.out _ (by omega)).trans (HYc.out i hlt 16 _ a7)
        obtain ⟨z1, z2, z3, z4, z5⟩ := HSq.out i hlt
        have HN1 : Hid (∀ u : World, (∀ j, j < m → PT w.heap.size u (Y j) (FI j)) → Nb w.heap.size u va ((FI i).val []).len 32 6) := fun u hp => by
          obtain ⟨va', _, _, _, b1, b2, _⟩ := hp i hlt
          rw [a1] at b1
          cases b1
          exact b2
        have HN2 : Hid (∀ u : World, (∀ j, j < m → PT w.heap.size u (Y j) (FI j)) → Nb w.heap.size u aa ((FI i).shp []).na 32 6) := fun u hp => by
          obtain ⟨_, aa', _, _, _, _, b1, b2, _⟩ := hp i hlt
          rw [a3] at b1
          cases b1
          exact b2
        have HN3 : Hid (∀ u : World, (∀ j, j < m → PT w.heap.size u (Y j) (FI j)) → Nb w.heap.size u la (FI i).nl 32 6) := fun u hp => by
          obtain ⟨_, _, _, la', _, _, _, _, _, _, b1, b2⟩ := hp i hlt
          rw [a7] at b1
          cases b1
          exact b2
        have HN4 : Hid (∀ u : World, (∀ j, j < m → PT w.heap.size u (Y j) (FI j)) → ∀ q, q < ((FI i).shp []).nr → ∃ g rs x, ra = some ⟨g, 0, none⟩ ∧ Vn u g 30 rs ∧ rs[q]? = some (.slice x (((FI i).shp []).rl q) (((FI i).shp []).rl q)) ∧ Nb w.heap.size u x (((FI i).shp []).rl q) 32 6) := fun u hp => by
          obtain ⟨_, _, ra', _, _, _, _, _, b1, b2, _⟩ := hp i hlt
          rw [a5] at b1
          cases b1
          exact b2
        have HZ4 := jhid9 z4
        have HK5 := jhid9 k5
        have HK10 := jhid9 k10
        have HK12 := jhid9 k12
        have HK16 := jhid9 k16
        clear a1 a3 a5 a7 k5 k10 k12 k16 z4
        generalize ((FI i).val []).len = n1 at *
        generalize ((FI i).shp []).na = n2 at *
        generalize ((FI i).shp []).nr = n3 at *
        generalize ((FI i).shp []).rl = rl at *
        generalize (FI i).nl = n4 at *
        have c5 := HV.out.cell _ _ HK5.out
        have c5b : wr.cell? ⟨g, i * 19 + 2 + 3, none⟩ = _ := c5
        have M3 : True := trivial
        have M4 : True := trivial
        have M5 : True := trivial
        go_wp2_with (first
          | (clear M3; go_at_call 6; refine (spoil_t _ w.heap.size va _ _ (z1) (HN1.out _ HP.out) (HB.out.size)).mono ?_; rintro e w3 ⟨rfl, hk, hit⟩; have HK3 := jhid9 hk; have HV3 := jhid9 (hit _ _ HV.out); have HB3 : Hid (Below w.heap.size w w3) := HB.out.trans hk.low; have HP3 : Hid (∀ j, j < m → PT w.heap.size w3 (Y j) (FI j)) := fun j hj => (HP.out j hj).kt hk; clear hk hit; have c10 := HV3.out.cell _ _ HK10.out; have c10b : w3.cell? ⟨g, i * 19 + 8 + 2, none⟩ = _ := c10)
          | (clear M4; go_at_call 6; refine (spoil_t _ w.heap.size aa _ _ (z2) (HN2.out _ HP3.out) (HB3.out.size)).mono ?_; rintro e w4 ⟨rfl, hk, hit⟩; have HK4 := jhid9 hk; have HV4 := jhid9 (hit _ _ HV3.out); have HB4 : Hid (Below w.heap.size w w4) := HB3.out.trans hk.low; have HP4 : Hid (∀ j, j < m → PT w.heap.size w4 (Y j) (FI j)) := fun j hj => (HP3.out j hj).kt hk; clear hk hit; have c16 := HV4.out.cell _ _ HK16.out)
          | (clear M5; go_at_call 6; refine (spoil_t _ w.heap.size la _ _ (z5) (HN3.out _ HP4.out) (HB4.out.size)).mono ?_; rintro e w5 ⟨rfl, hk, hit⟩; have HK5 := jhid9 hk; have HV5 := jhid9 (hit _ _ HV4.out); have HB5 : Hid (Below w.heap.size w w5) := HB4.out.trans hk.low; have HP5 : Hid (∀ j, j < m → PT w.heap.size w5 (Y j) (FI j)) := fun j hj => (HP4.out j hj).kt hk; clear hk hit; skip))
        clear c5 c5b
        go_loopw [8] (fun vi wq => ∃ q : Nat, q ≤ n3 ∧ vi = .int .i64 (q : Int) ∧ Hid (Vn wq g 41 cs) ∧ Hid (∀ j, j < m → PT w.heap.size wq (Y j) (FI j)) ∧ Hid (Below w.heap.size w wq)) (fun vi _ => n3 - (intOf vi).toNat)
        case atStart => exact ⟨0, by omega, rfl, HV5, HP5, HB5⟩
        case round =>
          obtain ⟨q, hq, rfl, HVq, HPq, HBq⟩ := hrel
          have c12 := HVq.out.cell _ _ HK12.out
          have c12b : World.cell? _ ⟨g, i * 19 + 8 + 4, none⟩ = _ := c12
          by_cases hlt2 : q < n3
          · have p2 : (0 : Int) ≤ (q : Int) := by omega
            have p3 : (q : Int) < (n3 : Int) := by omega
            obtain ⟨gr, rs, x, rfl, hvr, hrs, hnx⟩ := HN4.out _ HPq.out q hlt2
            have cr := hvr.cell q _ hrs
            have HNx := jhid9 hnx
            have hzq := HZ4.out q hlt2
            generalize rl q = mq at *
            clear hvr hrs hnx
            have M7 : True := trivial
            go_wp2_with (clear M7; go_at_call 6; refine (spoil_t _ w.heap.size x _ _ (hzq) HNx.out (HBq.out.size)).mono ?_; rintro e w7 ⟨rfl, hk, hit⟩; have HK7 := jhid9 hk; have HV7 := jhid9 (hit _ _ HVq.out); have HB7 : Hid (Below w.heap.size w w7) := HBq.out.trans hk.low; have HP7 : Hid (∀ j, j < m → PT w.heap.size w7 (Y j) (FI j)) := fun j hj => (HPq.out j hj).kt hk; clear hk hit; skip)
            exact ⟨⟨q + 1, by omega, by go_num, HV7, HP7, HB7⟩, by simp [intOf]; omega⟩
          · obtain rfl : q = n3 := by omega
            have M8 : True := trivial
            go_wp2_with (clear M8; refine wpList_store_spl rfl 41 _ _ rfl g (i * 19) 41 cs #[.int .u8 0, .string ⟨#[]⟩, .int .u8 0, .int .i64 0, .string ⟨#[]⟩, .slice none 0 0, .int .i64 0, .int .i64 0, .int .u8 0, .string ⟨#[]⟩, .slice none 0 0, .slice none 0 0, .slice none 0 0, .int .i64 0, .int .i64 0, .int .u8 0, .slice none 0 0, .int .i64 0, .int .i64 0] (by first | rfl | simp) rfl sizeI (all19 rfl rfl rfl rfl rfl rfl rfl rfl rfl rfl rfl rfl rfl rfl rfl rfl rfl rfl rfl) HVq.out (by rw [HC.out]; show i * 19 + 19 ≤ m * 19; omega) ?_; intro w8 HV8 HA8 HB8)
            have hk8 := kt_item HVq.out (kg_of HA8.out HB8.out hgB)
            refine ⟨⟨i + 1, _, by omega, by go_num, HV8, (spl_size _ _ _).trans HC.out, fun q hq => ?_, fun j hj => (HPq.out j hj).kt hk8, HBq.out.trans hk8.low⟩, by simp [intOf]; omega⟩
            rw [spl_out _ _ _ _ (by right; show i * 19 + 19 ≤ q; omega)]
            exact HQ.out q (by omega)
      · obtain rfl : i = m := by omega
        have qE := HEm.out
        go_wp2_with (first
          | (go_at_call 5; refine (HT.out _ HB.out).mono ?_; rintro e w3 ⟨rfl, hb3⟩; have HB3 := jhid9 (jtwo HB.out hb3); clear hb3)
          | (go_at_call 7; refine (HA.out _ HB3.out).mono ?_; rintro e w4 ⟨rfl, hb4⟩; have HB4 := jhid9 (jtwo HB3.out hb4); clear hb4)
          | (go_at_call 8; refine (HM.out _ HB4.out).mono ?_; rintro e w5 ⟨rfl, hb5⟩; have HB5 := jhid9 (jtwo HB4.out hb5); clear hb5))
        go_ret
        exact ⟨rfl, HB5.out⟩
set_option maxRecDepth 100000 in
set_option maxHeartbeats 2000000 in
theorem lifted (os : Os) (started : os.Started) (H : Type) (enc : TypeId × Value → H) :
    ReturnsInHanded {} Tryd.checked os 3 .any (fun w args => (Rows.treeFreshSpec.pre enc Tryd.prog Tryd.f3 [] false w args ∧ laidMetH Tryd.prog laidL w) ∧ sizedMet enc Tryd.prog Tryd.f3 (OpenSpec.ofChange Rows.treeFreshSpec) false w args)
      (Rows.treeFreshSpec.post enc Tryd.prog Tryd.f3 false true false false) := by
  refine returnsInHanded_of_change_and (C := Tryd.checked) (X := fun w _ => laidMetH Tryd.prog laidL w) (fun _ _ _ hh h => h.of_heap hh) own started (by kernel_rfl) Tryd.func3
    (ChangeSpec.witness_shaped (enc := enc) (C := Tryd.checked) (os := os) (X := fun w _ => laidMetH Tryd.prog laidL w) false (World.doorLaid Tryd.prog 4000 os) #[.slice none 0 0] 8 rfl (World.shaped_of_RefB (by kernel_rfl) (by kernel_rfl)) (by kernel_rfl) (by kernel_rfl) (by kernel_rfl) (door_met os _)) ?_
  intro W base args ds gs before hval0 hW hcnd hsz0 hL _
  have hsz : (DataW.weightsEach Tryd.prog (Tryd.f3.params.toList ++ Rows.treeFreshSpec.plain.varTypes Tryd.prog) (ds ++ gs)).all (· ≤ reachBytes) = true := hsz0
  clear hsz0
  have hval : ∀ (j : Nat) t v, Tryd.f3.params[j]? = some t → args[j]? = some v → Value.okWide Tryd.prog W .any base t v := hval0
  have hW' := hW
  obtain ⟨p, q, hA0, hV, rfl, hfz, hnd⟩ := hW
  have hA : DataW.TrodAll enc Tryd.prog W 0 (fun _ => true) true Tryd.f3.params.toList args.toList ds p := hA0
  rw [Tryd.params3] at hA hval hsz
  obtain ⟨va0, vs0, d0, ds0, p0, q0, hargs0, rfl, rfl, h0, tr0⟩ := trodAll_cons hA
  obtain ⟨rfl, rfl, rfl⟩ := trodAll_nil tr0
  obtain rfl : args = #[va0] := by cases args; simp_all
  obtain ⟨rfl, rfl⟩ := trodVars_none hV
  have k0 := h0
  have lt0 : ∀ x ∈ p0, x.block < W.heap.size := by obtain ⟨m, hm⟩ := k0; exact DataW.trod_lt m _ _ _ hm
  have hL0 := hL
  rw [MakeChecks.laidMetH_plain _ _ _ (by kernel_rfl)] at hL0
  obtain ⟨a0, len0, cap0, F0, rfl, l0, w0⟩ : ∃ (a : Option Addr) (len cap : Nat) (F : Nat → It), va0 = .slice a len cap ∧ len ≤ 549755813888 ∧ Its W a len F := by
    obtain ⟨fuel, hf⟩ := h0
    obtain ⟨a, len, cap, rfl⟩ := okWide_slice Tryd.underlying22 (hval 0 22 va0 rfl rfl)
    exact its_in (by simpa [Value.cells] using hf) (List.all_eq_true.2 fun n hn => List.all_eq_true.1 hsz n (DataW.weights_mem_each (j := 0) rfl rfl n hn))
  clear hA0 hval0
  refine (walk a0 len0 cap0 F0 W w0 l0 (of_pow hL0) (of_words hL0) (of_Xs10 hL0) (of_Sw10 hL0) (of_Iw10 hL0) (of_Pw10 hL0)).mono fun e W' ⟨he, bel⟩ => ?_
  subst he
  exact ⟨_, rfl, _, _, _, [], _, [], hW', trodAll_mk1 (shut_bool Tryd.underlying4 _), (trodAll_cons_mk (Below.trod laidOut (by kernel_rfl) (of_decide_eq_true (by kernel_rfl)) k0 bel lt0) trodAll_mk0), rfl, bel.frame _, fun h => by cases h⟩
theorem over : Rows.TreeFreshSaid :=
  OpenClaim.holds_of_wide 3 Tryd.f3 rfl rfl rfl rfl rfl rfl rfl ⟨rfl, rfl, rfl, rfl, rfl⟩ rfl rfl rfl rfl rfl (by kernel_rfl) Tryd.func3 (by kernel_rfl)
    (of_decide_eq_true (by kernel_rfl)) (by unfold Func.isWrapper; first | (rw [if_pos (by decide +kernel)]; kernel_rfl) | (rw [if_neg (by decide +kernel)]; exact ⟨rfl, rfl⟩))
    (fun os started H enc _ => lifted os started H enc)
theorem proved : Rows.TreeFreshCardSaid :=
  Claim7.holds_tied_plain_at .later [] [.data, .data, .data, .data, .data, .data, .data, .data] true (true, "e098e0e3e2bcd3524238406081695f73d799206b8ab35b61bb3332c1a8b65954") false
    over (fun _ h => by cases h) (by kernel_rfl) (fun _ h => by cases h) treeFresh_row_tie rfl ⟨rfl, rfl⟩ (by kernel_rfl) rfl
    (fun f fn hf hfn => by
      obtain rfl : f = 3 := Option.some.inj ((show Tryd.prog.funcNamed "recoup/recouplaw10.TreeFresh" = some 3 by kernel_rfl).symm.trans hf) |>.symm
      obtain rfl : fn = Tryd.f3 := (Option.some.inj (Tryd.func3.symm.trans hfn)).symm
      exact ⟨by kernel_rfl, fun j t ht => by
        rw [Tryd.params3] at ht
        have hm : t ∈ [22] := by simpa using Array.mem_of_getElem? ht
        have hall : ([22].all fun u => !Tryd.prog.wantsStandIn u) = true := by kernel_rfl
        exact (show Tryd.prog.wantsStandIn t = false by simpa using List.all_eq_true.1 hall t hm)⟩)
    (by kernel_rfl)
#print axioms proved
end Go.Proofs.YtdimkfcanegahabDoor.treeFresh
