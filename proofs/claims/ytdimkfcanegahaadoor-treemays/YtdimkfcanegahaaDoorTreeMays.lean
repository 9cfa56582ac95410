/-
  Proved: for all descriptions: which expressions, shapes and descriptions may be, and how deep expressions are, is as the document says (P10.1); no condition.
-/
import Derived.Test.YtdimkfcanegahaaDoorFf
import Derived.Test.YtdimkfcanegahaaDoorTie
import Derived.Test.YtdimkfcanegahaaDoorCards
import Derived.Test.YtdimkfcanegahaaDoorFm
import Derived.Test.YtdimkfcanegahaaDoorDy
import Derived.Test.YtdimkfcanegahaaDoorDh
import Derived.WalkKit
import Derived.SizedLaws
import Derived.ProofKit
import Derived.LaidMore
import Derived.OpenShut
import Derived.ShutString
import Derived.ChangeOld
import Derived.Below
import Derived.Stop.Joined
import Derived.SevenTiedAt
import Derived.Lib.SmallJoins
import Derived.Lib.LaidTab
import Derived.MakeChecks
import Derived.Handed
import Derived.Stop.LaidErr
namespace Go.Proofs.YtdimkfcanegahaaDoor.treeMays
open Go.ChangeShapes Go.WideShapes Go.ChangeAt Go.RowKit Go.Joins
set_option linter.unusedVariables false
theorem own : ownKnob Tryd.prog.godebug = none := by kernel_rfl
theorem laidOut : laidOutB Tryd.prog = true := by kernel_rfl
/-- What the listed variables hold. -/
def laidL : List (String × DataW Unit) := [("math/bits.deBruijn32tab", Rows.laid_math_bits_deBruijn32tab), ("math/bits.deBruijn64tab", Rows.laid_math_bits_deBruijn64tab), ("internal/strconv.uint64pow10", Rows.laid_internal_strconv_uint64pow10), ("recoup/token.words", Rows.laid_recoup_token_words), ("recoup/tree.exprSigns", Rows.laid_recoup_tree_exprSigns)]
theorem door_met (os : Os) (args : Array Value) : laidMetH Tryd.prog laidL ((World.doorLaid Tryd.prog 4000 os).forCall (fun _ _ => 0) ⟨#[], args, []⟩).memory :=
  laidMetH_of_parts3 (fuel := 8) (laidMet_of_run' 8 (by kernel_rfl) (by kernel_rfl)) (by kernel_rfl) (by kernel_rfl)
theorem gTab : Tryd.prog.globalNamed "internal/strconv.uint64pow10" = some 5 := by kernel_rfl
theorem tTab : (Tryd.prog.globals[5]?).map (·.type) = some 127 := by kernel_rfl
theorem dTab : (Rows.laid_internal_strconv_uint64pow10 : DataW Unit) = Lib.tabData .u64 Lib.pow10Tab := by kernel_rfl
theorem of_pow {W : World} (h : laidMet Tryd.prog laidL W) : Tab9 W := by
  have hk := h.tail.tail
  rw [dTab] at hk
  exact Lib.tabIs_of_head gTab tTab Tryd.underlying127 Tryd.underlying120 (by kernel_rfl) (by kernel_rfl) hk
theorem gWds : Tryd.prog.globalNamed "recoup/token.words" = some 4 := by kernel_rfl
theorem tWds : (Tryd.prog.globals[4]?).map (·.type) = some 117 := by kernel_rfl
theorem dWds : (Rows.laid_recoup_token_words : DataW Unit) = .agg ((wds.map fun x => x.data.toList).map fun z => .lit (.string z)) := by kernel_rfl
theorem of_words {W : World} (h : laidMet Tryd.prog laidL W) : Wt9 W := by
  have hk := h.tail.tail.tail
  obtain ⟨ps, ⟨g0, t0, cs0, f0, p0, q0, hg0, ht0, hv0, hd0, _, _⟩, _, _⟩ := hk
  obtain rfl := Option.some.inj (gWds.symm.trans hg0)
  obtain rfl := Option.some.inj (tWds.symm.trans ht0)
  rw [dWds] at hd0
  have hc := cells_of_texts Tryd.underlying117 Tryd.underlying9 (by kernel_rfl) (by kernel_rfl) hd0
  unfold Wt9
  rw [hv0]
  obtain ⟨l⟩ := cs0
  have hl : l = wds.map Value.string := hc.trans (by kernel_rfl)
  rw [hl]
theorem gXs10 : Tryd.prog.globalNamed "recoup/tree.exprSigns" = some 1 := by kernel_rfl
theorem tXs10 : (Tryd.prog.globals[1]?).map (·.type) = some 90 := by kernel_rfl
theorem dXs10 : (Rows.laid_recoup_tree_exprSigns : DataW Unit) = .agg ((xsg.map fun x => x.data.toList).map fun z => .lit (.string z)) := by kernel_rfl
theorem of_Xs10 {W : World} (h : laidMet Tryd.prog laidL W) : Xs10 W := by
  have hk := h.tail.tail.tail.tail
  obtain ⟨ps, ⟨g0, t0, cs0, f0, p0, q0, hg0, ht0, hv0, hd0, _, _⟩, _, _⟩ := hk
  obtain rfl := Option.some.inj (gXs10.symm.trans hg0)
  obtain rfl := Option.some.inj (tXs10.symm.trans ht0)
  rw [dXs10] at hd0
  have hc := cells_of_texts Tryd.underlying90 Tryd.underlying9 (by kernel_rfl) (by kernel_rfl) hd0
  unfold Xs10
  rw [hv0]
  obtain ⟨l⟩ := cs0
  have hl : l = xsg.map Value.string := hc.trans (by kernel_rfl)
  rw [hl]

set_option maxRecDepth 20000 in
set_option maxHeartbeats 16000000 in
theorem walk (a0 : Option Addr) (len0 cap0 : Nat) (F0 : Nat → It) (w : World) (w0 : Its w a0 len0 F0) (l0 : len0 ≤ 549755813888) (c0 : len0 ≤ cap0) (t0 : Tab9 w) (t1 : Wt9 w) (t2 : Xs10 w) :
    Calls Tryd.prog 4 #[.slice a0 len0 cap0] w fun e w' => e = .returned (.bool true) ∧ Below w.heap.size w w' := by
  have HI := jhid9 w0
  have HW := jhid9 t1
  have HT : Hid (∀ w' : World, Below w.heap.size w w' → Calls Tryd.prog 16 #[.slice a0 len0 cap0] w' fun e w'' => e = .returned (.bool (mayD F0 len0)) ∧ Below w'.heap.size w' w'') := fun w' hb => tmay10 w' a0 len0 cap0 F0 (HI.out.later hb) l0 (HW.out.later hb)
  have HR : Hid (∀ w' : World, Below w.heap.size w w' → Calls Tryd.prog 17 #[.slice a0 len0 cap0] w' fun e w'' => e = .returned (.bool (mayD F0 len0)) ∧ Below w'.heap.size w' w'') := fun w' hb => rmay10 w' a0 len0 cap0 F0 (HI.out.later hb) l0
  have HA : Hid (∀ w' : World, Below w.heap.size w w' → Calls Tryd.prog 9 #[] w' fun e w'' => e = .returned (.bool true) ∧ Below w'.heap.size w' w'') := fun w' hb => anch10_any w' (t0.later hb) (t1.later hb) (t2.later hb)
  clear t0 t1 t2 w0
  go_enter Tryd.func4, Tryd.ntmps4
  go_wp2
  go_loopw [3] (fun vi wr => ∃ i : Nat, i ≤ len0 ∧ vi = .int .i64 (i : Int) ∧ Below w.heap.size w wr) (fun vi _ => len0 - (intOf vi).toNat)
  case atStart => exact ⟨0, by omega, rfl, Below.refl _ _⟩
  case round =>
    obtain ⟨i, hi, rfl, hb⟩ := hrel
    have HB := jhid9 hb
    by_cases hlt : i < len0
    · have p0 : (0 : Int) ≤ (i : Int) := by omega
      have p1 : (i : Int) < (len0 : Int) := by omega
      obtain ⟨b, o, k, pl, nl, vk, vl, vc, sk, na, ca, np, cp, nr, cr, lc, nm, vm, sm, vn, vln, vcl, sln, scl, ln, cl, va, aa, pa, ra, la, T, S, G, rfl, hF, hT, hS, hG, k8, p8, hnm, hnl, hcl⟩ := HI.out.at_ hlt
      have HTx : Hid (∀ w' : World, Below w.heap.size w w' → Calls Tryd.prog 12 #[.agg #[.int .u8 (vk : Int), .int .i64 vn, .string vm, .slice va vl vc, .int .i64 vln, .int .i64 vcl]] w' fun e w'' => e = .returned (.bool (mayX T)) ∧ Below w'.heap.size w' w'') := fun w' hb => tmayx w' T _ (hT.later hb) (HW.out.later hb)
      have HRx : Hid (∀ w' : World, Below w.heap.size w w' → Calls Tryd.prog 10 #[.agg #[.int .u8 (vk : Int), .int .i64 vn, .string vm, .slice va vl vc, .int .i64 vln, .int .i64 vcl]] w' fun e w'' => e = .returned (.bool (mayX T)) ∧ Below w'.heap.size w' w'') := fun w' hb => rmayx_any w' T _ (hT.later hb)
      have HTd : Hid (∀ w' : World, Below w.heap.size w w' → Calls Tryd.prog 13 #[.agg #[.int .u8 (vk : Int), .int .i64 vn, .string vm, .slice va vl vc, .int .i64 vln, .int .i64 vcl]] w' fun e w'' => e = .returned (.int .i64 (xdp T : Nat)) ∧ Below w'.heap.size w' w'') := fun w' hb => tdeep10 w' T _ (hT.later hb) (HW.out.later hb)
      have HRd : Hid (mayX T = true → ∀ w' : World, Below w.heap.size w w' → Calls Tryd.prog 11 #[.agg #[.int .u8 (vk : Int), .int .i64 vn, .string vm, .slice va vl vc, .int .i64 vln, .int .i64 vcl]] w' fun e w'' => e = .returned (.int .i64 (xdeep 16 T : Nat)) ∧ Below w'.heap.size w' w'') := fun hm w' hb => rdeep_any 16 w' T _ (by omega) (hT.later hb) (mayX_mx hm)
      have HTs : Hid (∀ w' : World, Below w.heap.size w w' → Calls Tryd.prog 14 #[.agg #[.int .u8 (sk : Int), .string sm, .slice aa na ca, .slice pa np cp, .slice ra nr cr, .int .i64 sln, .int .i64 scl]] w' fun e w'' => e = .returned (.bool (mayS S)) ∧ Below w'.heap.size w' w'') := fun w' hb => tmays w' S _ (hS.later hb) (HW.out.later hb)
      have HRs : Hid (∀ w' : World, Below w.heap.size w w' → Calls Tryd.prog 15 #[.agg #[.int .u8 (sk : Int), .string sm, .slice aa na ca, .slice pa np cp, .slice ra nr cr, .int .i64 sln, .int .i64 scl]] w' fun e w'' => e = .returned (.bool (mayS S)) ∧ Below w'.heap.size w' w'') := fun w' hb => rmays_any w' S _ (hS.later hb)
      have HTi : Hid (∀ (w' : World) (g : Nat), Below w.heap.size w w' → Vn w' g 36 #[.int .u8 (k : Int), .string nm, .int .u8 (vk : Int), .int .i64 vn, .string vm, .slice va vl vc, .int .i64 vln, .int .i64 vcl, .int .u8 (sk : Int), .string sm, .slice aa na ca, .slice pa np cp, .slice ra nr cr, .int .i64 sln, .int .i64 scl, .int .u8 (pl : Int), .slice la nl lc, .int .i64 ln, .int .i64 cl] → Calls Tryd.prog 16 #[.slice (some ⟨g, 0, none⟩) 1 1] w' fun e w'' => e = .returned (.bool (mayD (fun _ => F0 i) 1)) ∧ Below w'.heap.size w' w'') := fun w' g hb hv => tmay10 w' _ 1 1 _ (by rw [hF]; exact its_one hv (hT.later hb) (hS.later hb) (fun d => (hG d).later hb) k8 p8 hnm hnl) (by omega) (HW.out.later hb)
      have HRi : Hid (∀ w' : World, Below w.heap.size w w' → Calls Tryd.prog 17 #[.slice (some ⟨b, o + i * 19, none⟩) 1 (cap0 - i)] w' fun e w'' => e = .returned (.bool (mayD (fun _ => F0 i) 1)) ∧ Below w'.heap.size w' w'') := fun w' hb => rmay10 w' _ 1 _ _ (its_sub (HI.out.later hb) hlt) (by omega)
      have HRg := jhid9 (hcl _ hb)
      clear hcl hT hS hG hF hb
      generalize mayD (fun _ => F0 i) 1 = mi at *
      generalize mayS S = ms at *
      have hD : (mayX T = true ∧ xdp T = xdeep 16 T) ∨ (mayX T = false ∧ xdp T = 0) := by
        unfold xdp
        cases mayX T with
        | true => exact .inl ⟨rfl, rfl⟩
        | false => exact .inr ⟨rfl, rfl⟩
      have hw1 : IntKind.i64.wrap ((i : Int) + 1) = (i : Int) + 1 := by rw [IntKind.wrap_i64]; omega
      have ht1 : ((i : Int) + 1).toNat = i + 1 := by omega
      have hc1 : (i : Int) ≤ (i : Int) + 1 := by omega
      have hc2 : (i : Int) + 1 ≤ (cap0 : Int) := by omega
      have hc3 : ¬ cap0 = i := by omega
      have M1 : True := trivial
      have M3 : True := trivial
      generalize xdeep 16 T = D at *
      generalize xdp T = D2 at *
      generalize mayX T = mx at *
      rcases hD with ⟨rfl, rfl⟩ | ⟨rfl, rfl⟩
      · replace HRd := jhid9 (HRd.out rfl)
        go_wp2_with (first
          | (clear M1; refine wpList_load_mid rfl 36 _ rfl b _ rfl [.int .u8 (k : Int), .string nm, .int .u8 (vk : Int), .int .i64 vn, .string vm, .slice va vl vc, .int .i64 vln, .int .i64 vcl, .int .u8 (sk : Int), .string sm, .slice aa na ca, .slice pa np cp, .slice ra nr cr, .int .i64 sln, .int .i64 scl, .int .u8 (pl : Int), .slice la nl lc, .int .i64 ln, .int .i64 cl] _ HRg.out Tryd.underlying36 rfl sizeI ?_)
          | (clear M3; refine wpList_store_vn rfl 36 _ _ rfl wr.heap.size _ #[.int .u8 (k : Int), .string nm, .int .u8 (vk : Int), .int .i64 vn, .string vm, .slice va vl vc, .int .i64 vln, .int .i64 vcl, .int .u8 (sk : Int), .string sm, .slice aa na ca, .slice pa np cp, .slice ra nr cr, .int .i64 sln, .int .i64 scl, .int .u8 (pl : Int), .slice la nl lc, .int .i64 ln, .int .i64 cl] rfl rfl (Vn.new wr _ _) sizeI rfl (all19 rfl rfl rfl rfl rfl rfl rfl rfl rfl rfl rfl rfl rfl rfl rfl rfl rfl rfl rfl) ?_; intro w1 HV1 hg1; have hb1 : Below wr.heap.size wr w1 := (jlow _ _).trans (jbelow hg1.out (jlow _ _).size (fun g e => by cases e; exact Nat.le_refl _)); have HB1 := jhid9 (jtwo HB.out hb1); clear hg1 hb1; have m2 := HV1.out.cell 2 _ rfl; have m3 := HV1.out.cell 3 _ rfl; have m4 := HV1.out.cell 4 _ rfl; have m5 := HV1.out.cell 5 _ rfl; have m6 := HV1.out.cell 6 _ rfl; have m7 := HV1.out.cell 7 _ rfl)
          | (go_at_call 10; refine (HRx.out _ HB1.out).mono ?_; rintro e w2 ⟨rfl, hb2⟩; have HB2 := jhid9 (jtwo HB1.out hb2); have HV2 := jhid9 (HV1.out.later hb2); clear hb2; have n2 := HV2.out.cell 2 _ rfl; have n3 := HV2.out.cell 3 _ rfl; have n4 := HV2.out.cell 4 _ rfl; have n5 := HV2.out.cell 5 _ rfl; have n6 := HV2.out.cell 6 _ rfl; have n7 := HV2.out.cell 7 _ rfl)
          | (go_at_call 11; refine (HRd.out _ HB2.out).mono ?_; rintro e w3 ⟨rfl, hb3⟩; have HB3 := jhid9 (jtwo HB2.out hb3); have HV3 := jhid9 (HV2.out.later hb3); clear hb3))
        have HSa : Hid (∀ w' : World, Vn w' wr.heap.size 36 #[.int .u8 (k : Int), .string nm, .int .u8 (vk : Int), .int .i64 vn, .string vm, .slice va vl vc, .int .i64 vln, .int .i64 vcl, .int .u8 (sk : Int), .string sm, .slice aa na ca, .slice pa np cp, .slice ra nr cr, .int .i64 sln, .int .i64 scl, .int .u8 (pl : Int), .slice la nl lc, .int .i64 ln, .int .i64 cl] → (fun w' => w'.cell? ⟨wr.heap.size, 2, none⟩ = some (.int .u8 (vk : Int)) ∧ w'.cell? ⟨wr.heap.size, 3, none⟩ = some (.int .i64 vn) ∧ w'.cell? ⟨wr.heap.size, 4, none⟩ = some (.string vm) ∧ w'.cell? ⟨wr.heap.size, 5, none⟩ = some (.slice va vl vc) ∧ w'.cell? ⟨wr.heap.size, 6, none⟩ = some (.int .i64 vln) ∧ w'.cell? ⟨wr.heap.size, 7, none⟩ = some (.int .i64 vcl) ∧ w'.cell? ⟨wr.heap.size, 8, none⟩ = some (.int .u8 (sk : Int)) ∧ w'.cell? ⟨wr.heap.size, 9, none⟩ = some (.string sm) ∧ w'.cell? ⟨wr.heap.size, 10, none⟩ = some (.slice aa na ca) ∧ w'.cell? ⟨wr.heap.size, 11, none⟩ = some (.slice pa np cp) ∧ w'.cell? ⟨wr.heap.size, 12, none⟩ = some (.slice ra nr cr) ∧ w'.cell? ⟨wr.heap.size, 13, none⟩ = some (.int .i64 sln) ∧ w'.cell? ⟨wr.heap.size, 14, none⟩ = some (.int .i64 scl)) w') := fun w' h => ⟨h.cell 2 _ rfl, h.cell 3 _ rfl, h.cell 4 _ rfl, h.cell 5 _ rfl, h.cell 6 _ rfl, h.cell 7 _ rfl, h.cell 8 _ rfl, h.cell 9 _ rfl, h.cell 10 _ rfl, h.cell 11 _ rfl, h.cell 12 _ rfl, h.cell 13 _ rfl, h.cell 14 _ rfl⟩
        clear m2 m3 m4 m5 m6 m7 n2 n3 n4 n5 n6 n7
        refine wp_region_held (S := fun w' => w'.cell? ⟨wr.heap.size, 2, none⟩ = some (.int .u8 (vk : Int)) ∧ w'.cell? ⟨wr.heap.size, 3, none⟩ = some (.int .i64 vn) ∧ w'.cell? ⟨wr.heap.size, 4, none⟩ = some (.string vm) ∧ w'.cell? ⟨wr.heap.size, 5, none⟩ = some (.slice va vl vc) ∧ w'.cell? ⟨wr.heap.size, 6, none⟩ = some (.int .i64 vln) ∧ w'.cell? ⟨wr.heap.size, 7, none⟩ = some (.int .i64 vcl) ∧ w'.cell? ⟨wr.heap.size, 8, none⟩ = some (.int .u8 (sk : Int)) ∧ w'.cell? ⟨wr.heap.size, 9, none⟩ = some (.string sm) ∧ w'.cell? ⟨wr.heap.size, 10, none⟩ = some (.slice aa na ca) ∧ w'.cell? ⟨wr.heap.size, 11, none⟩ = some (.slice pa np cp) ∧ w'.cell? ⟨wr.heap.size, 12, none⟩ = some (.slice ra nr cr) ∧ w'.cell? ⟨wr.heap.size, 13, none⟩ = some (.int .i64 sln) ∧ w'.cell? ⟨wr.heap.size, 14, none⟩ = some (.int .i64 scl)) (by kernel_rfl) ?_
        change wpAnyH _ _ _ _ _ _ _ _ (World.drew _)
        obtain ⟨W0, HW0⟩ : ∃ W0, Hid (w3.drew = W0) := ⟨_, rfl⟩
        have HB0 : Hid (Below w.heap.size w W0) := by show Below _ _ _; rw [← HW0.out]; exact HB3.out.drew
        have HI0 : Hid (Vn W0 wr.heap.size 36 #[.int .u8 (k : Int), .string nm, .int .u8 (vk : Int), .int .i64 vn, .string vm, .slice va vl vc, .int .i64 vln, .int .i64 vcl, .int .u8 (sk : Int), .string sm, .slice aa na ca, .slice pa np cp, .slice ra nr cr, .int .i64 sln, .int .i64 scl, .int .u8 (pl : Int), .slice la nl lc, .int .i64 ln, .int .i64 cl]) := by show Vn _ _ _ _; rw [← HW0.out]; exact HV3.out.later (drew_below10 _)
        rw [HW0.out]
        clear HW0
        refine wpAnyH_take (i := 0) (v := ?vm0_1) rfl (by kernel_rfl) (by kernel_rfl) (by kernel_rfl) (fun _ _ _ h => h) (Or.inl ⟨by rfl, ?ym0_1⟩) (HSa.out _ HI0.out) ?zm0_1
        case ym0_1 => (intro w hSw; (try dsimp only at hSw); go_simp; try with_reducible rfl)
        try simp only [nz1, nz3, Act.put, nz4, nz5, nz6]
        refine wpAnyH_take (i := 1) (v := ?vm1_2) rfl (by kernel_rfl) (by kernel_rfl) (by kernel_rfl) (fun _ _ _ h => h) (Or.inl ⟨by rfl, ?ym1_2⟩) (HSa.out _ HI0.out) ?zm1_2
        case ym1_2 => (intro w hSw; (try dsimp only at hSw); go_simp; try with_reducible rfl)
        try simp only [nz1, nz2, nz3, Act.put, nz4, nz5, nz6]
        refine wpAnyH_take (i := 3) (v := ?vm3_3) rfl (by kernel_rfl) (by kernel_rfl) (by kernel_rfl) (fun _ _ _ h => h) (Or.inl ⟨by rfl, ?ym3_3⟩) (HSa.out _ HI0.out) ?zm3_3
        case ym3_3 => (intro w hSw; (try dsimp only at hSw); go_simp; try with_reducible rfl)
        try simp only [nz1, nz2, nz3, Act.put, nz4, nz5, nz6]
        refine wpAnyH_ready (rs := [2]) (by kernel_rfl) (by simp) ?_
        refine AllReadyH.cons rfl (fun KK hKK => ?_) AllReadyH.nil
        go_simp
        refine (HTx.out _ HB0.out).mono ?_; rintro e WA ⟨rfl, hb⟩
        have HBA := jhid9 (jtwo HB0.out hb)
        have HIA := jhid9 (HI0.out.later hb)
        clear hb
        refine hKK.out _ _ (HSa.out _ HIA.out) (fun _ => ?_)
        clear hKK KK
        try simp only [nz1, nz2, nz3, Act.put, nz4, nz5, nz6]
        refine wpAnyH_take (i := 4) (v := ?vm4_4) rfl (by kernel_rfl) (by kernel_rfl) (by kernel_rfl) (fun _ _ _ h => h) (Or.inl ⟨by rfl, ?ym4_4⟩) (HSa.out _ HIA.out) ?zm4_4
        case ym4_4 => (intro w hSw; (try dsimp only at hSw); go_simp; try with_reducible rfl)
        try simp only [nz1, nz2, nz3, Act.put, nz4, nz5, nz6]
        refine wpAnyH_take (i := 5) (v := ?vm5_5) rfl (by kernel_rfl) (by kernel_rfl) (by kernel_rfl) (fun _ _ _ h => h) (Or.inl ⟨by rfl, ?ym5_5⟩) (HSa.out _ HIA.out) ?zm5_5
        case ym5_5 => (intro w hSw; (try dsimp only at hSw); go_simp; try with_reducible rfl)
        try simp only [nz1, nz2, nz3, Act.put, nz4, nz5, nz6]
        refine wpAnyH_take (i := 6) (v := ?vm6_6) rfl (by kernel_rfl) (by kernel_rfl) (by kernel_rfl) (fun _ _ _ h => h) (Or.inl ⟨by rfl, ?ym6_6⟩) (HSa.out _ HIA.out) ?zm6_6
        case ym6_6 => (intro w hSw; (try dsimp only at hSw); go_simp; try with_reducible rfl)
        try simp only [nz1, nz2, nz3, Act.put, nz4, nz5, nz6]
        refine wpAnyH_take (i := 7) (v := ?vm7_7) rfl (by kernel_rfl) (by kernel_rfl) (by kernel_rfl) (fun _ _ _ h => h) (Or.inl ⟨by rfl, ?ym7_7⟩) (HSa.out _ HIA.out) ?zm7_7
        case ym7_7 => (intro w hSw; (try dsimp only at hSw); go_simp; try with_reducible rfl)
        try simp only [nz1, nz2, nz3, Act.put, nz4, nz5, nz6]
        refine wpAnyH_take (i := 9) (v := ?vm9_8) rfl (by kernel_rfl) (by kernel_rfl) (by kernel_rfl) (fun _ _ _ h => h) (Or.inl ⟨by rfl, ?ym9_8⟩) (HSa.out _ HIA.out) ?zm9_8
        case ym9_8 => (intro w hSw; (try dsimp only at hSw); go_simp; try with_reducible rfl)
        try simp only [nz1, nz2, nz3, Act.put, nz4, nz5, nz6]
        refine wpAnyH_ready (rs := [8]) (by kernel_rfl) (by simp) ?_
        refine AllReadyH.cons rfl (fun KK hKK => ?_) AllReadyH.nil
        go_simp
        refine (HTd.out _ HBA.out).mono ?_; rintro e WC ⟨rfl, hb⟩
        have HBC := jhid9 (jtwo HBA.out hb)
        have HIC := jhid9 (HIA.out.later hb)
        clear hb
        refine hKK.out _ _ (HSa.out _ HIC.out) (fun _ => ?_)
        clear hKK KK
        try simp only [nz1, nz2, nz3, Act.put, nz4, nz5, nz6]
        refine wpAnyH_take (i := 10) (v := ?vm10_9) rfl (by kernel_rfl) (by kernel_rfl) (by kernel_rfl) (fun _ _ _ h => h) (Or.inl ⟨by rfl, ?ym10_9⟩) (HSa.out _ HIC.out) ?zm10_9
        case ym10_9 => (intro w hSw; (try dsimp only at hSw); go_simp; try with_reducible rfl)
        try simp only [nz1, nz2, nz3, Act.put, nz4, nz5, nz6]
        refine wpAnyH_take (i := 11) (v := ?vm11_10) rfl (by kernel_rfl) (by kernel_rfl) (by kernel_rfl) (fun _ _ _ h => h) (Or.inl ⟨by rfl, ?ym11_10⟩) (HSa.out _ HIC.out) ?zm11_10
        case ym11_10 => (intro w hSw; (try dsimp only at hSw); go_simp; try with_reducible rfl)
        try simp only [nz1, nz2, nz3, Act.put, nz4, nz5, nz6]
        refine wpAnyH_take (i := 12) (v := ?vm12_11) rfl (by kernel_rfl) (by kernel_rfl) (by kernel_rfl) (fun _ _ _ h => h) (Or.inl ⟨by rfl, ?ym12_11⟩) (HSa.out _ HIC.out) ?zm12_11
        case ym12_11 => (intro w hSw; (try dsimp only at hSw); go_simp; try with_reducible rfl)
        try simp only [nz1, nz2, nz3, Act.put, nz4, nz5, nz6]
        refine wpAnyH_take (i := 13) (v := ?vm13_12) rfl (by kernel_rfl) (by kernel_rfl) (by kernel_rfl) (fun _ _ _ h => h) (Or.inl ⟨by rfl, ?ym13_12⟩) (HSa.out _ HIC.out) ?zm13_12
        case ym13_12 => (intro w hSw; (try dsimp only at hSw); go_simp; try with_reducible rfl)
        try simp only [nz1, nz2, nz3, Act.put, nz4, nz5, nz6]
        refine wpAnyH_take (i := 14) (v := ?vm14_13) rfl (by kernel_rfl) (by kernel_rfl) (by kernel_rfl) (fun _ _ _ h => h) (Or.inl ⟨by rfl, ?ym14_13⟩) (HSa.out _ HIC.out) ?zm14_13
        case ym14_13 => (intro w hSw; (try dsimp only at hSw); go_simp; try with_reducible rfl)
        try simp only [nz1, nz2, nz3, Act.put, nz4, nz5, nz6]
        refine wpAnyH_take (i := 16) (v := ?vm16_14) rfl (by kernel_rfl) (by kernel_rfl) (by kernel_rfl) (fun _ _ _ h => h) (Or.inl ⟨by rfl, ?ym16_14⟩) (HSa.out _ HIC.out) ?zm16_14
        case ym16_14 => (intro w hSw; (try dsimp only at hSw); go_simp; try with_reducible rfl)
        try simp only [nz1, nz2, nz3, Act.put, nz4, nz5, nz6]
        refine wpAnyH_take (i := 17) (v := ?vm17_15) rfl (by kernel_rfl) (by kernel_rfl) (by kernel_rfl) (fun _ _ _ h => h) (Or.inl ⟨by rfl, ?ym17_15⟩) (HSa.out _ HIC.out) ?zm17_15
        case ym17_15 => (intro w hSw; (try dsimp only at hSw); go_simp; try with_reducible rfl)
        try simp only [nz1, nz2, nz3, Act.put, nz4, nz5, nz6]
        refine wpAnyH_ready (rs := [15]) (by kernel_rfl) (by simp) ?_
        refine AllReadyH.cons rfl (fun KK hKK => ?_) AllReadyH.nil
        go_simp
        refine (HTs.out _ HBC.out).mono ?_; rintro e WD ⟨rfl, hb⟩
        have HBD := jhid9 (jtwo HBC.out hb)
        have HID := jhid9 (HIC.out.later hb)
        clear hb
        refine hKK.out _ _ (HSa.out _ HID.out) (fun _ => ?_)
        clear hKK KK
        try simp only [nz1, nz2, nz3, Act.put, nz4, nz5, nz6]
        refine wpAnyH_ready (rs := [18]) (by kernel_rfl) (by simp) ?_
        refine AllReadyH.cons rfl (fun KK hKK => ?_) AllReadyH.nil
        go_simp
        refine (HRs.out _ HBD.out).mono ?_; rintro e WE ⟨rfl, hb⟩
        have HBE := jhid9 (jtwo HBD.out hb)
        have HIE := jhid9 (HID.out.later hb)
        clear hb
        refine hKK.out _ _ (HSa.out _ HIE.out) (fun _ => ?_)
        clear hKK KK
        try simp only [nz1, nz2, nz3, Act.put, nz4, nz5, nz6]
        refine wpAnyH_take (i := 19) (v := ?vm19_16) rfl (by kernel_rfl) (by kernel_rfl) (by kernel_rfl) (fun _ _ _ h => h) (Or.inl ⟨by rfl, ?ym19_16⟩) (HSa.out _ HIE.out) ?zm19_16
        case ym19_16 => (intro w hSw; (try dsimp only at hSw); go_simp; try with_reducible rfl)
        try simp only [nz1, nz2, nz3, Act.put, nz4, nz5, nz6]
        refine wpAnyH_take (i := 20) (v := ?vm20_17) rfl (by kernel_rfl) (by kernel_rfl) (by kernel_rfl) (fun _ _ _ h => h) (Or.inl ⟨by rfl, ?ym20_17⟩) (HSa.out _ HIE.out) ?zm20_17
        case ym20_17 => (intro w hSw; (try dsimp only at hSw); go_simp; try with_reducible rfl)
        try simp only [nz1, nz2, nz3, Act.put, nz4, nz5, nz6]
        refine wpAnyH_take (i := 21) (v := ?vm21_18) rfl (by kernel_rfl) (by kernel_rfl) (by kernel_rfl) (fun _ _ _ h => h) (Or.inl ⟨by rfl, ?ym21_18⟩) (HSa.out _ HIE.out) ?zm21_18
        case ym21_18 => (intro w hSw; (try dsimp only at hSw); go_simp; try with_reducible rfl)
        try simp only [nz1, nz2, nz3, Act.put, nz4, nz5, nz6]
        refine wpAnyH_take (i := 25) (v := ?vm25_19) rfl (by kernel_rfl) (by kernel_rfl) (by kernel_rfl) (fun _ _ _ h => h) (Or.inl ⟨by rfl, ?ym25_19⟩) (HSa.out _ HIE.out) ?zm25_19
        case ym25_19 => (intro w hSw; (try dsimp only at hSw); go_simp; try with_reducible rfl)
        try simp only [nz1, nz2, nz3, Act.put, nz4, nz5, nz6]
        refine wpAnyH_take (i := 26) (v := ?vm26_20) rfl (by kernel_rfl) (by kernel_rfl) (by kernel_rfl) (fun _ _ _ h => h) (Or.inl ⟨by rfl, ?ym26_20⟩) (HSa.out _ HIE.out) ?zm26_20
        case ym26_20 => (intro w hSw; (try dsimp only at hSw); go_simp; try with_reducible rfl)
        try simp only [nz1, nz2, nz3, Act.put, nz4, nz5, nz6]
        refine wpAnyH_take (i := 27) (v := ?vm27_21) rfl (by kernel_rfl) (by kernel_rfl) (by kernel_rfl) (fun _ _ _ h => h) (Or.inl ⟨by rfl, ?ym27_21⟩) (HSa.out _ HIE.out) ?zm27_21
        case ym27_21 => (intro w hSw; (try dsimp only at hSw); go_simp; try with_reducible rfl)
        try simp only [nz1, nz2, nz3, Act.put, nz4, nz5, nz6]
        refine wpAnyH_take (i := 28) (v := ?vm28_22) rfl (by kernel_rfl) (by kernel_rfl) (by kernel_rfl) (fun _ _ _ h => h) (Or.inl ⟨by rfl, ?ym28_22⟩) (HSa.out _ HIE.out) ?zm28_22
        case ym28_22 => (intro w hSw; (try dsimp only at hSw); go_simp; try with_reducible rfl)
        try simp only [nz1, nz2, nz3, Act.put, nz4, nz5, nz6]
        refine wpAnyH_take (i := 29) (v := ?vm29_23) rfl (by kernel_rfl) (by kernel_rfl) (by kernel_rfl) (fun _ _ _ h => h) (Or.inl ⟨by rfl, ?ym29_23⟩) (HSa.out _ HIE.out) ?zm29_23
        case ym29_23 => (intro w hSw; (try dsimp only at hSw); go_simp; try with_reducible rfl)
        try simp only [nz1, nz2, nz3, Act.put, nz4, nz5, nz6]
        refine wpAnyH_ready (rs := [22]) (by kernel_rfl) (by simp) ?_
        refine AllReadyH.cons rfl (fun KK hKK => ?_) AllReadyH.nil
        refine wp_load_row 36 _ rfl wr.heap.size rfl 36 #[.int .u8 (k : Int), .string nm, .int .u8 (vk : Int), .int .i64 vn, .string vm, .slice va vl vc, .int .i64 vln, .int .i64 vcl, .int .u8 (sk : Int), .string sm, .slice aa na ca, .slice pa np cp, .slice ra nr cr, .int .i64 sln, .int .i64 scl, .int .u8 (pl : Int), .slice la nl lc, .int .i64 ln, .int .i64 cl] (0, 0) _ HIE.out Tryd.underlying36 rfl sizeI ?_
        refine hKK.out _ _ (HSa.out _ HIE.out) (fun _ => ?_)
        clear hKK KK
        try simp only [nz1, nz2, nz3, Act.put, nz4, nz5, nz6]
        refine wpAnyH_ready (rs := [23]) (by kernel_rfl) (by simp) ?_
        refine AllReadyH.cons rfl (fun KK hKK => ?_) AllReadyH.nil
        refine wp_build1 _ rfl _ _ _ _ _ _ _ _ _ _ _ _ _ _ _ _ _ _ _ rfl ?_
        have hal := jlow WE (.cells #[.int .u8 (k : Int), .string nm, .int .u8 (vk : Int), .int .i64 vn, .string vm, .slice va vl vc, .int .i64 vln, .int .i64 vcl, .int .u8 (sk : Int), .string sm, .slice aa na ca, .slice pa np cp, .slice ra nr cr, .int .i64 sln, .int .i64 scl, .int .u8 (pl : Int), .slice la nl lc, .int .i64 ln, .int .i64 cl] 36)
        have HBF := jhid9 (jtwo HBE.out hal)
        have HIF := jhid9 (HIE.out.later hal)
        have HGF := jhid9 (Vn.new WE 36 #[.int .u8 (k : Int), .string nm, .int .u8 (vk : Int), .int .i64 vn, .string vm, .slice va vl vc, .int .i64 vln, .int .i64 vcl, .int .u8 (sk : Int), .string sm, .slice aa na ca, .slice pa np cp, .slice ra nr cr, .int .i64 sln, .int .i64 scl, .int .u8 (pl : Int), .slice la nl lc, .int .i64 ln, .int .i64 cl])
        clear hal
        refine hKK.out _ _ (HSa.out _ HIF.out) (fun _ => ?_)
        clear hKK KK
        try simp only [nz1, nz2, nz3, Act.put, nz4, nz5, nz6]
        refine wpAnyH_ready (rs := [24]) (by kernel_rfl) (by simp) ?_
        refine AllReadyH.cons rfl (fun KK hKK => ?_) AllReadyH.nil
        go_simp
        refine (HTi.out _ _ HBF.out HGF.out).mono ?_; rintro e WG ⟨rfl, hb⟩
        have HBG := jhid9 (jtwo HBF.out hb)
        have HIG := jhid9 (HIF.out.later hb)
        clear hb
        refine hKK.out _ _ (HSa.out _ HIG.out) (fun _ => ?_)
        clear hKK KK
        try simp only [nz1, nz2, nz3, Act.put, nz4, nz5, nz6]
        refine wpAnyH_ready (rs := [30]) (by kernel_rfl) (by simp) ?_
        refine AllReadyH.cons rfl (fun KK hKK => ?_) AllReadyH.nil
        go_simp
        refine (HRi.out _ HBG.out).mono ?_; rintro e WH ⟨rfl, hb⟩
        have HBH := jhid9 (jtwo HBG.out hb)
        have HIH := jhid9 (HIG.out.later hb)
        clear hb
        refine hKK.out _ _ (HSa.out _ HIH.out) (fun _ => ?_)
        clear hKK KK
        try simp only [nz1, nz2, nz3, Act.put, nz4, nz5, nz6]
        refine wpAnyH_take (i := 31) (v := ?vm31_24) rfl (by kernel_rfl) (by kernel_rfl) (by kernel_rfl) (fun _ _ _ h => h) (Or.inl ⟨by rfl, ?ym31_24⟩) (HSa.out _ HIH.out) ?zm31_24
        case ym31_24 => (intro w hSw; (try dsimp only at hSw); go_simp; try with_reducible rfl)
        try simp only [nz1, nz2, nz3, Act.put, nz4, nz5, nz6]
        refine wpAnyH_take (i := 32) (v := ?vm32_25) rfl (by kernel_rfl) (by kernel_rfl) (by kernel_rfl) (fun _ _ _ h => h) (Or.inl ⟨by rfl, ?ym32_25⟩) (HSa.out _ HIH.out) ?zm32_25
        case ym32_25 => (intro w hSw; (try dsimp only at hSw); go_simp; try with_reducible rfl)
        try simp only [nz1, nz2, nz3, Act.put, nz4, nz5, nz6]
        refine wpAnyH_done (by kernel_rfl) ?_ _
        go_wp2
        exact ⟨⟨i + 1, by omega, by go_num, HBH.out⟩, by simp [intOf]; omega⟩
      · clear HRd
        go_wp2_with (first
          | (clear M1; refine wpList_load_mid rfl 36 _ rfl b _ rfl [.int .u8 (k : Int), .string nm, .int .u8 (vk : Int), .int .i64 vn, .string vm, .slice va vl vc, .int .i64 vln, .int .i64 vcl, .int .u8 (sk : Int), .string sm, .slice aa na ca, .slice pa np cp, .slice ra nr cr, .int .i64 sln, .int .i64 scl, .int .u8 (pl : Int), .slice la nl lc, .int .i64 ln, .int .i64 cl] _ HRg.out Tryd.underlying36 rfl sizeI ?_)
          | (clear M3; refine wpList_store_vn rfl 36 _ _ rfl wr.heap.size _ #[.int .u8 (k : Int), .string nm, .int .u8 (vk : Int), .int .i64 vn, .string vm, .slice va vl vc, .int .i64 vln, .int .i64 vcl, .int .u8 (sk : Int), .string sm, .slice aa na ca, .slice pa np cp, .slice ra nr cr, .int .i64 sln, .int .i64 scl, .int .u8 (pl : Int), .slice la nl lc, .int .i64 ln, .int .i64 cl] rfl rfl (Vn.new wr _ _) sizeI rfl (all19 rfl rfl rfl rfl rfl rfl rfl rfl rfl rfl rfl rfl rfl rfl rfl rfl rfl rfl rfl) ?_; intro w1 HV1 hg1; have hb1 : Below wr.heap.size wr w1 := (jlow _ _).trans (jbelow hg1.out (jlow _ _).size (fun g e => by cases e; exact Nat.le_refl _)); have HB1 := jhid9 (jtwo HB.out hb1); clear hg1 hb1; have m2 := HV1.out.cell 2 _ rfl; have m3 := HV1.out.cell 3 _ rfl; have m4 := HV1.out.cell 4 _ rfl; have m5 := HV1.out.cell 5 _ rfl; have m6 := HV1.out.cell 6 _ rfl; have m7 := HV1.out.cell 7 _ rfl)
          | (go_at_call 10; refine (HRx.out _ HB1.out).mono ?_; rintro e w2 ⟨rfl, hb2⟩; have HB2 := jhid9 (jtwo HB1.out hb2); have HV2 := jhid9 (HV1.out.later hb2); clear hb2; have n2 := HV2.out.cell 2 _ rfl; have n3 := HV2.out.cell 3 _ rfl; have n4 := HV2.out.cell 4 _ rfl; have n5 := HV2.out.cell 5 _ rfl; have n6 := HV2.out.cell 6 _ rfl; have n7 := HV2.out.cell 7 _ rfl))
        have HSa : Hid (∀ w' : World, Vn w' wr.heap.size 36 #[.int .u8 (k : Int), .string nm, .int .u8 (vk : Int), .int .i64 vn, .string vm, .slice va vl vc, .int .i64 vln, .int .i64 vcl, .int .u8 (sk : Int), .string sm, .slice aa na ca, .slice pa np cp, .slice ra nr cr, .int .i64 sln, .int .i64 scl, .int .u8 (pl : Int), .slice la nl lc, .int .i64 ln, .int .i64 cl] → (fun w' => w'.cell? ⟨wr.heap.size, 2, none⟩ = some (.int .u8 (vk : Int)) ∧ w'.cell? ⟨wr.heap.size, 3, none⟩ = some (.int .i64 vn) ∧ w'.cell? ⟨wr.heap.size, 4, none⟩ = some (.string vm) ∧ w'.cell? ⟨wr.heap.size, 5, none⟩ = some (.slice va vl vc) ∧ w'.cell? ⟨wr.heap.size, 6, none⟩ = some (.int .i64 vln) ∧ w'.cell? ⟨wr.heap.size, 7, none⟩ = some (.int .i64 vcl) ∧ w'.cell? ⟨wr.heap.size, 8, none⟩ = some (.int .u8 (sk : Int)) ∧ w'.cell? ⟨wr.heap.size, 9, none⟩ = some (.string sm) ∧ w'.cell? ⟨wr.heap.size, 10, none⟩ = some (.slice aa na ca) ∧ w'.cell? ⟨wr.heap.size, 11, none⟩ = some (.slice pa np cp) ∧ w'.cell? ⟨wr.heap.size, 12, none⟩ = some (.slice ra nr cr) ∧ w'.cell? ⟨wr.heap.size, 13, none⟩ = some (.int .i64 sln) ∧ w'.cell? ⟨wr.heap.size, 14, none⟩ = some (.int .i64 scl)) w') := fun w' h => ⟨h.cell 2 _ rfl, h.cell 3 _ rfl, h.cell 4 _ rfl, h.cell 5 _ rfl, h.cell 6 _ rfl, h.cell 7 _ rfl, h.cell 8 _ rfl, h.cell 9 _ rfl, h.cell 10 _ rfl, h.cell 11 _ rfl, h.cell 12 _ rfl, h.cell 13 _ rfl, h.cell 14 _ rfl⟩
        clear m2 m3 m4 m5 m6 m7 n2 n3 n4 n5 n6 n7
        refine wp_region_held (S := fun w' => w'.cell? ⟨wr.heap.size, 2, none⟩ = some (.int .u8 (vk : Int)) ∧ w'.cell? ⟨wr.heap.size, 3, none⟩ = some (.int .i64 vn) ∧ w'.cell? ⟨wr.heap.size, 4, none⟩ = some (.string vm) ∧ w'.cell? ⟨wr.heap.size, 5, none⟩ = some (.slice va vl vc) ∧ w'.cell? ⟨wr.heap.size, 6, none⟩ = some (.int .i64 vln) ∧ w'.cell? ⟨wr.heap.size, 7, none⟩ = some (.int .i64 vcl) ∧ w'.cell? ⟨wr.heap.size, 8, none⟩ = some (.int .u8 (sk : Int)) ∧ w'.cell? ⟨wr.heap.size, 9, none⟩ = some (.string sm) ∧ w'.cell? ⟨wr.heap.size, 10, none⟩ = some (.slice aa na ca) ∧ w'.cell? ⟨wr.heap.size, 11, none⟩ = some (.slice pa np cp) ∧ w'.cell? ⟨wr.heap.size, 12, none⟩ = some (.slice ra nr cr) ∧ w'.cell? ⟨wr.heap.size, 13, none⟩ = some (.int .i64 sln) ∧ w'.cell? ⟨wr.heap.size, 14, none⟩ = some (.int .i64 scl)) (by kernel_rfl) ?_
        change wpAnyH _ _ _ _ _ _ _ _ (World.drew _)
        obtain ⟨W0, HW0⟩ : ∃ W0, Hid (w2.drew = W0) := ⟨_, rfl⟩
        have HB0 : Hid (Below w.heap.size w W0) := by show Below _ _ _; rw [← HW0.out]; exact HB2.out.drew
        have HI0 : Hid (Vn W0 wr.heap.size 36 #[.int .u8 (k : Int), .string nm, .int .u8 (vk : Int), .int .i64 vn, .string vm, .slice va vl vc, .int .i64 vln, .int .i64 vcl, .int .u8 (sk : Int), .string sm, .slice aa na ca, .slice pa np cp, .slice ra nr cr, .int .i64 sln, .int .i64 scl, .int .u8 (pl : Int), .slice la nl lc, .int .i64 ln, .int .i64 cl]) := by show Vn _ _ _ _; rw [← HW0.out]; exact HV2.out.later (drew_below10 _)
        rw [HW0.out]
        clear HW0
        refine wpAnyH_take (i := 0) (v := ?vm0_26) rfl (by kernel_rfl) (by kernel_rfl) (by kernel_rfl) (fun _ _ _ h => h) (Or.inl ⟨by rfl, ?ym0_26⟩) (HSa.out _ HI0.out) ?zm0_26
        case ym0_26 => (intro w hSw; (try dsimp only at hSw); go_simp; try with_reducible rfl)
        try simp only [nz1, nz3, Act.put, nz4, nz5, nz6]
        refine wpAnyH_take (i := 1) (v := ?vm1_27) rfl (by kernel_rfl) (by kernel_rfl) (by kernel_rfl) (fun _ _ _ h => h) (Or.inl ⟨by rfl, ?ym1_27⟩) (HSa.out _ HI0.out) ?zm1_27
        case ym1_27 => (intro w hSw; (try dsimp only at hSw); go_simp; try with_reducible rfl)
        try simp only [nz1, nz2, nz3, Act.put, nz4, nz5, nz6]
        refine wpAnyH_take (i := 3) (v := ?vm3_28) rfl (by kernel_rfl) (by kernel_rfl) (by kernel_rfl) (fun _ _ _ h => h) (Or.inl ⟨by rfl, ?ym3_28⟩) (HSa.out _ HI0.out) ?zm3_28
        case ym3_28 => (intro w hSw; (try dsimp only at hSw); go_simp; try with_reducible rfl)
        try simp only [nz1, nz2, nz3, Act.put, nz4, nz5, nz6]
        refine wpAnyH_ready (rs := [2]) (by kernel_rfl) (by simp) ?_
        refine AllReadyH.cons rfl (fun KK hKK => ?_) AllReadyH.nil
        go_simp
        refine (HTx.out _ HB0.out).mono ?_; rintro e WA ⟨rfl, hb⟩
        have HBA := jhid9 (jtwo HB0.out hb)
        have HIA := jhid9 (HI0.out.later hb)
        clear hb
        refine hKK.out _ _ (HSa.out _ HIA.out) (fun _ => ?_)
        clear hKK KK
        try simp only [nz1, nz2, nz3, Act.put, nz4, nz5, nz6]
        refine wpAnyH_take (i := 4) (v := ?vm4_29) rfl (by kernel_rfl) (by kernel_rfl) (by kernel_rfl) (fun _ _ _ h => h) (Or.inl ⟨by rfl, ?ym4_29⟩) (HSa.out _ HIA.out) ?zm4_29
        case ym4_29 => (intro w hSw; (try dsimp only at hSw); go_simp; try with_reducible rfl)
        try simp only [nz1, nz2, nz3, Act.put, nz4, nz5, nz6]
        refine wpAnyH_take (i := 5) (v := ?vm5_30) rfl (by kernel_rfl) (by kernel_rfl) (by kernel_rfl) (fun _ _ _ h => h) (Or.inl ⟨by rfl, ?ym5_30⟩) (HSa.out _ HIA.out) ?zm5_30
        case ym5_30 => (intro w hSw; (try dsimp only at hSw); go_simp; try with_reducible rfl)
        try simp only [nz1, nz2, nz3, Act.put, nz4, nz5, nz6]
        refine wpAnyH_take (i := 6) (v := ?vm6_31) rfl (by kernel_rfl) (by kernel_rfl) (by kernel_rfl) (fun _ _ _ h => h) (Or.inl ⟨by rfl, ?ym6_31⟩) (HSa.out _ HIA.out) ?zm6_31
        case ym6_31 => (intro w hSw; (try dsimp only at hSw); go_simp; try with_reducible rfl)
        try simp only [nz1, nz2, nz3, Act.put, nz4, nz5, nz6]
        refine wpAnyH_take (i := 7) (v := ?vm7_32) rfl (by kernel_rfl) (by kernel_rfl) (by kernel_rfl) (fun _ _ _ h => h) (Or.inl ⟨by rfl, ?ym7_32⟩) (HSa.out _ HIA.out) ?zm7_32
        case ym7_32 => (intro w hSw; (try dsimp only at hSw); go_simp; try with_reducible rfl)
        try simp only [nz1, nz2, nz3, Act.put, nz4, nz5, nz6]
        refine wpAnyH_take (i := 9) (v := ?vm9_33) rfl (by kernel_rfl) (by kernel_rfl) (by kernel_rfl) (fun _ _ _ h => h) (Or.inl ⟨by rfl, ?ym9_33⟩) (HSa.out _ HIA.out) ?zm9_33
        case ym9_33 => (intro w hSw; (try dsimp only at hSw); go_simp; try with_reducible rfl)
        try simp only [nz1, nz2, nz3, Act.put, nz4, nz5, nz6]
        refine wpAnyH_ready (rs := [8]) (by kernel_rfl) (by simp) ?_
        refine AllReadyH.cons rfl (fun KK hKK => ?_) AllReadyH.nil
        go_simp
        refine (HTd.out _ HBA.out).mono ?_; rintro e WC ⟨rfl, hb⟩
        have HBC := jhid9 (jtwo HBA.out hb)
        have HIC := jhid9 (HIA.out.later hb)
        clear hb
        refine hKK.out _ _ (HSa.out _ HIC.out) (fun _ => ?_)
        clear hKK KK
        try simp only [nz1, nz2, nz3, Act.put, nz4, nz5, nz6]
        refine wpAnyH_take (i := 10) (v := ?vm10_34) rfl (by kernel_rfl) (by kernel_rfl) (by kernel_rfl) (fun _ _ _ h => h) (Or.inl ⟨by rfl, ?ym10_34⟩) (HSa.out _ HIC.out) ?zm10_34
        case ym10_34 => (intro w hSw; (try dsimp only at hSw); go_simp; try with_reducible rfl)
        try simp only [nz1, nz2, nz3, Act.put, nz4, nz5, nz6]
        refine wpAnyH_take (i := 11) (v := ?vm11_35) rfl (by kernel_rfl) (by kernel_rfl) (by kernel_rfl) (fun _ _ _ h => h) (Or.inl ⟨by rfl, ?ym11_35⟩) (HSa.out _ HIC.out) ?zm11_35
        case ym11_35 => (intro w hSw; (try dsimp only at hSw); go_simp; try with_reducible rfl)
        try simp only [nz1, nz2, nz3, Act.put, nz4, nz5, nz6]
        refine wpAnyH_take (i := 12) (v := ?vm12_36) rfl (by kernel_rfl) (by kernel_rfl) (by kernel_rfl) (fun _ _ _ h => h) (Or.inl ⟨by rfl, ?ym12_36⟩) (HSa.out _ HIC.out) ?zm12_36
        case ym12_36 => (intro w hSw; (try dsimp only at hSw); go_simp; try with_reducible rfl)
        try simp only [nz1, nz2, nz3, Act.put, nz4, nz5, nz6]
        refine wpAnyH_take (i := 13) (v := ?vm13_37) rfl (by kernel_rfl) (by kernel_rfl) (by kernel_rfl) (fun _ _ _ h => h) (Or.inl ⟨by rfl, ?ym13_37⟩) (HSa.out _ HIC.out) ?zm13_37
        case ym13_37 => (intro w hSw; (try dsimp only at hSw); go_simp; try with_reducible rfl)
        try simp only [nz1, nz2, nz3, Act.put, nz4, nz5, nz6]
        refine wpAnyH_take (i := 14) (v := ?vm14_38) rfl (by kernel_rfl) (by kernel_rfl) (by kernel_rfl) (fun _ _ _ h => h) (Or.inl ⟨by rfl, ?ym14_38⟩) (HSa.out _ HIC.out) ?zm14_38
        case ym14_38 => (intro w hSw; (try dsimp only at hSw); go_simp; try with_reducible rfl)
        try simp only [nz1, nz2, nz3, Act.put, nz4, nz5, nz6]
        refine wpAnyH_take (i := 16) (v := ?vm16_39) rfl (by kernel_rfl) (by kernel_rfl) (by kernel_rfl) (fun _ _ _ h => h) (Or.inl ⟨by rfl, ?ym16_39⟩) (HSa.out _ HIC.out) ?zm16_39
        case ym16_39 => (intro w hSw; (try dsimp only at hSw); go_simp; try with_reducible rfl)
        try simp only [nz1, nz2, nz3, Act.put, nz4, nz5, nz6]
        refine wpAnyH_take (i := 17) (v := ?vm17_40) rfl (by kernel_rfl) (by kernel_rfl) (by kernel_rfl) (fun _ _ _ h => h) (Or.inl ⟨by rfl, ?ym17_40⟩) (HSa.out _ HIC.out) ?zm17_40
        case ym17_40 => (intro w hSw; (try dsimp only at hSw); go_simp; try with_reducible rfl)
        try simp only [nz1, nz2, nz3, Act.put, nz4, nz5, nz6]
        refine wpAnyH_ready (rs := [15]) (by kernel_rfl) (by simp) ?_
        refine AllReadyH.cons rfl (fun KK hKK => ?_) AllReadyH.nil
        go_simp
        refine (HTs.out _ HBC.out).mono ?_; rintro e WD ⟨rfl, hb⟩
        have HBD := jhid9 (jtwo HBC.out hb)
        have HID := jhid9 (HIC.out.later hb)
        clear hb
        refine hKK.out _ _ (HSa.out _ HID.out) (fun _ => ?_)
        clear hKK KK
        try simp only [nz1, nz2, nz3, Act.put, nz4, nz5, nz6]
        refine wpAnyH_ready (rs := [18]) (by kernel_rfl) (by simp) ?_
        refine AllReadyH.cons rfl (fun KK hKK => ?_) AllReadyH.nil
        go_simp
        refine (HRs.out _ HBD.out).mono ?_; rintro e WE ⟨rfl, hb⟩
        have HBE := jhid9 (jtwo HBD.out hb)
        have HIE := jhid9 (HID.out.later hb)
        clear hb
        refine hKK.out _ _ (HSa.out _ HIE.out) (fun _ => ?_)
        clear hKK KK
        try simp only [nz1, nz2, nz3, Act.put, nz4, nz5, nz6]
        refine wpAnyH_take (i := 19) (v := ?vm19_41) rfl (by kernel_rfl) (by kernel_rfl) (by kernel_rfl) (fun _ _ _ h => h) (Or.inl ⟨by rfl, ?ym19_41⟩) (HSa.out _ HIE.out) ?zm19_41
        case ym19_41 => (intro w hSw; (try dsimp only at hSw); go_simp; try with_reducible rfl)
        try simp only [nz1, nz2, nz3, Act.put, nz4, nz5, nz6]
        refine wpAnyH_take (i := 20) (v := ?vm20_42) rfl (by kernel_rfl) (by kernel_rfl) (by kernel_rfl) (fun _ _ _ h => h) (Or.inl ⟨by rfl, ?ym20_42⟩) (HSa.out _ HIE.out) ?zm20_42
        case ym20_42 => (intro w hSw; (try dsimp only at hSw); go_simp; try with_reducible rfl)
        try simp only [nz1, nz2, nz3, Act.put, nz4, nz5, nz6]
        refine wpAnyH_take (i := 21) (v := ?vm21_43) rfl (by kernel_rfl) (by kernel_rfl) (by kernel_rfl) (fun _ _ _ h => h) (Or.inl ⟨by rfl, ?ym21_43⟩) (HSa.out _ HIE.out) ?zm21_43
        case ym21_43 => (intro w hSw; (try dsimp only at hSw); go_simp; try with_reducible rfl)
        try simp only [nz1, nz2, nz3, Act.put, nz4, nz5, nz6]
        refine wpAnyH_take (i := 25) (v := ?vm25_44) rfl (by kernel_rfl) (by kernel_rfl) (by kernel_rfl) (fun _ _ _ h => h) (Or.inl ⟨by rfl, ?ym25_44⟩) (HSa.out _ HIE.out) ?zm25_44
        case ym25_44 => (intro w hSw; (try dsimp only at hSw); go_simp; try with_reducible rfl)
        try simp only [nz1, nz2, nz3, Act.put, nz4, nz5, nz6]
        refine wpAnyH_take (i := 26) (v := ?vm26_45) rfl (by kernel_rfl) (by kernel_rfl) (by kernel_rfl) (fun _ _ _ h => h) (Or.inl ⟨by rfl, ?ym26_45⟩) (HSa.out _ HIE.out) ?zm26_45
        case ym26_45 => (intro w hSw; (try dsimp only at hSw); go_simp; try with_reducible rfl)
        try simp only [nz1, nz2, nz3, Act.put, nz4, nz5, nz6]
        refine wpAnyH_take (i := 27) (v := ?vm27_46) rfl (by kernel_rfl) (by kernel_rfl) (by kernel_rfl) (fun _ _ _ h => h) (Or.inl ⟨by rfl, ?ym27_46⟩) (HSa.out _ HIE.out) ?zm27_46
        case ym27_46 => (intro w hSw; (try dsimp only at hSw); go_simp; try with_reducible rfl)
        try simp only [nz1, nz2, nz3, Act.put, nz4, nz5, nz6]
        refine wpAnyH_take (i := 28) (v := ?vm28_47) rfl (by kernel_rfl) (by kernel_rfl) (by kernel_rfl) (fun _ _ _ h => h) (Or.inl ⟨by rfl, ?ym28_47⟩) (HSa.out _ HIE.out) ?zm28_47
        case ym28_47 => (intro w hSw; (try dsimp only at hSw); go_simp; try with_reducible rfl)
        try simp only [nz1, nz2, nz3, Act.put, nz4, nz5, nz6]
        refine wpAnyH_take (i := 29) (v := ?vm29_48) rfl (by kernel_rfl) (by kernel_rfl) (by kernel_rfl) (fun _ _ _ h => h) (Or.inl ⟨by rfl, ?ym29_48⟩) (HSa.out _ HIE.out) ?zm29_48
        case ym29_48 => (intro w hSw; (try dsimp only at hSw); go_simp; try with_reducible rfl)
        try simp only [nz1, nz2, nz3, Act.put, nz4, nz5, nz6]
        refine wpAnyH_ready (rs := [22]) (by kernel_rfl) (by simp) ?_
        refine AllReadyH.cons rfl (fun KK hKK => ?_) AllReadyH.nil
        refine wp_load_row 36 _ rfl wr.heap.size rfl 36 #[.int .u8 (k : Int), .string nm, .int .u8 (vk : Int), .int .i64 vn, .string vm, .slice va vl vc, .int .i64 vln, .int .i64 vcl, .int .u8 (sk : Int), .string sm, .slice aa na ca, .slice pa np cp, .slice ra nr cr, .int .i64 sln, .int .i64 scl, .int .u8 (pl : Int), .slice la nl lc, .int .i64 ln, .int .i64 cl] (0, 0) _ HIE.out Tryd.underlying36 rfl sizeI ?_
        refine hKK.out _ _ (HSa.out _ HIE.out) (fun _ => ?_)
        clear hKK KK
        try simp only [nz1, nz2, nz3, Act.put, nz4, nz5, nz6]
        refine wpAnyH_ready (rs := [23]) (by kernel_rfl) (by simp) ?_
        refine AllReadyH.cons rfl (fun KK hKK => ?_) AllReadyH.nil
        refine wp_build1 _ rfl _ _ _ _ _ _ _ _ _ _ _ _ _ _ _ _ _ _ _ rfl ?_
        have hal := jlow WE (.cells #[.int .u8 (k : Int), .string nm, .int .u8 (vk : Int), .int .i64 vn, .string vm, .slice va vl vc, .int .i64 vln, .int .i64 vcl, .int .u8 (sk : Int), .string sm, .slice aa na ca, .slice pa np cp, .slice ra nr cr, .int .i64 sln, .int .i64 scl, .int .u8 (pl : Int), .slice la nl lc, .int .i64 ln, .int .i64 cl] 36)
        have HBF := jhid9 (jtwo HBE.out hal)
        have HIF := jhid9 (HIE.out.later hal)
        have HGF := jhid9 (Vn.new WE 36 #[.int .u8 (k : Int), .string nm, .int .u8 (vk : Int), .int .i64 vn, .string vm, .slice va vl vc, .int .i64 vln, .int .i64 vcl, .int .u8 (sk : Int), .string sm, .slice aa na ca, .slice pa np cp, .slice ra nr cr, .int .i64 sln, .int .i64 scl, .int .u8 (pl : Int), .slice la nl lc, .int .i64 ln, .int .i64 cl])
        clear hal
        refine hKK.out _ _ (HSa.out _ HIF.out) (fun _ => ?_)
        clear hKK KK
        try simp only [nz1, nz2, nz3, Act.put, nz4, nz5, nz6]
        refine wpAnyH_ready (rs := [24]) (by kernel_rfl) (by simp) ?_
        refine AllReadyH.cons rfl (fun KK hKK => ?_) AllReadyH.nil
        go_simp
        refine (HTi.out _ _ HBF.out HGF.out).mono ?_; rintro e WG ⟨rfl, hb⟩
        have HBG := jhid9 (jtwo HBF.out hb)
        have HIG := jhid9 (HIF.out.later hb)
        clear hb
        refine hKK.out _ _ (HSa.out _ HIG.out) (fun _ => ?_)
        clear hKK KK
        try simp only [nz1, nz2, nz3, Act.put, nz4, nz5, nz6]
        refine wpAnyH_ready (rs := [30]) (by kernel_rfl) (by simp) ?_
        refine AllReadyH.cons rfl (fun KK hKK => ?_) AllReadyH.nil
        go_simp
        refine (HRi.out _ HBG.out).mono ?_; rintro e WH ⟨rfl, hb⟩
        have HBH := jhid9 (jtwo HBG.out hb)
        have HIH := jhid9 (HIG.out.later hb)
        clear hb
        refine hKK.out _ _ (HSa.out _ HIH.out) (fun _ => ?_)
        clear hKK KK
        try simp only [nz1, nz2, nz3, Act.put, nz4, nz5, nz6]
        refine wpAnyH_take (i := 31) (v := ?vm31_49) rfl (by kernel_rfl) (by kernel_rfl) (by kernel_rfl) (fun _ _ _ h => h) (Or.inl ⟨by rfl, ?ym31_49⟩) (HSa.out _ HIH.out) ?zm31_49
        case ym31_49 => (intro w hSw; (try dsimp only at hSw); go_simp; try with_reducible rfl)
        try simp only [nz1, nz2, nz3, Act.put, nz4, nz5, nz6]
        refine wpAnyH_take (i := 32) (v := ?vm32_50) rfl (by kernel_rfl) (by kernel_rfl) (by kernel_rfl) (fun _ _ _ h => h) (Or.inl ⟨by rfl, ?ym32_50⟩) (HSa.out _ HIH.out) ?zm32_50
        case ym32_50 => (intro w hSw; (try dsimp only at hSw); go_simp; try with_reducible rfl)
        try simp only [nz1, nz2, nz3, Act.put, nz4, nz5, nz6]
        refine wpAnyH_done (by kernel_rfl) ?_ _
        go_wp2
        exact ⟨⟨i + 1, by omega, by go_num, HBH.out⟩, by simp [intOf]; omega⟩
    · obtain rfl : i = len0 := by omega
      clear hb
      go_wp2_with (first
        | (go_at_call 16; refine (HT.out _ HB.out).mono ?_; rintro e w3 ⟨rfl, hb3⟩; have HB3 := jhid9 (jtwo HB.out hb3); clear hb3)
        | (go_at_call 17; refine (HR.out _ HB3.out).mono ?_; rintro e w4 ⟨rfl, hb4⟩; have HB4 := jhid9 (jtwo HB3.out hb4); clear hb4)
        | (go_at_call 9; refine (HA.out _ HB4.out).mono ?_; rintro e w5 ⟨rfl, hb5⟩; have HB5 := jhid9 (jtwo HB4.out hb5); clear hb5))
      go_ret
      exact ⟨rfl, HB5.out⟩
set_option maxRecDepth 100000 in
set_option maxHeartbeats 2000000 in
theorem lifted (os : Os) (started : os.Started) (H : Type) (enc : TypeId × Value → H) :
    ReturnsInHanded {} Tryd.checked os 4 .any (fun w args => (Rows.treeMaysSpec.pre enc Tryd.prog Tryd.f4 [] false w args ∧ laidMetH Tryd.prog laidL w) ∧ sizedMet enc Tryd.prog Tryd.f4 (OpenSpec.ofChange Rows.treeMaysSpec) false w args)
      (Rows.treeMaysSpec.post enc Tryd.prog Tryd.f4 false true false false) := by
  refine returnsInHanded_of_change_and (C := Tryd.checked) (X := fun w _ => laidMetH Tryd.prog laidL w) (fun _ _ _ hh h => h.of_heap hh) own started (by kernel_rfl) Tryd.func4
    (ChangeSpec.witness_shaped (enc := enc) (C := Tryd.checked) (os := os) (X := fun w _ => laidMetH Tryd.prog laidL w) false (World.doorLaid Tryd.prog 4000 os) #[.slice none 0 0] 8 rfl (World.shaped_of_RefB (by kernel_rfl) (by kernel_rfl)) (by kernel_rfl) (by kernel_rfl) (by kernel_rfl) (door_met os _)) ?_
  intro W base args ds gs before hval0 hW hcnd hsz0 hL _
  have hsz : (DataW.weightsEach Tryd.prog (Tryd.f4.params.toList ++ Rows.treeMaysSpec.plain.varTypes Tryd.prog) (ds ++ gs)).all (· ≤ reachBytes) = true := hsz0
  clear hsz0
  have hval : ∀ (j : Nat) t v, Tryd.f4.params[j]? = some t → args[j]? = some v → Value.okWide Tryd.prog W .any base t v := hval0
  have hW' := hW
  obtain ⟨p, q, hA0, hV, rfl, hfz, hnd⟩ := hW
  have hA : DataW.TrodAll enc Tryd.prog W 0 (fun _ => true) true Tryd.f4.params.toList args.toList ds p := hA0
  rw [Tryd.params4] at hA hval hsz
  obtain ⟨va0, vs0, d0, ds0, p0, q0, hargs0, rfl, rfl, h0, tr0⟩ := trodAll_cons hA
  obtain ⟨rfl, rfl, rfl⟩ := trodAll_nil tr0
  obtain rfl : args = #[va0] := by cases args; simp_all
  obtain ⟨rfl, rfl⟩ := trodVars_none hV
  have k0 := h0
  have lt0 : ∀ x ∈ p0, x.block < W.heap.size := by obtain ⟨m, hm⟩ := k0; exact DataW.trod_lt m _ _ _ hm
  have hL0 := hL
  rw [MakeChecks.laidMetH_plain _ _ _ (by kernel_rfl)] at hL0
  obtain ⟨a0, len0, cap0, F0, rfl, l0, w0⟩ : ∃ (a : Option Addr) (len cap : Nat) (F : Nat → It), va0 = .slice a len cap ∧ len ≤ 549755813888 ∧ Its W a len F := by
    obtain ⟨fuel, hf⟩ := h0
    obtain ⟨a, len, cap, rfl⟩ := okWide_slice Tryd.underlying23 (hval 0 23 va0 rfl rfl)
    exact its_in (by simpa [Value.cells] using hf) (List.all_eq_true.2 fun n hn => List.all_eq_true.1 hsz n (DataW.weights_mem_each (j := 0) rfl rfl n hn))
  have c0 : len0 ≤ cap0 := by
    obtain ⟨fuel, hf⟩ := h0
    exact cap_in (fuel := fuel) (by simpa [Value.cells] using hf)
  clear hA0 hval0
  refine (walk a0 len0 cap0 F0 W w0 l0 c0 (of_pow hL0) (of_words hL0) (of_Xs10 hL0)).mono fun e W' ⟨he, bel⟩ => ?_
  subst he
  exact ⟨_, rfl, _, _, _, [], _, [], hW', trodAll_mk1 (shut_bool Tryd.underlying4 _), (trodAll_cons_mk (Below.trod laidOut (by kernel_rfl) (of_decide_eq_true (by kernel_rfl)) k0 bel lt0) trodAll_mk0), rfl, bel.frame _, fun h => by cases h⟩
theorem over : Rows.TreeMaysSaid :=
  OpenClaim.holds_of_wide 4 Tryd.f4 rfl rfl rfl rfl rfl rfl rfl ⟨rfl, rfl, rfl, rfl, rfl⟩ rfl rfl rfl rfl rfl (by kernel_rfl) Tryd.func4 (by kernel_rfl)
    (of_decide_eq_true (by kernel_rfl)) (by unfold Func.isWrapper; first | (rw [if_pos (by decide +kernel)]; kernel_rfl) | (rw [if_neg (by decide +kernel)]; exact ⟨rfl, rfl⟩))
    (fun os started H enc _ => lifted os started H enc)
theorem proved : Rows.TreeMaysCardSaid :=
  Claim7.holds_tied_plain_at .later [] [.data, .data, .data, .data, .data] true (true, "f75ffb74e37c39cd96e6aded352265c1cb9c7583dc056a7ebaffed3d53f4923d") false
    over (fun _ h => by cases h) (by kernel_rfl) (fun _ h => by cases h) treeMays_row_tie rfl ⟨rfl, rfl⟩ (by kernel_rfl) rfl
    (fun f fn hf hfn => by
      obtain rfl : f = 4 := Option.some.inj ((show Tryd.prog.funcNamed "recoup/recouplaw10.TreeMays" = some 4 by kernel_rfl).symm.trans hf) |>.symm
      obtain rfl : fn = Tryd.f4 := (Option.some.inj (Tryd.func4.symm.trans hfn)).symm
      exact ⟨by kernel_rfl, fun j t ht => by
        rw [Tryd.params4] at ht
        have hm : t ∈ [23] := by simpa using Array.mem_of_getElem? ht
        have hall : ([23].all fun u => !Tryd.prog.wantsStandIn u) = true := by kernel_rfl
        exact (show Tryd.prog.wantsStandIn t = false by simpa using List.all_eq_true.1 hall t hm)⟩)
    (by kernel_rfl)
#print axioms proved
end Go.Proofs.YtdimkfcanegahaaDoor.treeMays
