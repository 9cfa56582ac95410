/-
  Proved: for every n and k, and every number of sets to be looked at: the program's All tells the document's sets in their order, may be left early, and tells them again (P6.3); no condition.
-/
import Derived.Test.YtpmhpakjlagfjaaJg
import Derived.Test.YtpmhpakjlagfjaaJu
import Derived.WalkKit
import Derived.ProofKit
import Derived.OpenShut
import Derived.ShutString
namespace Go.Proofs.Ytpmhpakjlagfjaa.subsetAll
open Go.ChangeShapes Go.WideShapes Go.ChangeAt Go.RowKit
open Go.ChangeMaps (open_string shut_string)
set_option linter.unusedVariables false      -- a walk need not use every 'w<i>' (that an integer argument fits its kind)

theorem own : ownKnob Try.prog.godebug = none := by kernel_rfl

theorem u16_of_wf6 {n : Int} (h : (Lit.int .u16 n).wf = true) : ∃ x : Nat, n = (x : Int) ∧ x < 65536 := by
  simp [Lit.wf, IntKind.min, IntKind.max, IntKind.signed, IntKind.bits] at h
  exact ⟨n.toNat, by omega, by omega⟩
attribute [local go_sem] Oper.semAt_some

/-! ### STEP 1: THE WALK: the Go text returns true. 'Grown w w'': the world has at most new blocks (Derived/RowKit3.lean). Part the cases AHEAD of 'go_enter' where a test parts the walk; take each callee by a contract of your own. -/
set_option maxHeartbeats 4000000 in
set_option maxRecDepth 20000 in
theorem walk (a0 : Int) (a1 : Int) (a2 : Int) (w0 : (Lit.int .i64 a0).wf = true) (w1 : (Lit.int .i64 a1).wf = true) (w2 : (Lit.int .u16 a2).wf = true) (w : World) :
    Calls Try.prog 6 #[.int .i64 a0, .int .i64 a1, .int .u16 a2] w fun e w' => e = .returned (.bool true) ∧ Below w.heap.size w w' := by
  obtain ⟨y, rfl, hy⟩ := u16_of_wf6 w2
  obtain ⟨M, hM⟩ : ∃ M, y + 1 = M := ⟨_, rfl⟩
  have e1 : (y : Int) + 1 = (M : Int) := by omega
  obtain ⟨C, f, ix, L, hF, hL, hR⟩ := all_facts a0 a1 M (by omega)
  have HF : Hid (AllF a0 a1 C f ix) := hF
  have HR : Hid (∀ w : World, Calls Try.prog 27 #[.int .i64 a0, .int .i64 a1, .int .i64 (M : Int)] w fun e w' => ∃ x d, e = .returned (.slice x L d) ∧ Jo w' w.heap.size 24 .u64 (.slice x L d) L f ∧ Below w.heap.size w w') := hR
  clear hF hR w0 w1 w2
  obtain ⟨wb, HW, HM0, HR0, hsb, HBb⟩ : ∃ wb, Hid (wb = (w.alloc (.cells #[.int .u16 (y : Int)] 45)).alloc (.cells #[.bool false] 4)) ∧ Hid (Cl wb w.heap.size (.int .u16 (y : Int)) 45) ∧ Hid (Cl wb (w.heap.size + 1) (.bool false) 4) ∧ wb.heap.size = w.heap.size + 2 ∧ Hid (Below w.heap.size w wb) :=
    ⟨_, rfl, heap_alloc2_old _ _ _, heap_alloc2_new _ _ _, by simp, jtwo (jlow _ _) (jlow _ _)⟩
  have hnil := fn_nil
  refine (callsIn_wide (n := 4)).1 (callsIn_of_wp_marks Try.func6 rfl trivial ?_ rfl)
  simp only [Try.ntmps6, List.size_toArray, List.length_cons, List.length_nil, Nat.reduceAdd, Nat.reduceSub, Array.replicate_succ, Array.replicate_zero, List.push_toArray, List.append_toArray, List.nil_append, List.cons_append]
  refine wpIn_wide.2 ?_
  go_wp2_with (first
    | (go_at_call 25; rw [← HW.out]; refine (anch6_any _).mono ?_; rintro e w1 ⟨rfl, hb⟩; have HB1 : Hid (Below wb.heap.size wb w1) := hb; clear hb)
    | (go_at_call 26; have _x := HB4; refine (jall_any _ _ _).mono ?_; rintro e w6 ⟨rfl, n6, k6, s6, hb6⟩; have HB6 : Hid (Below wb.heap.size wb w6) := jtwo (jtwo HB4.out (jlow _ _)) hb6; have HL6 : Hid (Cl w6 w4.heap.size (.slice xs L d4) 50) := (Cl.new _ _ _).later hb6; have HJ6 : Hid (Jo w6 w3.heap.size 24 .u64 (.slice xs L d4) L f) := HJ4.out.later (jtwo (jlow _ _) hb6); rw [World.size_alloc] at n6 k6 s6; have HN6 : Hid (w6.cell? ⟨w4.heap.size + 1, 0, none⟩ = some (.int .i64 a0)) := n6; have HK6 : Hid (w6.cell? ⟨w4.heap.size + 1 + 1, 0, none⟩ = some (.int .i64 a1)) := k6; clear hb6 n6 k6)
    | (go_at_call 26; have _x := HB2; refine (jall_any _ _ _).mono ?_; rintro e w3 ⟨rfl, _, _, _, hb⟩; have HB3 : Hid (Below wb.heap.size wb w3) := jtwo HB2.out hb; have m3 := (HM0.out.later HB3.out).cell; clear hb)
    | (go_at_call 26; have _x := HB1; refine (jall_any _ _ _).mono ?_; rintro e w2 ⟨rfl, _, _, _, hb⟩; have HB2 : Hid (Below wb.heap.size wb w2) := jtwo HB1.out hb; clear hb)
    | (go_at_call 27; refine (HR.out _).mono ?_; rintro e w4 ⟨xs, d4, rfl, hj, hb⟩; have HJ4 : Hid (Jo w4 w3.heap.size 24 .u64 (.slice xs L d4) L f) := hj; have HB4 : Hid (Below wb.heap.size wb w4) := jtwo HB3.out hb; clear hj hb))
  have HM6 : Hid (Cl w6 w.heap.size (.int .u16 (y : Int)) 45) := HM0.out.later HB6.out
  have HR6 : Hid (Cl w6 (w.heap.size + 1) (.bool false) 4) := HR0.out.later HB6.out
  have hw6 := HR6.out.lt
  have hw46 := HL6.out.lt
  clear HR HM0 HR0 m3 HJ4 HB1 HB2 HB3 HB4 hnil HW
  refine wp_loop (fun a W => ∃ (i : Nat) (ds : List Deferred) (u10 u11 u33 u34 u35 u36 u37 u38 u39 u40 u41 u42 u43 u44 u45 u46 u47 u48 u49 u50 u51 u52 u53 u54 u55 u56 u57 u58 u59 u60 u61 u62 : Value), i ≤ 2 ∧ ds.length = i ∧ a = { tmps := #[Value.int IntKind.i64 a0, Value.int IntKind.i64 a1, Value.int IntKind.u16 (y : Int), undef, undef, Value.pointer (some { block := w.heap.size, off := 0 }), Value.pointer (some { block := w.heap.size + 1, off := 0 }), Value.pointer (some { block := w4.heap.size, off := 0 }), Value.func (Fn.func 39) #[] #[Value.pointer (some { block := w4.heap.size + 1, off := 0 }), Value.pointer (some { block := w4.heap.size + 1 + 1, off := 0 })], Value.int IntKind.i64 (i : Int), u10, u11, Value.bool true, Value.bool false, Value.bool false, Value.func (Fn.func 39) #[] #[Value.pointer (some { block := w1.heap.size, off := 0 }), Value.pointer (some { block := w1.heap.size + 1, off := 0 })], Value.bool false, Value.bool false, Value.bool false, Value.int IntKind.i64 a0, Value.int IntKind.i64 a1, Value.func (Fn.func 39) #[] #[Value.pointer (some { block := w1.heap.size + 2, off := 0 }), Value.pointer (some { block := w1.heap.size + 2 + 1, off := 0 })], Value.bool false, Value.bool false, Value.int IntKind.i64 a0, Value.int IntKind.i64 a1, Value.int IntKind.u16 (y : Int), Value.int IntKind.i64 (y : Int), Value.int IntKind.i64 (M : Int), Value.slice xs L d4, Value.int IntKind.i64 a0, Value.int IntKind.i64 a1, Value.func (Fn.func 39) #[] #[Value.pointer (some { block := w4.heap.size + 1, off := 0 }), Value.pointer (some { block := w4.heap.size + 1 + 1, off := 0 })], u33, u34, u35, u36, u37, u38, u39, u40, u41, u42, u43, u44, u45, u46, u47, u48, u49, u50, u51, u52, u53, u54, u55, u56, u57, u58, u59, u60, u61, u62], defers := ds } ∧ Below w6.heap.size w6 W ∧ DOk W w6.heap.size W.heap.size ds) (fun a _ => 2 - (intOf (a.tmps.getD 9 undef)).toNat) ?hstart ?hround
  case hstart => exact ⟨0, [], _, _, _, _, _, _, _, _, _, _, _, _, _, _, _, _, _, _, _, _, _, _, _, _, _, _, _, _, _, _, _, _, by omega, rfl, rfl, Below.refl _ _, trivial⟩
  case hround =>
    rintro a W ⟨i, ds, u10, u11, u33, u34, u35, u36, u37, u38, u39, u40, u41, u42, u43, u44, u45, u46, u47, u48, u49, u50, u51, u52, u53, u54, u55, u56, u57, u58, u59, u60, u61, u62, hi, hds, rfl, hBW, hDW⟩
    have HBW : Hid (Below w6.heap.size w6 W) := hBW
    have HDW : Hid (DOk W w6.heap.size W.heap.size ds) := hDW
    have hszW := hBW.size
    clear hBW hDW
    by_cases hlt : i < 2
    · have c1 : decide ((i : Int) < 2) = true := decide_eq_true (by omega)
      go_wp2
      obtain ⟨Wa, HWa⟩ : ∃ Wa, Hid (Wa = W.alloc (.cells #[.int .i64 0] 3)) := ⟨_, rfl⟩
      have hsa : Wa.heap.size = W.heap.size + 1 := by rw [HWa.out]; simp
      have HCa : Hid (Cl Wa W.heap.size (.int .i64 0) 3) := by rw [HWa.out]; exact Cl.new _ _ _
      have HBa : Hid (Below W.heap.size W Wa) := by rw [HWa.out]; exact jlow _ _
      rw [← HWa.out]
      have HKeep : Hid (∀ W', Wa.grownBy W' (some W.heap.size) → ∀ b, b < w6.heap.size → W'.heap[b]? = w6.heap[b]?) := fun W' hg b hb => by
        rw [hg.block b (by omega) (fun e => by cases e; omega), HBa.out.block b (by omega), HBW.out.block b hb]
      refine (wpIn_wide (n := 4)).1 ?_
      refine range_all (nn := 4) (C := C) (bn := w4.heap.size + 1) (bk := w4.heap.size + 1 + 1) (b := 2) a0 a1 f ix
        (fun j W' => j < M ∧ Wa.grownBy W' (some W.heap.size) ∧ Cl W' W.heap.size (.int .i64 (j : Int)) 3)
        (fun W' => Wa.grownBy W' (some W.heap.size) ∧ Cl W' W.heap.size (.int .i64 (L : Int)) 3)
        (by omega) HF.out.ix HF.out.a0 HF.out.a1 HF.out.n1 HF.out.n0 rfl ?hKp ?hKx ?hKc ⟨by omega, World.grownBy.refl _ _, HCa.out⟩
        (fun s => { tmps := #[Value.int IntKind.i64 a0, Value.int IntKind.i64 a1, Value.int IntKind.u16 (y : Int), undef, undef, Value.pointer (some { block := w.heap.size, off := 0 }), Value.pointer (some { block := w.heap.size + 1, off := 0 }), Value.pointer (some { block := w4.heap.size, off := 0 }), Value.func (Fn.func 39) #[] #[Value.pointer (some { block := w4.heap.size + 1, off := 0 }), Value.pointer (some { block := w4.heap.size + 1 + 1, off := 0 })], Value.int IntKind.i64 (i : Int), Value.pointer (some { block := W.heap.size, off := 0 }), Value.int IntKind.u64 (s : Int), Value.bool true, Value.bool false, Value.bool false, Value.func (Fn.func 39) #[] #[Value.pointer (some { block := w1.heap.size, off := 0 }), Value.pointer (some { block := w1.heap.size + 1, off := 0 })], Value.bool false, Value.bool false, Value.bool false, Value.int IntKind.i64 a0, Value.int IntKind.i64 a1, Value.func (Fn.func 39) #[] #[Value.pointer (some { block := w1.heap.size + 2, off := 0 }), Value.pointer (some { block := w1.heap.size + 2 + 1, off := 0 })], Value.bool false, Value.bool false, Value.int IntKind.i64 a0, Value.int IntKind.i64 a1, Value.int IntKind.u16 (y : Int), Value.int IntKind.i64 (y : Int), Value.int IntKind.i64 (M : Int), Value.slice xs L d4, Value.int IntKind.i64 a0, Value.int IntKind.i64 a1, Value.func (Fn.func 39) #[] #[Value.pointer (some { block := w4.heap.size + 1, off := 0 }), Value.pointer (some { block := w4.heap.size + 1 + 1, off := 0 })], Value.int IntKind.i64 (i : Int), Value.bool true, u35, u36, Value.func (Fn.func 39) #[] #[Value.pointer (some { block := w4.heap.size + 1, off := 0 }), Value.pointer (some { block := w4.heap.size + 1 + 1, off := 0 })], Value.int IntKind.u64 (s : Int), u39, u40, u41, u42, u43, u44, u45, u46, u47, u48, u49, u50, u51, u52, u53, u54, u55, u56, u57, u58, u59, u60, u61, u62], defers := [] }) ?hassign ?hbody ?hdone ?hstop
      case hKp =>
        rintro j W1 W2 row ⟨h1, h2, h3⟩ hg hrow
        exact ⟨h1, jgrown_high h2 hg hrow, h3.kept hg (fun e => by have := hrow _ e; omega)⟩
      case hKx =>
        rintro W1 W2 row ⟨h2, h3⟩ hg hrow
        exact ⟨jgrown_high h2 hg hrow, h3.kept hg (fun e => by have := hrow _ e; omega)⟩
      case hKc =>
        rintro j W1 ⟨_, h2, _⟩
        have l1 := jcell_lt HN6.out
        have l2 := jcell_lt HK6.out
        exact ⟨by rw [World.cell?_of_block (a := ⟨w4.heap.size + 1, 0, none⟩) (HKeep.out W1 h2 _ l1)]; exact HN6.out, by rw [World.cell?_of_block (a := ⟨w4.heap.size + 1 + 1, 0, none⟩) (HKeep.out W1 h2 _ l2)]; exact HK6.out⟩
      case hassign =>
        intro l s W1 K hK
        gi_wp2
        exact hK
      case hbody =>
        rintro l j W1 hj ⟨hjM, hg, hc⟩
        have HG1 : Hid (Wa.grownBy W1 (some W.heap.size)) := hg
        have HC1 : Hid (Cl W1 W.heap.size (.int .i64 (j : Int)) 3) := hc
        have hs1 := hg.size
        have a1c := hc.cell
        have a1f := hc.free
        have hjL : j < L := by omega
        obtain ⟨g, rfl, hgl, hg6⟩ := HJ6.out.addr (by omega)
        have l1 : W1.cell? ⟨w4.heap.size, 0, none⟩ = some (.slice (some ⟨g, 0, none⟩) L d4) := by rw [World.cell?_of_block (a := ⟨w4.heap.size, 0, none⟩) (HKeep.out W1 hg _ hw46)]; exact HL6.out.cell
        have x1 : W1.cell? ⟨g, j, none⟩ = some (.int .u64 (f j : Nat)) := by rw [World.cell?_of_block (a := ⟨g, j, none⟩) (HKeep.out W1 hg _ hg6)]; exact HJ6.out.cell j hjL
        have m1 : W1.cell? ⟨w.heap.size, 0, none⟩ = some (.int .u16 (y : Int)) := by rw [World.cell?_of_block (a := ⟨w.heap.size, 0, none⟩) (HKeep.out W1 hg _ (show w.heap.size < w6.heap.size by omega))]; exact HM6.out.cell
        obtain ⟨z, HZ⟩ : ∃ z, Hid (f j = z) := ⟨_, rfl⟩
        rw [HZ.out] at x1 ⊢
        obtain ⟨j', hj'⟩ : ∃ j', j + 1 = j' := ⟨_, rfl⟩
        have e2 : (j : Int) + 1 = (j' : Int) := by omega
        have p0 : (0 : Int) ≤ (j : Int) := by omega
        have p1 : (j : Int) < (L : Int) := by omega
        have q1 : decide ((L : Int) ≤ (j : Int)) = false := decide_eq_false (by omega)
        have q2 : decide (L ≤ j) = false := decide_eq_false (by omega)
        have hne : w.heap.size ≠ W.heap.size := by omega
        have m2 : (W1.setCell ⟨W.heap.size, 0, none⟩ (.int .i64 (j' : Int))).cell? ⟨w.heap.size, 0, none⟩ = some (.int .u16 (y : Int)) := by rw [World.cell?_of_block (a := ⟨w.heap.size, 0, none⟩) ((jgrown_set W1 W.heap.size 0 (.int .i64 (j' : Int))).block w.heap.size (by omega) (fun e => hne (by simpa using e)))]; exact m1
        have HC2 : Hid (Cl (W1.setCell ⟨W.heap.size, 0, none⟩ (.int .i64 (j' : Int))) W.heap.size (.int .i64 (j' : Int)) 3) := hc.set _
        have a2c := HC2.out.cell
        have HG2 : Hid (Wa.grownBy (W1.setCell ⟨W.heap.size, 0, none⟩ (.int .i64 (j' : Int))) (some W.heap.size)) := jgrown_trans hg (jgrown_set _ _ _ _)
        have HB2 : Hid (∀ i, Wa.heap.size ≤ i → i < W1.heap.size → (W1.setCell ⟨W.heap.size, 0, none⟩ (.int .i64 (j' : Int))).heap[i]? = W1.heap[i]?) := fun i h1 h2 => Below.heap_setCell _ _ _ _ (by show i ≠ W.heap.size; omega)
        by_cases hlast : j' = M
        · have HC3 : Hid (Cl (W1.setCell ⟨W.heap.size, 0, none⟩ (.int .i64 (j' : Int))) W.heap.size (.int .i64 (L : Int)) 3) := by rw [show L = j' by omega]; exact HC2.out
          have q3 : ((j' : Int) == (M : Int)) = true := by simp; omega
          clear hg hc HZ HG1 HC1 HC2 hj' hjM
          subst hlast
          gi_wp2
          refine ⟨rfl, ⟨HG2.out, HC3.out⟩, by simp, HB2.out⟩
        · have q3 : ((j' : Int) == (M : Int)) = false := by simp; omega
          have hj'M : j' < M := by omega
          have HC4 : Hid (Cl (W1.setCell ⟨W.heap.size, 0, none⟩ (.int .i64 (j' : Int))) W.heap.size (.int .i64 ((j + 1 : Nat) : Int)) 3) := by rw [hj']; exact HC2.out
          have HJM : Hid (j + 1 < M) := by rw [hj']; exact hj'M
          clear hg hc HZ HG1 HC1 hjM hj'
          gi_wp2
          refine ⟨⟨HJM.out, HG2.out, HC4.out⟩, by simp, HB2.out⟩
      case hdone =>
        rintro D W1 hD ⟨hCM, hg, hc⟩ hdf
        have HCl : Hid (Cl W1 W.heap.size (.int .i64 (L : Int)) 3) := by rw [show L = C by omega]; exact hc
        have HG1 : Hid (Wa.grownBy W1 (some W.heap.size)) := hg
        have hs1 := hg.size
        have a1c := HCl.out.cell
        have l1 : W1.cell? ⟨w4.heap.size, 0, none⟩ = some (.slice xs L d4) := by rw [World.cell?_of_block (a := ⟨w4.heap.size, 0, none⟩) (HKeep.out W1 hg _ hw46)]; exact HL6.out.cell
        have q1 : ((L : Int) == (L : Int)) = true := by simp
        have HBn : Hid (Below w6.heap.size w6 W1) := ⟨by rw [hg.os, HBa.out.os, HBW.out.os], by rw [hg.tape, HBa.out.tape, HBW.out.tape], by rw [hg.output, HBa.out.output, HBW.out.output], by omega, HKeep.out W1 hg⟩
        have HDn : Hid (DOk W1 w6.heap.size W1.heap.size ({ target := .collected D, args := #[] } :: ds)) := ⟨D, rfl, by omega, lt_of_block hdf, hdf, (HDW.out.kept (fun i h1 h2 h3 => by rw [hg.block i (by omega) (fun e => by cases e; omega), HBa.out.block i h3])).mono (by omega)⟩
        clear hg hc
        go_wp2
        refine ⟨⟨i + 1, _, _, _, _, _, _, _, _, _, _, _, _, _, _, _, _, _, _, _, _, _, _, _, _, _, _, _, _, _, _, _, _, _, by omega, by simp [hds], rfl, HBn.out, HDn.out⟩, ?_⟩
        simp [intOf]
        omega
      case hstop =>
        rintro D W1 hD ⟨hg, hc⟩ hdf
        have HCl : Hid (Cl W1 W.heap.size (.int .i64 (L : Int)) 3) := hc
        refine wpIn_wide.2 ?_
        have HG1 : Hid (Wa.grownBy W1 (some W.heap.size)) := hg
        have hs1 := hg.size
        have a1c := HCl.out.cell
        have l1 : W1.cell? ⟨w4.heap.size, 0, none⟩ = some (.slice xs L d4) := by rw [World.cell?_of_block (a := ⟨w4.heap.size, 0, none⟩) (HKeep.out W1 hg _ hw46)]; exact HL6.out.cell
        have q1 : ((L : Int) == (L : Int)) = true := by simp
        have HBn : Hid (Below w6.heap.size w6 W1) := ⟨by rw [hg.os, HBa.out.os, HBW.out.os], by rw [hg.tape, HBa.out.tape, HBW.out.tape], by rw [hg.output, HBa.out.output, HBW.out.output], by omega, HKeep.out W1 hg⟩
        have HDn : Hid (DOk W1 w6.heap.size W1.heap.size ({ target := .collected D, args := #[] } :: ds)) := ⟨D, rfl, by omega, lt_of_block hdf, hdf, (HDW.out.kept (fun i h1 h2 h3 => by rw [hg.block i (by omega) (fun e => by cases e; omega), HBa.out.block i h3])).mono (by omega)⟩
        clear hg hc
        go_wp2
        refine ⟨⟨i + 1, _, _, _, _, _, _, _, _, _, _, _, _, _, _, _, _, _, _, _, _, _, _, _, _, _, _, _, _, _, _, _, _, _, by omega, by simp [hds], rfl, HBn.out, HDn.out⟩, ?_⟩
        simp [intOf]
        omega
    · obtain rfl : i = 2 := by omega
      have c1 : decide (((2 : Nat) : Int) < 2) = false := rfl
      have r6 := (HR6.out.later HBW.out).free
      go_wp2_with (go_at_call 25; refine (anch6_any _).mono ?_; rintro e w7 ⟨rfl, hb7⟩; have HB7 : Hid (Below W.heap.size W w7) := hb7; have r7c := ((HR6.out.later HBW.out).later hb7).cell; have r7f := ((HR6.out.later HBW.out).later hb7).free; clear hb7)
      match ds, hds, HDW with
      | [d2, d1], _, HDW =>
        obtain ⟨D2, rfl, hb2, he2, hd2, D1, rfl, hb1, he1, hd1, _⟩ := HDW.out
        have hs7 := HB7.out.size
        have hsb6 := HB6.out.size
        obtain ⟨W9, HW9⟩ : ∃ W9, Hid (w7.setCell ⟨w.heap.size + 1, 0, none⟩ (.bool true) = W9) := ⟨_, rfl⟩
        have HR9 : Hid (Cl W9 (w.heap.size + 1) (.bool true) 4) := by rw [← HW9.out]; exact ((HR6.out.later HBW.out).later HB7.out).set _
        have hg9 : w7.grownBy W9 (some (w.heap.size + 1)) := by rw [← HW9.out]; exact jgrown_set _ _ _ _
        have hs9 := hg9.size
        have hB9 : Below w.heap.size w W9 := (jtwo HBb.out (jtwo HB6.out (jtwo HBW.out HB7.out))).trans (jbelow hg9 (by omega) (fun g e => by cases e; omega))
        have hdf2 : W9.heap[D2]? = some (.deferred (some [])) := by rw [hg9.block D2 (by omega) (fun e => by cases e; omega), HB7.out.block D2 (by omega)]; exact hd2
        have hdf1 : W9.heap[D1]? = some (.deferred (some [])) := by rw [hg9.block D1 (by omega) (fun e => by cases e; omega), HB7.out.block D1 (by omega)]; exact hd1
        rw [HW9.out]
        have hg10 := grownBy_putObj' W9 D2 (.deferred none)
        have hg11 := grownBy_putObj' (W9.putObj D2 (.deferred none)) D1 (.deferred none)
        have hdf1' : (W9.putObj D2 (.deferred none)).heap[D1]? = some (.deferred (some [])) := (World.putObj_heap_other (by omega)).trans hdf1
        have hs10 := hg10.size
        have hc11 := (HR9.out.kept hg10 (fun e => by cases e; omega)).kept hg11 (fun e => by cases e; omega)
        have d0 := hc11.cell
        have hB11 : Below w.heap.size w ((W9.putObj D2 (.deferred none)).putObj D1 (.deferred none)) := (hB9.trans (jbelow hg10 (by omega) (fun g e => by cases e; omega))).trans (jbelow hg11 (by omega) (fun g e => by cases e; omega))
        refine ⟨by simp, .inl ⟨_, _, rfl, run_takeDeferred hdf2, ?_⟩⟩
        refine ⟨by simp, .inl ⟨_, _, rfl, run_takeDeferred hdf1', ?_⟩⟩
        refine ⟨.bool true, by simp [results, Try.results6, go_sem, d0], ?_⟩
        exact ⟨rfl, hB11⟩

/-! ### THE ROW's STEP: WRITTEN OUT: LEAVE IT -/
set_option maxRecDepth 100000 in
theorem lifted (os : Os) (started : os.Started) (H : Type) (enc : TypeId × Value → H) :
    ReturnsInHanded {} Try.checked os 6 .any (Rows.subsetAllSpec.pre6 enc Try.prog Try.f6 Rows.subsetAllRow.domain false) (Rows.subsetAllSpec.post enc Try.prog Try.f6 false true false false) := by
  refine returnsInHanded_of_change (C := Try.checked) own started (by kernel_rfl) Try.func6
    (ChangeSpec.witness6 (enc := enc) (C := Try.checked) false ⟨#[], #[.int .i64 0, .int .i64 0, .int .u16 0], []⟩ 8 (by kernel_rfl) (by kernel_rfl) (by kernel_rfl) (by kernel_rfl)) ?_
  intro W base args ds gs before hval0 hW hcnd _
  have hval : ∀ (j : Nat) t v, Try.f6.params[j]? = some t → args[j]? = some v → Value.okWide Try.prog W .any base t v := hval0
  have hW' := hW
  obtain ⟨p, q, hA0, hV, rfl, hfz, hnd⟩ := hW
  have hA : DataW.TrodAll enc Try.prog W 0 (fun _ => true) true Try.f6.params.toList args.toList ds p := hA0
  rw [Try.params6] at hA hval
  obtain ⟨v0, vs0, d0, ds0, p0, q0, hargs, rfl, rfl, h0, r0⟩ := trodAll_cons hA
  obtain ⟨v1, vs1, d1, ds1, p1, q1, rfl, rfl, rfl, h1, r1⟩ := trodAll_cons r0
  obtain ⟨v2, vs2, d2, ds2, p2, q2, rfl, rfl, rfl, h2, r2⟩ := trodAll_cons r1
  obtain ⟨rfl, rfl, rfl⟩ := trodAll_nil r2
  obtain rfl : args = #[v0, v1, v2] := by cases args; simp_all
  obtain ⟨rfl, rfl⟩ := trodVars_none hV
  obtain ⟨a0, rfl, rfl, rfl, w0⟩ := open_int Try.underlying3 (hval 0 3 v0 rfl rfl) h0
  obtain ⟨a1, rfl, rfl, rfl, w1⟩ := open_int Try.underlying3 (hval 1 3 v1 rfl rfl) h1
  obtain ⟨a2, rfl, rfl, rfl, w2⟩ := open_int Try.underlying45 (hval 2 45 v2 rfl rfl) h2
  clear hA0 hval0
  simp only [List.append_nil] at hW'
  refine (walk a0 a1 a2 w0 w1 w2 W).mono fun e W' ⟨he, hg⟩ => ?_
  subst he
  exact ⟨_, rfl, _, _, _, [], _, [], hW', trodAll_mk1 (shut_bool Try.underlying4 _), (trodAll_cons_mk (shut_int Try.underlying3 w0) (trodAll_cons_mk (shut_int Try.underlying3 w1) (trodAll_cons_mk (shut_int Try.underlying45 w2) trodAll_mk0))), rfl, hg.frame _, fun h => by cases h⟩

theorem over : Rows.subsetAllRow.holds Try.pinned (OpenSpec.ofChange Rows.subsetAllSpec) :=
  OpenClaim.holds_of_wide 6 Try.f6 rfl rfl rfl rfl rfl rfl rfl ⟨rfl, rfl, rfl, rfl, rfl⟩ rfl rfl rfl rfl rfl (by kernel_rfl) Try.func6 (by kernel_rfl)
    (of_decide_eq_true (by kernel_rfl)) (by unfold Func.isWrapper; first | (rw [if_pos (by decide +kernel)]; kernel_rfl) | (rw [if_neg (by decide +kernel)]; exact ⟨rfl, rfl⟩))
    (fun os started H enc _ => lifted os started H enc)

/-- ████ THE STATEMENT ████ -/
theorem proved : Rows.SubsetAllSaid :=
  over
#print axioms proved
end Go.Proofs.Ytpmhpakjlagfjaa.subsetAll
