/-
  Contracts of the wire's reference: Read.
-/
import Derived.Test.YtlfmekjkgegclaaHh
import Derived.Test.YtlfmekjkgegclaaLj
import Derived.Deep.RegionHeld
import Derived.Deep.MidRow
namespace Go.Proofs.Ytlfmekjkgegclaa
open Go.RowKit
theorem jhid8 {p : Prop} (h : p) : Hid p := h
theorem size_alloc8 (w : World) (o : Obj) : (w.alloc o).heap.size = w.heap.size + 1 := by simp
theorem size46 : (Try.prog.info? 46).map (·.size) = some 2 := by kernel_rfl
theorem Vc.free {w : World} {b : Nat} {x y : Value} (h : Vc w b x y) (i : Nat) : w.frozen? ⟨b, i, none⟩ = false := by
  unfold Vc at h
  simp [World.frozen?, h]
theorem Vc.set0 {w : World} {b : Nat} {x y : Value} (h : Vc w b x y) (v : Value) : Vc (w.setCell ⟨b, 0, none⟩ v) b v y := by
  unfold Vc at *
  rw [setCell_eq_setRow w b 0 _ _ (0, 0) _ h, setRow_heap w b _ _ _ (0, 0) h]; rfl
theorem Vc.set1 {w : World} {b : Nat} {x y : Value} (h : Vc w b x y) (v : Value) : Vc (w.setCell ⟨b, 1, none⟩ v) b x v := by
  unfold Vc at *
  rw [setCell_eq_setRow w b 1 _ _ (0, 0) _ h, setRow_heap w b _ _ _ (0, 0) h]; rfl
theorem Vc.there {w : World} {b : Nat} {x y : Value} (h : Vc w b x y) : w.there b 0 2 := by
  intro j hj
  rcases (by omega : j = 0 ∨ j = 1) with rfl | rfl
  · exact ⟨by rw [Nat.zero_add, h.c0]; rfl, h.free _⟩
  · exact ⟨by rw [Nat.zero_add, h.c1]; rfl, h.free _⟩
theorem wpList_store_vc {ops : Array Oper} {rest : List Oper} {op : Oper} {a : Act} {w : World} {Q : Exit → Act → World → Prop} (hgd : op.guard = none) (p q : Operand) (ho : op.op = .store 46 p q)
    (b : Nat) (x y x' y' : Value) (hp : a.eval p = .pointer (some ⟨b, 0, none⟩)) (hq : a.eval q = .agg #[x', y']) (hv : Vc w b x y) (h0 : x'.oneCell' = true) (h1 : y'.oneCell' = true)
    (h : ∀ w', Hid (Vc w' b x' y') → Hid (w.grownBy w' (some b)) → wpList Try.prog ops Q rest (a.put op.dst undef) w') : wpList Try.prog ops Q (op :: rest) a w :=
  wpList_store_mid hgd 46 p q ho b 0 #[x', y'] hp hq hv.there size46 (by simp [h0, h1]) (h _ ((hv.set0 x').set1 y') (grown_trans (grown_setCell _ _ _ _) (grown_setCell _ _ _ _)))
/-- The bytes f begin with a chunk's form: a body of v bytes, its length in s bytes. -/
structure RdOk (f : Nat → Nat) (n v s : Nat) : Prop where
  num : RnOk (fun j => f (1 + j)) (n - 1) v s
  small : v ≤ 4194304
  fits : 1 + (s + v) + 4 ≤ n
  sum : ∀ j, j < 4 → f (1 + (s + v) + j) = fr (cs f (1 + (s + v))) j
set_option maxRecDepth 20000 in
set_option maxHeartbeats 2000000 in
theorem rrd8_ok (w : World) (a : Option Addr) (n c v s : Nat) (f : Nat → Nat) (ha : Sl w a n f) (hnc : n ≤ c) (hn : n ≤ 140737488351232) (h : RdOk f n v s) :
    Calls Try.prog 24 #[.slice a n c] w fun e w' => ∃ x, e = .returned (.tuple #[.agg #[.int .u8 (f 0 : Nat), x], .int .i64 ((1 + (s + v) + 4 : Nat) : Int), .int .i64 0]) ∧ Jo w' w.heap.size 5 .u8 x v (fun j => f (1 + (s + j))) ∧ Below w.heap.size w w' := by
  obtain ⟨hnum, hsm, hfit, hsum⟩ := h
  have hs1 := hnum.s1
  have hs9 := hnum.s9
  obtain ⟨b, o, rfl⟩ : ∃ b o, a = some ⟨b, o, none⟩ := by
    obtain ⟨b, o, e, _⟩ := ha.2 0 (by omega)
    exact ⟨b, o, e⟩
  obtain ⟨z, HZ⟩ : ∃ z, Hid (s + v = z) := ⟨_, rfl⟩
  obtain ⟨p, HP⟩ : ∃ p, Hid (1 + z = p) := ⟨_, rfl⟩
  obtain ⟨t, HT⟩ : ∃ t, Hid (p + 4 = t) := ⟨_, rfl⟩
  rw [HZ.out, HP.out] at hfit hsum
  rw [HZ.out, HP.out, HT.out]
  have hc1 : c ≠ 1 := by omega
  have hp47 : p ≤ 140737488351232 := by omega
  have ez : (z : Int) + 1 = (p : Int) := by have := HP.out; omega
  have et : (p : Int) + 4 = (t : Int) := by have := HT.out; omega
  have HRt : Hid (∀ w' : World, Below w.heap.size w w' → Calls Try.prog 20 #[.slice (some ⟨b, o + 1, none⟩) (n - 1) (c - 1), .int .i64 4194304] w' fun e w'' => ∃ x, e = .returned (.tuple #[x, .int .i64 (z : Int), .int .i64 0]) ∧ Jo w'' w'.heap.size 5 .u8 x v (fun j => f (1 + (s + j))) ∧ Below w'.heap.size w' w'') := fun w' hb => by
    have hp := sl_part (c := c) (p := 1) (m := n - 1) (ha.later hb) (by omega) hnc
    unfold pca at hp
    rw [if_neg (by omega)] at hp
    have := rrt8_ok w' _ (n - 1) (c - 1) v s 4194304 _ hp (by omega) (by omega) (by decide) hnum hsm (by have := HZ.out; have := HP.out; omega)
    rw [HZ.out] at this
    exact this
  obtain ⟨S, HS⟩ : ∃ S, Hid (cs f p = S) := ⟨_, rfl⟩
  have HS4 : Hid (S < 4294967296) := by rw [← HS.out]; exact cs_lt f p
  obtain ⟨G, HG⟩ : ∃ G : Nat → Nat, Hid ((fun j => f (1 + (s + j))) = G) := ⟨_, rfl⟩
  rw [HG.out] at HRt
  rw [HG.out]
  obtain ⟨y, HY⟩ : ∃ y, Hid (f 0 = y) := ⟨_, rfl⟩
  rw [HY.out]
  have HCe : Hid (∀ w' : World, Below w.heap.size w w' → w'.cell? ⟨b, o, none⟩ = some (.int .u8 (y : Int))) := fun w' hb => by
    obtain ⟨b', o', e, hc⟩ := (ha.later hb).2 0 (by omega)
    cases e
    rw [Nat.add_zero, HY.out] at hc
    exact hc
  have HFp : Hid (∀ w' : World, Below w.heap.size w w' → Sl w' (some ⟨b, o, none⟩) p f) := fun w' hb => ⟨fun i hi => ha.1 i (by omega), fun i hi => (ha.later hb).2 i (by omega)⟩
  have HF4 : Hid (∀ w' : World, Below w.heap.size w w' → Sl w' (some ⟨b, o + p, none⟩) 4 (fun j => f (p + j))) := fun w' hb => by
    have hp := sl_part (c := c) (p := p) (m := 4) (ha.later hb) (by omega) hnc
    unfold pca at hp
    rw [if_neg (by omega)] at hp
    exact hp
  have HSa : Hid (∀ (w' : World) (s3 : Option Addr) (d3 : Nat), Sl w' (some ⟨b, o + p, none⟩) 4 (fun j => f (p + j)) → Sl w' s3 4 (fr S) → Calls Try.prog 16 #[.slice (some ⟨b, o + p, none⟩) (t - p) (c - p), .slice s3 4 d3] w' fun e w'' => e = .returned (.bool true) ∧ w' = w'') := fun w' s3 d3 h1 h2 => by
    rw [show t - p = 4 by have := HT.out; omega]
    refine (same_exact w' _ s3 4 4 _ d3 _ _ h1 h2).mono (fun e w'' h => ?_)
    have hh : sameB 4 4 (fun j => f (p + j)) (fr S) = true := decide_eq_true ⟨rfl, fun i hi => by rw [← HS.out]; exact hsum i hi⟩
    rw [hh] at h
    exact h
  have q1 : (p : Int) ≤ (t : Int) := by omega
  have q2 : (t : Int) ≤ (c : Int) := by have := HT.out; omega
  have q3 : decide ((n : Int) - (p : Int) < 4) = false := decide_eq_false (by omega)
  have q4 : ((n : Int) == 0) = false := by simp; omega
  have q5 : (p : Int) ≤ (c : Int) := by omega
  have q6 : c ≠ p := by omega
  have q7 : (0 : Int) ≤ (t : Int) := by omega
  have q8 : p ≤ t := by have := HT.out; omega
  have hwt : IntKind.i64.wrap (t : Int) = (t : Int) := by rw [IntKind.wrap_i64]; have := HT.out; omega
  clear ha hnum hsum
  go_enter Try.func24, Try.ntmps24
  go_wp2_with (go_at_call 20; refine (HRt.out _ (jlow _ _)).mono ?_; rintro e w1 ⟨x1, rfl, ho1, hb1⟩; have HB1 : Hid (Below w.heap.size w w1) := jtwo (jlow _ _) hb1; have HO1 : Hid (Jo w1 (w.heap.size + 1) 5 .u8 x1 v G) := (by have h := ho1; simp only [size_alloc8] at h; exact h); have HV1 : Hid (Vc w1 w.heap.size (.int .u8 0) (.slice none 0 0)) := (Vc.new w (.int .u8 0) (.slice none 0 0)).later hb1; clear ho1 hb1)
  refine wp_region_held (S := fun _ => True) (by kernel_rfl) ?_
  change wpAnyH _ _ _ _ _ _ _ _ (World.drew _)
  obtain ⟨W0, HW0⟩ : ∃ W0, Hid (w1.drew = W0) := ⟨_, rfl⟩
  rw [HW0.out]
  have HBW : Hid (Below w1.heap.size w1 W0) := by rw [← HW0.out]; exact (Below.refl _ _).drew
  have HBw : Hid (Below w.heap.size w W0) := jtwo HB1.out HBW.out
  have HSp : Hid (Sl W0 (some ⟨b, o, none⟩) p f) := HFp.out _ HBw.out
  refine wpAnyH_take (i := 0) (v := ?v0) rfl (by kernel_rfl) (by kernel_rfl) (by kernel_rfl) (fun _ _ _ h => h) (Or.inl ⟨by rfl, ?y0⟩) trivial ?z0
  case y0 => (intro w hSw; (try dsimp only at hSw); go_simp; try with_reducible rfl)
  try simp only [List.getElem_toArray, List.getElem_cons_zero, Act.put, List.setIfInBounds_toArray, List.set_cons_zero, List.set_cons_succ]
  refine wpAnyH_take (i := 1) (v := ?v1) rfl (by kernel_rfl) (by kernel_rfl) (by kernel_rfl) (fun _ _ _ h => h) (Or.inl ⟨by rfl, ?y1⟩) trivial ?z1
  case y1 => (intro w hSw; (try dsimp only at hSw); go_simp; try with_reducible rfl)
  try simp only [List.getElem_toArray, List.getElem_cons_succ, List.getElem_cons_zero, Act.put, List.setIfInBounds_toArray, List.set_cons_zero, List.set_cons_succ]
  refine wpAnyH_take (i := 2) (v := ?v2) rfl (by kernel_rfl) (by kernel_rfl) (by kernel_rfl) (fun _ _ _ h => h) (Or.inl ⟨by rfl, ?y2⟩) trivial ?z2
  case y2 => (intro w hSw; (try dsimp only at hSw); go_simp; try with_reducible rfl)
  try simp only [List.getElem_toArray, List.getElem_cons_succ, List.getElem_cons_zero, Act.put, List.setIfInBounds_toArray, List.set_cons_zero, List.set_cons_succ]
  refine wpAnyH_take (i := 3) (v := ?v3) rfl (by kernel_rfl) (by kernel_rfl) (by kernel_rfl) (fun _ _ _ h => h) (Or.inl ⟨by rfl, ?y3⟩) trivial ?z3
  case y3 => (intro w hSw; (try dsimp only at hSw); go_simp; try with_reducible rfl)
  try simp only [List.getElem_toArray, List.getElem_cons_succ, List.getElem_cons_zero, Act.put, List.setIfInBounds_toArray, List.set_cons_zero, List.set_cons_succ]
  refine wpAnyH_take (i := 4) (v := ?v4) rfl (by kernel_rfl) (by kernel_rfl) (by kernel_rfl) (fun _ _ _ h => h) (Or.inl ⟨by rfl, ?y4⟩) trivial ?z4
  case y4 => (intro w hSw; (try dsimp only at hSw); go_simp; try with_reducible rfl)
  try simp only [List.getElem_toArray, List.getElem_cons_succ, List.getElem_cons_zero, Act.put, List.setIfInBounds_toArray, List.set_cons_zero, List.set_cons_succ]
  refine wpAnyH_take (i := 5) (v := ?v5) rfl (by kernel_rfl) (by kernel_rfl) (by kernel_rfl) (fun _ _ _ h => h) (Or.inl ⟨by rfl, ?y5⟩) trivial ?z5
  case y5 => (intro w hSw; (try dsimp only at hSw); go_simp; try with_reducible rfl)
  try simp only [List.getElem_toArray, List.getElem_cons_succ, List.getElem_cons_zero, Act.put, List.setIfInBounds_toArray, List.set_cons_zero, List.set_cons_succ]
  refine wpAnyH_take (i := 6) (v := ?v6) rfl (by kernel_rfl) (by kernel_rfl) (by kernel_rfl) (fun _ _ _ h => h) (Or.inl ⟨by rfl, ?y6⟩) trivial ?z6
  case y6 => (intro w hSw; (try dsimp only at hSw); go_simp; try with_reducible rfl)
  try simp only [List.getElem_toArray, List.getElem_cons_succ, List.getElem_cons_zero, Act.put, List.setIfInBounds_toArray, List.set_cons_zero, List.set_cons_succ]
  refine wpAnyH_take (i := 7) (v := ?v7) rfl (by kernel_rfl) (by kernel_rfl) (by kernel_rfl) (fun _ _ _ h => h) (Or.inl ⟨by rfl, ?y7⟩) trivial ?z7
  case y7 => (intro w hSw; (try dsimp only at hSw); go_simp; try with_reducible rfl)
  try simp only [List.getElem_toArray, List.getElem_cons_succ, List.getElem_cons_zero, Act.put, List.setIfInBounds_toArray, List.set_cons_zero, List.set_cons_succ]
  refine wpAnyH_ready (rs := [8]) (by kernel_rfl) (by simp) ?_
  refine AllReadyH.cons rfl (fun KK hKK => ?_) AllReadyH.nil
  go_simp
  refine (rsum8_ok _ (some ⟨b, o, none⟩) p c f HSp.out hp47).mono ?_
  rintro e w' ⟨rfl, rfl⟩
  rw [HS.out]
  refine hKK.out _ _ trivial (fun _ => ?_)
  clear hKK KK
  try simp only [List.getElem_toArray, List.getElem_cons_succ, List.getElem_cons_zero, Act.put, List.setIfInBounds_toArray, List.set_cons_zero, List.set_cons_succ]
  refine wpAnyH_ready (rs := [9]) (by kernel_rfl) (by simp) ?_
  refine AllReadyH.cons rfl (fun KK hKK => ?_) AllReadyH.nil
  go_simp
  refine (rfour8_ok _ S HS4.out).mono ?_
  rintro e w3 ⟨v3, rfl, ho3, hb3⟩
  obtain ⟨s3, d3, e3, _⟩ := ho3.form
  subst e3
  have HS3 : Hid (Sl w3 s3 4 (fr S)) := jo_sl ho3 (fun i _ => fr_lt S i)
  have HB3 : Hid (Below w.heap.size w w3) := jtwo HBw.out hb3
  have HO3 : Hid (Jo w3 (w.heap.size + 1) 5 .u8 x1 v G) := HO1.out.later (jtwo HBW.out hb3)
  have HV3 : Hid (Vc w3 w.heap.size (.int .u8 0) (.slice none 0 0)) := HV1.out.later (jtwo HBW.out hb3)
  have HF3 : Hid (Sl w3 (some ⟨b, o + p, none⟩) 4 (fun j => f (p + j))) := HF4.out _ HB3.out
  have HC3 := jhid8 (HCe.out _ HB3.out)
  clear ho3 hb3
  refine hKK.out _ _ trivial (fun _ => ?_)
  clear hKK KK
  try simp only [List.getElem_toArray, List.getElem_cons_succ, List.getElem_cons_zero, Act.put, List.setIfInBounds_toArray, List.set_cons_zero, List.set_cons_succ]
  refine wpAnyH_ready (rs := [10]) (by kernel_rfl) (by simp) ?_
  refine AllReadyH.cons rfl (fun KK hKK => ?_) AllReadyH.nil
  go_simp
  refine (HSa.out _ _ _ HF3.out HS3.out).mono ?_
  rintro e w' ⟨rfl, rfl⟩
  refine hKK.out _ _ trivial (fun _ => ?_)
  clear hKK KK
  try simp only [List.getElem_toArray, List.getElem_cons_succ, List.getElem_cons_zero, Act.put, List.setIfInBounds_toArray, List.set_cons_zero, List.set_cons_succ]
  refine wpAnyH_take (i := 11) (v := ?v11) rfl (by kernel_rfl) (by kernel_rfl) (by kernel_rfl) (fun _ _ _ h => h) (Or.inl ⟨by rfl, ?y11⟩) trivial ?z11
  case y11 => (intro w hSw; (try dsimp only at hSw); go_simp; try with_reducible rfl)
  try simp only [List.getElem_toArray, List.getElem_cons_succ, List.getElem_cons_zero, Act.put, List.setIfInBounds_toArray, List.set_cons_zero, List.set_cons_succ]
  refine wpAnyH_done (by kernel_rfl) ?_ _
  obtain ⟨sx, dx, ex, _⟩ := HO3.out.form
  subst ex
  have c3 := HC3.out
  go_wp2_with (refine wpList_store_vc rfl _ _ rfl w.heap.size _ _ (.int .u8 (y : Int)) (.slice sx v dx) rfl rfl HV3.out rfl rfl ?_; intro w8 HV8 HG8)
  have d0 := HV8.out.c0
  have d1 := HV8.out.c1
  refine bodyPost_ret (v := .tuple #[.agg #[.int .u8 (y : Int), .slice sx v dx], .int .i64 (t : Int), .int .i64 0]) (by simp [results, Try.results24, go_sem, d0, d1]) rfl ?_
  refine ⟨_, rfl, ?_, HB3.out.trans (jbelow HG8.out HB3.out.size (fun g e => by cases e; exact Nat.le_refl _))⟩
  refine (HO3.out.kept HG8.out ?_).mono (by omega)
  cases hv : (Value.slice sx v dx).ownBlock with
  | none => exact .inl rfl
  | some g => have := (HO3.out.base hv).1; exact .inr (by simp; omega)
/-- Which error Read tells, where it tells one. -/
def RdE (f : Nat → Nat) (n E : Nat) : Prop := (n = 0 ∧ E = 7) ∨ (0 < n ∧ RtE (fun j => f (1 + j)) (n - 1) 4194304 E) ∨
  ∃ v s, RnOk (fun j => f (1 + j)) (n - 1) v s ∧ v ≤ 4194304 ∧ 1 + (s + v) ≤ n ∧ (n < 1 + (s + v) + 4 ∧ E = 7 ∨ 1 + (s + v) + 4 ≤ n ∧ (∃ j, j < 4 ∧ f (1 + (s + v) + j) ≠ fr (cs f (1 + (s + v))) j) ∧ E = 80)
theorem rd_ex (f : Nat → Nat) (n : Nat) : (∃ v s, RdOk f n v s) ∨ ∃ E, RdE f n E := by
  by_cases h0 : n = 0
  · exact .inr ⟨7, .inl ⟨h0, rfl⟩⟩
  · obtain ⟨v, s, E, h⟩ := rn_ex (fun j => f (1 + j)) (n - 1)
    by_cases hE : E = 0
    · subst hE
      have hok : RnOk (fun j => f (1 + j)) (n - 1) v s := by
        rcases h with ⟨_, h⟩ | ⟨e, _⟩ | ⟨e, _⟩
        · exact h
        · cases e
        · cases e
      by_cases h1 : v ≤ 4194304
      · by_cases h2 : v + s ≤ n - 1
        · by_cases h3 : 1 + (s + v) + 4 ≤ n
          · by_cases h4 : ∀ j, j < 4 → f (1 + (s + v) + j) = fr (cs f (1 + (s + v))) j
            · exact .inl ⟨v, s, hok, h1, h3, h4⟩
            · refine .inr ⟨80, .inr (.inr ⟨v, s, hok, h1, by omega, .inr ⟨h3, ?_, rfl⟩⟩)⟩
              apply Classical.byContradiction
              intro hn
              exact h4 (fun j hj => Classical.byContradiction fun hne => hn ⟨j, hj, hne⟩)
          · exact .inr ⟨7, .inr (.inr ⟨v, s, hok, h1, by omega, .inl ⟨by omega, rfl⟩⟩)⟩
        · exact .inr ⟨7, .inr (.inl ⟨by omega, .inr ⟨by decide, .inr ⟨v, s, hok, .inr ⟨by omega, by omega, rfl⟩⟩⟩⟩)⟩
      · exact .inr ⟨4, .inr (.inl ⟨by omega, .inr ⟨by decide, .inr ⟨v, s, hok, .inl ⟨by omega, rfl⟩⟩⟩⟩)⟩
    · exact .inr ⟨E, .inr (.inl ⟨by omega, .inr ⟨by decide, .inl ⟨v, s, h, hE⟩⟩⟩)⟩
theorem RtE.ne {f : Nat → Nat} {n E : Nat} {most : Int} (h : RtE f n most E) : E ≠ 0 := by
  rcases h with ⟨_, rfl⟩ | ⟨_, ⟨_, _, _, h⟩ | ⟨_, _, _, ⟨_, rfl⟩ | ⟨_, _, rfl⟩⟩⟩
  · decide
  · exact h
  · decide
  · decide
theorem RdE.ne {f : Nat → Nat} {n E : Nat} (h : RdE f n E) : E ≠ 0 := by
  rcases h with ⟨_, rfl⟩ | ⟨_, h⟩ | ⟨_, _, _, _, _, ⟨_, rfl⟩ | ⟨_, _, rfl⟩⟩
  · decide
  · exact h.ne
  · decide
  · decide
set_option maxRecDepth 20000 in
set_option maxHeartbeats 2000000 in
theorem rrd8_bad (w : World) (a : Option Addr) (n c E : Nat) (f : Nat → Nat) (ha : Sl w a n f) (hnc : n ≤ c) (hn : n ≤ 140737488351232) (h : RdE f n E) :
    Calls Try.prog 24 #[.slice a n c] w fun e w' => e = .returned (.tuple #[.agg #[.int .u8 0, .slice none 0 0], .int .i64 0, .int .i64 (E : Int)]) ∧ Below w.heap.size w w' := by
  have HV0 : Hid (Vc (w.alloc (.cells #[.int .u8 0, .slice none 0 0] 46)) w.heap.size (.int .u8 0) (.slice none 0 0)) := Vc.new w _ _
  have HB0 : Hid (Below w.heap.size w (w.alloc (.cells #[.int .u8 0, .slice none 0 0] 46))) := jlow _ _
  rcases h with ⟨rfl, rfl⟩ | ⟨hn0, h⟩ | ⟨v, s, hnum, hsm, hfit, h⟩
  · clear ha
    go_enter Try.func24, Try.ntmps24
    go_wp2_with (refine wpList_store_vc rfl _ _ rfl w.heap.size _ _ (.int .u8 0) (.slice none 0 0) rfl rfl HV0.out rfl rfl ?_; intro w8 HV8 HG8)
    have d0 := HV8.out.c0
    have d1 := HV8.out.c1
    refine bodyPost_ret (v := .tuple #[.agg #[.int .u8 0, .slice none 0 0], .int .i64 0, .int .i64 7]) (by simp [results, Try.results24, go_sem, d0, d1]) rfl ?_
    exact ⟨rfl, HB0.out.trans (jbelow HG8.out HB0.out.size (fun g e => by cases e; exact Nat.le_refl _))⟩
  · obtain ⟨b, o, rfl⟩ : ∃ b o, a = some ⟨b, o, none⟩ := by
      obtain ⟨b, o, e, _⟩ := ha.2 0 (by omega)
      exact ⟨b, o, e⟩
    have hE := h.ne
    have hE0 : ((E : Int) == 0) = false := by simp; omega
    have q4 : ((n : Int) == 0) = false := by simp; omega
    have HRt0 : Hid (∀ w' : World, Below w.heap.size w w' → Calls Try.prog 20 #[.slice (pca b o 1 c) (n - 1) (c - 1), .int .i64 4194304] w' fun e w'' => e = .returned (.tuple #[.slice none 0 0, .int .i64 0, .int .i64 (E : Int)]) ∧ Below w'.heap.size w' w'') := fun w' hb =>
      (rrt8_bad w' _ (n - 1) (c - 1) E 4194304 _ (sl_part (ha.later hb) (by omega) hnc) (by omega) (by decide) h).mono (fun e w'' h => ⟨h.1, by rw [← h.2]; exact Below.refl _ _⟩)
    clear ha h hE
    by_cases hc1 : c = 1
    · subst hc1
      obtain rfl : n = 1 := by omega
      have HRt : Hid (∀ w' : World, Below w.heap.size w w' → Calls Try.prog 20 #[.slice (some ⟨b, o, none⟩) 0 0, .int .i64 4194304] w' fun e w'' => e = .returned (.tuple #[.slice none 0 0, .int .i64 0, .int .i64 (E : Int)]) ∧ Below w'.heap.size w' w'') := fun w' hb => by
        have := HRt0.out w' hb
        unfold pca at this
        rw [if_pos rfl] at this
        exact this
      clear HRt0
      go_enter Try.func24, Try.ntmps24
      go_wp2_with (first
        | (go_at_call 20; refine (HRt.out _ (jlow _ _)).mono ?_; rintro e w1 ⟨rfl, hb1⟩; have HB1 : Hid (Below w.heap.size w w1) := jtwo (jlow _ _) hb1; have HV1 : Hid (Vc w1 w.heap.size (.int .u8 0) (.slice none 0 0)) := (Vc.new w (.int .u8 0) (.slice none 0 0)).later hb1; clear hb1)
        | (refine wpList_store_vc rfl _ _ rfl w.heap.size _ _ (.int .u8 0) (.slice none 0 0) rfl rfl HV1.out rfl rfl ?_; intro w8 HV8 HG8))
      have d0 := HV8.out.c0
      have d1 := HV8.out.c1
      refine bodyPost_ret (v := .tuple #[.agg #[.int .u8 0, .slice none 0 0], .int .i64 0, .int .i64 (E : Int)]) (by simp [results, Try.results24, go_sem, d0, d1]) rfl ?_
      exact ⟨rfl, HB1.out.trans (jbelow HG8.out HB1.out.size (fun g e => by cases e; exact Nat.le_refl _))⟩
    · have HRt : Hid (∀ w' : World, Below w.heap.size w w' → Calls Try.prog 20 #[.slice (some ⟨b, o + 1, none⟩) (n - 1) (c - 1), .int .i64 4194304] w' fun e w'' => e = .returned (.tuple #[.slice none 0 0, .int .i64 0, .int .i64 (E : Int)]) ∧ Below w'.heap.size w' w'') := fun w' hb => by
        have := HRt0.out w' hb
        unfold pca at this
        rw [if_neg hc1] at this
        exact this
      clear HRt0
      go_enter Try.func24, Try.ntmps24
      go_wp2_with (first
        | (go_at_call 20; refine (HRt.out _ (jlow _ _)).mono ?_; rintro e w1 ⟨rfl, hb1⟩; have HB1 : Hid (Below w.heap.size w w1) := jtwo (jlow _ _) hb1; have HV1 : Hid (Vc w1 w.heap.size (.int .u8 0) (.slice none 0 0)) := (Vc.new w (.int .u8 0) (.slice none 0 0)).later hb1; clear hb1)
        | (refine wpList_store_vc rfl _ _ rfl w.heap.size _ _ (.int .u8 0) (.slice none 0 0) rfl rfl HV1.out rfl rfl ?_; intro w8 HV8 HG8))
      have d0 := HV8.out.c0
      have d1 := HV8.out.c1
      refine bodyPost_ret (v := .tuple #[.agg #[.int .u8 0, .slice none 0 0], .int .i64 0, .int .i64 (E : Int)]) (by simp [results, Try.results24, go_sem, d0, d1]) rfl ?_
      exact ⟨rfl, HB1.out.trans (jbelow HG8.out HB1.out.size (fun g e => by cases e; exact Nat.le_refl _))⟩
  · have hs1 := hnum.s1
    have hs9 := hnum.s9
    have hsn := hnum.fits
    obtain ⟨b, o, rfl⟩ : ∃ b o, a = some ⟨b, o, none⟩ := by
      obtain ⟨b, o, e, _⟩ := ha.2 0 (by omega)
      exact ⟨b, o, e⟩
    obtain ⟨z, HZ⟩ : ∃ z, Hid (s + v = z) := ⟨_, rfl⟩
    obtain ⟨p, HP⟩ : ∃ p, Hid (1 + z = p) := ⟨_, rfl⟩
    obtain ⟨t, HT⟩ : ∃ t, Hid (p + 4 = t) := ⟨_, rfl⟩
    rw [HZ.out, HP.out] at hfit h
    have hc1 : c ≠ 1 := by omega
    have hp47 : p ≤ 140737488351232 := by omega
    have ez : (z : Int) + 1 = (p : Int) := by have := HP.out; omega
    have et : (p : Int) + 4 = (t : Int) := by have := HT.out; omega
    have HRt : Hid (∀ w' : World, Below w.heap.size w w' → Calls Try.prog 20 #[.slice (some ⟨b, o + 1, none⟩) (n - 1) (c - 1), .int .i64 4194304] w' fun e w'' => ∃ x, e = .returned (.tuple #[x, .int .i64 (z : Int), .int .i64 0]) ∧ Jo w'' w'.heap.size 5 .u8 x v (fun j => f (1 + (s + j))) ∧ Below w'.heap.size w' w'') := fun w' hb => by
      have hp := sl_part (c := c) (p := 1) (m := n - 1) (ha.later hb) (by omega) hnc
      unfold pca at hp
      rw [if_neg (by omega)] at hp
      have := rrt8_ok w' _ (n - 1) (c - 1) v s 4194304 _ hp (by omega) (by omega) (by decide) hnum hsm (by have := HZ.out; have := HP.out; omega)
      rw [HZ.out] at this
      exact this
    obtain ⟨S, HS⟩ : ∃ S, Hid (cs f p = S) := ⟨_, rfl⟩
    have HS4 : Hid (S < 4294967296) := by rw [← HS.out]; exact cs_lt f p
    obtain ⟨G, HG⟩ : ∃ G : Nat → Nat, Hid ((fun j => f (1 + (s + j))) = G) := ⟨_, rfl⟩
    rw [HG.out] at HRt
    have q4 : ((n : Int) == 0) = false := by simp; omega
    rcases h with ⟨hsh, rfl⟩ | ⟨hle, hne, rfl⟩
    · have q3 : decide ((n : Int) - (p : Int) < 4) = true := decide_eq_true (by omega)
      clear ha hnum
      go_enter Try.func24, Try.ntmps24
      go_wp2_with (first
        | (go_at_call 20; refine (HRt.out _ (jlow _ _)).mono ?_; rintro e w1 ⟨x1, rfl, _, hb1⟩; have HB1 : Hid (Below w.heap.size w w1) := jtwo (jlow _ _) hb1; have HV1 : Hid (Vc w1 w.heap.size (.int .u8 0) (.slice none 0 0)) := (Vc.new w (.int .u8 0) (.slice none 0 0)).later hb1; clear hb1)
        | (refine wpList_store_vc rfl _ _ rfl w.heap.size _ _ (.int .u8 0) (.slice none 0 0) rfl rfl HV1.out rfl rfl ?_; intro w8 HV8 HG8))
      have d0 := HV8.out.c0
      have d1 := HV8.out.c1
      refine bodyPost_ret (v := .tuple #[.agg #[.int .u8 0, .slice none 0 0], .int .i64 0, .int .i64 7]) (by simp [results, Try.results24, go_sem, d0, d1]) rfl ?_
      exact ⟨rfl, HB1.out.trans (jbelow HG8.out HB1.out.size (fun g e => by cases e; exact Nat.le_refl _))⟩
    have HCe : Hid (∀ w' : World, Below w.heap.size w w' → True) := fun _ _ => trivial
    have HFp : Hid (∀ w' : World, Below w.heap.size w w' → Sl w' (some ⟨b, o, none⟩) p f) := fun w' hb => ⟨fun i hi => ha.1 i (by omega), fun i hi => (ha.later hb).2 i (by omega)⟩
    have HF4 : Hid (∀ w' : World, Below w.heap.size w w' → Sl w' (some ⟨b, o + p, none⟩) 4 (fun j => f (p + j))) := fun w' hb => by
      have hp := sl_part (c := c) (p := p) (m := 4) (ha.later hb) (by omega) hnc
      unfold pca at hp
      rw [if_neg (by omega)] at hp
      exact hp
    have HSa : Hid (∀ (w' : World) (s3 : Option Addr) (d3 : Nat), Sl w' (some ⟨b, o + p, none⟩) 4 (fun j => f (p + j)) → Sl w' s3 4 (fr S) → Calls Try.prog 16 #[.slice (some ⟨b, o + p, none⟩) (t - p) (c - p), .slice s3 4 d3] w' fun e w'' => e = .returned (.bool false) ∧ w' = w'') := fun w' s3 d3 h1 h2 => by
      rw [show t - p = 4 by have := HT.out; omega]
      refine (same_exact w' _ s3 4 4 _ d3 _ _ h1 h2).mono (fun e w'' h => ?_)
      have hh : sameB 4 4 (fun j => f (p + j)) (fr S) = false := decide_eq_false (fun ⟨_, hx⟩ => by
        obtain ⟨j, hj, hn⟩ := hne
        have := hx j hj
        rw [← HS.out] at this
        exact hn this)
      rw [hh] at h
      exact h
    have q1 : (p : Int) ≤ (t : Int) := by omega
    have q2 : (t : Int) ≤ (c : Int) := by have := HT.out; omega
    have q3 : decide ((n : Int) - (p : Int) < 4) = false := decide_eq_false (by omega)
    have q5 : (p : Int) ≤ (c : Int) := by omega
    have q6 : c ≠ p := by omega
    have q7 : (0 : Int) ≤ (t : Int) := by omega
    have q8 : p ≤ t := by have := HT.out; omega
    have hwt : IntKind.i64.wrap (t : Int) = (t : Int) := by rw [IntKind.wrap_i64]; have := HT.out; omega
    clear ha hnum hne
    go_enter Try.func24, Try.ntmps24
    go_wp2_with (go_at_call 20; refine (HRt.out _ (jlow _ _)).mono ?_; rintro e w1 ⟨x1, rfl, ho1, hb1⟩; have HB1 : Hid (Below w.heap.size w w1) := jtwo (jlow _ _) hb1; have HO1 : Hid (Jo w1 (w.heap.size + 1) 5 .u8 x1 v G) := (by have h := ho1; simp only [size_alloc8] at h; exact h); have HV1 : Hid (Vc w1 w.heap.size (.int .u8 0) (.slice none 0 0)) := (Vc.new w (.int .u8 0) (.slice none 0 0)).later hb1; clear ho1 hb1)
    refine wp_region_held (S := fun _ => True) (by kernel_rfl) ?_
    change wpAnyH _ _ _ _ _ _ _ _ (World.drew _)
    obtain ⟨W0, HW0⟩ : ∃ W0, Hid (w1.drew = W0) := ⟨_, rfl⟩
    rw [HW0.out]
    have HBW : Hid (Below w1.heap.size w1 W0) := by rw [← HW0.out]; exact (Below.refl _ _).drew
    have HBw : Hid (Below w.heap.size w W0) := jtwo HB1.out HBW.out
    have HSp : Hid (Sl W0 (some ⟨b, o, none⟩) p f) := HFp.out _ HBw.out
    refine wpAnyH_take (i := 0) (v := ?v0) rfl (by kernel_rfl) (by kernel_rfl) (by kernel_rfl) (fun _ _ _ h => h) (Or.inl ⟨by rfl, ?y0⟩) trivial ?z0
    case y0 => (intro w hSw; (try dsimp only at hSw); go_simp; try with_reducible rfl)
    try simp only [List.getElem_toArray, List.getElem_cons_zero, Act.put, List.setIfInBounds_toArray, List.set_cons_zero, List.set_cons_succ]
    refine wpAnyH_take (i := 1) (v := ?v1) rfl (by kernel_rfl) (by kernel_rfl) (by kernel_rfl) (fun _ _ _ h => h) (Or.inl ⟨by rfl, ?y1⟩) trivial ?z1
    case y1 => (intro w hSw; (try dsimp only at hSw); go_simp; try with_reducible rfl)
    try simp only [List.getElem_toArray, List.getElem_cons_succ, List.getElem_cons_zero, Act.put, List.setIfInBounds_toArray, List.set_cons_zero, List.set_cons_succ]
    refine wpAnyH_take (i := 2) (v := ?v2) rfl (by kernel_rfl) (by kernel_rfl) (by kernel_rfl) (fun _ _ _ h => h) (Or.inl ⟨by rfl, ?y2⟩) trivial ?z2
    case y2 => (intro w hSw; (try dsimp only at hSw); go_simp; try with_reducible rfl)
    try simp only [List.getElem_toArray, List.getElem_cons_succ, List.getElem_cons_zero, Act.put, List.setIfInBounds_toArray, List.set_cons_zero, List.set_cons_succ]
    refine wpAnyH_take (i := 3) (v := ?v3) rfl (by kernel_rfl) (by kernel_rfl) (by kernel_rfl) (fun _ _ _ h => h) (Or.inl ⟨by rfl, ?y3⟩) trivial ?z3
    case y3 => (intro w hSw; (try dsimp only at hSw); go_simp; try with_reducible rfl)
    try simp only [List.getElem_toArray, List.getElem_cons_succ, List.getElem_cons_zero, Act.put, List.setIfInBounds_toArray, List.set_cons_zero, List.set_cons_succ]
    refine wpAnyH_take (i := 4) (v := ?v4) rfl (by kernel_rfl) (by kernel_rfl) (by kernel_rfl) (fun _ _ _ h => h) (Or.inl ⟨by rfl, ?y4⟩) trivial ?z4
    case y4 => (intro w hSw; (try dsimp only at hSw); go_simp; try with_reducible rfl)
    try simp only [List.getElem_toArray, List.getElem_cons_succ, List.getElem_cons_zero, Act.put, List.setIfInBounds_toArray, List.set_cons_zero, List.set_cons_succ]
    refine wpAnyH_take (i := 5) (v := ?v5) rfl (by kernel_rfl) (by kernel_rfl) (by kernel_rfl) (fun _ _ _ h => h) (Or.inl ⟨by rfl, ?y5⟩) trivial ?z5
    case y5 => (intro w hSw; (try dsimp only at hSw); go_simp; try with_reducible rfl)
    try simp only [List.getElem_toArray, List.getElem_cons_succ, List.getElem_cons_zero, Act.put, List.setIfInBounds_toArray, List.set_cons_zero, List.set_cons_succ]
    refine wpAnyH_take (i := 6) (v := ?v6) rfl (by kernel_rfl) (by kernel_rfl) (by kernel_rfl) (fun _ _ _ h => h) (Or.inl ⟨by rfl, ?y6⟩) trivial ?z6
    case y6 => (intro w hSw; (try dsimp only at hSw); go_simp; try with_reducible rfl)
    try simp only [List.getElem_toArray, List.getElem_cons_succ, List.getElem_cons_zero, Act.put, List.setIfInBounds_toArray, List.set_cons_zero, List.set_cons_succ]
    refine wpAnyH_take (i := 7) (v := ?v7) rfl (by kernel_rfl) (by kernel_rfl) (by kernel_rfl) (fun _ _ _ h => h) (Or.inl ⟨by rfl, ?y7⟩) trivial ?z7
    case y7 => (intro w hSw; (try dsimp only at hSw); go_simp; try with_reducible rfl)
    try simp only [List.getElem_toArray, List.getElem_cons_succ, List.getElem_cons_zero, Act.put, List.setIfInBounds_toArray, List.set_cons_zero, List.set_cons_succ]
    refine wpAnyH_ready (rs := [8]) (by kernel_rfl) (by simp) ?_
    refine AllReadyH.cons rfl (fun KK hKK => ?_) AllReadyH.nil
    go_simp
    refine (rsum8_ok _ (some ⟨b, o, none⟩) p c f HSp.out hp47).mono ?_
    rintro e w' ⟨rfl, rfl⟩
    rw [HS.out]
    refine hKK.out _ _ trivial (fun _ => ?_)
    clear hKK KK
    try simp only [List.getElem_toArray, List.getElem_cons_succ, List.getElem_cons_zero, Act.put, List.setIfInBounds_toArray, List.set_cons_zero, List.set_cons_succ]
    refine wpAnyH_ready (rs := [9]) (by kernel_rfl) (by simp) ?_
    refine AllReadyH.cons rfl (fun KK hKK => ?_) AllReadyH.nil
    go_simp
    refine (rfour8_ok _ S HS4.out).mono ?_
    rintro e w3 ⟨v3, rfl, ho3, hb3⟩
    obtain ⟨s3, d3, e3, _⟩ := ho3.form
    subst e3
    have HS3 : Hid (Sl w3 s3 4 (fr S)) := jo_sl ho3 (fun i _ => fr_lt S i)
    have HB3 : Hid (Below w.heap.size w w3) := jtwo HBw.out hb3
    have HO3 : Hid (Jo w3 (w.heap.size + 1) 5 .u8 x1 v G) := HO1.out.later (jtwo HBW.out hb3)
    have HV3 : Hid (Vc w3 w.heap.size (.int .u8 0) (.slice none 0 0)) := HV1.out.later (jtwo HBW.out hb3)
    have HF3 : Hid (Sl w3 (some ⟨b, o + p, none⟩) 4 (fun j => f (p + j))) := HF4.out _ HB3.out
    have HC3 := jhid8 (HCe.out _ HB3.out)
    clear ho3 hb3
    refine hKK.out _ _ trivial (fun _ => ?_)
    clear hKK KK
    try simp only [List.getElem_toArray, List.getElem_cons_succ, List.getElem_cons_zero, Act.put, List.setIfInBounds_toArray, List.set_cons_zero, List.set_cons_succ]
    refine wpAnyH_ready (rs := [10]) (by kernel_rfl) (by simp) ?_
    refine AllReadyH.cons rfl (fun KK hKK => ?_) AllReadyH.nil
    go_simp
    refine (HSa.out _ _ _ HF3.out HS3.out).mono ?_
    rintro e w' ⟨rfl, rfl⟩
    refine hKK.out _ _ trivial (fun _ => ?_)
    clear hKK KK
    try simp only [List.getElem_toArray, List.getElem_cons_succ, List.getElem_cons_zero, Act.put, List.setIfInBounds_toArray, List.set_cons_zero, List.set_cons_succ]
    refine wpAnyH_take (i := 11) (v := ?v11) rfl (by kernel_rfl) (by kernel_rfl) (by kernel_rfl) (fun _ _ _ h => h) (Or.inl ⟨by rfl, ?y11⟩) trivial ?z11
    case y11 => (intro w hSw; (try dsimp only at hSw); go_simp; try with_reducible rfl)
    try simp only [List.getElem_toArray, List.getElem_cons_succ, List.getElem_cons_zero, Act.put, List.setIfInBounds_toArray, List.set_cons_zero, List.set_cons_succ]
    refine wpAnyH_done (by kernel_rfl) ?_ _
    go_wp2_with (refine wpList_store_vc rfl _ _ rfl w.heap.size _ _ (.int .u8 0) (.slice none 0 0) rfl rfl HV3.out rfl rfl ?_; intro w8 HV8 HG8)
    have d0 := HV8.out.c0
    have d1 := HV8.out.c1
    refine bodyPost_ret (v := .tuple #[.agg #[.int .u8 0, .slice none 0 0], .int .i64 0, .int .i64 80]) (by simp [results, Try.results24, go_sem, d0, d1]) rfl ?_
    exact ⟨rfl, HB3.out.trans (jbelow HG8.out HB3.out.size (fun g e => by cases e; exact Nat.le_refl _))⟩
end Go.Proofs.Ytlfmekjkgegclaa
