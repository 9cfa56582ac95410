/-
  Contract of the matrices' reference: Stack.
-/
import Derived.Test.YtaoehildaenbnaaSj
import Derived.Laws.AppendOwnNone
namespace Go.Proofs.Ytaoehildaenbnaa
open Go.RowKit
theorem step_store_var {ops : Array Oper} {op : Oper} {a : Act} {w : World} {K : Act → World → Prop} {Q : Exit → Act → World → Prop} (hgd : op.guard = none) (p q : Operand) (ho : op.op = .store 24 p q)
    (b : Nat) (x y z x' y' z' : Value) (hp : a.eval p = .pointer (some ⟨b, 0, none⟩)) (hq : a.eval q = .agg #[x', y', z']) (hv : Vr w b x y z) (h0 : x'.oneCell' = true) (h1 : y'.oneCell' = true) (h2 : z'.oneCell' = true)
    (h : ∀ w', Hid (Vr w' b x' y' z') → Hid (w.grownBy w' (some b)) → K (a.put op.dst undef) w') : if Region.wanted op (yielded ops a.tmps) = true then Oper.wp Try.prog op a w K Q else K (a.put op.dst undef) w := by
  have hw : Region.wanted op (yielded ops a.tmps) = true := by simp [Region.wanted, hgd]
  rw [if_pos hw]
  exact wp_store_mid 24 p q ho b 0 #[x', y', z'] hp hq hv.there size24 (by simp [h0, h1, h2]) (h _ (((hv.set0 x').set1 y').set2 z') (grown_trans (grown_trans (grown_setCell _ _ _ _) (grown_setCell _ _ _ _)) (grown_setCell _ _ _ _)))
/-- One list behind the other. -/
def stf (F G : Nat → Nat) (m p : Nat) : Nat := if p < m then F p else G (p - m)
theorem row_stf (F G : Nat → Nat) (m k : Nat) : (row m F).toList ++ (row k G).toList = (row (m + k) (stf F G m)).toList := by
  apply List.ext_getElem?
  intro i
  have hl : (row m F).toList.length = m := by simp [row_size]
  by_cases h1 : i < m
  · rw [List.getElem?_append_left (by omega), Array.getElem?_toList, Array.getElem?_toList, row_get m F i h1, row_get (m + k) _ i (by omega)]
    unfold stf; rw [if_pos h1]
  · rw [List.getElem?_append_right (by omega), hl, Array.getElem?_toList, Array.getElem?_toList]
    by_cases h2 : i < m + k
    · rw [row_get k G (i - m) (by omega), row_get (m + k) _ i h2]
      unfold stf; rw [if_neg h1]
    · rw [Array.getElem?_eq_none (by simp [row_size]; omega), Array.getElem?_eq_none (by simp [row_size]; omega)]
theorem step_append_list {ops : Array Oper} {op : Oper} {a : Act} {w : World} {K : Act → World → Prop} {Q : Exit → Act → World → Prop} (hgd : op.guard = none) (s x : Operand) (ho : op.op = .call { callee := .builtin .append, args := #[s, x], argTypes := #[22, 22] })
    (base n : Nat) (v : Value) (ls : List Value) (hs : a.eval s = v) (hown : w.ownsRow base 5 1 v n ls) (b : Option Addr) (m c : Nat) (G : Nat → Nat) (hx : a.eval x = .slice b m c) (hb : Sl w b m G) (h0 : b = none → m = 0 ∧ c = 0) (h63 : n + m ≤ 140737488351232) (hbase : base ≤ w.heap.size)
    (h : ∀ v' w', w'.ownsRow base 5 1 v' (n + m) (ls ++ (row m G).toList) → w.grownBy w' v.ownBlock → K (a.put op.dst v') w') : if Region.wanted op (yielded ops a.tmps) = true then Oper.wp Try.prog op a w K Q else K (a.put op.dst undef) w := by
  obtain ⟨i0, hi, hz0, hz1, hz2⟩ := info_parts info8
  have hw : Region.wanted op (yielded ops a.tmps) = true := by simp [Region.wanted, hgd]
  rw [if_pos hw]
  cases b with
  | none =>
    obtain ⟨rfl, rfl⟩ := h0 rfl
    have hrun := run_append_owned_none (P := Try.prog) (w := w) base 22 op.type 5 i0 1 Try.underlying22 hi v n ls hown
    unfold Oper.wp
    simp [execOp, ho, resolve, invoke, builtin, hs, hx, hrun, Result.andThen]
    exact h v w (by rw [row_empty, List.append_nil]; exact hown) ⟨rfl, rfl, rfl, Nat.le_refl _, fun _ _ _ => rfl⟩
  | some ad =>
    exact wp_append_own w s x 22 ho base 5 i0 (.int .u8 0) 1 1 Try.underlying22 hi hz0 hz1 hz2 rfl (by decide) v n ls hs hown ad m c (row m G).toList hx (by simp [row_size]) (copy_news hb (Below.refl _ _)) (row_cells m G) (by unfold maxLen; omega) (by omega) hbase (fun v' w' h1 h2 _ => h v' w' h1 h2)
set_option maxRecDepth 20000 in
set_option maxHeartbeats 2000000 in
theorem rstack_ok (w : World) (ra rb c na nb RR ka kb : Nat) (a b : Option Addr) (F G : Nat → Nat) (ha : Sl w a na F) (hna : na ≤ 140737488351232) (h0a : a = none → na = 0 ∧ ka = 0) (hb : Sl w b nb G) (h0b : b = none → nb = 0 ∧ kb = 0) (RA : Rt ra c na) (RB : Rt rb c nb) (eR : ra + rb = RR) (hR : RR ≤ 64) :
    Calls Try.prog 30 #[mv ra c a na ka, mv rb c b nb kb] w fun e w' => ∃ s d, e = .returned (.tuple #[mv RR c s (na + nb) d, .int .i64 0]) ∧ w'.ownsRow w.heap.size 5 1 (.slice s (na + nb) d) (na + nb) (row (na + nb) (stf F G na)).toList ∧ Below w.heap.size w w' := by
  obtain ⟨wb, HW, HX⟩ : ∃ wb, Hid (wb = ((w.alloc (.cells #[.int .i64 (ra : Int), .int .i64 (c : Int), .slice a na ka] 24)).alloc (.cells #[.int .i64 (rb : Int), .int .i64 (c : Int), .slice b nb kb] 24)).alloc (.cells #[.int .i64 0, .int .i64 0, .slice none 0 0] 24)) ∧ Hid (Box3 w wb ra c rb c na ka nb kb a b) := ⟨_, rfl, box3 w ra c rb c na ka nb kb a b⟩
  have HRA : Hid (Rt ra c na) := RA
  have HRB : Hid (Rt rb c nb) := RB
  have la := RA.le
  have lb := RB.le
  have eR' : (ra : Int) + (rb : Int) = (RR : Int) := by omega
  have wR : IntKind.i64.wrap (RR : Int) = (RR : Int) := by rw [IntKind.wrap_i64]; omega
  have gR : decide ((64 : Int) < (RR : Int)) = false := by simp; omega
  have HSb : Hid (Sl w b nb G) := hb
  have HNb : Hid (b = none → nb = 0 ∧ kb = 0) := h0b
  have HCp : Hid (∀ w', Below w.heap.size w w' → Calls Try.prog 51 #[.slice a na ka] w' fun e w'' => ∃ v, e = .returned v ∧ w''.ownsRow w'.heap.size 5 1 v na (row na F).toList ∧ Below w'.heap.size w' w'') := fun w' h' => rcopy_any w' a na ka F (ha.later h') hna h0a
  clear ha hb hna h0a h0b RA RB eR
  go_enter Try.func30, Try.ntmps30
  go_wp2_with (first
    | (go_at_call 14; have _x := HB1; refine (right_yes _ _ _ _ _ _ HRB.out.p).mono ?_; rintro e w2 ⟨rfl, hb2⟩; have HB2 : Hid (Below wb.heap.size wb w2) := two_below HB1.out hb2; have a0 := (HX.out.va.later HB2.out).c0; have a1 := (HX.out.va.later HB2.out).c1; have b0 := (HX.out.vb.later HB2.out).c0; have b1 := (HX.out.vb.later HB2.out).c1; clear hb2)
    | (go_at_call 14; rw [← HW.out]; refine (right_yes _ _ _ _ _ _ HRA.out.p).mono ?_; rintro e w1 ⟨rfl, hb1⟩; have HB1 : Hid (Below wb.heap.size wb w1) := hb1; have b0 := (HX.out.vb.later hb1).c0; have b1 := (HX.out.vb.later hb1).c1; have b2 := (HX.out.vb.later hb1).c2; clear hb1))
  have a2 := (HX.out.va.later HB2.out).c2
  have b2' := (HX.out.vb.later HB2.out).c2
  have HV2 : Hid (Vr w2 (w.heap.size + 1 + 1) (.int .i64 0) (.int .i64 0) (.slice none 0 0)) := HX.out.vr.later HB2.out
  have HBw : Hid (Below w.heap.size w w2) := two_below HX.out.below HB2.out
  have l2 := HV2.out.lt
  have nea : ∀ {w5 : World} {v5 : Value} {n5 : Nat} {ls : List Value}, w5.ownsRow w2.heap.size 5 1 v5 n5 ls → v5.ownBlock ≠ some w.heap.size := fun h e => by have := own_base h _ e; omega
  have neb : ∀ {w5 : World} {v5 : Value} {n5 : Nat} {ls : List Value}, w5.ownsRow w2.heap.size 5 1 v5 n5 ls → v5.ownBlock ≠ some (w.heap.size + 1) := fun h e => by have := own_base h _ e; omega
  have nec : ∀ {w5 : World} {v5 : Value} {n5 : Nat} {ls : List Value}, w5.ownsRow w2.heap.size 5 1 v5 n5 ls → v5.ownBlock ≠ some (w.heap.size + 1 + 1) := fun h e => by have := own_base h _ e; omega
  have HD : Hid ((fun w' => w'.cell? ⟨w.heap.size, 0, none⟩ = some (.int .i64 (ra : Int)) ∧ w'.cell? ⟨w.heap.size, 1, none⟩ = some (.int .i64 (c : Int)) ∧ w'.cell? ⟨w.heap.size, 2, none⟩ = some (.slice a na ka) ∧ w'.cell? ⟨w.heap.size + 1, 0, none⟩ = some (.int .i64 (rb : Int)) ∧ w'.cell? ⟨w.heap.size + 1, 2, none⟩ = some (.slice b nb kb)) w2.drew) := ⟨a0, a1, a2, b0, b2'⟩
  have HCp2 : Hid (∀ w', Below w2.heap.size w2 w' → Calls Try.prog 51 #[.slice a na ka] w' fun e w'' => ∃ v, e = .returned v ∧ w''.ownsRow w'.heap.size 5 1 v na (row na F).toList ∧ Below w'.heap.size w' w'') := fun w' h' => HCp.out w' (two_below HBw.out h')
  replace HCp := HCp2
  clear HCp2 HW HX HB1
  refine wp_region_park (k := 15) (n := 15) (fun w' => w'.cell? ⟨w.heap.size, 0, none⟩ = some (.int .i64 (ra : Int)) ∧ w'.cell? ⟨w.heap.size, 1, none⟩ = some (.int .i64 (c : Int)) ∧ w'.cell? ⟨w.heap.size, 2, none⟩ = some (.slice a na ka) ∧ w'.cell? ⟨w.heap.size + 1, 0, none⟩ = some (.int .i64 (rb : Int)) ∧ w'.cell? ⟨w.heap.size + 1, 2, none⟩ = some (.slice b nb kb)) (by kernel_rfl) (by kernel_rfl) (by decide) (by rfl) ?_
  refine wpAnyH_take (i := 0) (v := ?v0) rfl (by kernel_rfl) (by kernel_rfl) (by kernel_rfl) (fun _ _ _ h => h) (Or.inl ⟨by rfl, ?y0⟩) HD.out ?z0
  case y0 => (intro w hSw; (try dsimp only at hSw); go_simp; try with_reducible rfl)
  try simp only [List.getElem_toArray, List.getElem_cons_zero, Act.put, List.setIfInBounds_toArray, List.set_cons_zero, List.set_cons_succ]
  refine wpAnyH_take (i := 1) (v := ?v1) rfl (by kernel_rfl) (by kernel_rfl) (by kernel_rfl) (fun _ _ _ h => h) (Or.inl ⟨by rfl, ?y1⟩) HD.out ?z1
  case y1 => (intro w hSw; (try dsimp only at hSw); go_simp; try with_reducible rfl)
  try simp only [List.getElem_toArray, List.getElem_cons_succ, List.getElem_cons_zero, Act.put, List.setIfInBounds_toArray, List.set_cons_zero, List.set_cons_succ]
  refine wpAnyH_take (i := 2) (v := ?v2) rfl (by kernel_rfl) (by kernel_rfl) (by kernel_rfl) (fun _ _ _ h => h) (Or.inl ⟨by rfl, ?y2⟩) HD.out ?z2
  case y2 => (intro w hSw; (try dsimp only at hSw); go_simp; try with_reducible rfl)
  try simp only [List.getElem_toArray, List.getElem_cons_succ, List.getElem_cons_zero, Act.put, List.setIfInBounds_toArray, List.set_cons_zero, List.set_cons_succ]
  refine wpAnyH_take (i := 3) (v := ?v3) rfl (by kernel_rfl) (by kernel_rfl) (by kernel_rfl) (fun _ _ _ h => h) (Or.inl ⟨by rfl, ?y3⟩) HD.out ?z3
  case y3 => (intro w hSw; (try dsimp only at hSw); go_simp; try with_reducible rfl)
  try simp only [List.getElem_toArray, List.getElem_cons_succ, List.getElem_cons_zero, Act.put, List.setIfInBounds_toArray, List.set_cons_zero, List.set_cons_succ]
  refine wpAnyH_take (i := 4) (v := ?v4) rfl (by kernel_rfl) (by kernel_rfl) (by kernel_rfl) (fun _ _ _ h => h) (Or.inl ⟨by rfl, ?y4⟩) HD.out ?z4
  case y4 => (intro w hSw; (try dsimp only at hSw); go_simp; try with_reducible rfl)
  try simp only [List.getElem_toArray, List.getElem_cons_succ, List.getElem_cons_zero, Act.put, List.setIfInBounds_toArray, List.set_cons_zero, List.set_cons_succ]
  refine wpAnyH_take (i := 5) (v := ?v5) rfl (by kernel_rfl) (by kernel_rfl) (by kernel_rfl) (fun _ _ _ h => h) (Or.inl ⟨by rfl, ?y5⟩) HD.out ?z5
  case y5 => (intro w hSw; (try dsimp only at hSw); go_simp; try with_reducible rfl)
  try simp only [List.getElem_toArray, List.getElem_cons_succ, List.getElem_cons_zero, Act.put, List.setIfInBounds_toArray, List.set_cons_zero, List.set_cons_succ]
  refine wpAnyH_take (i := 6) (v := ?v6) rfl (by kernel_rfl) (by kernel_rfl) (by kernel_rfl) (fun _ _ _ h => h) (Or.inl ⟨by rfl, ?y6⟩) HD.out ?z6
  case y6 => (intro w hSw; (try dsimp only at hSw); go_simp; try with_reducible rfl)
  try simp only [List.getElem_toArray, List.getElem_cons_succ, List.getElem_cons_zero, Act.put, List.setIfInBounds_toArray, List.set_cons_zero, List.set_cons_succ]
  refine wpAnyH_take (i := 7) (v := ?v7) rfl (by kernel_rfl) (by kernel_rfl) (by kernel_rfl) (fun _ _ _ h => h) (Or.inl ⟨by rfl, ?y7⟩) HD.out ?z7
  case y7 => (intro w hSw; (try dsimp only at hSw); go_simp; try with_reducible rfl)
  try simp only [List.getElem_toArray, List.getElem_cons_succ, List.getElem_cons_zero, Act.put, List.setIfInBounds_toArray, List.set_cons_zero, List.set_cons_succ]
  refine wpAnyH_take (i := 8) (v := ?v8) rfl (by kernel_rfl) (by kernel_rfl) (by kernel_rfl) (fun _ _ _ h => h) (Or.inl ⟨by rfl, ?y8⟩) HD.out ?z8
  case y8 => (intro w hSw; (try dsimp only at hSw); go_simp; try with_reducible rfl)
  try simp only [List.getElem_toArray, List.getElem_cons_succ, List.getElem_cons_zero, Act.put, List.setIfInBounds_toArray, List.set_cons_zero, List.set_cons_succ]
  refine wpAnyH_take (i := 10) (v := ?v10) rfl (by kernel_rfl) (by kernel_rfl) (by kernel_rfl) (fun _ _ _ h => h) (Or.inl ⟨by rfl, ?y10⟩) HD.out ?z10
  case y10 => (intro w hSw; (try dsimp only at hSw); go_simp; try with_reducible rfl)
  try simp only [List.getElem_toArray, List.getElem_cons_succ, List.getElem_cons_zero, Act.put, List.setIfInBounds_toArray, List.set_cons_zero, List.set_cons_succ]
  refine wpAnyH_take (i := 11) (v := ?v11) rfl (by kernel_rfl) (by kernel_rfl) (by kernel_rfl) (fun _ _ _ h => h) (Or.inl ⟨by rfl, ?y11⟩) HD.out ?z11
  case y11 => (intro w hSw; (try dsimp only at hSw); go_simp; try with_reducible rfl)
  try simp only [List.getElem_toArray, List.getElem_cons_succ, List.getElem_cons_zero, Act.put, List.setIfInBounds_toArray, List.set_cons_zero, List.set_cons_succ]
  refine wpAnyH_ready (rs := [9]) (by kernel_rfl) (by simp) ?_
  refine AllReadyH.cons rfl (fun K hK => ?_) AllReadyH.nil
  go_simp
  refine (HCp.out w2.drew (Below.refl _ _).drew).mono ?_; rintro e w5 ⟨v5, rfl, ho5, hbk⟩; have HD5 : Hid ((fun w' => w'.cell? ⟨w.heap.size, 0, none⟩ = some (.int .i64 (ra : Int)) ∧ w'.cell? ⟨w.heap.size, 1, none⟩ = some (.int .i64 (c : Int)) ∧ w'.cell? ⟨w.heap.size, 2, none⟩ = some (.slice a na ka) ∧ w'.cell? ⟨w.heap.size + 1, 0, none⟩ = some (.int .i64 (rb : Int)) ∧ w'.cell? ⟨w.heap.size + 1, 2, none⟩ = some (.slice b nb kb)) w5) := ⟨keepc hbk HD.out.1, keepc hbk HD.out.2.1, keepc hbk HD.out.2.2.1, keepc hbk HD.out.2.2.2.1, keepc hbk HD.out.2.2.2.2⟩; have HB5 : Hid (Below w2.heap.size w2 w5) := two_below (Below.refl _ _).drew hbk; have HO5 : Hid (w5.ownsRow w2.heap.size 5 1 v5 na (row na F).toList) := ho5; have HV5 : Hid (Vr w5 (w.heap.size + 1 + 1) (.int .i64 0) (.int .i64 0) (.slice none 0 0)) := HV2.out.later HB5.out; have hs5 := HB5.out.size; have HS5 : Hid (Sl w5 b nb G) := HSb.out.later (two_below HBw.out HB5.out); clear hbk ho5; dsimp only
  refine hK.out _ _ HD5.out (fun _ => ?_)
  clear hK K
  try simp only [List.getElem_toArray, List.getElem_cons_succ, List.getElem_cons_zero, Act.put, List.setIfInBounds_toArray, List.set_cons_zero, List.set_cons_succ]
  refine wpAnyH_ready (rs := [12]) (by kernel_rfl) (by simp) ?_
  refine AllReadyH.cons rfl (fun K hK => ?_) AllReadyH.nil
  refine step_append_list rfl _ _ rfl w2.heap.size na v5 (row na F).toList rfl HO5.out b nb kb G rfl HS5.out HNb.out (by omega) hs5 ?_; intro v8 w8 hown8 hgrow8; have HD8 : Hid ((fun w' => w'.cell? ⟨w.heap.size, 0, none⟩ = some (.int .i64 (ra : Int)) ∧ w'.cell? ⟨w.heap.size, 1, none⟩ = some (.int .i64 (c : Int)) ∧ w'.cell? ⟨w.heap.size, 2, none⟩ = some (.slice a na ka) ∧ w'.cell? ⟨w.heap.size + 1, 0, none⟩ = some (.int .i64 (rb : Int)) ∧ w'.cell? ⟨w.heap.size + 1, 2, none⟩ = some (.slice b nb kb)) w8) := ⟨keepg hgrow8 HD5.out.1 (nea HO5.out), keepg hgrow8 HD5.out.2.1 (nea HO5.out), keepg hgrow8 HD5.out.2.2.1 (nea HO5.out), keepg hgrow8 HD5.out.2.2.2.1 (neb HO5.out), keepg hgrow8 HD5.out.2.2.2.2 (neb HO5.out)⟩; have HV8 : Hid (Vr w8 (w.heap.size + 1 + 1) (.int .i64 0) (.int .i64 0) (.slice none 0 0)) := HV5.out.grown hgrow8 (nec HO5.out); have HO8 : Hid (w8.ownsRow w2.heap.size 5 1 v8 (na + nb) (row (na + nb) (stf F G na)).toList) := by { show World.ownsRow _ _ _ _ _ _ _; rw [← row_stf]; exact hown8 }; have HB8 : Hid (Below w2.heap.size w2 w8) := HB5.out.grown hgrow8 hs5 (own_base HO5.out); obtain ⟨s8, d8, e8, _, _⟩ := own_sl' hown8; subst e8; clear hown8 hgrow8
  refine hK.out _ _ HD8.out (fun _ => ?_)
  clear hK K
  try simp only [List.getElem_toArray, List.getElem_cons_succ, List.getElem_cons_zero, Act.put, List.setIfInBounds_toArray, List.set_cons_zero, List.set_cons_succ]
  refine wpAnyH_take (i := 13) (v := ?v13) rfl (by kernel_rfl) (by kernel_rfl) (by kernel_rfl) (fun _ _ _ h => h) (Or.inl ⟨by rfl, ?y13⟩) HD8.out ?z13
  case y13 => (intro w hSw; (try dsimp only at hSw); go_simp; try with_reducible rfl)
  try simp only [List.getElem_toArray, List.getElem_cons_succ, List.getElem_cons_zero, Act.put, List.setIfInBounds_toArray, List.set_cons_zero, List.set_cons_succ]
  refine wpAnyH_ready (rs := [14]) (by kernel_rfl) (by simp) ?_
  refine AllReadyH.cons rfl (fun K hK => ?_) AllReadyH.nil
  refine step_store_var rfl _ _ rfl (w.heap.size + 1 + 1) _ _ _ (.int .i64 (RR : Int)) (.int .i64 (c : Int)) (.slice s8 (na + nb) d8) rfl rfl HV8.out rfl rfl rfl ?_; intro w9 HV9 HG9; have HD9 : Hid ((fun w' => w'.cell? ⟨w.heap.size, 0, none⟩ = some (.int .i64 (ra : Int)) ∧ w'.cell? ⟨w.heap.size, 1, none⟩ = some (.int .i64 (c : Int)) ∧ w'.cell? ⟨w.heap.size, 2, none⟩ = some (.slice a na ka) ∧ w'.cell? ⟨w.heap.size + 1, 0, none⟩ = some (.int .i64 (rb : Int)) ∧ w'.cell? ⟨w.heap.size + 1, 2, none⟩ = some (.slice b nb kb)) w9) := ⟨keepg HG9.out HD8.out.1 (by simp; omega), keepg HG9.out HD8.out.2.1 (by simp; omega), keepg HG9.out HD8.out.2.2.1 (by simp; omega), keepg HG9.out HD8.out.2.2.2.1 (by simp), keepg HG9.out HD8.out.2.2.2.2 (by simp)⟩
  refine hK.out _ _ HD9.out (fun _ => ?_)
  clear hK K
  try simp only [List.getElem_toArray, List.getElem_cons_succ, List.getElem_cons_zero, Act.put]
  refine wpAnyH_done (by kernel_rfl) ?_ _
  refine park_last rfl (fun K hK => ?_)
  go_simp
  refine hK.out _ _ ?_
  clear hK K
  try simp only [List.getElem_toArray, List.getElem_cons_succ, List.getElem_cons_zero, Act.put, List.setIfInBounds_toArray, List.set_cons_zero, List.set_cons_succ]
  go_wp2
  have d0 := HV9.out.c0
  have d1 := HV9.out.c1
  have d2 := HV9.out.c2
  refine bodyPost_ret (v := .tuple #[mv RR c s8 (na + nb) d8, .int .i64 0]) (by simp [results, Try.results30, go_sem, d0, d1, d2, mv]) rfl ?_
  have own9 := HO8.out.kept HG9.out (.inr (nec HO8.out))
  exact ⟨s8, d8, rfl, own_mono own9 HBw.out.size, below_row (two_below HBw.out HB8.out) HG9.out (by omega)⟩
end Go.Proofs.Ytaoehildaenbnaa
