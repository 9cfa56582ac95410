/-
  Contracts of the program's matrices: Stack.
  Contracts of the program's matrices: fillMultiples, Kron.
  The program's answers and the reference's, told alike: for each function what both answer.
  One product that the document fixes; what follows for products of matrices (grouped, transposed, applied, laid together); the program's answers by cases.
-/
import Derived.Test.YtnfbbddoaeofgaaGreatQmmde27
import Derived.Test.YtnfbbddoaeofgaaGreatQmmde00
set_option maxRecDepth 100000
set_option maxHeartbeats 16000000
namespace Go.Proofs.YtnfbbddoaeofgaaGreat
open Go.RowKit
theorem qdd {ops : Array Oper} {op : Oper} {a : Act} {w : World} {K : Act → World → Prop} {Q : Exit → Act → World → Prop} {E : Prop} (hgd : op.guard = none) (s x : Operand) (ho : op.op = .call { callee := .builtin .append, args := #[s, x], argTypes := #[137, 137] })
  (base n : Nat) (v : Value) (ls : List Value) (hs : a.eval s = v) (hown : w.ownsRow base 22 1 v n ls) (g m c : Nat) (u : Nat → Value) (hx : a.eval x = .slice (some ⟨g, 0, none⟩) m c) (hu : VAt w g m u) (h1 : ∀ i, i < m → (u i).oneCell' = true) (h63 : n + m ≤ 4096) (hbase : base ≤ w.heap.size)
  (h : ∀ v' w', w'.ownsRow base 22 1 v' (n + m) (ls ++ (vrow m u).toList) → w.grownBy w' v.ownBlock → K (a.put op.dst v') w') : if Region.wanted op (yielded ops a.tmps) = true then Oper.wp Tryz.prog op a w K Q else E := by
 obtain ⟨i0, hi, hz0, hz1, hz2⟩ := info_parts ql2
 have hw : Region.wanted op (yielded ops a.tmps) = true := by simp [Region.wanted, hgd]
 rw [if_pos hw]
 refine wp_append_own w s x 137 ho base 22 i0 (.slice none 0 0) 1 24 Tryz.underlying137 hi hz0 hz1 hz2 rfl (by decide) v n ls hs hown ⟨g, 0, none⟩ m c (vrow m u).toList hx (by simp [qb0]) ?_ ?_ (by unfold maxLen; omega) (by omega) hbase (fun v' w' h1 h2 _ => h v' w' h1 h2)
 ·intro j y hj
  have hjm : j < m := by
   have := (List.getElem?_eq_some_iff.1 hj).1
   simpa [qb0] using this
  rw [Array.getElem?_toList, qd4 m u j hjm] at hj
  rw [add_plain, Nat.zero_add, hu.cell j hjm, hj]
 ·intro y hy
  obtain ⟨j, hj⟩ := List.getElem?_of_mem hy
  have hjm : j < m := by
   have := (List.getElem?_eq_some_iff.1 hj).1
   simpa [qb0] using this
  rw [Array.getElem?_toList, qd4 m u j hjm] at hj
  cases hj
  exact h1 j hjm
theorem rvf_one (a : Option Addr) (c t i : Nat) : (rvf a c t i).oneCell' = true := by unfold rvf; split <;> rfl
theorem qj2 {w : World} {base n : Nat} {v : Value} {ls : List Value} (h : w.ownsRow base 22 1 v n ls) : ∃ s d, v = .slice s n d := by
 rcases h.2 with ⟨e, h0⟩ | ⟨g, cap, cur, e, _⟩
 ·subst h0; exact ⟨none, 0, e⟩
 ·exact ⟨_, _, e⟩
/-- The rows of both. -/
def skf (F G : Nat → Nat) (ra c i j : Nat) : Nat := if i < ra then F (i * c + j) else G ((i - ra) * c + j)
theorem stack_rl {w8 : World} {B ra rb c na nb ka kb d : Nat} {a b s : Option Addr} {F G : Nat → Nat} (ho : w8.ownsRow B 22 1 (.slice s (ra + rb) d) (ra + rb) ((vrow ra (rvf a c ra)).toList ++ (vrow rb (rvf b c rb)).toList)) (ha : Mt w8 a na ka F) (hb : Mt w8 b nb kb G) (RA : Rt ra c na) (RB : Rt rb c nb) :
  Rl w8 s (ra + rb) (fun i => if i < ra then pc a (i * c) c else pc b ((i - ra) * c) c) (fun _ => c) (fun _ => c) (skf F G ra c) := by
 refine ⟨fun i hi => ?_, fun i hi => ?_, fun i hi => ?_⟩
 ·cases s with
  | none =>
   rcases ho.2 with ⟨_, h0⟩ | ⟨g, cap, cur, e, _⟩
   ·omega
   ·cases e
  | some x =>
   obtain ⟨g, e⟩ : ∃ g, x = ⟨g, 0, none⟩ := by
    rcases ho.2 with ⟨e, _⟩ | ⟨g, cap, cur, e, _⟩
    ·cases e
    ·cases e; exact ⟨g, rfl⟩
   subst e
   refine ⟨g, 0, rfl, ?_⟩
   rw [Nat.zero_add, ho.cellAt i (by omega)]
   by_cases h : i < ra
   ·rw [List.getElem?_append_left (by simpa [qb0] using h), Array.getElem?_toList, qd4 _ _ _ h]
    unfold rvf
    rw [if_pos h, if_pos h]
   ·rw [List.getElem?_append_right (by simp [qb0]; omega), Array.getElem?_toList]
    have e2 : i - (vrow ra (rvf a c ra)).toList.length = i - ra := by simp [qb0]
    rw [e2, qd4 _ _ _ (by omega)]
    unfold rvf
    rw [if_pos (by omega), if_neg h]
 ·by_cases h : i < ra
  ·have := ha.piece (RA.fit h)
   simp only [if_pos h]
   exact this.congr (fun j _ => by unfold skf; rw [if_pos h])
  ·have := hb.piece (RB.fit (show i - ra < rb by omega))
   simp only [if_neg h]
   exact this.congr (fun j _ => by unfold skf; rw [if_neg h])
 ·intro e
  by_cases h : i < ra
  ·simp only [if_pos h] at e
   have := qgm ha.nil (RA.fit h) e
   exact ⟨this, this⟩
  ·simp only [if_neg h] at e
   have := qgm hb.nil (RB.fit (show i - ra < rb by omega)) e
   exact ⟨this, this⟩
theorem off_stf (F G : Nat → Nat) {ra rb c na nb : Nat} (RA : Rt ra c na) (RB : Rt rb c nb) (p : Nat) (hp : p < na + nb) : off (skf F G ra c) c p = stf F G na p := by
 have hc : 0 < c := by
  rcases Nat.eq_zero_or_pos c with rfl | h
  ·have h1 := RA.len
   have h2 := RB.len
   omega
  ·exact h
 have e := Nat.div_add_mod p c
 have hm := Nat.mod_lt p hc
 have hl := RA.len
 unfold off skf stf
 by_cases h : p < na
 ·have : p / c < ra := (Nat.div_lt_iff_lt_mul hc).2 (by rw [hl]; exact h)
  rw [if_pos this, if_pos h]
  congr 1
  rw [Nat.mul_comm]
  exact e
 ·have h2 : ¬ p / c < ra := fun x => h (by have := (Nat.div_lt_iff_lt_mul hc).1 x; rw [hl] at this; exact this)
  rw [if_neg h2, if_neg h]
  congr 1
  obtain ⟨q, hq⟩ : ∃ q, p / c = ra + q := ⟨p / c - ra, by omega⟩
  rw [hq] at e ⊢
  rw [Nat.add_sub_cancel_left]
  rw [Nat.mul_add, Nat.mul_comm c ra, hl, Nat.mul_comm c q] at e
  omega
/-- What Stack keeps of its variables. -/
structure StI (w wr : World) (ra ca rb cb na ka nb kb : Nat) (a b : Option Addr) : Prop where
 va : Vr wr w.heap.size (.int .i64 (ra : Int)) (.int .i64 (ca : Int)) (.slice a na ka)
 vb : Vr wr (w.heap.size + 1) (.int .i64 (rb : Int)) (.int .i64 (cb : Int)) (.slice b nb kb)
 vr : Vr wr (w.heap.size + 1 + 1) (.int .i64 0) (.int .i64 0) (.slice none 0 0)
 below : Below w.heap.size w wr
theorem StI.later {w wr w' : World} {ra ca rb cb na ka nb kb : Nat} {a b : Option Addr} (I : StI w wr ra ca rb cb na ka nb kb a b) (hb : Below wr.heap.size wr w') : StI w w' ra ca rb cb na ka nb kb a b := ⟨I.va.later hb, I.vb.later hb, I.vr.later hb, qa1 I.below hb⟩
theorem StI.grown {w wr w' : World} {ra ca rb cb na ka nb kb : Nat} {a b : Option Addr} {row : Option Nat} (I : StI w wr ra ca rb cb na ka nb kb a b) (hg : wr.grownBy w' row) (hr : ∀ k, row = some k → w.heap.size + 1 + 1 < k) : StI w w' ra ca rb cb na ka nb kb a b :=
 ⟨I.va.grown hg (fun e => by have := hr _ e; omega), I.vb.grown hg (fun e => by have := hr _ e; omega), I.vr.grown hg (fun e => by have := hr _ e; omega), I.below.grown hg I.below.size (fun k hk => by have := hr k hk; omega)⟩
theorem ql3 (w : World) (ra rb c na nb RR N ka kb : Nat) (a b : Option Addr) (F G : Nat → Nat) (ha : Mt w a na ka F) (hb : Mt w b nb kb G) (RA : Rt ra c na) (RB : Rt rb c nb) (eR : ra + rb = RR) (hR : RR ≤ 64) (eN : na + nb = N) :
  Calls Tryz.prog 80 #[mv ra c a na ka, mv rb c b nb kb] w fun e w' => ∃ g, e = .returned (.tuple #[mv RR c (some ⟨g, 0, none⟩) N N, .int .i64 0]) ∧ RowAt w' g 5 N (stf F G na) ∧ w.heap.size ≤ g ∧ Below w.heap.size w w' := by
 obtain ⟨wb, HW, HX⟩ : ∃ wb, Hid (wb = (((w.alloc (.cells #[.int .i64 (ra : Int), .int .i64 (c : Int), .slice a na ka] 24)).alloc (.cells #[.int .i64 (rb : Int), .int .i64 (c : Int), .slice b nb kb] 24)).alloc (.cells #[.int .i64 0, .int .i64 0, .slice none 0 0] 24)).alloc (.cells #[.int .i64 (ra : Int), .int .i64 (c : Int), .slice a na ka, .int .i64 (rb : Int), .int .i64 (c : Int), .slice b nb kb] 24)) ∧ Hid (Box3s w wb (ra : Int) (c : Int) (rb : Int) (c : Int) na ka nb kb a b) := ⟨_, rfl, box3s w (ra : Int) (c : Int) (rb : Int) (c : Int) na ka nb kb a b⟩
 have HRA : Hid (Rt ra c na) := RA
 have HRB : Hid (Rt rb c nb) := RB
 have ra64 := RA.r64
 have rb64 := RB.r64
 have hc64 := RA.c64
 have HER : Hid (ra + rb = RR) := eR
 have HN : Hid (RR * c = N) := by show _ = _; rw [← eN, ← RA.len, ← RB.len, ← eR, Nat.add_mul]
 have HEN : Hid (na + nb = N) := eN
 have eR' : (ra : Int) + (rb : Int) = (RR : Int) := by omega
 have wR : IntKind.i64.wrap (RR : Int) = (RR : Int) := by rw [IntKind.wrap_i64]; omega
 have HA : Hid (Mt w a na ka F) := ha
 have HBm : Hid (Mt w b nb kb G) := hb
 obtain ⟨fn, HFn⟩ : ∃ fn : Nat → Nat, Hid (stf F G na = fn) := ⟨_, rfl⟩
 rw [HFn.out]
 clear ha hb RA RB eR eN
 go_enter Tryz.func80, Tryz.ntmps80
 go_wp2_with (first
  | (go_at_call 93; rw [← HW.out]; refine (ql0 _ _ _ _ _ _ _ _ _ _ _ _ HX.out.tw HRA.out.p HRB.out.p).mono ?_; rintro e w2 ⟨rfl, hb2⟩; have HB2 : Hid (Below w.heap.size w w2) := qa1 HX.out.below hb2; have HV2 : Hid (Vr w2 (w.heap.size + 1 + 1) (.int .i64 0) (.int .i64 0) (.slice none 0 0)) := HX.out.vr.later hb2; have a0 := (HX.out.va.later hb2).c0; have a1 := (HX.out.va.later hb2).c1; have b0 := (HX.out.vb.later hb2).c0; have b1 := (HX.out.vb.later hb2).c1; have HK : Hid (Vr w2 w.heap.size (.int .i64 (ra : Int)) (.int .i64 (c : Int)) (.slice a na ka) ∧ Vr w2 (w.heap.size + 1) (.int .i64 (rb : Int)) (.int .i64 (c : Int)) (.slice b nb kb)) := ⟨HX.out.va.later hb2, HX.out.vb.later hb2⟩; clear hb2)
  | (go_at_call 94; refine (qdj _ _ ⟨by omega, by omega⟩).mono ?_; rintro e w' ⟨rfl, rfl⟩))
 have HI : Hid (StI w w2.drew ra c rb c na ka nb kb a b) := StI.later ⟨HK.out.1, HK.out.2, HV2.out, HB2.out⟩ (Below.refl _ _).drew
 have HD : Hid (w2.drew.cell? ⟨w.heap.size, 0, none⟩ = some (.int .i64 (ra : Int)) ∧ w2.drew.cell? ⟨w.heap.size, 1, none⟩ = some (.int .i64 (c : Int)) ∧ w2.drew.cell? ⟨w.heap.size, 2, none⟩ = some (.slice a na ka) ∧ w2.drew.cell? ⟨w.heap.size + 1, 0, none⟩ = some (.int .i64 (rb : Int)) ∧ w2.drew.cell? ⟨w.heap.size + 1, 1, none⟩ = some (.int .i64 (c : Int)) ∧ w2.drew.cell? ⟨w.heap.size + 1, 2, none⟩ = some (.slice b nb kb)) := ⟨HI.out.va.c0, HI.out.va.c1, HI.out.va.c2, HI.out.vb.c0, HI.out.vb.c1, HI.out.vb.c2⟩
 have l2 := HV2.out.lt
 have ne0 : w.heap.size ≠ w.heap.size + 1 + 1 := by omega
 have ne1 : w.heap.size + 1 ≠ w.heap.size + 1 + 1 := by omega
 clear HW HX HK a0 a1 b0 b1
 refine qac (k := 9) (n := 9) (fun w' => w'.cell? ⟨w.heap.size, 0, none⟩ = some (.int .i64 (ra : Int)) ∧ w'.cell? ⟨w.heap.size, 1, none⟩ = some (.int .i64 (c : Int)) ∧ w'.cell? ⟨w.heap.size, 2, none⟩ = some (.slice a na ka) ∧ w'.cell? ⟨w.heap.size + 1, 0, none⟩ = some (.int .i64 (rb : Int)) ∧ w'.cell? ⟨w.heap.size + 1, 1, none⟩ = some (.int .i64 (c : Int)) ∧ w'.cell? ⟨w.heap.size + 1, 2, none⟩ = some (.slice b nb kb)) (by kernel_rfl) (by kernel_rfl) (by decide) (by rfl) ?_
 refine wtkq 0 ?v0 rfl (by kernel_rfl) (fun _ _ _ h => h) (by rfl) ?y0 HD.out ?z0
 case y0 => (intro w hSw; (try dsimp only at hSw); go_simp; try with_reducible rfl)
 try simp only [mz1, mz3, Act.put, mz4, mz5, mz6]
 refine wtkq 1 ?v1 rfl (by kernel_rfl) (fun _ _ _ h => h) (by rfl) ?y1 HD.out ?z1
 case y1 => (intro w hSw; (try dsimp only at hSw); go_simp; try with_reducible rfl)
 try simp only [mz1, mz2, mz3, Act.put, mz4, mz5, mz6]
 refine wtkq 2 ?v2 rfl (by kernel_rfl) (fun _ _ _ h => h) (by rfl) ?y2 HD.out ?z2
 case y2 => (intro w hSw; (try dsimp only at hSw); go_simp; try with_reducible rfl)
 try simp only [mz1, mz2, mz3, Act.put, mz4, mz5, mz6]
 refine wtkq 4 ?v4 rfl (by kernel_rfl) (fun _ _ _ h => h) (by rfl) ?y4 HD.out ?z4
 case y4 => (intro w hSw; (try dsimp only at hSw); go_simp; try with_reducible rfl)
 try simp only [mz1, mz2, mz3, Act.put, mz4, mz5, mz6]
 refine wpAnyH_ready (rs := [3]) (by kernel_rfl) (by simp) ?_
 refine AllReadyH.cons rfl (fun K hK => ?_) AllReadyH.nil
 go_simp
 refine (qey _ ra c na ka a F (HA.out.later HI.out.below) HRA.out).mono ?_; rintro e w3 ⟨g3, rfl, hv3, hg3, hb3⟩; have HI3 : Hid (StI w w3 ra c rb c na ka nb kb a b) := HI.out.later hb3; have HK1 : Hid (w3.cell? ⟨w.heap.size, 0, none⟩ = some (.int .i64 (ra : Int)) ∧ w3.cell? ⟨w.heap.size, 1, none⟩ = some (.int .i64 (c : Int)) ∧ w3.cell? ⟨w.heap.size, 2, none⟩ = some (.slice a na ka) ∧ w3.cell? ⟨w.heap.size + 1, 0, none⟩ = some (.int .i64 (rb : Int)) ∧ w3.cell? ⟨w.heap.size + 1, 1, none⟩ = some (.int .i64 (c : Int)) ∧ w3.cell? ⟨w.heap.size + 1, 2, none⟩ = some (.slice b nb kb)) := ⟨HI3.out.va.c0, HI3.out.va.c1, HI3.out.va.c2, HI3.out.vb.c0, HI3.out.vb.c1, HI3.out.vb.c2⟩; have HL0 : Hid (VAt w3 g3 ra (rvf a c ra)) := hv3; have hg3' : w2.heap.size ≤ g3 := hg3; clear hv3 hg3 hb3; dsimp only
 refine hK.out _ _ HK1.out (fun _ => ?_)
 clear hK K
 try simp only [mz1, mz2, mz3, Act.put, mz4, mz5, mz6]
 refine wpAnyH_ready (rs := [5]) (by kernel_rfl) (by simp) ?_
 refine AllReadyH.cons rfl (fun K hK => ?_) AllReadyH.nil
 go_simp
 refine (qey _ rb c nb kb b G (HBm.out.later HI3.out.below) HRB.out).mono ?_; rintro e w4 ⟨g4, rfl, hv4, hg4, hb4⟩; have HI4 : Hid (StI w w4 ra c rb c na ka nb kb a b) := HI3.out.later hb4; have HK2 : Hid (w4.cell? ⟨w.heap.size, 0, none⟩ = some (.int .i64 (ra : Int)) ∧ w4.cell? ⟨w.heap.size, 1, none⟩ = some (.int .i64 (c : Int)) ∧ w4.cell? ⟨w.heap.size, 2, none⟩ = some (.slice a na ka) ∧ w4.cell? ⟨w.heap.size + 1, 0, none⟩ = some (.int .i64 (rb : Int)) ∧ w4.cell? ⟨w.heap.size + 1, 1, none⟩ = some (.int .i64 (c : Int)) ∧ w4.cell? ⟨w.heap.size + 1, 2, none⟩ = some (.slice b nb kb)) := ⟨HI4.out.va.c0, HI4.out.va.c1, HI4.out.va.c2, HI4.out.vb.c0, HI4.out.vb.c1, HI4.out.vb.c2⟩; have HL3 : Hid (VAt w4 g3 ra (rvf a c ra)) := HL0.out.later hb4; have HL4 : Hid (VAt w4 g4 rb (rvf b c rb)) := hv4; clear hv4 hg4 hb4; dsimp only
 refine hK.out _ _ HK2.out (fun _ => ?_)
 clear hK K
 try simp only [mz1, mz2, mz3, Act.put, mz4, mz5, mz6]
 refine wpAnyH_ready (rs := [6]) (by kernel_rfl) (by simp) ?_
 refine AllReadyH.cons rfl (fun K hK => ?_) AllReadyH.nil
 refine qdd rfl _ _ rfl w2.heap.size ra (.slice (some ⟨g3, 0, none⟩) ra ra) (vrow ra (rvf a c ra)).toList rfl (HL3.out.own hg3' (by unfold maxLen; omega)) g4 rb rb (rvf b c rb) rfl HL4.out (fun i _ => rvf_one b c rb i) (by omega) (Nat.le_trans hg3' (Nat.le_of_lt HL3.out.lt)) ?_; intro v6 w6 ho6 hg6; have HI6 : Hid (StI w w6 ra c rb c na ka nb kb a b) := HI4.out.grown hg6 (fun k hk => by { cases hk; show _ < g3; omega }); have HK4 : Hid (w6.cell? ⟨w.heap.size, 0, none⟩ = some (.int .i64 (ra : Int)) ∧ w6.cell? ⟨w.heap.size, 1, none⟩ = some (.int .i64 (c : Int)) ∧ w6.cell? ⟨w.heap.size, 2, none⟩ = some (.slice a na ka) ∧ w6.cell? ⟨w.heap.size + 1, 0, none⟩ = some (.int .i64 (rb : Int)) ∧ w6.cell? ⟨w.heap.size + 1, 1, none⟩ = some (.int .i64 (c : Int)) ∧ w6.cell? ⟨w.heap.size + 1, 2, none⟩ = some (.slice b nb kb)) := ⟨HI6.out.va.c0, HI6.out.va.c1, HI6.out.va.c2, HI6.out.vb.c0, HI6.out.vb.c1, HI6.out.vb.c2⟩; obtain ⟨s6, d6, e6⟩ := qj2 ho6; subst e6; have HRl : Hid (Rl w6 s6 RR (fun i => if i < ra then pc a (i * c) c else pc b ((i - ra) * c) c) (fun _ => c) (fun _ => c) (skf F G ra c)) := by { show Rl _ _ _ _ _ _ _; rw [← HER.out]; exact stack_rl ho6 (HA.out.later HI6.out.below) (HBm.out.later HI6.out.below) HRA.out HRB.out }; rw [HER.out]; clear ho6 hg6
 refine hK.out _ _ HK4.out (fun _ => ?_)
 clear hK K
 try simp only [mz1, mz2, mz3, Act.put, mz4, mz5, mz6]
 refine wpAnyH_ready (rs := [7]) (by kernel_rfl) (by simp) ?_
 refine AllReadyH.cons rfl (fun K hK => ?_) AllReadyH.nil
 go_simp
 refine (qj1 _ RR c d6 N s6 (fun i => if i < ra then pc a (i * c) c else pc b ((i - ra) * c) c) (fun _ => c) (fun _ => c) (skf F G ra c) (HRl.out) (fun _ _ => rfl) hR hc64 HN).mono ?_; rintro e w7 ⟨g7, rfl, hr7, hg7, hb7⟩; have HI7 : Hid (StI w w7 ra c rb c na ka nb kb a b) := HI6.out.later hb7; have HK5 : Hid (w7.cell? ⟨w.heap.size, 0, none⟩ = some (.int .i64 (ra : Int)) ∧ w7.cell? ⟨w.heap.size, 1, none⟩ = some (.int .i64 (c : Int)) ∧ w7.cell? ⟨w.heap.size, 2, none⟩ = some (.slice a na ka) ∧ w7.cell? ⟨w.heap.size + 1, 0, none⟩ = some (.int .i64 (rb : Int)) ∧ w7.cell? ⟨w.heap.size + 1, 1, none⟩ = some (.int .i64 (c : Int)) ∧ w7.cell? ⟨w.heap.size + 1, 2, none⟩ = some (.slice b nb kb)) := ⟨HI7.out.va.c0, HI7.out.va.c1, HI7.out.va.c2, HI7.out.vb.c0, HI7.out.vb.c1, HI7.out.vb.c2⟩; have HR7 : Hid (RowAt w7 g7 5 N fn) := hr7.congr (fun p hp => by { rw [off_stf F G HRA.out HRB.out p (by rw [HEN.out]; exact hp), HFn.out] }); have hg7' : w6.heap.size ≤ g7 := hg7; clear hr7 hg7 hb7; dsimp only
 refine hK.out _ _ HK5.out (fun _ => ?_)
 clear hK K
 try simp only [mz1, mz2, mz3, Act.put, mz4, mz5, mz6]
 refine wpAnyH_ready (rs := [8]) (by kernel_rfl) (by simp) ?_
 refine AllReadyH.cons rfl (fun K hK => ?_) AllReadyH.nil
 refine qal rfl _ _ rfl (w.heap.size + 1 + 1) _ _ _ (.int .i64 (RR : Int)) (.int .i64 (c : Int)) (.slice (some ⟨g7, 0, none⟩) N N) rfl rfl HI7.out.vr rfl rfl rfl ?_; intro w9 HV9 HG9; have HK6 : Hid (w9.cell? ⟨w.heap.size, 0, none⟩ = some (.int .i64 (ra : Int)) ∧ w9.cell? ⟨w.heap.size, 1, none⟩ = some (.int .i64 (c : Int)) ∧ w9.cell? ⟨w.heap.size, 2, none⟩ = some (.slice a na ka) ∧ w9.cell? ⟨w.heap.size + 1, 0, none⟩ = some (.int .i64 (rb : Int)) ∧ w9.cell? ⟨w.heap.size + 1, 1, none⟩ = some (.int .i64 (c : Int)) ∧ w9.cell? ⟨w.heap.size + 1, 2, none⟩ = some (.slice b nb kb)) := ⟨(HI7.out.va.kept HG9.out ne0).c0, (HI7.out.va.kept HG9.out ne0).c1, (HI7.out.va.kept HG9.out ne0).c2, (HI7.out.vb.kept HG9.out ne1).c0, (HI7.out.vb.kept HG9.out ne1).c1, (HI7.out.vb.kept HG9.out ne1).c2⟩
 refine hK.out _ _ HK6.out (fun _ => ?_)
 clear hK K
 try simp only [mz1, mz2, mz3, Act.put]
 refine wpAnyH_done (by kernel_rfl) ?_ _
 refine qav rfl (fun K hK => ?_)
 go_simp
 refine hK.out _ _ ?_
 clear hK K
 try simp only [mz1, mz2, mz3, Act.put, mz4, mz5, mz6]
 go_wp2
 have e0 := HV9.out.c0
 have e1 := HV9.out.c1
 have e2 := HV9.out.c2
 refine bodyPost_ret (v := .tuple #[mv RR c (some ⟨g7, 0, none⟩) N N, .int .i64 0]) (by simp [results, Tryz.results80, go_sem, e0, e1, e2, mv]) rfl ?_
 have l6 := HI6.out.vr.lt
 exact ⟨g7, rfl, HR7.out.kept HG9.out (by omega), by omega, qa2 HI7.out.below HG9.out (by omega)⟩
open Go.RowKit
/-- A matrix and an error are answered. -/
def MAns (w w' : World) (e : Ending) (R C : Int) (N : Nat) (f : Nat → Nat) (E : Int) : Prop := ∃ s d, e = .returned (.tuple #[mv R C s N d, .int .i64 E]) ∧ Mt w' s N d f ∧ Below w.heap.size w w'
theorem mans_row {w w' : World} {e : Ending} {R C E : Int} {N : Nat} {f : Nat → Nat} (hf : ∀ i, i < N → f i < 256) (h : ∃ g, e = .returned (.tuple #[mv R C (some ⟨g, 0, none⟩) N N, .int .i64 E]) ∧ RowAt w' g 5 N f ∧ w.heap.size ≤ g ∧ Below w.heap.size w w') : MAns w w' e R C N f E := by
 obtain ⟨g, he, hr, _, hb⟩ := h
 exact ⟨_, _, he, hr.mt hf, hb⟩
theorem ql4 {w : World} {base n d : Nat} {s : Option Addr} {f : Nat → Nat} (h : w.ownsRow base 5 1 (.slice s n d) n (row n f).toList) (hf : ∀ i, i < n → f i < 256) : Mt w s n d f := by
 refine ⟨qc7 h hf, ?_, qbi h⟩
 rcases h.2 with ⟨e, h0⟩ | ⟨g, cap, cur, e, _, _, hc, _⟩
 ·cases e; omega
 ·cases e; omega
theorem qas {p : Prop} (h : p) : Hid p := h
theorem prk_all {F : Nat → Nat} (G : Nat → Nat) {ra ca cb na n : Nat} (hF : ∀ i, i < na → F i < 256) (RA : Rt ra ca na) (RC : Rt ra cb n) : ∀ p, p < n → prk F G ca cb ca p < 256 := by
 intro p hp
 rw [← RC.len] at hp
 have hc : 0 < cb := by
  rcases Nat.eq_zero_or_pos cb with rfl | h
  ·omega
  ·exact h
 have e := Nat.div_add_mod p cb
 rw [Nat.mul_comm] at e
 rw [← e]
 exact prk_lt G hF RA ((Nat.div_lt_iff_lt_mul hc).2 hp) (Nat.mod_lt p hc) (Nat.le_refl _)
open Go.RowKit
/-- Every place of a matrix is a row and a column. -/
theorem place_of {r c n p : Nat} (R : Rt r c n) (hp : p < n) : ∃ i j, i < r ∧ j < c ∧ p = i * c + j := by
 have hl := R.len
 have hc : 0 < c := by
  rcases Nat.eq_zero_or_pos c with rfl | h
  ·omega
  ·exact h
 refine ⟨p / c, p % c, (Nat.div_lt_iff_lt_mul hc).2 (by rw [hl]; exact hp), Nat.mod_lt p hc, ?_⟩
 have := Nat.div_add_mod p c
 rw [Nat.mul_comm] at this
 exact this.symm
end Go.Proofs.YtnfbbddoaeofgaaGreat
