/-
  A code that came in, opened: a struct of a matrix and of a list.
  Stage 19: local.Group and the reference's Group; LocalGroups.
  Stage 19: local.Group and the reference's Group, where the code may be; LocalGroups.
  LocalGroups: local.Group and the reference's Group answer the same.
-/
import Derived.Test.YtlmanliinncdiaaGreatQggps00
import Derived.Test.YtlmanliinncdiaaGreatQggps02
import Derived.Lib.SmallJoins
import Derived.Test.YtlmanliinncdiaaGreatQggps49
set_option maxRecDepth 100000
set_option maxHeartbeats 16000000
namespace Go.Proofs.YtlmanliinncdiaaGreat
open Go.ChangeShapes Go.WideShapes Go.ChangeAt Go.RowKit Go.Joins
theorem array4 {α : Type} {cs : Array α} (h : cs.size = 4) : ∃ c0 c1 c2 c3, cs = #[c0, c1, c2, c3] := by
 obtain ⟨l⟩ := cs
 match l, h with
 | [c0, c1, c2, c3], _ => exact ⟨c0, c1, c2, c3, rfl⟩
theorem qj1 {H : Type} {enc : TypeId × Value → H} {P : Program} {w : World} {base : Nat} {spare : Nat → Bool} {held : Bool} {r : Reach} {b0 : Nat} {t : TypeId} {f0 f1 g0 g1 g2 : Field} {v : Value} {d : DataW H} {p : List MemPlace} (hs : P.underlying t = some (.struct #[f0, f1])) (hm : P.underlying f0.type = some (.struct #[g0, g1, g2])) (hone : Go.Deep.oneCellFields P #[g0, g1, g2] = true) (o0 : f0.offset = 0) (o1 : f1.offset = 3) (k0 : P.cellsOf f0.type = 3) (k1 : P.cellsOf f1.type = 1) (hC : P.cellsOf t = 4)
  (hv : Value.okWide P w r b0 t v) (h : DataW.Trod enc P w base spare held t v d p) :
  ∃ (v0 v1 v2 v3 : Value) (y0 y1 y2 y3 : DataW H × List MemPlace) (n n' : Nat), v = .agg #[v0, v1, v2, v3] ∧ d = .agg [.agg [y0.1, y1.1, y2.1], y3.1] ∧ p = (y0.2 ++ (y1.2 ++ y2.2)) ++ y3.2 ∧
   DataW.trod enc P w base spare held n' g0.type [v0] = some y0 ∧ DataW.trod enc P w base spare held n' g1.type [v1] = some y1 ∧ DataW.trod enc P w base spare held n' g2.type [v2] = some y2 ∧ DataW.trod enc P w base spare held n f1.type [v3] = some y3 := by
 obtain ⟨cs, rfl, hsz⟩ := okWide_struct hs hv
 obtain ⟨c0, c1, c2, c3, rfl⟩ := array4 (hsz.trans hC)
 obtain ⟨fuel, hf⟩ := h
 obtain ⟨xs, n, _, hx, hl, hlen, hff⟩ := DataW.trod_struct hs hf
 match xs, hlen with
 | [z0, y3], _ =>
  have h0 := hff 0 f0 rfl
  have h1 := hff 1 f1 rfl
  rw [o0, k0] at h0
  rw [o1, k1] at h1
  simp [Value.cells] at h0 h1
  obtain ⟨xs', n', _, hx', hl', hlen', hff'⟩ := DataW.trod_struct hm h0
  match xs', hlen' with
  | [y0, y1, y2], _ =>
   obtain ⟨q0, j0⟩ := Go.Deep.hone_of hone 0 g0 rfl
   obtain ⟨q1, j1⟩ := Go.Deep.hone_of hone 1 g1 rfl
   obtain ⟨q2, j2⟩ := Go.Deep.hone_of hone 2 g2 rfl
   have e0 := hff' 0 g0 rfl
   have e1 := hff' 1 g1 rfl
   have e2 := hff' 2 g2 rfl
   simp only [Prod.mk.injEq] at hx
   subst hx'
   exact ⟨c0, c1, c2, c3, y0, y1, y2, y3, n, n', rfl, by simpa using hx.1, by simpa using hx.2, by simpa [q0, j0] using e0, by simpa [q1, j1] using e1, by simpa [q2, j2] using e2, h1⟩
open Go.RowKit Go.Shelf
attribute [local go_sem] Oper.semAt_some
theorem qcf {p : Prop} (h : p) : Hid p := h
theorem qdd {n : Int} (h : (Lit.int .u64 n).wf = true) : 0 ≤ n ∧ n < 18446744073709551616 := by
 simp [Lit.wf, IntKind.min, IntKind.max, IntKind.bits, IntKind.signed] at h
 omega
theorem qf9 (w : World) (a : Option Addr) (len cap : Nat) (zs : List Int)
  (h : (a = none ∧ len = 0 ∧ cap = 0 ∧ zs = []) ∨ ∃ x, a = some x ∧ len ≤ cap ∧ cap ≤ 140737488351232 ∧ zs.length = cap ∧ (∀ i, i < zs.length → w.cell? (x.add i) = some (.int .u64 (zs.getD i 0))) ∧ ∀ n ∈ zs, (Lit.int .u64 n).wf = true) :
  ∃ q : Nat → Nat, Jl w a .u64 len (fun i => (q i : Int)) ∧ ∀ i, i < len → q i < 18446744073709551616 := by
 rcases h with ⟨rfl, rfl, rfl, rfl⟩ | ⟨x, rfl, hl, hm, hz, hcell, hwz⟩
 ·exact ⟨fun _ => 0, fun i hi => by omega, fun i hi => by omega⟩
 ·refine ⟨fun i => (zs.getD i 0).toNat, fun i hi => ?_, fun i hi => ?_⟩
  ·have hi' : i < zs.length := by omega
   have hc := hcell i hi'
   obtain ⟨b, off, spot⟩ := x
   have hspot : spot = none := by
    have h0 := hcell 0 (by omega)
    simpa [Addr.add] using World.cell?_spot h0
   subst hspot
   refine ⟨b, off, rfl, ?_⟩
   have hplain : (⟨b, off, none⟩ : Addr).add i = ⟨b, off + i, none⟩ := by unfold Addr.add; split <;> simp_all
   rw [hplain] at hc
   rw [hc]
   have hw := qdd (hwz zs[i] (List.getElem_mem hi'))
   have e : zs.getD i 0 = zs[i] := by simp [List.getD, hi']
   have hw0 := hw.1
   simp only [e]
   congr 2
   omega
  ·have hi' : i < zs.length := by omega
   have hw := qdd (hwz zs[i] (List.getElem_mem hi'))
   have e : zs.getD i 0 = zs[i] := by simp [List.getD, hi']
   show (zs.getD i 0).toNat < _
   rw [e]
   omega
theorem lrow_yes (w : World) (r c b : Int) (n k : Nat) (a : Option Addr) (h : 0 ≤ b ∧ b < r) :
  Calls Tryz.prog 48 #[mv r c a n k, .int .i64 b] w fun e w' => e = .returned (.bool true) ∧ Below w.heap.size w w' := by
 have g1 : decide (0 ≤ b) = true := by simpa using h.1
 have g2 : decide (b < r) = true := by simpa using h.2
 go_enter Tryz.func48, Tryz.ntmps48
 go_wp2
 go_ret
 exact ⟨rfl, qa1 _ _⟩
theorem lrow_no (w : World) (r c b : Int) (n k : Nat) (a : Option Addr) (h : ¬ (0 ≤ b ∧ b < r)) :
  Calls Tryz.prog 48 #[mv r c a n k, .int .i64 b] w fun e w' => e = .returned (.bool false) ∧ Below w.heap.size w w' := by
 by_cases h1 : 0 ≤ b
 ·have g1 : decide (0 ≤ b) = true := by simpa using h1
  have g2 : decide (b < r) = false := decide_eq_false (by omega)
  go_enter Tryz.func48, Tryz.ntmps48
  go_wp2
  go_ret
  exact ⟨rfl, qa1 _ _⟩
 ·have g1 : decide (0 ≤ b) = false := decide_eq_false h1
  go_enter Tryz.func48, Tryz.ntmps48
  go_wp2
  go_ret
  exact ⟨rfl, qa1 _ _⟩
theorem qgz (w : World) (r c b : Int) (n k d m : Nat) (a g : Option Addr)
  (HM : Hid (∀ w' : World, Below w.heap.size w w' → Calls Tryz.prog 47 #[cv r c a n k g m d] w' fun e w'' => e = .returned (.bool false) ∧ Below w'.heap.size w' w'')) :
  Calls Tryz.prog 16 #[cv r c a n k g m d, .int .i64 b] w fun e w' => e = .returned (.tuple #[.int .u64 0, .bool false, .int .i64 3]) ∧ Below w.heap.size w w' := by
 go_enter Tryz.func16, Tryz.ntmps16
 go_wp2_with (go_at_call 47; refine (HM.out _ (qa1 _ _)).mono ?_; rintro e w1 ⟨rfl, hb⟩; have HB1 : Hid (Below w.heap.size w w1) := qa0 (qa1 _ _) hb; clear hb)
 go_ret3
 exact ⟨rfl, HB1.out⟩
theorem qh0 (w : World) (r c b : Int) (n k d m : Nat) (a g : Option Addr)
  (HM : Hid (∀ w' : World, Below w.heap.size w w' → Calls Tryz.prog 18 #[cv r c a n k g m d] w' fun e w'' => e = .returned (.bool false) ∧ Below w'.heap.size w' w'')) :
  Calls Tryz.prog 17 #[cv r c a n k g m d, .int .i64 b] w fun e w' => e = .returned (.tuple #[.int .u64 0, .bool false, .int .i64 3]) ∧ Below w.heap.size w w' := by
 go_enter Tryz.func17, Tryz.ntmps17
 go_wp2_with (go_at_call 18; refine (HM.out _ (qa1 _ _)).mono ?_; rintro e w1 ⟨rfl, hb⟩; have HB1 : Hid (Below w.heap.size w w1) := qa0 (qa1 _ _) hb; clear hb)
 go_ret3
 exact ⟨rfl, HB1.out⟩
theorem lgrp_arg (w : World) (r c b : Int) (n k d m : Nat) (a g : Option Addr) (h : ¬ (0 ≤ b ∧ b < r))
  (HM : Hid (∀ w' : World, Below w.heap.size w w' → Calls Tryz.prog 47 #[cv r c a n k g m d] w' fun e w'' => e = .returned (.bool true) ∧ Below w'.heap.size w' w'')) :
  Calls Tryz.prog 16 #[cv r c a n k g m d, .int .i64 b] w fun e w' => e = .returned (.tuple #[.int .u64 0, .bool false, .int .i64 2]) ∧ Below w.heap.size w w' := by
 have HR : Hid (∀ w' : World, Calls Tryz.prog 48 #[mv r c a n k, .int .i64 b] w' fun e w'' => e = .returned (.bool false) ∧ Below w'.heap.size w' w'') := fun w' => lrow_no w' r c b n k a h
 clear h
 go_enter Tryz.func16, Tryz.ntmps16
 go_wp2_with (first
  | (go_at_call 47; refine (HM.out _ (qa1 _ _)).mono ?_; rintro e w1 ⟨rfl, hb⟩; have HV1 : Hid (Vq w1 w.heap.size 48 #[.int .i64 r, .int .i64 c, .slice a n k, .slice g m d]) := (Vq.new w _ _).later hb; have v0 := HV1.out.cell 0 _ rfl; have v1 := HV1.out.cell 1 _ rfl; have v2 := HV1.out.cell 2 _ rfl; have HB1 : Hid (Below w.heap.size w w1) := qa0 (qa1 _ _) hb; clear hb)
  | (go_at_call 48; refine (HR.out _).mono ?_; rintro e w2 ⟨rfl, hb⟩; have HB2 : Hid (Below w.heap.size w w2) := qa0 HB1.out hb; clear hb))
 go_ret3
 exact ⟨rfl, HB2.out⟩
theorem rgrp_arg (w : World) (r c b : Int) (n k d m : Nat) (a g : Option Addr) (h : ¬ (0 ≤ b ∧ b < r))
  (HM : Hid (∀ w' : World, Below w.heap.size w w' → Calls Tryz.prog 18 #[cv r c a n k g m d] w' fun e w'' => e = .returned (.bool true) ∧ Below w'.heap.size w' w'')) :
  Calls Tryz.prog 17 #[cv r c a n k g m d, .int .i64 b] w fun e w' => e = .returned (.tuple #[.int .u64 0, .bool false, .int .i64 2]) ∧ Below w.heap.size w w' := by
 by_cases h1 : 0 ≤ b
 ·have g1 : decide (b < 0) = false := decide_eq_false (by omega)
  have g2 : decide (r ≤ b) = true := decide_eq_true (by omega)
  go_enter Tryz.func17, Tryz.ntmps17
  go_wp2_with (go_at_call 18; refine (HM.out _ (qa1 _ _)).mono ?_; rintro e w1 ⟨rfl, hb⟩; have HV1 : Hid (Vq w1 w.heap.size 48 #[.int .i64 r, .int .i64 c, .slice a n k, .slice g m d]) := (Vq.new w _ _).later hb; have v0 := HV1.out.cell 0 _ rfl; have HB1 : Hid (Below w.heap.size w w1) := qa0 (qa1 _ _) hb; clear hb)
  go_ret3
  exact ⟨rfl, HB1.out⟩
 ·have g1 : decide (b < 0) = true := decide_eq_true (by omega)
  go_enter Tryz.func17, Tryz.ntmps17
  go_wp2_with (go_at_call 18; refine (HM.out _ (qa1 _ _)).mono ?_; rintro e w1 ⟨rfl, hb⟩; have HV1 : Hid (Vq w1 w.heap.size 48 #[.int .i64 r, .int .i64 c, .slice a n k, .slice g m d]) := (Vq.new w _ _).later hb; have v0 := HV1.out.cell 0 _ rfl; have HB1 : Hid (Below w.heap.size w w1) := qa0 (qa1 _ _) hb; clear hb)
  go_ret3
  exact ⟨rfl, HB1.out⟩
open Go.RowKit Go.Shelf
attribute [local go_sem] Oper.semAt_some
/-- The place of the first group that has the number b: i0, or m where none has it. -/
theorem first_ex (q : Nat → Nat) (b m : Nat) : ∃ i0, i0 ≤ m ∧ (∀ j, j < i0 → ¬ bt (q j) b = 1) ∧ (i0 < m → bt (q i0) b = 1) := by
 induction m with
 | zero => exact ⟨0, Nat.le_refl _, fun j hj => absurd hj (Nat.not_lt_zero _), fun h => absurd h (Nat.lt_irrefl _)⟩
 | succ m ih =>
  obtain ⟨i, h1, h2, h3⟩ := ih
  by_cases he : i < m
  ·exact ⟨i, by omega, h2, fun _ => h3 he⟩
  ·obtain rfl : i = m := by omega
   by_cases hb : bt (q i) b = 1
   ·exact ⟨i, by omega, h2, fun _ => hb⟩
   ·exact ⟨i + 1, Nat.le_refl _, fun j hj => by
     by_cases e : j = i
     ·rw [e]; exact hb
     ·exact h2 j (by omega), fun h => absurd h (Nat.lt_irrefl _)⟩
theorem lgrp_ok (w : World) (r c b n k d m i0 u z : Nat) (a g : Option Addr) (q : Nat → Nat) (o : Bool) (hg : Jl w g .u64 m (fun i => (q i : Int))) (hm : m ≤ 17592186044416) (hq : ∀ i, i < m → q i < 18446744073709551616) (hb : b < r) (hr : r ≤ 64) (h1 : i0 ≤ m) (h2 : ∀ j, j < i0 → ¬ bt (q j) b = 1) (h3 : i0 < m → bt (q i0) b = 1) (ho : o = decide (i0 < m)) (hz : IntKind.u64.wrap (2 ^ b) = (z : Int)) (hu : i0 < m → bits .andNot .u64 (q i0 : Int) (z : Int) = (u : Int)) (hu0 : ¬ i0 < m → u = 0)
  (HM : Hid (∀ w' : World, Below w.heap.size w w' → Calls Tryz.prog 47 #[cv r c a n k g m d] w' fun e w'' => e = .returned (.bool true) ∧ Below w'.heap.size w' w'')) :
  Calls Tryz.prog 16 #[cv r c a n k g m d, .int .i64 (b : Int)] w fun e w' => e = .returned (.tuple #[.int .u64 (u : Int), .bool o, .int .i64 0]) ∧ Below w.heap.size w w' := by
 have HR : Hid (∀ w' : World, Calls Tryz.prog 48 #[mv r c a n k, .int .i64 (b : Int)] w' fun e w'' => e = .returned (.bool true) ∧ Below w'.heap.size w' w'') := fun w' => lrow_yes w' r c b n k a (by omega)
 have HG := qcf hg
 have H2 := qcf h2
 have H3 := qcf h3
 have HU := qcf hu
 have HU0 := qcf hu0
 have HO := qcf ho
 have HH : Hid (∀ (j : Nat) (x : Nat) (v : Bool) (w : World), j < m → q j = x → (v = true ↔ bt (q j) b = 1) → Calls Tryz.prog 49 #[.int .u64 (x : Int), .int .i64 (b : Int)] w fun e w' => e = .returned (.bool v) ∧ w = w') := fun j x v w hj hx hv => by
  subst hx
  have h := jhas_ok (q j) b w (hq j hj)
  rw [show decide (bt (q j) b = 1) = v by cases v <;> simp_all] at h
  exact h
 have hb64 : b < 64 := by omega
 clear hg h2 h3 hq hu hu0 ho hr hb
 go_enter Tryz.func16, Tryz.ntmps16
 go_wp2_with (first
  | (go_at_call 47; refine (HM.out _ (qa1 _ _)).mono ?_; rintro e w1 ⟨rfl, hb⟩; have HV1 : Hid (Vq w1 w.heap.size 48 #[.int .i64 (r : Int), .int .i64 (c : Int), .slice a n k, .slice g m d]) := (Vq.new w _ _).later hb; have v0 := HV1.out.cell 0 _ rfl; have v1 := HV1.out.cell 1 _ rfl; have v2 := HV1.out.cell 2 _ rfl; have HB1 : Hid (Below w.heap.size w w1) := qa0 (qa1 _ _) hb; clear hb)
  | (go_at_call 48; refine (HR.out _).mono ?_; rintro e w2 ⟨rfl, hb⟩; have v3 := (HV1.out.later hb).cell 3 _ rfl; have HB2 : Hid (Below w.heap.size w w2) := qa0 HB1.out hb; clear hb))
 have HJ : Hid (Jl w2 g .u64 m (fun i => (q i : Int))) := HG.out.later HB2.out
 clear HG HM HR v3
 go_loopw [8, 20] (fun _ vi wr => ∃ j : Nat, j ≤ i0 ∧ vi = .int .i64 (j : Int) ∧ wr = w2) (fun _ vi _ => i0 + 1 - (intOf vi).toNat)
 case atStart => exact ⟨0, by omega, rfl, rfl⟩
 case round =>
  obtain ⟨j, hj, rfl, rfl⟩ := hrel
  by_cases hlt : j < m
  ·obtain ⟨x, of, ea, hc⟩ := HJ.out j hlt
   obtain ⟨y, HY⟩ : ∃ y, Hid (q j = y) := ⟨_, rfl⟩
   have hc2 : wr.cell? ⟨x, of + j, none⟩ = some (.int .u64 (y : Int)) := by rw [← HY.out]; exact hc
   have p0 : (0 : Int) ≤ (j : Int) := by omega
   have p1 : (j : Int) < (m : Int) := by omega
   subst ea
   by_cases he : j = i0
   ·subst he
    have hlt0 := hlt
    have hy : q j = y := HY.out
    have hbt := H3.out hlt0
    have HB : Hid (∀ w : World, Calls Tryz.prog 49 #[.int .u64 (y : Int), .int .i64 (b : Int)] w fun e w' => e = .returned (.bool true) ∧ w = w') := fun w => HH.out j y true w hlt0 hy (by simp [hbt])
    have han := HU.out hlt0
    rw [hy] at han
    have ho1 : o = true := by rw [HO.out]; exact decide_eq_true hlt0
    subst ho1
    clear HJ hc HY H2 H3 HU HU0 HO HH hbt hy
    go_wp2_with (go_at_call 49; refine (HB.out _).mono ?_; rintro e w' ⟨rfl, rfl⟩)
    go_ret3
    exact ⟨rfl, HB2.out⟩
   ·have hji : j < i0 := by omega
    have hbt := H2.out j hji
    have HB : Hid (∀ w : World, Calls Tryz.prog 49 #[.int .u64 (y : Int), .int .i64 (b : Int)] w fun e w' => e = .returned (.bool false) ∧ w = w') := fun w => HH.out j y false w hlt HY.out (by simp [hbt])
    clear HJ hc HY H2 H3 HU HU0 HO HH hbt
    go_wp2_with (go_at_call 49; refine (HB.out _).mono ?_; rintro e w' ⟨rfl, rfl⟩)
    exact ⟨⟨j + 1, by omega, by go_num, trivial⟩, by simp [intOf]; omega⟩
  ·have hn : ¬ i0 < m := by omega
   have hu1 := HU0.out hn
   have ho1 : o = false := by rw [HO.out]; exact decide_eq_false hn
   obtain rfl : j = m := by omega
   subst ho1 hu1
   clear HJ H2 H3 HU HU0 HO HH
   go_wp2
   go_ret3
   exact ⟨rfl, HB2.out⟩
theorem rgrp_ok (w : World) (r c b n k d m i0 u z : Nat) (a g : Option Addr) (q : Nat → Nat) (o : Bool) (hg : Jl w g .u64 m (fun i => (q i : Int))) (hm : m ≤ 17592186044416) (hq : ∀ i, i < m → q i < 18446744073709551616) (hb : b < r) (hr : r ≤ 64) (h1 : i0 ≤ m) (h2 : ∀ j, j < i0 → ¬ bt (q j) b = 1) (h3 : i0 < m → bt (q i0) b = 1) (ho : o = decide (i0 < m)) (hz : IntKind.u64.wrap (2 ^ b) = (z : Int)) (hu : i0 < m → bits .andNot .u64 (q i0 : Int) (z : Int) = (u : Int)) (hu0 : ¬ i0 < m → u = 0)
  (HM : Hid (∀ w' : World, Below w.heap.size w w' → Calls Tryz.prog 18 #[cv r c a n k g m d] w' fun e w'' => e = .returned (.bool true) ∧ Below w'.heap.size w' w'')) :
  Calls Tryz.prog 17 #[cv r c a n k g m d, .int .i64 (b : Int)] w fun e w' => e = .returned (.tuple #[.int .u64 (u : Int), .bool o, .int .i64 0]) ∧ Below w.heap.size w w' := by
 have HG := qcf hg
 have H2 := qcf h2
 have H3 := qcf h3
 have HU := qcf hu
 have HU0 := qcf hu0
 have HO := qcf ho
 have hb64 : b < 64 := by omega
 have HH : Hid (∀ (j : Nat) (x : Nat) (v : Bool) (w : World), j < m → q j = x → (v = true ↔ bt (q j) b = 1) → Calls Tryz.prog 21 #[.int .u64 (x : Int), .int .i64 (b : Int)] w fun e w' => e = .returned (.bool v) ∧ w = w') := fun j x v w hj hx hv => by
  subst hx
  have h := qcd (q j) b w (hq j hj) hb64
  rw [show decide (bt (q j) b = 1) = v by cases v <;> simp_all] at h
  exact h
 have g1 : decide ((b : Int) < 0) = false := decide_eq_false (by omega)
 have g2 : decide ((r : Int) ≤ (b : Int)) = false := decide_eq_false (by omega)
 have g3 : decide (r ≤ b) = false := decide_eq_false (by omega)
 clear hg h2 h3 hq hu hu0 ho hr
 go_enter Tryz.func17, Tryz.ntmps17
 go_wp2_with (go_at_call 18; refine (HM.out _ (qa1 _ _)).mono ?_; rintro e w2 ⟨rfl, hb⟩; have HV1 : Hid (Vq w2 w.heap.size 48 #[.int .i64 (r : Int), .int .i64 (c : Int), .slice a n k, .slice g m d]) := (Vq.new w _ _).later hb; have v0 := HV1.out.cell 0 _ rfl; have v3 := HV1.out.cell 3 _ rfl; have HB2 : Hid (Below w.heap.size w w2) := qa0 (qa1 _ _) hb; clear hb)
 have HJ : Hid (Jl w2 g .u64 m (fun i => (q i : Int))) := HG.out.later HB2.out
 clear HG HM
 go_loopw [7] (fun vi wr => ∃ j : Nat, j ≤ i0 ∧ vi = .int .i64 (j : Int) ∧ wr = w2) (fun vi _ => i0 + 1 - (intOf vi).toNat)
 case atStart => exact ⟨0, by omega, rfl, rfl⟩
 case round =>
  obtain ⟨j, hj, rfl, rfl⟩ := hrel
  by_cases hlt : j < m
  ·obtain ⟨x, of, ea, hc⟩ := HJ.out j hlt
   obtain ⟨y, HY⟩ : ∃ y, Hid (q j = y) := ⟨_, rfl⟩
   have hc2 : wr.cell? ⟨x, of + j, none⟩ = some (.int .u64 (y : Int)) := by rw [← HY.out]; exact hc
   have p0 : (0 : Int) ≤ (j : Int) := by omega
   have p1 : (j : Int) < (m : Int) := by omega
   subst ea
   by_cases he : j = i0
   ·subst he
    have hlt0 := hlt
    have hy : q j = y := HY.out
    have hbt := H3.out hlt0
    have HB : Hid (∀ w : World, Calls Tryz.prog 21 #[.int .u64 (y : Int), .int .i64 (b : Int)] w fun e w' => e = .returned (.bool true) ∧ w = w') := fun w => HH.out j y true w hlt0 hy (by simp [hbt])
    have han := HU.out hlt0
    rw [hy] at han
    have ho1 : o = true := by rw [HO.out]; exact decide_eq_true hlt0
    subst ho1
    clear HJ hc HY H2 H3 HU HU0 HO HH hbt hy
    go_wp2_with (go_at_call 21; refine (HB.out _).mono ?_; rintro e w' ⟨rfl, rfl⟩)
    go_ret3
    exact ⟨rfl, HB2.out⟩
   ·have hji : j < i0 := by omega
    have hbt := H2.out j hji
    have HB : Hid (∀ w : World, Calls Tryz.prog 21 #[.int .u64 (y : Int), .int .i64 (b : Int)] w fun e w' => e = .returned (.bool false) ∧ w = w') := fun w => HH.out j y false w hlt HY.out (by simp [hbt])
    clear HJ hc HY H2 H3 HU HU0 HO HH hbt
    go_wp2_with (go_at_call 21; refine (HB.out _).mono ?_; rintro e w' ⟨rfl, rfl⟩)
    exact ⟨⟨j + 1, by omega, by go_num, trivial⟩, by simp [intOf]; omega⟩
  ·have hn : ¬ i0 < m := by omega
   have hu1 := HU0.out hn
   have ho1 : o = false := by rw [HO.out]; exact decide_eq_false hn
   obtain rfl : j = m := by omega
   subst ho1 hu1
   clear HJ H2 H3 HU HU0 HO HH
   go_wp2
   go_ret3
   exact ⟨rfl, HB2.out⟩
open Go.RowKit Go.Shelf
theorem grp_pair (w : World) (r c b : Int) (n k d m : Nat) (a g : Option Addr) (F q : Nat → Nat) (ha : Mt w a n k F) (hg : Jl w g .u64 m (fun i => (q i : Int))) (hm : m ≤ 17592186044416) (hq : ∀ i, i < m → q i < 18446744073709551616) : ∃ (u : Nat) (o : Bool) (E : Int),
  (∀ w' : World, Below w.heap.size w w' → Calls Tryz.prog 16 #[cv r c a n k g m d, .int .i64 b] w' fun e w'' => e = .returned (.tuple #[.int .u64 (u : Int), .bool o, .int .i64 E]) ∧ Below w'.heap.size w' w'') ∧
  (∀ w' : World, Below w.heap.size w w' → Calls Tryz.prog 17 #[cv r c a n k g m d, .int .i64 b] w' fun e w'' => e = .returned (.tuple #[.int .u64 (u : Int), .bool o, .int .i64 E]) ∧ Below w'.heap.size w' w'') := by
 obtain ⟨v, hv⟩ : ∃ v : Bool, v = true ↔ MayP F r c n m q := ⟨@decide _ (Classical.propDecidable _), @decide_eq_true_iff _ (Classical.propDecidable _)⟩
 have HM : ∀ w', Below w.heap.size w w' → Hid (∀ w'', Below w'.heap.size w' w'' → Calls Tryz.prog 47 #[cv r c a n k g m d] w'' fun e w3 => e = .returned (.bool v) ∧ Below w''.heap.size w'' w3) := fun w' h w'' h2 => may16 w'' r c n k d m a g F q ((ha.later h).later h2) ((hg.later h).later h2) hm hq v hv
 have HR : ∀ w', Below w.heap.size w w' → Hid (∀ w'', Below w'.heap.size w' w'' → Calls Tryz.prog 18 #[cv r c a n k g m d] w'' fun e w3 => e = .returned (.bool v) ∧ Below w''.heap.size w'' w3) := fun w' h w'' h2 => rmay16 w'' r c n k d m a g F q ((ha.later h).later h2) ((hg.later h).later h2) hm hq v hv
 cases v with
 | false => exact ⟨0, false, 3, fun w' h => qgz w' r c b n k d m a g (HM w' h), fun w' h => qh0 w' r c b n k d m a g (HR w' h)⟩
 | true =>
  by_cases hb : 0 ≤ b ∧ b < r
  ·obtain ⟨r', c', rfl, rfl, R, _, _⟩ := (hv.1 rfl).1.nat
   obtain ⟨b', rfl⟩ := Int.eq_ofNat_of_zero_le hb.1
   have hb2 : b' < r' := by omega
   have hr := R.r64
   obtain ⟨i0, h1, h2, h3⟩ := first_ex q b' m
   obtain ⟨z, hz⟩ : ∃ z : Nat, 2 ^ b' = z := ⟨_, rfl⟩
   have hz2 : IntKind.u64.wrap (2 ^ b') = (z : Int) := by rw [← hz]; exact qi4 b' (by omega)
   have hz6 : z < 18446744073709551616 := by rw [← hz]; exact qcc (by omega)
   obtain ⟨u, hu, hu0⟩ : ∃ u : Nat, (i0 < m → bits .andNot .u64 (q i0 : Int) (z : Int) = (u : Int)) ∧ (¬ i0 < m → u = 0) := by
    by_cases hi : i0 < m
    ·exact ⟨_, fun _ => u64_andNot_nat (q i0) z (hq i0 hi) hz6, fun h => absurd hi h⟩
    ·exact ⟨0, fun h => absurd h hi, fun _ => rfl⟩
   exact ⟨u, decide (i0 < m), 0, fun w' h => lgrp_ok w' r' c' b' n k d m i0 u z a g q _ (hg.later h) hm hq hb2 hr h1 h2 h3 rfl hz2 hu hu0 (HM w' h), fun w' h => rgrp_ok w' r' c' b' n k d m i0 u z a g q _ (hg.later h) hm hq hb2 hr h1 h2 h3 rfl hz2 hu hu0 (HR w' h)⟩
  ·exact ⟨0, false, 2, fun w' h => lgrp_arg w' r c b n k d m a g hb (HM w' h), fun w' h => rgrp_arg w' r c b n k d m a g hb (HR w' h)⟩
theorem qfa (w : World) (r c b : Int) (n k d m : Nat) (a g : Option Addr) (F q : Nat → Nat) (ha : Mt w a n k F) (hg : Jl w g .u64 m (fun i => (q i : Int))) (hm : m ≤ 17592186044416) (hq : ∀ i, i < m → q i < 18446744073709551616) :
  Calls Tryz.prog 5 #[cv r c a n k g m d, .int .i64 b] w fun e w' => e = .returned (.bool true) ∧ Below w.heap.size w w' := by
 obtain ⟨u, o, E, p1, p2⟩ := grp_pair w r c b n k d m a g F q ha hg hm hq
 have HP1 := qcf p1
 have HP2 := qcf p2
 clear p1 p2 ha hg hm hq
 go_enter Tryz.func5, Tryz.ntmps5
 go_wp2_with (first
  | (go_at_call 16; refine (HP1.out _ (qa1 _ _)).mono ?_; rintro e w1 ⟨rfl, hb⟩; have HV1 : Hid (Vq w1 w.heap.size 48 #[.int .i64 r, .int .i64 c, .slice a n k, .slice g m d]) := (Vq.new w _ _).later hb; have v0 := HV1.out.cell 0 _ rfl; have v1 := HV1.out.cell 1 _ rfl; have v2 := HV1.out.cell 2 _ rfl; have v3 := HV1.out.cell 3 _ rfl; have HB1 : Hid (Below w.heap.size w w1) := qa0 (qa1 _ _) hb; clear hb)
  | (go_at_call 17; refine (HP2.out _ HB1.out).mono ?_; rintro e w2 ⟨rfl, hb⟩; have HB2 : Hid (Below w.heap.size w w2) := qa0 HB1.out hb; clear hb))
 go_ret
 exact ⟨by simp, HB2.out⟩
end Go.Proofs.YtlmanliinncdiaaGreat
