/-
  Stage 21: to trim once more changes nothing; the trimmed flow costs no more.
  Stage 21: what comes out of a flow, whatever the values are, and what trimming leaves of it.
  Stage 21: the sum of terms, place by place; values of pieces of blocks.
  Stage 21: sumOf.
-/
import Derived.Test.YtkfnedpnkeacpaaQffsh28
import Derived.Test.YtkfnedpnkeacpaaQffsh21
import Derived.Test.YtkfnedpnkeacpaaQffsh30
import Derived.Test.YtkfnedpnkeacpaaQffsh00
import Derived.Test.YtkfnedpnkeacpaaQffsh29
import Derived.Test.YtkfnedpnkeacpaaQffsh25
import Derived.Deep.RegionHeld3
set_option maxRecDepth 100000
set_option maxHeartbeats 16000000
namespace Go.Proofs.Ytkfnedpnkeacpaa
open Go.RowKit
theorem qfe {F : Fl} {v : Nat} (h : F.ni ≤ v) : tn F v = F.nt (v - F.ni) := if_neg (by omega)
open Go.RowKit
/-- The value with the number v: b gives the inputs, op makes a node's value of those of its terms. -/
def evl {α : Type} (F : Fl) (b : Nat → α) (op : List (α × Nat) → α) : Nat → Nat → α
 | 0, _ => op []
 | d + 1, v => if v < F.ni then b (F.inp v).toNat else op ((List.range (tn F v)).map fun j => (evl F b op d (tv F v j), F.fc (v - F.ni) j))
theorem qff {α : Type} {F : Fl} {b : Nat → α} {op : List (α × Nat) → α} {d v : Nat} (h : v < F.ni) : evl F b op (d + 1) v = b (F.inp v).toNat := if_pos h
theorem qcl {α : Type} {F : Fl} {b : Nat → α} {op : List (α × Nat) → α} {d v : Nat} (h : F.ni ≤ v) : evl F b op (d + 1) v = op ((List.range (tn F v)).map fun j => (evl F b op d (tv F v j), F.fc (v - F.ni) j)) := if_neg (by omega)
/-- More steps than the number change nothing. -/
theorem evl_more {α : Type} {F : Fl} (hM : MayP F) (b : Nat → α) (op : List (α × Nat) → α) : ∀ d d' v, v < F.ni + F.nn → v < d → v < d' → evl F b op d v = evl F b op d' v := by
 intro d
 induction d with
 | zero => intro d' v _ h; omega
 | succ d ih =>
  intro d' v hv h1 h2
  cases d' with
  | zero => omega
  | succ d' =>
   by_cases e : v < F.ni
   ·rw [qff e, qff e]
   ·rw [qcl (by omega), qcl (by omega)]
    congr 1
    apply List.map_congr_left
    intro j hj
    have h3 := (hM.term hv (List.mem_range.1 hj)).2.1
    rw [ih d' _ (by omega) (by omega) (by omega)]
open Go.RowKit
/-- The sum of the first n terms, at a place. -/
def sx (x : Nat → Nat → Nat) (g : Nat → Nat) : Nat → Nat → Nat
 | 0, _ => 0
 | n + 1, i => sx x g n i ^^^ fm (g n) (x n i)
/-- A node's block. -/
def opx (l : List ((Nat → Nat) × Nat)) : Nat → Nat := fun i => l.foldl (fun s p => s ^^^ fm p.2 (p.1 i)) 0
theorem opx_sx (x : Nat → Nat → Nat) (g : Nat → Nat) : ∀ n, opx ((List.range n).map fun j => (x j, g j)) = sx x g n := by
 intro n
 induction n with
 | zero => rfl
 | succ n ih =>
  funext i
  have := congrFun ih i
  unfold opx at *
  rw [List.range_succ, List.map_append, List.foldl_append, this]
  rfl
theorem sx_lt {x : Nat → Nat → Nat} {g : Nat → Nat} {i : Nat} : ∀ n, (∀ j, j < n → g j < 256) → sx x g n i < 256 := by
 intro n
 induction n with
 | zero => intro _; show 0 < 256; omega
 | succ n ih =>
  intro h
  exact qdf _ _ (ih fun j hj => h j (by omega)) (qch _ _ (h n (by omega)))
/-- What a flow's value is, at each place, of blocks b. -/
def vlx (F : Fl) (b : Nat → Nat → Nat) (v : Nat) : Nat → Nat := evl F b opx (v + 1) v
theorem qfg {F : Fl} {b : Nat → Nat → Nat} {v : Nat} (h : v < F.ni) : vlx F b v = b (F.inp v).toNat := qff h
theorem qcm {F : Fl} (hM : MayP F) {b : Nat → Nat → Nat} {v : Nat} (h : F.ni ≤ v) (hv : v < F.ni + F.nn) : vlx F b v = sx (fun j => vlx F b (tv F v j)) (F.fc (v - F.ni)) (tn F v) := by
 unfold vlx
 rw [qcl h, ← opx_sx]
 congr 1
 apply List.map_congr_left
 intro j hj
 have h3 := (hM.term hv (List.mem_range.1 hj)).2.1
 rw [evl_more hM b opx v (tv F v j + 1) _ (by omega) (by omega) (by omega)]
theorem vlx_lt {F : Fl} (hM : MayP F) (hf : ∀ v j, F.ni ≤ v → v < F.ni + F.nn → j < tn F v → F.fc (v - F.ni) j < 256) {b : Nat → Nat → Nat} {i v : Nat} (hb : ∀ v, v < F.ni → b (F.inp v).toNat i < 256) (hN : v < F.ni + F.nn) : vlx F b v i < 256 := by
 by_cases e : v < F.ni
 ·rw [qfg e]; exact hb v e
 ·rw [qcm hM (by omega) hN]
  exact sx_lt _ fun j hj => hf v j (by omega) hN hj
open Go.RowKit
/-- A list of values, of which those are told for which m holds: none of them lies in a block of P. -/
structure Vx (w : World) (P : Nat → Prop) (gv N L : Nat) (vs : Nat → Value) (m : Nat → Prop) (x : Nat → Nat → Nat) : Prop where
 ga : Ga w gv 22 N vs
 at' : ∀ v, v < N → m v → ∃ s c, vs v = .slice s L c ∧ (∀ b, P b → Off b s) ∧ Sl w s L (x v)
theorem Vx.later {w w' : World} {P : Nat → Prop} {gv N L : Nat} {vs : Nat → Value} {m : Nat → Prop} {x : Nat → Nat → Nat} (h : Vx w P gv N L vs m x) (hb : Below w.heap.size w w') : Vx w' P gv N L vs m x :=
 ⟨h.ga.later hb, fun v hv hm => by
  obtain ⟨s, c, e, ho, hs⟩ := h.at' v hv hm
  exact ⟨s, c, e, ho, hs.later hb⟩⟩
theorem qei (w : World) (P : Nat → Prop) (t : Option Addr) (n d gv N L : Nat) (f : Nat → Int) (y g : Nat → Nat) (vs : Nat → Value) (m : Nat → Prop) (x : Nat → Nat → Nat) (ht : Tml w t n f g) (hf : ∀ j, j < n → f j = (y j : Int) ∧ y j < N ∧ m (y j)) (hV : Vx w P gv N L vs m x) (hn : n ≤ 140737488351232) (hL : L ≤ 140737488351232) :
  Calls Try.prog 58 #[.slice t n d, .slice (some ⟨gv, 0, none⟩) N N, .int .i64 (L : Int)] w fun e w' => GaA w w' 5 L (fun i => .int .u8 (sx (fun j => x (y j)) g n i : Nat)) e ∧ Below w.heap.size w w' := by
 obtain ⟨i0, hi0, hz0, hz1, hz2⟩ := info_parts qcr
 have hml : L ≤ maxLen := by unfold maxLen; omega
 have HT := qa0 ht
 have HF := qa0 hf
 have HV := qa0 hV
 have hgv : 0 < n → gv < w.heap.size := fun _ => hV.ga.lt
 obtain ⟨q, HQq⟩ : ∃ q : Nat → Nat → Nat, Hid (sx (fun j => x (y j)) g = q) := ⟨_, rfl⟩
 have Hq0 : Hid (∀ i, q 0 i = 0) := fun i => by rw [← HQq.out]; rfl
 have HqS : Hid (∀ j i, q (j + 1) i = q j i ^^^ fm (g j) (x (y j) i)) := fun j i => by rw [← HQq.out]; rfl
 have HqL : Hid (∀ j i, j ≤ n → q j i < 256) := fun j i hj => by rw [← HQq.out]; exact sx_lt _ fun k hk => (ht k (by omega)).1
 rw [HQq.out]
 obtain ⟨Q, HQ⟩ : ∃ Q : World → Ending → Prop, Hid ((fun w2 e => GaA w w2 5 L (fun i => .int .u8 (q n i : Nat)) e) = Q) := ⟨_, rfl⟩
 have HQ2 : Hid (∀ (w2 : World) (gs : Nat), w.heap.size ≤ gs → Ga w2 gs 5 L (fun i => .int .u8 (q n i : Nat)) → Q w2 (.returned (.slice (some ⟨gs, 0, none⟩) L L))) := fun w2 gs h1 h2 => by
  rw [← HQ.out]
  exact ⟨gs, rfl, h1, h2⟩
 show Calls _ _ _ _ fun e w' => (fun w2 e => GaA w w2 5 L (fun i => .int .u8 (q n i : Nat)) e) w' e ∧ _
 rw [HQ.out]
 clear ht hf hV HQ HQq
 go_enter Try.func58, Try.ntmps58
 go_wp2_with (at_make; refine wpList_make_full _ rfl _ _ 22 rfl w.heap.size 5 i0 (.int .u8 0) 1 Try.underlying22 hi0 hz0 hz1 .i64 .i64 _ _ L rfl rfl rfl rfl (by rw [hz2]; omega) hml (Nat.le_refl _) ?_; intro w2 hown hgrow; have HG2 : Hid (Ga w2 w.heap.size 5 L (fun _ => .int .u8 0)) := qbi rfl hown; have HB2 := qa0 (qag.mp hgrow); clear hown hgrow)
 go_loopw [16] (fun vi wr => ∃ j : Nat, j ≤ n ∧ vi = .int .i64 (j : Int) ∧ Ga wr w.heap.size 5 L (fun i => .int .u8 (q j i : Nat)) ∧ Below w.heap.size w wr) (fun vi _ => n - (intOf vi).toNat)
 case atStart => exact ⟨0, by omega, rfl, HG2.out.congr (fun i _ => by rw [Hq0.out]; rfl), HB2.out⟩
 case round =>
  clear HG2 HB2 Hq0
  obtain ⟨j, hj, rfl, hG, hb⟩ := hrel
  have HG := qa0 hG
  have HB := qa0 hb
  have hgl := hG.lt
  clear hG
  by_cases hlt : j < n
  ·obtain ⟨hg8, tb, to, rfl, t0, t1⟩ := (HT.out.later hb) j hlt
   obtain ⟨f1, f2, f3⟩ := HF.out j hlt
   have HqJ := qa0 (HqS.out j)
   obtain ⟨c, HC⟩ : ∃ c, Hid (g j = c) := ⟨_, rfl⟩
   obtain ⟨z, HZ⟩ : ∃ z, Hid (y j = z) := ⟨_, rfl⟩
   rw [f1] at t0
   rw [HZ.out] at t0 f2 f3 HqJ
   rw [HC.out] at t1 hg8 HqJ
   obtain ⟨s, k, es, _, hs⟩ := HV.out.at' z f2 f3
   have v0 := (HV.out.ga.later hb).cell z f2
   rw [es] at v0
   have hgvl := hgv (by omega)
   have HS := qa0 hs
   have HMu := qa0 (fun w3 (hb3 : Below w.heap.size w w3) => qeh w3 s L c k (x z) hg8 (hs.later hb3) hL)
   have q0 : (0 : Int) ≤ (j : Int) := by omega
   have q1 : (j : Int) < (n : Int) := by omega
   have z0 : (0 : Int) ≤ (z : Int) := by omega
   have z1 : (z : Int) < (N : Int) := by omega
   clear hb f1 f3 hs es
   go_wp2
   have hal := jlow wr (.cells #[.int .i64 (z : Int), .int .u8 (c : Int)] 61)
   have HD : Hid ((fun w' : World => w'.cell? ⟨wr.heap.size, 0, none⟩ = some (.int .i64 (z : Int)) ∧ w'.cell? ⟨wr.heap.size, 1, none⟩ = some (.int .u8 (c : Int)) ∧ w'.cell? ⟨gv, z, none⟩ = some (.slice s L k)) (wr.alloc (.cells #[.int .i64 (z : Int), .int .u8 (c : Int)] 61)).drew) :=
    ⟨(Vf.new wr 61 #[.int .i64 (z : Int), .int .u8 (c : Int)]).cell 0 _ rfl, (Vf.new wr 61 #[.int .i64 (z : Int), .int .u8 (c : Int)]).cell 1 _ rfl, by rw [show (wr.alloc (.cells #[.int .i64 (z : Int), .int .u8 (c : Int)] 61)).drew.cell? ⟨gv, z, none⟩ = wr.cell? ⟨gv, z, none⟩ from hal.cell (p := ⟨gv, z, none⟩) (qa5 v0)]; exact v0⟩
   have HB3 : Hid (Below w.heap.size w (wr.alloc (.cells #[.int .i64 (z : Int), .int .u8 (c : Int)] 61)).drew) := jtwo HB.out (jtwo hal (below_drewN (Below.refl _ _) 1))
   have HG3 : Hid (Ga (wr.alloc (.cells #[.int .i64 (z : Int), .int .u8 (c : Int)] 61)).drew w.heap.size 5 L (fun i => .int .u8 (q j i : Nat))) := HG.out.later (jtwo hal (below_drewN (Below.refl _ _) 1))
   clear hal
   go_region_held3 (fun w' => w'.cell? ⟨wr.heap.size, 0, none⟩ = some (.int .i64 (z : Int)) ∧ w'.cell? ⟨wr.heap.size, 1, none⟩ = some (.int .u8 (c : Int)) ∧ w'.cell? ⟨gv, z, none⟩ = some (.slice s L k))
    (first
     | exact HK4.out
     | exact HD.out)
    (first
     | (go_at_call 59; refine (HMu.out _ HB3.out).mono ?_; rintro e w4 ⟨⟨s2, k2, rfl, hs2, hf2⟩, hb4⟩; have HS2 := qa0 hs2; have HF2 := qa0 hf2; have HB4 := qa0 (jtwo HB3.out hb4); have HG4 := qa0 (HG3.out.later hb4); have HK4 : Hid ((fun w' : World => w'.cell? ⟨wr.heap.size, 0, none⟩ = some (.int .i64 (z : Int)) ∧ w'.cell? ⟨wr.heap.size, 1, none⟩ = some (.int .u8 (c : Int)) ∧ w'.cell? ⟨gv, z, none⟩ = some (.slice s L k)) w4) := ⟨by rw [hb4.cell (p := ⟨wr.heap.size, 0, none⟩) (qa5 HD.out.1)]; exact HD.out.1, by rw [hb4.cell (p := ⟨wr.heap.size, 1, none⟩) (qa5 HD.out.2.1)]; exact HD.out.2.1, by rw [hb4.cell (p := ⟨gv, z, none⟩) (qa5 HD.out.2.2)]; exact HD.out.2.2⟩; clear hs2 hf2 hb4))
   have HOff : Hid (0 < L → Off w.heap.size s2) := fun h0 => by
    rcases HF2.out with e | h
    ·rw [e]; exact qbw HS.out (Nat.le_refl _) h0
    ·intro x hx; have := h x hx; have h2 := HB3.out.size; show x.block ≠ _; have : w.heap.size < (wr.alloc (.cells #[.int .i64 (z : Int), .int .u8 (c : Int)] 61)).drew.heap.size := HG3.out.lt; omega
   clear HD HK4 HF2 HB3 HG3
   go_wp2
   go_loopw [29] (fun vi w5 => ∃ i : Nat, i ≤ L ∧ vi = .int .i64 (i : Int) ∧ Ga w5 w.heap.size 5 L (fun p => .int .u8 (if p < i then (q (j + 1) p : Nat) else (q j p : Nat))) ∧ Sl w5 s2 L (fun p => fm c (x z p)) ∧ Below w.heap.size w w5) (fun vi _ => L - (intOf vi).toNat)
   case atStart => exact ⟨0, by omega, rfl, HG4.out.congr (fun i _ => by simp), HS2.out, HB4.out⟩
   case round =>
    clear HG4 HS2 HB4 HMu HG HB
    obtain ⟨i, hi, rfl, hG5, hs5, hb5⟩ := hrel
    have HG5 := qa0 hG5
    have HS5 := qa0 hs5
    have HB5 := qa0 hb5
    by_cases hil : i < L
    ·obtain ⟨xb, xo, rfl, x0⟩ := hs5.2 i hil
     have hx8 := hs5.1 i hil
     have c1 := hG5.cell i hil
     have hq8 := HqL.out j i hj
     have hqs := HqJ.out i
     rw [if_neg (by omega)] at c1
     have hfr := hG5.free i
     obtain ⟨a, HA⟩ : ∃ a, Hid (q j i = a) := ⟨_, rfl⟩
     obtain ⟨b, HBb⟩ : ∃ b, Hid (fm c (x z i) = b) := ⟨_, rfl⟩
     rw [HA.out] at c1 hq8 hqs
     dsimp only at x0 hx8
     rw [HBb.out] at x0 hx8 hqs
     have hxo : bits .xor .u8 (a : Int) (b : Int) = ((a ^^^ b : Nat) : Int) := u8_xor_nat a b hq8 hx8
     obtain ⟨ab, HAB⟩ : ∃ r, Hid (a ^^^ b = r) := ⟨_, rfl⟩
     rw [HAB.out] at hxo hqs
     have p0 : (0 : Int) ≤ (i : Int) := by omega
     have p1 : (i : Int) < (L : Int) := by omega
     have HS6 : Hid (Ga (wr.setCell ⟨w.heap.size, i, none⟩ (.int .u8 (ab : Int))) w.heap.size 5 L (fun p => .int .u8 (if p < i + 1 then (q (j + 1) p : Nat) else (q j p : Nat)))) := (hG5.set i _).congr (fun p _ => by
      by_cases e : p = i
      ·rw [if_pos e, if_pos (by omega), e, hqs]
      ·rw [if_neg e]
       by_cases e2 : p < i
       ·rw [if_pos e2, if_pos (by omega)]
       ·rw [if_neg e2, if_neg (by omega)])
     have HB6 : Hid (Below w.heap.size w (wr.setCell ⟨w.heap.size, i, none⟩ (.int .u8 (ab : Int)))) := hb5.setCell (Nat.le_refl _) _
     have HS7 : Hid (Sl (wr.setCell ⟨w.heap.size, i, none⟩ (.int .u8 (ab : Int))) (some ⟨xb, xo, none⟩) L (fun p => fm c (x z p))) := hs5.kept (qa2 _ _ _ _) (HOff.out (by omega))
     clear hG5 hs5 hb5 hqs
     go_wp2
     exact ⟨⟨i + 1, by omega, by go_num, HS6.out, HS7.out, HB6.out⟩, by simp [intOf]; omega⟩
    ·obtain rfl : i = L := by omega
     clear hG5 hs5 hb5
     go_wp2
     exact ⟨⟨j + 1, by omega, by go_num, HG5.out.congr (fun p hp => by rw [if_pos hp]), HB5.out⟩, by simp [intOf]; omega⟩
  ·obtain rfl : j = n := by omega
   clear hb
   go_wp2
   go_ret
   exact ⟨HQ2.out _ _ (Nat.le_refl _) HG.out, HB.out⟩
end Go.Proofs.Ytkfnedpnkeacpaa
