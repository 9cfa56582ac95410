/-
  Stage 21: outsOf.
-/
import Derived.Test.YtkfnedpnkeacpaaQffsh00
import Derived.Test.YtkfnedpnkeacpaaQffsh32
import Derived.Lib.MinMax
set_option maxRecDepth 100000
set_option maxHeartbeats 16000000
namespace Go.Proofs.Ytkfnedpnkeacpaa
open Go.RowKit
/-- Own lists of T bytes at the blocks B 0, .., B (k - 1); the list of them, for n, at the block g. -/
structure Ou (w : World) (base g n k T : Nat) (B : Nat → Nat) (x : Nat → Nat → Nat) : Prop where
 ga : Ga w g 22 n (fun o => if o < k then .slice (some ⟨B o, 0, none⟩) T T else .slice none 0 0)
 row : ∀ o, o < k → RowAt w (B o) 5 T (x o)
 ne : ∀ o, o < k → base ≤ B o ∧ g < B o
 inj : ∀ o o', o < k → o' < o → B o' < B o
theorem Ou.later {w w' : World} {base g n k T : Nat} {B : Nat → Nat} {x : Nat → Nat → Nat} (h : Ou w base g n k T B x) (hb : Below w.heap.size w w') : Ou w' base g n k T B x :=
 ⟨h.ga.later hb, fun o ho => (h.row o ho).later hb, h.ne, h.inj⟩
theorem Ou.congr {w : World} {base g n k T : Nat} {B : Nat → Nat} {x x' : Nat → Nat → Nat} (h : Ou w base g n k T B x) (e : ∀ o i, o < k → i < T → x o i = x' o i) : Ou w base g n k T B x' :=
 ⟨h.ga, fun o ho => (h.row o ho).congr fun i hi => e o i ho hi, h.ne, h.inj⟩
/-- One list is written over. -/
theorem Ou.copy {w w' : World} {base g n k T o : Nat} {B : Nat → Nat} {x : Nat → Nat → Nat} {f : Nat → Nat} (h : Ou w base g n k T B x) (ho : o < k) (hr : RowAt w' (B o) 5 T f) (hg : w.grownBy w' (some (B o))) : Ou w' base g n k T B (fun u i => if u = o then f i else x u i) :=
 ⟨h.ga.kept hg (fun e => by have := (h.ne o ho).2; cases e; omega), fun u hu => by
  by_cases e : u = o
  ·rw [e]; exact hr.congr fun i _ => by rw [if_pos rfl]
  ·refine ((h.row u hu).kept hg ?_).congr fun i _ => by rw [if_neg e]
   rcases Nat.lt_or_gt_of_ne e with h1 | h1
   ·have := h.inj o u ho h1; omega
   ·have := h.inj u o hu h1; omega, h.ne, h.inj⟩
/-- One list more. -/
theorem Ou.more {w w2 : World} {base g n k T : Nat} {B : Nat → Nat} {x : Nat → Nat → Nat} {f : Nat → Nat} (h : Ou w base g n k T B x) (hb : Below w.heap.size w w2) (hr : RowAt w2 w.heap.size 5 T f) (hbase : base ≤ w.heap.size) :
  Ou (w2.setCell ⟨g, k, none⟩ (.slice (some ⟨w.heap.size, 0, none⟩) T T)) base g n (k + 1) T (fun o => if o = k then w.heap.size else B o) (fun o => if o = k then f else x o) := by
 have hgl := h.ga.lt
 refine ⟨((h.ga.later hb).set k _).congr fun o ho => ?_, fun o ho => ?_, fun o ho => ?_, fun o o' ho ho' => ?_⟩
 ·by_cases e : o = k
  ·rw [if_pos e, if_pos (by omega), if_pos e]
  ·rw [if_neg e, if_neg e]
   by_cases e2 : o < k
   ·rw [if_pos e2, if_pos (by omega)]
   ·rw [if_neg e2, if_neg (by omega)]
 ·by_cases e : o = k
  ·rw [if_pos e, if_pos e]
   exact hr.kept (qa2 _ _ _ _) (by omega)
  ·rw [if_neg e, if_neg e]
   have := (h.ne o (by omega)).2
   exact ((h.row o (by omega)).later hb).kept (qa2 _ _ _ _) (by omega)
 ·by_cases e : o = k
  ·rw [if_pos e]; omega
  ·rw [if_neg e]; exact h.ne o (by omega)
 ·by_cases e : o = k
  ·rw [if_pos e, if_neg (by omega)]
   exact (h.row o' (by omega)).lt
  ·rw [if_neg e, if_neg (by omega)]
   exact h.inj o o' (by omega) ho'
/-- The outs are answered. -/
def OuA (w0 w : World) (n T : Nat) (x : Nat → Nat → Nat) (e : Ending) : Prop := ∃ (g : Nat) (B : Nat → Nat), e = .returned (.slice (some ⟨g, 0, none⟩) n n) ∧ w0.heap.size ≤ g ∧ Ou w w0.heap.size g n n T B x
theorem qdb (w : World) (a b c bl : Option Addr) (p q r nb kb T : Nat) (F : Fl) (A : Nat → Option Addr) (C : Nat → Nat) (bt : Nat → Nat → Nat)
  (h : FlR w a b c F) (hM : MayP F) (hB : Bl w bl nb T A C bt) (hI : ∀ i, i < F.ni → F.inp i < (nb : Int)) (hT : T ≤ 140737488351232) :
  Calls Try.prog 38 #[flv a F.ni p b F.nn q c F.no r, .slice bl nb kb, .int .i64 (T : Int)] w fun e w' => OuA w w' F.no T (fun o i => vlx F bt (F.out o).toNat i) e ∧ Below w.heap.size w w' := by
 obtain ⟨i0, hi0, hz0, hz1, hz2⟩ := info_parts jsl8
 obtain ⟨i1, hi1, hy0, hy1, hy2⟩ := info_parts qcr
 have hno := hM.o64
 have hml : F.no ≤ maxLen := by unfold maxLen; omega
 have hmt : T ≤ maxLen := by unfold maxLen; omega
 have hi64 := hM.inp.le
 have hn4 := hM.n4
 obtain ⟨N, HNN⟩ : ∃ N, Hid (F.ni + F.nn = N) := ⟨_, rfl⟩
 have HOut : Hid (∀ o, o < F.no → F.out o = ((F.out o).toNat : Int) ∧ (F.out o).toNat < N ∧ NeedP F (F.out o).toNat) := fun o ho => by
  have := hM.outs o ho
  have := HNN.out
  exact ⟨by omega, by omega, o, ho, Hng.self _ _⟩
 have HOL := qa0 h.outs
 have HNd := qa0 (fun w2 (hb : Below w.heap.size w w2) => qcx w2 a b c p q r F (h.later hb) hM N HNN.out)
 have HCl : Hid (∀ v j, NeedP F v → j < tn F v → NeedP F (tv F v j)) := fun v j hv hj => hv.step hj
 have HVal := qa0 (fun (w2 w3 : World) (hb : Below w.heap.size w w2) (P : Nat → Prop) (gm fr L : Nat) (m : Nat → Bool) (hG : Ga w2 gm 4 N (fun i => .bool (m i))) (hm : ∀ u, m u = true ↔ NeedP F u) (hP : ∀ b, P b → b < w2.heap.size ∧ w.heap.size ≤ b) (hL : 0 < L) (hto : fr + L ≤ T) =>
  qej w2 P a b c bl p q r nb kb gm N T fr L F m A C bt (h.later hb) hM HNN.out hG (fun v j _ hv hj => (hm _).2 (((hm v).1 hv).step hj)) (hB.later hb) hI (fun y hy => (hP y hy).1) (fun z y hz hy => qbw (hB.rl.sl z hz) (hP y hy).2 (by omega)) hT hL hto)
 obtain ⟨y, HY⟩ : ∃ y : Nat → Nat → Nat, Hid ((fun v i => vlx F bt v i) = y) := ⟨_, rfl⟩
 have HY1 : Hid (∀ o i, y o i = vlx F bt o i) := fun o i => by rw [← HY.out]
 have e0 : (fun o i => vlx F bt (F.out o).toNat i) = fun o i => y (F.out o).toNat i := by rw [← HY.out]
 rw [e0]
 obtain ⟨Q, HQ⟩ : ∃ Q : World → Ending → Prop, Hid ((fun w2 e => OuA w w2 F.no T (fun o i => y (F.out o).toNat i) e) = Q) := ⟨_, rfl⟩
 have HQ2 : Hid (∀ (w2 : World) (g : Nat) (B : Nat → Nat), w.heap.size ≤ g → Ou w2 w.heap.size g F.no F.no T B (fun o i => y (F.out o).toNat i) → Q w2 (.returned (.slice (some ⟨g, 0, none⟩) F.no F.no))) := fun w2 g B h1 h2 => by
  rw [← HQ.out]
  exact ⟨g, B, rfl, h1, h2⟩
 show Calls _ _ _ _ fun e w' => (fun w2 e => OuA w w2 F.no T (fun o i => y (F.out o).toNat i) e) w' e ∧ _
 rw [HQ.out]
 have HB0 := qa0 (jlow w (.cells #[.slice a F.ni p, .slice b F.nn q, .slice c F.no r] 28))
 have HV0 := qa0 (Vf.new w 28 #[.slice a F.ni p, .slice b F.nn q, .slice c F.no r])
 obtain ⟨ni, HNi1⟩ : ∃ x, Hid (F.ni = x) := ⟨_, rfl⟩
 obtain ⟨nn, HNn⟩ : ∃ x, Hid (F.nn = x) := ⟨_, rfl⟩
 obtain ⟨no, HNo⟩ : ∃ x, Hid (F.no = x) := ⟨_, rfl⟩
 rw [HNi1.out, HNn.out, HNo.out] at HNd HB0 HV0 HVal ⊢
 rw [HNo.out] at hno hml HOut HOL HQ2
 have x2 := HV0.out.cell 2 (.slice c no r) rfl
 clear h hM hB hI HQ HY e0 hn4 hi64
 go_enter Try.func38, Try.ntmps38
 go_wp2_with (at_make; refine wpList_make_full _ rfl _ _ 41 rfl (w.alloc (.cells #[.slice a ni p, .slice b nn q, .slice c no r] 28)).heap.size 22 i0 (.slice none 0 0) 1 Try.underlying41 hi0 hz0 hz1 .i64 .i64 _ _ no rfl rfl rfl rfl (by rw [hz2]; omega) hml (Nat.le_refl _) ?_; intro w2 hown hgrow; have HG2 : Hid (Ga w2 (w.alloc (.cells #[.slice a ni p, .slice b nn q, .slice c no r] 28)).heap.size 22 no (fun _ => .slice none 0 0)) := qbi rfl hown; have hb2 : Below (w.alloc (.cells #[.slice a ni p, .slice b nn q, .slice c no r] 28)).heap.size (w.alloc (.cells #[.slice a ni p, .slice b nn q, .slice c no r] 28)) w2 := qag.mp hgrow; have HB2 := qa0 (jtwo HB0.out hb2); have HV2 := qa0 (HV0.out.later hb2); clear hown hgrow hb2)
 have es : (w.alloc (.cells #[.slice a ni p, .slice b nn q, .slice c no r] 28)).heap.size = w.heap.size + 1 := by simp
 rw [es] at HG2
 obtain ⟨g, HGe⟩ : ∃ g, Hid (w.heap.size + 1 = g) := ⟨_, rfl⟩
 have hg2 : w.heap.size < g := by rw [← HGe.out]; omega
 rw [HGe.out] at HG2 ⊢
 have HO0 : Hid (Ou w2 w.heap.size g no 0 T (fun _ => 0) (fun _ _ => 0)) := ⟨HG2.out.congr fun o _ => (if_neg (by omega)).symm, fun o ho => by omega, fun o ho => by omega, fun o o' ho => by omega⟩
 clear HG2 HB0 HV0 x2 es
 go_loopw [21] (fun vi wr => ∃ (k : Nat) (B : Nat → Nat), k ≤ no ∧ vi = .int .i64 (k : Int) ∧ Ou wr w.heap.size g no k T B (fun _ _ => 0) ∧ Vf wr w.heap.size 28 #[.slice a ni p, .slice b nn q, .slice c no r] ∧ Below w.heap.size w wr) (fun vi _ => no - (intOf vi).toNat)
 case atStart => exact ⟨0, _, by omega, rfl, HO0.out, HV2.out, HB2.out⟩
 case round =>
  clear HO0 HV2 HB2
  obtain ⟨k, B, hk, rfl, hO, hv3, hb3⟩ := hrel
  have HO3 := qa0 hO
  have HV3 := qa0 hv3
  have HB3 := qa0 hb3
  clear hO hv3
  by_cases hlt : k < no
  ·have q0 : (0 : Int) ≤ (k : Int) := by omega
   have q1 : (k : Int) < (no : Int) := by omega
   have hws := hb3.size
   clear hb3
   go_wp2_with (at_make; refine wpList_make_full _ rfl _ _ 22 rfl wr.heap.size 5 i1 (.int .u8 0) 1 Try.underlying22 hi1 hy0 hy1 .i64 .i64 _ _ T rfl rfl rfl rfl (by rw [hy2]; omega) hmt (Nat.le_refl _) ?_; intro w4 hown hgrow; have HR4 : Hid (RowAt w4 wr.heap.size 5 T (fun _ => 0)) := qbi (z := .int .u8 0) rfl hown; have hb4 : Below wr.heap.size wr w4 := qag.mp hgrow; have HB4 := qa0 (jtwo HB3.out hb4); have HV4 := qa0 (HV3.out.later hb4); have HO4 := qa0 (HO3.out.more hb4 HR4.out hws); have g0 := (HO3.out.ga.later hb4).cell k hlt; have gf := (HO3.out.ga.later hb4).free k; clear hown hgrow hb4)
   exact ⟨⟨k + 1, _, by omega, by go_num, HO4.out.congr (fun o i _ _ => by split <;> rfl), HV4.out.kept (qa2 _ _ _ _) (fun e => by cases e; omega), HB4.out.setCell (by show w.heap.size ≤ g; omega) _⟩, by simp [intOf]; omega⟩
  ·obtain rfl : k = no := by omega
   have x0 := HV3.out.cell 0 (.slice a ni p) rfl
   have x1 := HV3.out.cell 1 (.slice b nn q) rfl
   have x2 := HV3.out.cell 2 (.slice c k r) rfl
   have hws := hb3.size
   clear hb3
   go_wp2_with (go_at_call 42; refine (HNd.out _ HB3.out).mono ?_; rintro e w5 ⟨⟨gm, m, rfl, hgm, hg5, hm5⟩, hb5⟩; have HNe : Hid (∀ o, o < k → B o < gm) := fun o ho => Nat.lt_of_lt_of_le (HO3.out.row o ho).lt hgm; have HG5 := qa0 hg5; have HM5 := qa0 hm5; have HO5 := qa0 (HO3.out.later hb5); have HV5 := qa0 (HV3.out.later hb5); have HB5 := qa0 (jtwo HB3.out hb5); clear hg5 hm5 hb5)
   clear HO3 HV3 HB3 x0 x1 x2
   go_loopw [10] (fun vi wr => ∃ fr : Nat, fr ≤ T + 4096 ∧ vi = .int .i64 (fr : Int) ∧ Ou wr w.heap.size g k k T B (fun o i => if i < fr then y (F.out o).toNat i else 0) ∧ Ga wr gm 4 N (fun i => .bool (m i)) ∧ Vf wr w.heap.size 28 #[.slice a ni p, .slice b nn q, .slice c k r] ∧ Below w.heap.size w wr) (fun vi _ => T + 4096 - (intOf vi).toNat)
   case atStart => exact ⟨0, by omega, rfl, HO5.out.congr (fun o i _ _ => by rw [if_neg (by omega)]), HG5.out, HV5.out, HB5.out⟩
   case round =>
    clear HO5 HG5 HV5 HB5
    obtain ⟨fr, hfr, rfl, hO6, hg6, hv6, hb6⟩ := hrel
    have HO6 := qa0 hO6
    have HG6 := qa0 hg6
    have HV6 := qa0 hv6
    have HB6 := qa0 hb6
    clear hO6
    by_cases hfT : fr < T
    ·obtain ⟨L, HL⟩ : ∃ L : Nat, Hid (min (fr + 4096) T - fr = L) := ⟨_, rfl⟩
     have hL : 0 < L ∧ fr + L ≤ T ∧ L ≤ 4096 ∧ (fr + L = T ∨ L = 4096) := by have := HL.out; omega
     have wf : IntKind.i64.wrap ((fr : Int) + 4096) = (fr : Int) + 4096 := by rw [IntKind.wrap_i64]; omega
     have wm : min ((fr : Int) + 4096) (T : Int) = (fr : Int) + (L : Int) := by omega
     have q0 : (fr : Int) < (T : Int) := by omega
     have x0 := hv6.cell 0 (.slice a ni p) rfl
     have x1 := hv6.cell 1 (.slice b nn q) rfl
     have x2 := hv6.cell 2 (.slice c k r) rfl
     have HC := qa0 (HVal.out wr wr hb6 (fun b => w.heap.size ≤ b ∧ b < wr.heap.size) gm fr L m hg6 HM5.out (fun b hb => ⟨hb.2, hb.1⟩) hL.1 hL.2.1)
     rw [Int.natCast_add] at HC
     clear hg6 hv6 hb6
     go_wp2_with (go_at_call 54; refine HC.out.mono ?_; rintro e w8 ⟨⟨gv, vs, rfl, hgv, hX8⟩, hb8⟩; have HX8 := qa0 hX8; have HO8 := qa0 (HO6.out.later hb8); have HG8 := qa0 (HG6.out.later hb8); have HV8 := qa0 (HV6.out.later hb8); have HB8 := qa0 (jtwo HB6.out hb8); have x2 := HV8.out.cell 2 (.slice c k r) rfl; clear hX8 hb8)
     have HBl : Hid (∀ o, o < k → w.heap.size ≤ B o ∧ B o < wr.heap.size ∧ g < B o) := fun o ho => ⟨(HO6.out.ne o ho).1, (HO6.out.row o ho).lt, (HO6.out.ne o ho).2⟩
     obtain ⟨sw, HSw⟩ : ∃ sw, Hid (wr.heap.size = sw) := ⟨_, rfl⟩
     rw [HSw.out] at HBl HX8 hgv
     clear HO6 HG6 HV6 HB6 x0 x1 HSw
     go_loopw [50] (fun vi w9 => ∃ o : Nat, o ≤ k ∧ vi = .int .i64 (o : Int) ∧ Ou w9 w.heap.size g k k T B (fun u i => if i < (if u < o then fr + L else fr) then y (F.out u).toNat i else 0) ∧ Vx w9 (fun b => b = gv ∨ (w.heap.size ≤ b ∧ b < sw)) gv N L vs (fun v => m v = true) (fun v i => vlx F bt v (fr + i)) ∧ Ga w9 gm 4 N (fun i => .bool (m i)) ∧ Vf w9 w.heap.size 28 #[.slice a ni p, .slice b nn q, .slice c k r] ∧ Below w.heap.size w w9) (fun vi _ => k - (intOf vi).toNat)
     case atStart => exact ⟨0, by omega, rfl, HO8.out.congr (fun o i _ _ => by rw [if_neg (show ¬ o < 0 by omega)]), HX8.out, HG8.out, HV8.out, HB8.out⟩
     case round =>
      clear HO8 HX8 HG8 HV8 HB8
      obtain ⟨o, ho, rfl, hO9, hX9, hG9, hV9, hB9⟩ := hrel
      have HO9 := qa0 hO9
      have HX9 := qa0 hX9
      have HG9 := qa0 hG9
      have HV9 := qa0 hV9
      have HB9 := qa0 hB9
      clear hG9 hV9
      by_cases hlo : o < k
      ·obtain ⟨h1, h2, h3⟩ := HOut.out o hlo
       obtain ⟨ob, oo, rfl, o0⟩ := (HOL.out.later hB9) o hlo
       obtain ⟨z, HZ⟩ : ∃ z, Hid ((F.out o).toNat = z) := ⟨_, rfl⟩
       rw [HZ.out] at h1 h2 h3
       rw [h1] at o0
       obtain ⟨s, cc, es, hoff, hs⟩ := hX9.at' z h2 ((HM5.out z).2 h3)
       have v0 := hX9.ga.cell z h2
       rw [es] at v0
       have g0 := hO9.ga.cell o hlo
       rw [if_pos hlo] at g0
       have HRo := qa0 (hO9.row o hlo)
       obtain ⟨b1, b2, b3⟩ := HBl.out o hlo
       obtain ⟨bo, HBo⟩ : ∃ b, Hid (B o = b) := ⟨_, rfl⟩
       rw [HBo.out] at g0 HRo b1 b2 b3
       have HSs := qa0 hs
       have p0 : (0 : Int) ≤ (o : Int) := by omega
       have p1 : (o : Int) < (k : Int) := by omega
       have z0 : (0 : Int) ≤ (z : Int) := by omega
       have z1 : (z : Int) < (N : Int) := by omega
       have f0 : (0 : Int) ≤ (fr : Int) := by omega
       have f1 : (fr : Int) ≤ (fr : Int) + (L : Int) := by omega
       have f2 : (fr : Int) + (L : Int) ≤ (T : Int) := by omega
       have hTf : ¬ T = fr := by omega
       have tL : ((fr : Int) + (L : Int)).toNat - fr = L := by omega
       have HD : Hid ((fun w' : World => w'.cell? ⟨g, o, none⟩ = some (.slice (some ⟨bo, 0, none⟩) T T) ∧ w'.cell? ⟨gv, z, none⟩ = some (.slice s L cc)) wr.drew) := ⟨g0, v0⟩
       have hdr : Below wr.heap.size wr wr.drew := (Below.refl _ _).drew
       have HRD := qa0 (HRo.out.later hdr)
       have HSD := qa0 (HSs.out.later hdr)
       have HOD := qa0 (HO9.out.later hdr)
       have HXD := qa0 (HX9.out.later hdr)
       have HGD := qa0 (HG9.out.later hdr)
       have HVD := qa0 (HV9.out.later hdr)
       have HBD := qa0 (jtwo HB9.out hdr)
       have hngm := HNe.out o hlo
       rw [HBo.out] at hngm
       have hfit : fr + L ≤ T := hL.2.1
       obtain ⟨h, HHh⟩ : ∃ h : Nat → Nat, Hid ((fun i => vlx F bt z (fr + i)) = h) := ⟨_, rfl⟩
       obtain ⟨f, HFf⟩ : ∃ f : Nat → Nat, Hid ((fun i => if i < (if o < o then fr + L else fr) then y (F.out o).toNat i else 0) = f) := ⟨_, rfl⟩
       have HRD2 : Hid (RowAt wr.drew bo 5 T f) := by rw [← HFf.out]; exact HRD.out
       have HSD2 : Hid (Sl wr.drew s L h) := by rw [← HHh.out]; exact HSD.out
       clear hs es hO9 hX9 hB9 hdr HRD HSD HRo HSs HO9 HX9 HG9 HV9 HB9
       go_wp2
       go_region_held3 (fun w' => w'.cell? ⟨g, o, none⟩ = some (.slice (some ⟨bo, 0, none⟩) T T) ∧ w'.cell? ⟨gv, z, none⟩ = some (.slice s L cc))
        (first
         | exact HK7.out
         | exact HD.out)
        (first
         | (refine qcu rfl _ _ rfl bo fr T L (T - fr) cc (some ⟨bo, fr, none⟩) s f h rfl rfl HRD2.out (fun _ => rfl) HSD2.out hfit ?_; intro w7 HR7 HG7; have HK7 : Hid ((fun w' : World => w'.cell? ⟨g, o, none⟩ = some (.slice (some ⟨bo, 0, none⟩) T T) ∧ w'.cell? ⟨gv, z, none⟩ = some (.slice s L cc)) w7) := ⟨HG7.out.cell HD.out.1 (fun hh => by simp at hh; omega), HG7.out.cell HD.out.2 (fun hh => by simp at hh; omega)⟩))
       have HFn : Hid (∀ u i, u < k → i < T → (if u = o then cpf f h fr L i else if i < (if u < o then fr + L else fr) then y (F.out u).toNat i else 0) = (if i < (if u < o + 1 then fr + L else fr) then y (F.out u).toNat i else 0)) := fun u i _ hi => by
        by_cases e : u = o
        ·subst e
         rw [if_pos rfl, if_pos (show u < u + 1 by omega), ← HFf.out, ← HHh.out]
         unfold cpf
         dsimp only
         rw [if_neg (show ¬ u < u by omega), HZ.out]
         by_cases e1 : fr ≤ i ∧ i < fr + L
         ·rw [if_pos e1, if_pos e1.2, HY1.out, show fr + (i - fr) = i by omega]
         ·rw [if_neg e1]
          by_cases e2 : i < fr
          ·rw [if_pos e2, if_pos (by omega)]
          ·rw [if_neg e2, if_neg (by omega)]
        ·rw [if_neg e]
         by_cases e1 : u < o
         ·rw [if_pos e1, if_pos (show u < o + 1 by omega)]
         ·rw [if_neg e1, if_neg (show ¬ u < o + 1 by omega)]
       have HO10 : Hid (Ou w7 w.heap.size g k k T B (fun u i => if i < (if u < o + 1 then fr + L else fr) then y (F.out u).toNat i else 0)) := (HOD.out.copy (f := cpf f h fr L) hlo (by rw [HBo.out]; exact HR7.out) (by rw [HBo.out]; exact HG7.out)).congr HFn.out
       have HX10 := qa0 (HXD.out.beside HG7.out (.inr ⟨b1, b2⟩) (by omega))
       have HG10 := qa0 (HGD.out.kept HG7.out (fun e => by cases e; omega))
       have HV10 := qa0 (HVD.out.kept HG7.out (fun e => by cases e; omega))
       have HB10 := qa0 (HBD.out.grown HG7.out HBD.out.size (fun k e => by cases e; exact b1))
       clear HOD HXD HGD HVD HBD HR7 HG7 HFn HK7 HD HRD2 HSD2
       go_wp2
       exact ⟨⟨o + 1, by omega, by go_num, HO10.out, HX10.out, HG10.out, HV10.out, HB10.out⟩, by simp [intOf]; omega⟩
      ·obtain rfl : o = k := by omega
       clear hO9 hX9 hB9
       go_wp2
       refine ⟨⟨fr + 4096, by omega, by go_num, HO9.out.congr (fun u i hu hi => ?_), HG9.out, HV9.out, HB9.out⟩, by simp [intOf]; omega⟩
       rw [if_pos hu]
       by_cases e1 : i < fr + L
       ·rw [if_pos e1, if_pos (by omega)]
       ·rw [if_neg e1, if_neg (by omega)]
    ·clear hg6 hv6 hb6
     have q0 : ¬ (fr : Int) < (T : Int) := by omega
     go_wp2
     go_ret
     exact ⟨HQ2.out _ g B (by omega) (HO6.out.congr fun o i _ hi => by rw [if_pos (by omega)]), HB6.out⟩
end Go.Proofs.Ytkfnedpnkeacpaa
