/-
  Contracts of the program's gauss: Inverse.
  Contracts of the program's gauss: freeColumns.
  Contracts of the program's gauss: Kernel.
-/
import Derived.Test.YtblagbghpfopcaaGreatQwwin00
import Derived.Test.YtblagbghpfopcaaGreatQwwin37
set_option maxRecDepth 100000
set_option maxHeartbeats 16000000
namespace Go.Proofs.YtblagbghpfopcaaGreat
open Go.RowKit
theorem free_any (w : World) (ps : Option Addr) (top pd c : Nat) (p : Nat → Nat) (h : Il w ps top (fun i => (p i : Int))) (ht : top ≤ 64) (hc : c ≤ 64) :
  Calls Tryz.prog 134 #[.int .i64 (c : Int), .slice ps top pd] w fun e w' => ∃ fs fd, e = .returned (.slice fs (cnt (fre p top) c) fd) ∧ Oi w' w.heap.size (.slice fs (cnt (fre p top) c) fd) (cnt (fre p top) c) (nth (fre p top) c) ∧ Below w.heap.size w w' := by
 have HI : Hid (Il w ps top (fun i => (p i : Int))) := h
 clear h
 go_enter Tryz.func134, Tryz.ntmps134
 go_wp2
 go_loopw [5, 8] (fun sv sj wr => ∃ j : Nat, sj = .int .i64 (j : Int) ∧ j ≤ c ∧ Hid (Oi wr w.heap.size sv (cnt (fre p top) j) (nth (fre p top) c)) ∧ Hid (Below w.heap.size w wr)) (fun _ sj _ => c - (intOf sj).toNat)
 case atStart => exact ⟨0, rfl, by omega, Oi.nil _ _ _, Below.refl _ _⟩
 case round =>
  obtain ⟨j, rfl, hjc, HO, HB⟩ := hrel
  obtain ⟨fs, fd, rfl, _⟩ := HO.out.form
  have hcnt := cnt_mono (fre p top) hjc
  have hc2 := qft (fre p top) c
  by_cases hlt : j < c
  ·cases hpv : pvt p top j with
   | true =>
    have HPV : Hid (pvt p top j = true) := hpv
    have HF : Hid (fre p top j = false) := by unfold fre; rw [hpv]; rfl
    clear hpv
    go_wp2_with (go_at_call 153; refine (qer _ ps top pd j p (HI.out.later HB.out) ht).mono ?_; rintro e w' ⟨rfl, rfl⟩; rw [HPV.out])
    exact ⟨⟨j + 1, by go_num, by omega, by rw [qi0 HF.out]; exact HO.out, HB.out⟩, by simp [intOf]; omega⟩
   | false =>
    have HPV : Hid (pvt p top j = false) := hpv
    have HF : Hid (fre p top j = true) := by unfold fre; rw [hpv]; rfl
    obtain ⟨i0, hi0, hz0, hz1, hz2⟩ := info_parts infoI
    obtain ⟨q, HQ⟩ : ∃ q, Hid (cnt (fre p top) j = q) := ⟨_, rfl⟩
    rw [HQ.out] at hcnt HO ⊢
    have hml2 : q + 1 ≤ maxLen := by unfold maxLen; omega
    have hsz : w.heap.size ≤ wr.heap.size := HB.out.size
    clear hpv
    go_wp2_with (first
     | (go_at_call 153; refine (qer _ ps top pd j p (HI.out.later HB.out) ht).mono ?_; rintro e w' ⟨rfl, rfl⟩; rw [HPV.out])
     | (at_builtin; refine wpList_append_own _ rfl _ _ 34 rfl w.heap.size 3 i0 (.int .i64 0) 1 8 Tryz.underlying34 hi0 hz0 hz1 hz2 rfl (by decide) _ q _ rfl (World.ownsRow.alloc HO.out _) ⟨wr.heap.size, 0, none⟩ 1 1 [.int .i64 (j : Int)] rfl rfl (qfy _ _ _) (qfz _) hml2 (by omega) (by simp; omega) ?_; intro v3 w3 hown3 hgrow3 _; have HO3 : Hid (w3.ownsRow w.heap.size 3 1 v3 (q + 1) ((irow q (nth (fre p top) c)).toList ++ [.int .i64 (j : Int)])) := hown3; have HG3 : Hid ((wr.alloc (.cells #[.int .i64 (j : Int)] 3)).grownBy w3 (Value.slice fs q fd).ownBlock) := hgrow3; clear hown3 hgrow3))
    refine ⟨⟨j + 1, by go_num, by omega, ?_, ?_⟩, by simp [intOf]; omega⟩
    ·rw [qea HF.out, HQ.out]
     have h3 := HO3.out
     rw [qd6] at h3
     exact Oi.congr (f := fun i => if i = q then j else nth (fre p top) c i) h3 (fun u _ => by
      by_cases e : u = q
      ·rw [if_pos e, e, ← HQ.out, qh9 hlt HF.out]
      ·rw [if_neg e])
    ·have h3 := HG3.out
     have hal := qa0 HB.out (qa1 wr (.cells #[.int .i64 (j : Int)] 3))
     cases hv : (Value.slice fs q fd).ownBlock with
     | none => rw [hv] at h3; exact qa0 hal (qa8.mp h3)
     | some g => rw [hv] at h3; exact qa9 hal h3 (HO.out.base hv).1
  ·obtain rfl : j = c := by omega
   go_wp2
   go_ret
   exact ⟨fs, fd, rfl, HO.out, HB.out⟩
open Go.RowKit
theorem vone_new (w : World) (t : TypeId) (v : Value) : ∀ j u, [v][j]? = some u → (w.alloc (.cells #[v] t)).cell? ((⟨w.heap.size, 0, none⟩ : Addr).add j) = some u := by
 intro j u hj
 match j, hj with
 | 0, hj => simp at hj; subst hj; rw [add_plain]; exact (V1.new w v t).cell
theorem qm5 (n : Nat) (V : Nat → Value) (v : Value) : (vrow n V).toList ++ [v] = (vrow (n + 1) (fun i => if i = n then v else V i)).toList := by
 unfold vrow
 simp only [Array.toList_map, Array.toList_range]
 rw [List.range_succ, List.map_append]
 congr 1
 ·apply List.map_congr_left
  intro i hi
  have : i < n := by simpa using hi
  rw [if_neg (by omega)]
 ·simp
/-- What Kernel's loop keeps: so many rows, each a list of its own. -/
structure KnI (w3 wr : World) (c u : Nat) (v : Value) (gx : Nat → Nat) (f : Nat → Nat → Nat) : Prop where
 own : wr.ownsRow w3.heap.size 22 1 v u (vrow u (fun t => .slice (some ⟨gx t, 0, none⟩) c c)).toList
 rows : ∀ t, t < u → w3.heap.size ≤ gx t ∧ RowAt wr (gx t) 5 c (f t)
 low : Below w3.heap.size w3 wr
theorem knI_zero (w : World) (c : Nat) (gx : Nat → Nat) (f : Nat → Nat → Nat) : KnI w w c 0 (.slice none 0 0) gx f := ⟨by
 have e : (vrow 0 (fun t => Value.slice (some ⟨gx t, 0, none⟩) c c)).toList = [] := by simp [vrow]
 rw [e]
 exact World.ownsRow_nil _ _ _ _, fun t ht => by omega, Below.refl _ _⟩
theorem KnI.form {w3 wr : World} {c u : Nat} {v : Value} {gx : Nat → Nat} {f : Nat → Nat → Nat} (h : KnI w3 wr c u v gx f) : ∃ so dd, v = .slice so u dd ∧ (0 < u → ∃ g, so = some ⟨g, 0, none⟩) := by
 rcases h.own.2 with ⟨e, h0⟩ | ⟨g, cap, cur, e, _⟩
 ·exact ⟨none, 0, by rw [e, h0], fun h => by omega⟩
 ·exact ⟨_, _, e, fun _ => ⟨g, rfl⟩⟩
theorem KnI.more {w3 wr wi w9 : World} {c u : Nat} {v v9 : Value} {gx : Nat → Nat} {f : Nat → Nat → Nat} {h : Nat → Nat} (ob : Obj) (I : KnI w3 wr c u v gx f) (hr : RowAt wi wr.heap.size 5 c h) (hb : Below wr.heap.size wr wi) (hf : ∀ l, l < c → h l = f u l)
  (hown : w9.ownsRow w3.heap.size 22 1 v9 (u + 1) ((vrow u (fun t => .slice (some ⟨gx t, 0, none⟩) c c)).toList ++ [.slice (some ⟨wr.heap.size, 0, none⟩) c c])) (hg : (wi.alloc ob).grownBy w9 v.ownBlock) : KnI w3 w9 c (u + 1) v9 (fun t => if t = u then wr.heap.size else gx t) f := by
 have ha := qa1 wi ob
 have hsz : w3.heap.size ≤ wr.heap.size := I.low.size
 have keep : ∀ {g : Nat} {y : Nat → Nat}, RowAt wi g 5 c y → RowAt w9 g 5 c y := fun {g y} hy => by
  have h1 := hy.later ha
  unfold RowAt
  rw [hg.block g h1.lt (fun e => by
   obtain ⟨cs, hcs⟩ := ownb I.own e.symm
   have h2 : (wi.alloc ob).heap[g]? = some (.cells cs 22 (0, 0)) := by rw [ha.block g hy.lt, hb.block g (lt_of_block hcs)]; exact hcs
   exact qdj h1 h2 (by decide) rfl)]
  exact h1
 refine ⟨?_, fun t ht => ?_, ?_⟩
 ·rw [qm5] at hown
  have e : (vrow (u + 1) (fun i => if i = u then Value.slice (some ⟨wr.heap.size, 0, none⟩) c c else Value.slice (some ⟨gx i, 0, none⟩) c c)) = vrow (u + 1) (fun t => .slice (some ⟨(if t = u then wr.heap.size else gx t), 0, none⟩) c c) := by
   congr 1
   funext i
   by_cases h : i = u
   ·rw [if_pos h, if_pos h]
   ·rw [if_neg h, if_neg h]
  rw [e] at hown
  exact hown
 ·show w3.heap.size ≤ (if t = u then wr.heap.size else gx t) ∧ RowAt w9 (if t = u then wr.heap.size else gx t) 5 c (f t)
  by_cases h : t = u
  ·rw [if_pos h, h]
   exact ⟨hsz, keep (hr.congr hf)⟩
  ·rw [if_neg h]
   obtain ⟨h1, h2⟩ := I.rows t (by omega)
   exact ⟨h1, keep (h2.later hb)⟩
 ·refine ⟨?_, ?_, ?_, ?_, fun k hk => ?_⟩
  ·rw [hg.os, ha.os, hb.os, I.low.os]
  ·rw [hg.tape, ha.tape, hb.tape, I.low.tape]
  ·rw [hg.output, ha.output, hb.output, I.low.output]
  ·have h1 := hg.size
   have h2 := ha.size
   have h3 := hb.size
   omega
  ·have h2 := ha.size
   have h3 := hb.size
   rw [hg.block k (by omega) (fun e => by have := qag I.own k e.symm; omega), ha.block k (by omega), hb.block k (by omega), I.low.block k hk]
theorem KnI.prt {w3 wr : World} {c u dd : Nat} {so : Option Addr} {gx : Nat → Nat} {f : Nat → Nat → Nat} (h : KnI w3 wr c u (.slice so u dd) gx f) (hf : ∀ t l, t < u → l < c → f t l < 256) : Prt wr so u c f := fun t ht => by
 rcases h.own.2 with ⟨_, h0⟩ | ⟨g, cap, cur, e, _, hg, hc, _, hs, htk⟩
 ·omega
 ·cases e
  have e1 : (cur.toList.take (u * 1))[t]? = some (.slice (some ⟨gx t, 0, none⟩) c c) := by rw [htk, Array.getElem?_toList, qij _ _ _ ht]
  rw [List.getElem?_take, if_pos (by omega), Array.getElem?_toList] at e1
  refine ⟨g, 0, some ⟨gx t, 0, none⟩, c, rfl, ?_, (h.rows t ht).2.sl (fun l hl => hf t l ht hl), fun e => by cases e⟩
  rw [Nat.zero_add, cell_of_row wr g t _ _ _ hg]
  exact e1
theorem KnI.room {w3 wr : World} {c u dd : Nat} {so : Option Addr} {gx : Nat → Nat} {f : Nat → Nat → Nat} (h : KnI w3 wr c u (.slice so u dd) gx f) : u ≤ dd := by
 rcases h.own.2 with ⟨e, h0⟩ | ⟨g, cap, cur, e, _, _, hc, _⟩
 ·cases e; omega
 ·cases e; omega
theorem gker_x (w : World) (r c n k : Nat) (a : Option Addr) (F : Nat → Nat) (ha : Mt w a n k F) (R : Rt r c n) : Calls Tryz.prog 121 #[mv r c a n k] w fun e w' => KerP w w' e r c F ∧ ∃ s N d kr, e = .returned (.tuple #[mv (kr : Nat) c s N d, .int .i64 0]) ∧ Frs w' w.heap.size s N d := by
 obtain ⟨wb, HW, HX⟩ : ∃ wb, Hid (wb = (w.alloc (.cells #[.int .i64 (r : Int), .int .i64 (c : Int), .slice a n k] 24)).alloc (.cells #[.int .i64 0, .int .i64 0, .slice none 0 0] 24)) ∧ Hid (Box2 w wb r c n k a) := ⟨_, rfl, box2 w r c n k a⟩
 have HA : Hid (Mt w a n k F) := ha
 have HR : Hid (Rt r c n) := R
 have hr := R.r64
 have hc := R.c64
 have v0 := HX.out.va.c0
 have v1 := HX.out.va.c1
 have v2 := HX.out.va.c2
 have hwb : w.heap.size + 1 < wb.heap.size := HX.out.vr.lt
 clear ha R
 go_enter Tryz.func121, Tryz.ntmps121
 go_wp2_with (first
  | (go_at_call 58; rw [← HW.out]; refine (qm3 _ r c n k a F (HA.out.later HX.out.below) HR.out).mono ?_; rintro e w1 ⟨s1, d1, ps, pd, top, p, G, rfl, hm1, hi1, hr1, hs1, hp1, hb1⟩; have HM1 : Hid (Mt w1 s1 n d1 G) := hm1; have HI1 : Hid (Il w1 ps top (fun i => (p i : Int))) := hi1; have HRD : Hid (Rdf (m2 G r c) r top p ∧ SpEq (m2 G r c) r (m2 F r c) r ∧ ∀ i, i < top → p i < c) := ⟨hr1, hs1, hp1⟩; have HB1 : Hid (Below wb.heap.size wb w1) := hb1; have va := Vr.new w1 (.int .i64 (r : Int)) (.int .i64 (c : Int)) (.slice s1 n d1); have b0 := va.c0; have b1 := va.c1; have b2 := va.c2; have htr : top ≤ r := hr1.kr; clear hm1 hi1 hr1 hs1 hp1 hb1 va)
  | (go_at_call 91; refine (qes _ r c n d1 s1 G (HM1.out.sl.later (qa1 _ _)) HR.out).mono ?_; rintro e w2 ⟨gs, gd, rfl, hg2, hl2, hu2, hb2⟩; have HG2 : Hid (Grid w2 (w1.heap.size + 1) gs gd r c (m2 G r c)) := by { show Grid _ _ _ _ _ _ _; have := hg2; simpa using this }; have HB2 : Hid (Below wb.heap.size wb w2) := qa0 (qa0 HB1.out (qa1 w1 _)) hb2; have HI2 : Hid (Il w2 ps top (fun i => (p i : Int))) := (HI1.out.later (qa1 _ _)).later hb2; have f1 := (HX.out.va.later HB2.out).c1; clear hg2 hb2 hl2 hu2)
  | (go_at_call 134; refine (free_any _ ps top pd c p HI2.out (by omega) hc).mono ?_; rintro e w3 ⟨fs, fd, rfl, ho3, hb3⟩; have HO3 : Hid (Oi w3 w2.heap.size (.slice fs (cnt (fre p top) c) fd) (cnt (fre p top) c) (nth (fre p top) c)) := ho3; have HB3 : Hid (Below wb.heap.size wb w3) := qa0 HB2.out hb3; have HG3 : Hid (Grid w3 (w1.heap.size + 1) gs gd r c (m2 G r c)) := HG2.out.later hb3; have HI3 : Hid (Il w3 ps top (fun i => (p i : Int))) := HI2.out.later hb3; clear ho3 hb3))
 obtain ⟨kr, HKR⟩ : ∃ kr, Hid (cnt (fre p top) c = kr) := ⟨_, rfl⟩
 obtain ⟨q, HQ⟩ : ∃ q, Hid (nth (fre p top) c = q) := ⟨_, rfl⟩
 rw [HKR.out, HQ.out] at HO3
 rw [HKR.out]
 have hkr : kr ≤ 64 := by have := qft (fre p top) c; rw [← HKR.out]; omega
 have HQS : Hid (∀ u, u < kr → q u < c ∧ pvt p top (q u) = false) := fun u hu => by
  obtain ⟨h1, h2, _⟩ := qbt (fre p top) c u (by rw [HKR.out]; exact hu)
  rw [HQ.out] at h1 h2
  exact ⟨h1, by unfold fre at h2; simpa using h2⟩
 obtain ⟨M, HM⟩ : ∃ M, Hid (m2 G r c = M) := ⟨_, rfl⟩
 rw [HM.out] at HG3
 have HEM : Hid (El2 M) := by rw [← HM.out]; exact qax HM1.out.sl.1 HR.out
 have HF1 : Hid (Vr w3 w.heap.size (.int .i64 (r : Int)) (.int .i64 (c : Int)) (.slice a n k)) := HX.out.va.later HB3.out
 clear b0 b1 b2 f1 v0 v1 v2
 go_loopw [8, 31] (fun sv su wr => ∃ (u : Nat) (gx : Nat → Nat), su = .int .i64 (u : Int) ∧ u ≤ kr ∧ Hid (KnI w3 wr c u sv gx (fun t => kv M p top (q t)))) (fun _ su _ => kr - (intOf su).toNat)
 case atStart => exact ⟨0, fun _ => 0, rfl, by omega, knI_zero _ _ _ _⟩
 case round =>
  obtain ⟨u, gx, rfl, huk, HI⟩ := hrel
  obtain ⟨so, dd, rfl, _⟩ := HI.out.form
  have g1 := (HF1.out.later HI.out.low).c1
  by_cases hlt : u < kr
  ·obtain ⟨bf, of, efs, cf⟩ := HO3.out.il u hlt
   dsimp only at cf
   obtain ⟨hqc, hpv⟩ := HQS.out u hlt
   obtain ⟨j, HJ⟩ : ∃ j, Hid (q u = j) := ⟨_, rfl⟩
   rw [HJ.out] at cf hqc hpv
   have HPV : Hid (pvt p top j = false) := hpv
   have HFS : Hid (fs = some ⟨bf, of, none⟩) := efs
   have cf1 := qah HI.out.low cf
   obtain ⟨i0, hi8, hz0, hz1, hz2⟩ := info_parts qee
   have hml : c ≤ maxLen := by unfold maxLen; omega
   have hjc : (j : Int) < (c : Int) := by omega
   have hsz : w3.heap.size ≤ wr.heap.size := HI.out.low.size
   clear cf hpv
   subst efs
   go_wp2_with (at_make; refine wpList_make_full _ rfl _ _ 22 rfl wr.heap.size 5 i0 (.int .u8 0) 1 Tryz.underlying22 hi8 hz0 hz1 .i64 .i64 _ _ c rfl rfl rfl rfl (by rw [hz2]; omega) hml (Nat.le_refl _) ?_; intro w5 hown hgrow; have HR5 : Hid (RowAt w5 wr.heap.size 5 c (fun _ => 0)) := qct hown; have HB5 : Hid (Below wr.heap.size wr w5) := qa8.mp hgrow; have m1 := HR5.out.cell j hqc; have m2' := HR5.out.free j; clear hown hgrow)
   have HR6 : Hid (RowAt (w5.setCell ⟨wr.heap.size, j, none⟩ (.int .u8 1)) wr.heap.size 5 c (kvp M p j 0)) := (HR5.out.set j 1).congr (fun t _ => (kvp_zero M p j t).symm)
   have HB6 : Hid (Below wr.heap.size wr (w5.setCell ⟨wr.heap.size, j, none⟩ (.int .u8 1))) := HB5.out.setCell (Nat.le_refl _) _
   go_loopw [43] (fun si wi => ∃ i : Nat, si = .int .i64 (i : Int) ∧ i ≤ top ∧ Hid (RowAt wi wr.heap.size 5 c (kvp M p j i)) ∧ Hid (Below wr.heap.size wr wi)) (fun si _ => top - (intOf si).toNat)
   case atStart => exact ⟨0, rfl, by omega, HR6.out, HB6.out⟩
   case round =>
    clear HR6 HB6 HR5 HB5 m1 m2'
    obtain ⟨i, rfl, hit, HRi, HBi⟩ := hrel
    by_cases hit2 : i < top
    ·obtain ⟨x8, hcl, hs8, _⟩ := HG3.out.row (i := i) (by omega)
     obtain ⟨b8, o8, rfl, hc8⟩ := hs8.2 j hqc
     have hy := hs8.1 j hqc
     obtain ⟨y, HY⟩ : ∃ y, Hid (M i j = y) := ⟨_, rfl⟩
     rw [HY.out] at hc8 hy
     obtain ⟨bp, op, eps, hcp⟩ := HI3.out i hit2
     dsimp only at hcp
     obtain ⟨pi, HPI⟩ : ∃ pi, Hid (p i = pi) := ⟨_, rfl⟩
     rw [HPI.out] at hcp
     have hpc : pi < c := by rw [← HPI.out]; exact HRD.out.2.2 i hit2
     have HEP : Hid (ps = some ⟨bp, op, none⟩) := eps
     have d1 := qah HBi.out (qah HI.out.low hcl)
     have d2 := qah HBi.out (qah HI.out.low hc8)
     have d3 := qah HBi.out (qah HI.out.low hcp)
     have d4 := HRi.out.cell pi hpc
     have d5 := HRi.out.free pi
     have hpi : (pi : Int) < (c : Int) := by omega
     have hii : (i : Int) < (r : Int) := by omega
     clear hcl hc8 hcp hs8
     subst eps
     go_wp2
     refine ⟨⟨i + 1, by go_num, by omega, (HRi.out.set pi y).congr (fun t _ => ?_), HBi.out.setCell (Nat.le_refl _) _⟩, by simp [intOf]; omega⟩
     rw [← HPI.out, ← HY.out]
     exact kvp_step HRD.out.1.up hit2 (pvt_no HPV.out hit2) t
    ·obtain rfl : i = top := by omega
     obtain ⟨i1, hi1, hz3, hz4, hz5⟩ := info_parts info22
     have hml2 : u + 1 ≤ maxLen := by unfold maxLen; omega
     have HOW : Hid (wr.ownsRow w3.heap.size 22 1 (.slice so u dd) u (vrow u (fun t => .slice (some ⟨gx t, 0, none⟩) c c)).toList) := World.ownsRow.kept HI.out.own (qa8.mpr HBi.out) (by cases hv : (Value.slice so u dd).ownBlock <;> simp)
     have hsz2 : w3.heap.size ≤ wr.heap.size := by have := HBi.out.size; omega
     go_wp2_with (at_builtin; refine wpList_append_own _ rfl _ _ 120 rfl w3.heap.size 22 i1 (.slice none 0 0) 1 24 Tryz.underlying120 hi1 hz3 hz4 hz5 rfl (by decide) _ u _ rfl (World.ownsRow.alloc HOW.out _) ⟨wr.heap.size, 0, none⟩ 1 1 [_] rfl rfl (vone_new _ _ _) (by intro y hy; simp at hy; subst hy; rfl) hml2 (by omega) (by simp; omega) ?_; intro v9 w9 hown9 hgrow9 _; have HN9 := KnI.more (h := kvp M p j i) (f := fun t => kv M p i (q t)) _ HI.out HRi.out HBi.out (fun l _ => by rw [HJ.out]; rfl) hown9 hgrow9; have HN : Hid (KnI w3 w9 c (u + 1) v9 _ (fun t => kv M p i (q t))) := HN9; clear hown9 hgrow9 HN9)
     exact ⟨⟨u + 1, _, by go_num, by omega, HN.out⟩, by simp [intOf]; omega⟩
  ·obtain rfl : u = kr := by omega
   have hdd := HI.out.room
   have HPR : Hid (Prt wr so u c (fun t => kv M p top (q t))) := HI.out.prt (fun t l _ _ => qhb HEM.out p top (q t) l)
   have hsz : wb.heap.size ≤ w3.heap.size := HB3.out.size
   go_wp2_with (first
    | (go_at_call 88; refine (qlz _ so u dd c _ HPR.out hdd hkr hc).mono ?_; rintro e w7 ⟨s, d, H, rfl, hm7, hO7, hf7, hb7⟩; have HM7 : Hid (Mt w7 s (u * c) d H) := hm7; have HO7 : Hid (∀ i l, i < u → l < c → H (i * c + l) = kv M p top (q i) l) := hO7; have HB7 : Hid (Below wb.heap.size wb w7) := qa0 (HB3.out.trans (HI.out.low.mono hsz)) hb7; have HF7 : Hid (Frs w7 wb.heap.size s (u * c) d) := Frs.mono hf7 (Nat.le_trans hsz HI.out.low.size); have HV7 : Hid (Vr w7 (w.heap.size + 1) (.int .i64 0) (.int .i64 0) (.slice none 0 0)) := HX.out.vr.later HB7.out; clear hm7 hO7 hf7 hb7)
    | (refine qa6 rfl _ _ rfl (w.heap.size + 1) _ _ _ (.int .i64 (u : Int)) (.int .i64 (c : Int)) (.slice s (u * c) d) rfl rfl HV7.out rfl rfl rfl ?_; intro w8 HV8 HG8))
   have d0 := HV8.out.c0
   have d1 := HV8.out.c1
   have d2 := HV8.out.c2
   refine bodyPost_ret (v := .tuple #[mv u c s (u * c) d, .int .i64 0]) (by simp [results, Tryz.results121, go_sem, d0, d1, d2, mv]) rfl ?_
   refine ⟨⟨s, d, u, top, p, G, H, rfl, HM7.out.kept HG8.out (fun _ => HF7.out.off (by omega)), HRD.out.1, HRD.out.2.1, HRD.out.2.2, HKR.out.symm, fun i l hi hl => ?_, qa9 (qa0 HX.out.below HB7.out) HG8.out (by omega)⟩, s, u * c, d, u, rfl, (HF7.out.kept HG8.out (by omega)).mono (by omega)⟩
   rw [HO7.out i l hi hl, HM.out, HQ.out]
theorem gker_ok (w : World) (r c n k : Nat) (a : Option Addr) (F : Nat → Nat) (ha : Mt w a n k F) (R : Rt r c n) : Calls Tryz.prog 121 #[mv r c a n k] w fun e w' => KerP w w' e r c F := (gker_x w r c n k a F ha R).mono fun _ _ h => h.1
end Go.Proofs.YtblagbghpfopcaaGreat
