/-
  shape.Same of any two codes: bytes.Equal, slices.Equal.
  A code that came in, opened: a struct of a matrix and of a list.
  The anchor of the laws of codes.
  Codes that came in; shape.May and shape.Same beside the reference's.
-/
import Derived.Test.YtmgfeepnkahkmaaGreatQmmys00
import Derived.Test.YtmgfeepnkahkmaaGreatQmmys38
import Derived.Deep.LoopGhost
import Derived.Test.YtmgfeepnkahkmaaGreatQmmys02
import Derived.Lib.SmallJoins
import Derived.Test.YtmgfeepnkahkmaaGreatQmmys44
import Derived.Test.YtmgfeepnkahkmaaGreatQmmys36
import Derived.Test.YtmgfeepnkahkmaaGreatQmmys49
import Derived.Deep.RegionHeld3
set_option maxRecDepth 100000
set_option maxHeartbeats 16000000
namespace Go.Proofs.YtmgfeepnkahkmaaGreat
open Go.RowKit
theorem beq16 (w : World) (a b : Option Addr) (n m c d : Nat) (f h : Nat → Nat) (ha : Sl w a n f) (hb : Sl w b m h) :
  Calls Tryz.prog 49 #[.slice a n c, .slice b m d] w fun e w' => e = .returned (.bool (sameB n m f h)) ∧ w = w' := by
 have h1 : (convert 22 9 (.slice a n c)).run Tryz.prog w = .ok (.string (strOf n f)) w := qcf ha
 have h2 : (convert 22 9 (.slice b m d)).run Tryz.prog w = .ok (.string (strOf m h)) w := qcf hb
 rw [← qf6 ha.1 hb.1]
 obtain ⟨s, hs⟩ : ∃ s, strOf n f = s := ⟨_, rfl⟩
 obtain ⟨t, ht⟩ : ∃ s, strOf m h = s := ⟨_, rfl⟩
 rw [hs, ht]
 rw [hs] at h1
 rw [ht] at h2
 clear hs ht ha hb
 go_enter Tryz.func49, Tryz.ntmps49
 go_wp2
 go_ret
 exact ⟨rfl, rfl⟩
theorem seq16 (w : World) (b b' : Option Addr) (m d m' d' : Nat) (q q' : Nat → Nat) (hb : Jl w b .u64 m (fun i => (q i : Int))) (hb' : Jl w b' .u64 m' (fun i => (q' i : Int))) (hm : m ≤ 17592186044416) (s : Bool) (HS : Hid ((decide (m = m') && gsB q q' m) = s)) :
  Calls Tryz.prog 50 #[.slice b m d, .slice b' m' d'] w fun e w' => e = .returned (.bool s) ∧ Below w.heap.size w w' := by
 have HJ : Hid (Jl w b .u64 m (fun i => (q i : Int))) := hb
 have HJ' : Hid (Jl w b' .u64 m' (fun i => (q' i : Int))) := hb'
 clear hb hb'
 by_cases hmm : m = m'
 ·have HM : Hid (m = m') := hmm
  have g1 : ((m : Int) != (m' : Int)) = false := by simp; omega
  have hm2 : m ≤ m' := by omega
  clear hmm
  go_enter Tryz.func50, Tryz.ntmps50
  go_wp2
  go_loopg [5, 13] m (fun gh _ vi wr => ∃ i : Nat, vi = .int .i64 (i : Int) ∧ i ≤ m ∧ m - i ≤ gh ∧ (∀ j, j < i → q j = q' j) ∧ Below w.heap.size w wr)
  case atStart => exact ⟨0, rfl, by omega, by omega, fun j hj => by omega, Below.refl _ _⟩
  case round =>
   obtain ⟨i, rfl, hi, hgh, hall, hbr⟩ := hrel
   have HL : Hid (∀ j, j < i → q j = q' j) := hall
   have HB : Hid (Below w.heap.size w wr) := hbr
   by_cases hlt : i < m
   ·have hlt2 : (i : Int) < (m : Int) := by omega
    have hlt3 : (i : Int) < (m' : Int) := by omega
    have i0 : (0 : Int) ≤ (i : Int) := Int.natCast_nonneg _
    obtain ⟨x, o, ea, hc⟩ := (HJ.out.later hbr) i hlt
    obtain ⟨x', o', ea', hc'⟩ := (HJ'.out.later hbr) i (by omega)
    obtain ⟨u, HU⟩ : ∃ u, Hid (q i = u) := ⟨_, rfl⟩
    obtain ⟨u', HU'⟩ : ∃ u, Hid (q' i = u) := ⟨_, rfl⟩
    have hc2 : wr.cell? ⟨x, o + i, none⟩ = some (.int .u64 (u : Int)) := by rw [← HU.out]; exact hc
    have hc2' : wr.cell? ⟨x', o' + i, none⟩ = some (.int .u64 (u' : Int)) := by rw [← HU'.out]; exact hc'
    subst ea ea'
    clear hc hc' hall hbr
    by_cases he : u = u'
    ·have HE : Hid (u = u') := he
     have g2 : ((u : Int) != (u' : Int)) = false := by simp; omega
     clear he
     go_wp2
     go_quiet (fail)
     go_wp2
     go_roundg (gk - 1)
     case measure => omega
     case rel => exact ⟨i + 1, by go_num, by omega, by omega, fun j hj => (by
      by_cases e : j = i
      ·subst e; rw [HU.out, HU'.out]; exact HE.out
      ·exact HL.out j (by omega)), HB.out.trans (below_drewN (Below.refl _ _) _)⟩
    ·have g2 : ((u : Int) != (u' : Int)) = true := by simp; omega
     have HE : Hid (¬ u = u') := he
     clear he
     go_wp2
     go_quiet (fail)
     go_wp2
     go_ret
     refine ⟨?_, HB.out.trans (below_drewN (Below.refl _ _) _)⟩
     have : s = false := by rw [← HS.out, gsB_no hlt (by rw [HU.out, HU'.out]; exact HE.out), Bool.and_false]
     rw [this]; rfl
   ·have hlt2 : ¬ (i : Int) < (m : Int) := by omega
    clear hall hbr
    go_wp2
    go_ret
    refine ⟨?_, HB.out⟩
    have : s = true := by rw [← HS.out, qke (fun j hj => HL.out j (by omega))]; simpa using HM.out
    rw [this]; rfl
 ·have g1 : ((m : Int) != (m' : Int)) = true := by simp; omega
  have HM : Hid (s = false) := by
   show s = _
   rw [← HS.out]
   simp [hmm]
  clear hmm
  go_enter Tryz.func50, Tryz.ntmps50
  go_wp2
  go_ret
  exact ⟨by rw [HM.out]; rfl, Below.refl _ _⟩
theorem qkj (w : World) (r c r' c' : Int) (a b a' b' : Option Addr) (n k m d n' k' m' d' : Nat) (f f' q q' : Nat → Nat) (ha : Sl w a n f) (ha' : Sl w a' n' f') (hb : Jl w b .u64 m (fun i => (q i : Int))) (hb' : Jl w b' .u64 m' (fun i => (q' i : Int))) (hm : m ≤ 17592186044416) (s : Bool) (HS : Hid ((likeB r c r' c' n n' f f' && (decide (m = m') && gsB q q' m)) = s)) :
  Calls Tryz.prog 18 #[cv r c a n k b m d, cv r' c' a' n' k' b' m' d'] w fun e w' => e = .returned (.bool s) ∧ Below w.heap.size w w' := by
 obtain ⟨wb, HW⟩ : ∃ wb, Hid ((w.alloc (.cells #[.int .i64 r, .int .i64 c, .slice a n k, .slice b m d] 27)).alloc (.cells #[.int .i64 r', .int .i64 c', .slice a' n' k', .slice b' m' d'] 27) = wb) := ⟨_, rfl⟩
 have HB0 : Hid (Below w.heap.size w wb) := by rw [← HW.out]; exact qa1 (qa0 _ _) (qa0 _ _)
 have HA : Hid (Vq wb w.heap.size 27 #[.int .i64 r, .int .i64 c, .slice a n k, .slice b m d]) := by rw [← HW.out]; exact (Vq.new w _ _).later (qa0 _ _)
 have HC : Hid (Vq wb (w.heap.size + 1) 27 #[.int .i64 r', .int .i64 c', .slice a' n' k', .slice b' m' d']) := by rw [← HW.out]; exact Vq.new1 _ _ _ _
 have HSa : Hid (Sl wb a n f) := ha.later HB0.out
 have HSa' : Hid (Sl wb a' n' f') := ha'.later HB0.out
 obtain ⟨t2, HT2⟩ : ∃ t2, Hid ((decide (m = m') && gsB q q' m) = t2) := ⟨_, rfl⟩
 obtain ⟨t1, HT1⟩ : ∃ t1, Hid (sameB n n' f f' = t1) := ⟨_, rfl⟩
 have HEq : Hid (∀ w, Sl w a n f → Sl w a' n' f' → Calls Tryz.prog 49 #[.slice a n k, .slice a' n' k'] w fun e w' => e = .returned (.bool t1) ∧ w = w') := fun w h1 h2 => by rw [← HT1.out]; exact beq16 w a a' n n' k k' f f' h1 h2
 have HSq : Hid (Calls Tryz.prog 50 #[.slice b m d, .slice b' m' d'] wb fun e w' => e = .returned (.bool t2) ∧ Below wb.heap.size wb w') := seq16 wb b b' m d m' d' q q' (hb.later HB0.out) (hb'.later HB0.out) hm t2 HT2
 have HS2 : Hid ((((r == r') && ((c == c') && t1)) && t2) = s) := by
  show _ = s
  rw [← HS.out, likeB, HT1.out, HT2.out]
 have a0 := HA.out.cell 0 _ rfl
 have a1 := HA.out.cell 1 _ rfl
 have a2 := HA.out.cell 2 _ rfl
 have a3 := HA.out.cell 3 _ rfl
 have c0 := HC.out.cell 0 _ rfl
 have c1 := HC.out.cell 1 _ rfl
 have c2 := HC.out.cell 2 _ rfl
 have c3 := HC.out.cell 3 _ rfl
 obtain ⟨b1, hb1⟩ : ∃ b1, (r == r') = b1 := ⟨_, rfl⟩
 obtain ⟨b2, hb2⟩ : ∃ b2, (c == c') = b2 := ⟨_, rfl⟩
 rw [hb1, hb2] at HS2
 clear ha ha' hb hb' HS HT1 HT2
 cases b1 with
 | false =>
  go_enter Tryz.func18, Tryz.ntmps18
  go_wp2
  rw [HW.out]
  go_wp2
  go_ret
  exact ⟨by rw [← HS2.out]; rfl, HB0.out⟩
 | true =>
  cases b2 with
  | false =>
   go_enter Tryz.func18, Tryz.ntmps18
   go_wp2
   rw [HW.out]
   go_wp2
   go_ret
   exact ⟨by rw [← HS2.out]; rfl, HB0.out⟩
  | true =>
   cases t1 with
   | false =>
    go_enter Tryz.func18, Tryz.ntmps18
    go_wp2_with (go_at_call 49; rw [HW.out]; refine (HEq.out _ HSa.out HSa'.out).mono ?_; rintro e w1 ⟨rfl, rfl⟩)
    go_ret
    exact ⟨by rw [← HS2.out]; rfl, HB0.out⟩
   | true =>
    go_enter Tryz.func18, Tryz.ntmps18
    go_wp2_with (first
     | (go_at_call 49; rw [HW.out]; refine (HEq.out _ HSa.out HSa'.out).mono ?_; rintro e w1 ⟨rfl, rfl⟩)
     | (go_at_call 50; refine HSq.out.mono ?_; rintro e w2 ⟨rfl, hb2⟩; have HB2 : Hid (Below w.heap.size w w2) := qa1 HB0.out hb2; clear hb2))
    go_ret
    exact ⟨by rw [← HS2.out]; simp, HB2.out⟩
open Go.ChangeShapes Go.WideShapes Go.ChangeAt Go.RowKit Go.Joins
theorem array4 {α : Type} {cs : Array α} (h : cs.size = 4) : ∃ c0 c1 c2 c3, cs = #[c0, c1, c2, c3] := by
 obtain ⟨l⟩ := cs
 match l, h with
 | [c0, c1, c2, c3], _ => exact ⟨c0, c1, c2, c3, rfl⟩
theorem qfl {H : Type} {enc : TypeId × Value → H} {P : Program} {w : World} {base : Nat} {spare : Nat → Bool} {held : Bool} {r : Reach} {b0 : Nat} {t : TypeId} {f0 f1 g0 g1 g2 : Field} {v : Value} {d : DataW H} {p : List MemPlace} (hs : P.underlying t = some (.struct #[f0, f1])) (hm : P.underlying f0.type = some (.struct #[g0, g1, g2])) (hone : Go.Deep.oneCellFields P #[g0, g1, g2] = true) (o0 : f0.offset = 0) (o1 : f1.offset = 3) (k0 : P.cellsOf f0.type = 3) (k1 : P.cellsOf f1.type = 1) (hC : P.cellsOf t = 4)
  (hv : Value.okWide P w r b0 t v) (h : DataW.Trod enc P w base spare held t v d p) :
  ∃ (v0 v1 v2 v3 : Value) (y0 y1 y2 y3 : DataW H × List MemPlace) (n n' : Nat), v = .agg #[v0, v1, v2, v3] ∧ d = .agg [.agg [y0.1, y1.1, y2.1], y3.1] ∧ p = (y0.2 ++ (y1.2 ++ y2.2)) ++ y3.2 ∧
   DataW.trod enc P w base spare held n' g0.type [v0] = some y0 ∧ DataW.trod enc P w base spare held n' g1.type [v1] = some y1 ∧ DataW.trod enc P w base spare held n' g2.type [v2] = some y2 ∧ DataW.trod enc P w base spare held n f1.type [v3] = some y3 := by
 obtain ⟨cs, rfl, hsz⟩ := okWide_struct hs hv
 obtain ⟨c0, c1, c2, c3, rfl⟩ := array4 (hsz.trans hC)
 obtain ⟨fuel, hf⟩ := h
 obtain ⟨xs, n, _, hx, hl, hlen, hff⟩ := DataW.trod_struct hs hf
 match xs, hlen with
 | [z0, y3], _ =>
  have h0 := hff 0 f0 rfl
  have h1 := hff 1 f1 rfl
  rw [o0, k0] at h0
  rw [o1, k1] at h1
  simp [Value.cells] at h0 h1
  obtain ⟨xs', n', _, hx', hl', hlen', hff'⟩ := DataW.trod_struct hm h0
  match xs', hlen' with
  | [y0, y1, y2], _ =>
   obtain ⟨q0, j0⟩ := Go.Deep.hone_of hone 0 g0 rfl
   obtain ⟨q1, j1⟩ := Go.Deep.hone_of hone 1 g1 rfl
   obtain ⟨q2, j2⟩ := Go.Deep.hone_of hone 2 g2 rfl
   have e0 := hff' 0 g0 rfl
   have e1 := hff' 1 g1 rfl
   have e2 := hff' 2 g2 rfl
   simp only [Prod.mk.injEq] at hx
   subst hx'
   exact ⟨c0, c1, c2, c3, y0, y1, y2, y3, n, n', rfl, by simpa using hx.1, by simpa using hx.2, by simpa [q0, j0] using e0, by simpa [q1, j1] using e1, by simpa [q2, j2] using e2, h1⟩
open Go.RowKit
/-- The anchor's code: 1 / 1 with the group of both blocks. -/
def anF (q : Nat) : Nat := ptf 1 1 1 (fun _ => 1) (fun q => crf 1 (1 * 1 + q)) q
theorem qez : ∀ q, q < 2 → anF q = 1 := fun q hq => by
 rcases (by omega : q = 0 ∨ q = 1) with rfl | rfl
 ·rfl
 ·rfl
theorem two_ones {w : World} {b : Nat} (h : Vq w b 5 #[.int .u8 1, .int .u8 1]) : Sl w (some ⟨b, 0, none⟩) 2 (fun _ => 1) := ⟨fun _ _ => by show 1 < 256; omega, fun i hi => ⟨b, 0, rfl, by
 rcases (by omega : i = 0 ∨ i = 1) with rfl | rfl
 ·exact h.cell 0 _ rfl
 ·exact h.cell 1 _ rfl⟩⟩
theorem one_set {w : World} {b : Nat} (h : Vq w b 52 #[.int .u64 3]) : Jl w (some ⟨b, 0, none⟩) .u64 1 (fun _ => ((3 : Nat) : Int)) := fun i hi => ⟨b, 0, rfl, by
 obtain rfl : i = 0 := by omega
 exact h.cell 0 _ rfl⟩
theorem an_hang : HangP anF 2 1 3 := by
 have R : Rt 2 1 2 := ⟨by omega, by omega, rfl⟩
 have hM : El2 (m2 anF 2 1) := qeo (fun i hi => by rw [qez i hi]; omega) R
 have e : m2 anF 2 1 0 = m2 anF 2 1 1 := by
  funext j
  by_cases hj : j < 1
  ·rw [qb4 _ (by omega) hj, qb4 _ (by omega) hj, qez _ (by omega), qez _ (by omega)]
  ·rw [qan anF (by omega), qan anF (by omega)]
 refine ⟨by decide, fun i hi hb => ?_⟩
 rcases (by omega : i = 0 ∨ i = 1) with rfl | rfl
 ·rw [e]; exact qe5 hM (by omega) (by rfl)
 ·rw [← e]; exact qe5 hM (by omega) (by rfl)
theorem an_local (w : World) : Calls Tryz.prog 21 #[.int .i64 1, .int .i64 1, .int .i64 0] w fun e w' => ∃ s d t e2, e = .returned (.tuple #[cv 2 1 s 2 d t 1 e2, .int .i64 0]) ∧ Mt w' s 2 d anF ∧ Jl w' t .u64 1 (fun _ => ((3 : Nat) : Int)) ∧ Below w.heap.size w w' := by
 have h := qi3 w 1 1 1 0 2 2 (by omega) (by omega) (by omega) (qe1 rfl) (qe1 rfl) (by omega) (qe1 rfl)
 refine h.mono (fun e w' h => ?_)
 obtain ⟨s, d, t, e2, h1, h2, h3, h4⟩ := h
 exact ⟨s, d, t, e2, h1, h2, fun i hi => by
  obtain rfl : i = 0 := by omega
  obtain ⟨x, o, ex, hc⟩ := h3 0 (by omega)
  exact ⟨x, o, ex, by rw [hc]; rfl⟩, h4⟩
theorem anch16 (w : World) : Calls Tryz.prog 20 #[] w fun e w' => e = .returned (.bool true) ∧ Below w.heap.size w w' := by
 have HLo := jhidv an_local
 go_enter Tryz.func20, Tryz.ntmps20
 go_wp2_with (first
  | (go_at_call 21; refine (HLo.out _).mono ?_; rintro e w1 ⟨s1, d1, t1, e1, rfl, hm1, hj1, hb1⟩; have HV : Hid (Vq (w1.alloc (.cells #[.int .i64 2, .int .i64 1, .slice s1 2 d1, .slice t1 1 e1] 27)) w1.heap.size 27 #[.int .i64 2, .int .i64 1, .slice s1 2 d1, .slice t1 1 e1]) := Vq.new w1 _ _; have HBd : Hid (Below w.heap.size w (((w1.alloc (.cells #[.int .i64 2, .int .i64 1, .slice s1 2 d1, .slice t1 1 e1] 27)).alloc (.cells #[.int .u8 1, .int .u8 1] 5)).alloc (.cells #[.int .u64 3] 52))) := qa1 (qa1 (qa1 hb1 (qa0 _ _)) (qa0 _ _)) (qa0 _ _); have HMd : Hid (Mt (((w1.alloc (.cells #[.int .i64 2, .int .i64 1, .slice s1 2 d1, .slice t1 1 e1] 27)).alloc (.cells #[.int .u8 1, .int .u8 1] 5)).alloc (.cells #[.int .u64 3] 52)) s1 2 d1 anF) := ((hm1.later (qa0 _ _)).later (qa0 _ _)).later (qa0 _ _); have HJd : Hid (Jl (((w1.alloc (.cells #[.int .i64 2, .int .i64 1, .slice s1 2 d1, .slice t1 1 e1] 27)).alloc (.cells #[.int .u8 1, .int .u8 1] 5)).alloc (.cells #[.int .u64 3] 52)) t1 .u64 1 (fun _ => ((3 : Nat) : Int))) := ((hj1.later (qa0 _ _)).later (qa0 _ _)).later (qa0 _ _); have HVd : Hid (Vq (((w1.alloc (.cells #[.int .i64 2, .int .i64 1, .slice s1 2 d1, .slice t1 1 e1] 27)).alloc (.cells #[.int .u8 1, .int .u8 1] 5)).alloc (.cells #[.int .u64 3] 52)) w1.heap.size 27 #[.int .i64 2, .int .i64 1, .slice s1 2 d1, .slice t1 1 e1]) := (HV.out.later (qa0 _ _)).later (qa0 _ _); have HLb : Hid (Vq (((w1.alloc (.cells #[.int .i64 2, .int .i64 1, .slice s1 2 d1, .slice t1 1 e1] 27)).alloc (.cells #[.int .u8 1, .int .u8 1] 5)).alloc (.cells #[.int .u64 3] 52)) (w1.heap.size + 1) 5 #[.int .u8 1, .int .u8 1]) := (Vq.new1 w1 _ _ _).later (qa0 _ _); have HLs : Hid (Vq (((w1.alloc (.cells #[.int .i64 2, .int .i64 1, .slice s1 2 d1, .slice t1 1 e1] 27)).alloc (.cells #[.int .u8 1, .int .u8 1] 5)).alloc (.cells #[.int .u64 3] 52)) (w1.heap.size + 1 + 1) 52 #[.int .u64 3]) := Vq.new2 w1 _ _ _ _; have c0 := HV.out.cell 0 _ rfl; have c1 := HV.out.cell 1 _ rfl; have c2 := HV.out.cell 2 _ rfl; have c3 := HV.out.cell 3 _ rfl; clear hm1 hj1 hb1)
  | (go_at_call 19; refine (qkf _ 2 1 2 1 s1 t1 (some ⟨w1.heap.size + 1, 0, none⟩) (some ⟨w1.heap.size + 1 + 1, 0, none⟩) 2 d1 1 e1 2 2 1 1 anF (fun _ => 1) (fun _ => 3) (fun _ => 3) HMd.out.sl (two_ones HLb.out) HJd.out (one_set HLs.out) (by omega) true (qe1 (by rw [qdw (fun i hi => qez i hi), qh9]; rfl))).mono ?_; rintro e w2 ⟨rfl, hb2⟩; have HB2 : Hid (Below w.heap.size w w2) := qa1 HBd.out hb2; have HM2 : Hid (Mt w2 s1 2 d1 anF) := HMd.out.later hb2; have HJ2 : Hid (Jl w2 t1 .u64 1 (fun _ => ((3 : Nat) : Int))) := HJd.out.later hb2; have k0 := (HVd.out.later hb2).cell 0 _ rfl; have k1 := (HVd.out.later hb2).cell 1 _ rfl; have k2 := (HVd.out.later hb2).cell 2 _ rfl; have k3 := (HVd.out.later hb2).cell 3 _ rfl; clear hb2)
  | (go_at_call 16; refine (may1 _ 2 1 2 d1 e1 3 s1 t1 anF HM2.out HJ2.out ⟨by omega, by omega, rfl⟩ (by omega) (by omega) (by omega) an_hang).mono ?_; rintro e w3 ⟨rfl, hb3⟩; have HB3 : Hid (Below w.heap.size w w3) := qa1 HB2.out hb3; clear hb3))
 go_ret
 exact ⟨rfl, HB3.out⟩
open Go.RowKit
theorem qfm {n : Int} (h : (Lit.int .u64 n).wf = true) : 0 ≤ n ∧ n < 18446744073709551616 := by
 simp [Lit.wf, IntKind.min, IntKind.max, IntKind.bits, IntKind.signed] at h
 omega
theorem qfn (w : World) (a : Option Addr) (len cap : Nat) (zs : List Int)
  (h : (a = none ∧ len = 0 ∧ cap = 0 ∧ zs = []) ∨ ∃ x, a = some x ∧ len ≤ cap ∧ cap ≤ 140737488351232 ∧ zs.length = cap ∧ (∀ i, i < zs.length → w.cell? (x.add i) = some (.int .u64 (zs.getD i 0))) ∧ ∀ n ∈ zs, (Lit.int .u64 n).wf = true) :
  ∃ q : Nat → Nat, Jl w a .u64 len (fun i => (q i : Int)) ∧ ∀ i, i < len → q i < 18446744073709551616 := by
 rcases h with ⟨rfl, rfl, rfl, rfl⟩ | ⟨x, rfl, hl, hm, hz, hcell, hwz⟩
 ·exact ⟨fun _ => 0, fun i hi => by omega, fun i hi => by omega⟩
 ·refine ⟨fun i => (zs.getD i 0).toNat, fun i hi => ?_, fun i hi => ?_⟩
  ·have hi' : i < zs.length := by omega
   have hc := hcell i hi'
   obtain ⟨b, off, spot⟩ := x
   have hspot : spot = none := by
    have h0 := hcell 0 (by omega)
    simpa [Addr.add] using World.cell?_spot h0
   subst hspot
   refine ⟨b, off, rfl, ?_⟩
   have hplain : (⟨b, off, none⟩ : Addr).add i = ⟨b, off + i, none⟩ := by unfold Addr.add; split <;> simp_all
   rw [hplain] at hc
   rw [hc]
   have hw := qfm (hwz zs[i] (List.getElem_mem hi'))
   have e : zs.getD i 0 = zs[i] := by simp [List.getD, hi']
   have hw0 := hw.1
   simp only [e]
   congr 2
   omega
  ·have hi' : i < zs.length := by omega
   have hw := qfm (hwz zs[i] (List.getElem_mem hi'))
   have e : zs.getD i 0 = zs[i] := by simp [List.getD, hi']
   show (zs.getD i 0).toNat < _
   rw [e]
   omega
theorem mays16 (w : World) (r c r' c' : Int) (a b a' b' : Option Addr) (n k m d n' k' m' d' : Nat) (f f' q q' : Nat → Nat) (ha : Mt w a n k f) (ha' : Mt w a' n' k' f') (hb : Jl w b .u64 m (fun i => (q i : Int))) (hb' : Jl w b' .u64 m' (fun i => (q' i : Int))) (hq : ∀ i, i < m → q i < 18446744073709551616) (hm : m ≤ 17592186044416) :
  Calls Tryz.prog 4 #[cv r c a n k b m d, cv r' c' a' n' k' b' m' d'] w fun e w' => e = .returned (.bool true) ∧ Below w.heap.size w w' := by
 obtain ⟨wb, HW⟩ : ∃ wb, Hid ((w.alloc (.cells #[.int .i64 r, .int .i64 c, .slice a n k, .slice b m d] 27)).alloc (.cells #[.int .i64 r', .int .i64 c', .slice a' n' k', .slice b' m' d'] 27) = wb) := ⟨_, rfl⟩
 have HB0 : Hid (Below w.heap.size w wb) := by rw [← HW.out]; exact qa1 (qa0 _ _) (qa0 _ _)
 have HA : Hid (Vq wb w.heap.size 27 #[.int .i64 r, .int .i64 c, .slice a n k, .slice b m d]) := by rw [← HW.out]; exact (Vq.new w _ _).later (qa0 _ _)
 have HC : Hid (Vq wb (w.heap.size + 1) 27 #[.int .i64 r', .int .i64 c', .slice a' n' k', .slice b' m' d']) := by rw [← HW.out]; exact Vq.new1 _ _ _ _
 have HBd : Hid (Below wb.heap.size wb wb.drew) := ⟨rfl, rfl, rfl, Nat.le_refl _, fun _ _ => rfl⟩
 obtain ⟨v, hv⟩ : ∃ v : Bool, v = true ↔ MayP f r c n m q := ⟨@decide _ (Classical.propDecidable _), @decide_eq_true_iff _ (Classical.propDecidable _)⟩
 obtain ⟨s, HS⟩ : ∃ s, Hid ((likeB r c r' c' n n' f f' && (decide (m = m') && gsB q q' m)) = s) := ⟨_, rfl⟩
 have HMy : Hid (∀ w', Below wb.heap.size wb w' → Calls Tryz.prog 16 #[cv r c a n k b m d] w' fun e w'' => e = .returned (.bool v) ∧ Below w'.heap.size w' w'') := fun w' h => may16 w' r c n k d m a b f q ((ha.later HB0.out).later h) ((hb.later HB0.out).later h) hm hq v hv
 have HRy : Hid (∀ w', Below wb.heap.size wb w' → Calls Tryz.prog 17 #[cv r c a n k b m d] w' fun e w'' => e = .returned (.bool v) ∧ Below w'.heap.size w' w'') := fun w' h => rmay16 w' r c n k d m a b f q ((ha.later HB0.out).later h) ((hb.later HB0.out).later h) hm hq v hv
 have HPs : Hid (∀ w', Below wb.heap.size wb w' → Calls Tryz.prog 18 #[cv r c a n k b m d, cv r' c' a' n' k' b' m' d'] w' fun e w'' => e = .returned (.bool s) ∧ Below w'.heap.size w' w'') := fun w' h => qkj w' r c r' c' a b a' b' n k m d n' k' m' d' f f' q q' ((ha.later HB0.out).later h).sl ((ha'.later HB0.out).later h).sl ((hb.later HB0.out).later h) ((hb'.later HB0.out).later h) hm s HS
 have HRs : Hid (∀ w', Below wb.heap.size wb w' → Calls Tryz.prog 19 #[cv r c a n k b m d, cv r' c' a' n' k' b' m' d'] w' fun e w'' => e = .returned (.bool s) ∧ Below w'.heap.size w' w'') := fun w' h => qkf w' r c r' c' a b a' b' n k m d n' k' m' d' f f' q q' ((ha.later HB0.out).later h).sl ((ha'.later HB0.out).later h).sl ((hb.later HB0.out).later h) ((hb'.later HB0.out).later h) hm s HS
 have HPp : Hid (∀ w', Below wb.heap.size wb w' → Calls Tryz.prog 18 #[cv r c a n k b m d, cv r c a n k b m d] w' fun e w'' => e = .returned (.bool true) ∧ Below w'.heap.size w' w'') := fun w' h => qkj w' r c r c a b a b n k m d n k m d f f q q ((ha.later HB0.out).later h).sl ((ha.later HB0.out).later h).sl ((hb.later HB0.out).later h) ((hb.later HB0.out).later h) hm true (qe1 (by rw [qdw (fun _ _ => rfl), qh9]; simp))
 have ev : (v == v) = true := by simp
 have es : (s == s) = true := by simp
 have M1 : Hid True := trivial
 clear ha ha' hb hb' hq hv HS
 have HD : Hid (wb.drew.cell? ⟨w.heap.size, 0, none⟩ = some (.int .i64 r) ∧ wb.drew.cell? ⟨w.heap.size, 1, none⟩ = some (.int .i64 c) ∧ wb.drew.cell? ⟨w.heap.size, 2, none⟩ = some (.slice a n k) ∧ wb.drew.cell? ⟨w.heap.size, 3, none⟩ = some (.slice b m d) ∧ wb.drew.cell? ⟨w.heap.size + 1, 0, none⟩ = some (.int .i64 r') ∧ wb.drew.cell? ⟨w.heap.size + 1, 1, none⟩ = some (.int .i64 c') ∧ wb.drew.cell? ⟨w.heap.size + 1, 2, none⟩ = some (.slice a' n' k') ∧ wb.drew.cell? ⟨w.heap.size + 1, 3, none⟩ = some (.slice b' m' d')) := ⟨HA.out.cell 0 _ rfl, HA.out.cell 1 _ rfl, HA.out.cell 2 _ rfl, HA.out.cell 3 _ rfl, HC.out.cell 0 _ rfl, HC.out.cell 1 _ rfl, HC.out.cell 2 _ rfl, HC.out.cell 3 _ rfl⟩
 have z0 := HA.out.cell 0 _ rfl
 have z1 := HA.out.cell 1 _ rfl
 have z2 := HA.out.cell 2 _ rfl
 have z3 := HA.out.cell 3 _ rfl
 have y0 := HC.out.cell 0 _ rfl
 have y1 := HC.out.cell 1 _ rfl
 have y2 := HC.out.cell 2 _ rfl
 have y3 := HC.out.cell 3 _ rfl
 go_enter Tryz.func4, Tryz.ntmps4
 go_wp2
 rw [HW.out]
 go_region_held3 (fun w' => w'.cell? ⟨w.heap.size, 0, none⟩ = some (.int .i64 r) ∧ w'.cell? ⟨w.heap.size, 1, none⟩ = some (.int .i64 c) ∧ w'.cell? ⟨w.heap.size, 2, none⟩ = some (.slice a n k) ∧ w'.cell? ⟨w.heap.size, 3, none⟩ = some (.slice b m d) ∧ w'.cell? ⟨w.heap.size + 1, 0, none⟩ = some (.int .i64 r') ∧ w'.cell? ⟨w.heap.size + 1, 1, none⟩ = some (.int .i64 c') ∧ w'.cell? ⟨w.heap.size + 1, 2, none⟩ = some (.slice a' n' k') ∧ w'.cell? ⟨w.heap.size + 1, 3, none⟩ = some (.slice b' m' d'))
  (first
   | exact HK6.out
   | exact HK5.out
   | exact HK4.out
   | exact HK3.out
   | exact HK2.out
   | exact HK1.out
   | exact HD.out)
  (first
   | (go_at_call 16; refine (HMy.out _ HBd.out).mono ?_; rintro e w1 ⟨rfl, hb1⟩; have HB1 : Hid (Below wb.heap.size wb w1) := (qa1 HBd.out hb1); have HK1 : Hid (w1.cell? ⟨w.heap.size, 0, none⟩ = some (.int .i64 r) ∧ w1.cell? ⟨w.heap.size, 1, none⟩ = some (.int .i64 c) ∧ w1.cell? ⟨w.heap.size, 2, none⟩ = some (.slice a n k) ∧ w1.cell? ⟨w.heap.size, 3, none⟩ = some (.slice b m d) ∧ w1.cell? ⟨w.heap.size + 1, 0, none⟩ = some (.int .i64 r') ∧ w1.cell? ⟨w.heap.size + 1, 1, none⟩ = some (.int .i64 c') ∧ w1.cell? ⟨w.heap.size + 1, 2, none⟩ = some (.slice a' n' k') ∧ w1.cell? ⟨w.heap.size + 1, 3, none⟩ = some (.slice b' m' d')) := ⟨(HA.out.later HB1.out).cell 0 _ rfl, (HA.out.later HB1.out).cell 1 _ rfl, (HA.out.later HB1.out).cell 2 _ rfl, (HA.out.later HB1.out).cell 3 _ rfl, (HC.out.later HB1.out).cell 0 _ rfl, (HC.out.later HB1.out).cell 1 _ rfl, (HC.out.later HB1.out).cell 2 _ rfl, (HC.out.later HB1.out).cell 3 _ rfl⟩; clear hb1)
   | (go_at_call 17; refine (HRy.out _ HB1.out).mono ?_; rintro e w2 ⟨rfl, hb2⟩; have HB2 : Hid (Below wb.heap.size wb w2) := (qa1 HB1.out hb2); have HK2 : Hid (w2.cell? ⟨w.heap.size, 0, none⟩ = some (.int .i64 r) ∧ w2.cell? ⟨w.heap.size, 1, none⟩ = some (.int .i64 c) ∧ w2.cell? ⟨w.heap.size, 2, none⟩ = some (.slice a n k) ∧ w2.cell? ⟨w.heap.size, 3, none⟩ = some (.slice b m d) ∧ w2.cell? ⟨w.heap.size + 1, 0, none⟩ = some (.int .i64 r') ∧ w2.cell? ⟨w.heap.size + 1, 1, none⟩ = some (.int .i64 c') ∧ w2.cell? ⟨w.heap.size + 1, 2, none⟩ = some (.slice a' n' k') ∧ w2.cell? ⟨w.heap.size + 1, 3, none⟩ = some (.slice b' m' d')) := ⟨(HA.out.later HB2.out).cell 0 _ rfl, (HA.out.later HB2.out).cell 1 _ rfl, (HA.out.later HB2.out).cell 2 _ rfl, (HA.out.later HB2.out).cell 3 _ rfl, (HC.out.later HB2.out).cell 0 _ rfl, (HC.out.later HB2.out).cell 1 _ rfl, (HC.out.later HB2.out).cell 2 _ rfl, (HC.out.later HB2.out).cell 3 _ rfl⟩; clear hb2)
   | (go_at_call 18; clear M1; refine (HPs.out _ HB2.out).mono ?_; rintro e w3 ⟨rfl, hb3⟩; have HB3 : Hid (Below wb.heap.size wb w3) := (qa1 HB2.out hb3); have HK3 : Hid (w3.cell? ⟨w.heap.size, 0, none⟩ = some (.int .i64 r) ∧ w3.cell? ⟨w.heap.size, 1, none⟩ = some (.int .i64 c) ∧ w3.cell? ⟨w.heap.size, 2, none⟩ = some (.slice a n k) ∧ w3.cell? ⟨w.heap.size, 3, none⟩ = some (.slice b m d) ∧ w3.cell? ⟨w.heap.size + 1, 0, none⟩ = some (.int .i64 r') ∧ w3.cell? ⟨w.heap.size + 1, 1, none⟩ = some (.int .i64 c') ∧ w3.cell? ⟨w.heap.size + 1, 2, none⟩ = some (.slice a' n' k') ∧ w3.cell? ⟨w.heap.size + 1, 3, none⟩ = some (.slice b' m' d')) := ⟨(HA.out.later HB3.out).cell 0 _ rfl, (HA.out.later HB3.out).cell 1 _ rfl, (HA.out.later HB3.out).cell 2 _ rfl, (HA.out.later HB3.out).cell 3 _ rfl, (HC.out.later HB3.out).cell 0 _ rfl, (HC.out.later HB3.out).cell 1 _ rfl, (HC.out.later HB3.out).cell 2 _ rfl, (HC.out.later HB3.out).cell 3 _ rfl⟩; clear hb3)
   | (go_at_call 19; refine (HRs.out _ HB3.out).mono ?_; rintro e w4 ⟨rfl, hb4⟩; have HB4 : Hid (Below wb.heap.size wb w4) := (qa1 HB3.out hb4); have HK4 : Hid (w4.cell? ⟨w.heap.size, 0, none⟩ = some (.int .i64 r) ∧ w4.cell? ⟨w.heap.size, 1, none⟩ = some (.int .i64 c) ∧ w4.cell? ⟨w.heap.size, 2, none⟩ = some (.slice a n k) ∧ w4.cell? ⟨w.heap.size, 3, none⟩ = some (.slice b m d) ∧ w4.cell? ⟨w.heap.size + 1, 0, none⟩ = some (.int .i64 r') ∧ w4.cell? ⟨w.heap.size + 1, 1, none⟩ = some (.int .i64 c') ∧ w4.cell? ⟨w.heap.size + 1, 2, none⟩ = some (.slice a' n' k') ∧ w4.cell? ⟨w.heap.size + 1, 3, none⟩ = some (.slice b' m' d')) := ⟨(HA.out.later HB4.out).cell 0 _ rfl, (HA.out.later HB4.out).cell 1 _ rfl, (HA.out.later HB4.out).cell 2 _ rfl, (HA.out.later HB4.out).cell 3 _ rfl, (HC.out.later HB4.out).cell 0 _ rfl, (HC.out.later HB4.out).cell 1 _ rfl, (HC.out.later HB4.out).cell 2 _ rfl, (HC.out.later HB4.out).cell 3 _ rfl⟩; clear hb4)
   | (go_at_call 18; refine (HPp.out _ HB4.out).mono ?_; rintro e w5 ⟨rfl, hb5⟩; have HB5 : Hid (Below wb.heap.size wb w5) := (qa1 HB4.out hb5); have HK5 : Hid (w5.cell? ⟨w.heap.size, 0, none⟩ = some (.int .i64 r) ∧ w5.cell? ⟨w.heap.size, 1, none⟩ = some (.int .i64 c) ∧ w5.cell? ⟨w.heap.size, 2, none⟩ = some (.slice a n k) ∧ w5.cell? ⟨w.heap.size, 3, none⟩ = some (.slice b m d) ∧ w5.cell? ⟨w.heap.size + 1, 0, none⟩ = some (.int .i64 r') ∧ w5.cell? ⟨w.heap.size + 1, 1, none⟩ = some (.int .i64 c') ∧ w5.cell? ⟨w.heap.size + 1, 2, none⟩ = some (.slice a' n' k') ∧ w5.cell? ⟨w.heap.size + 1, 3, none⟩ = some (.slice b' m' d')) := ⟨(HA.out.later HB5.out).cell 0 _ rfl, (HA.out.later HB5.out).cell 1 _ rfl, (HA.out.later HB5.out).cell 2 _ rfl, (HA.out.later HB5.out).cell 3 _ rfl, (HC.out.later HB5.out).cell 0 _ rfl, (HC.out.later HB5.out).cell 1 _ rfl, (HC.out.later HB5.out).cell 2 _ rfl, (HC.out.later HB5.out).cell 3 _ rfl⟩; clear hb5)
   | (go_at_call 20; refine (anch16 _).mono ?_; rintro e w6 ⟨rfl, hb6⟩; have HB6 : Hid (Below wb.heap.size wb w6) := (qa1 HB5.out hb6); have HK6 : Hid (w6.cell? ⟨w.heap.size, 0, none⟩ = some (.int .i64 r) ∧ w6.cell? ⟨w.heap.size, 1, none⟩ = some (.int .i64 c) ∧ w6.cell? ⟨w.heap.size, 2, none⟩ = some (.slice a n k) ∧ w6.cell? ⟨w.heap.size, 3, none⟩ = some (.slice b m d) ∧ w6.cell? ⟨w.heap.size + 1, 0, none⟩ = some (.int .i64 r') ∧ w6.cell? ⟨w.heap.size + 1, 1, none⟩ = some (.int .i64 c') ∧ w6.cell? ⟨w.heap.size + 1, 2, none⟩ = some (.slice a' n' k') ∧ w6.cell? ⟨w.heap.size + 1, 3, none⟩ = some (.slice b' m' d')) := ⟨(HA.out.later HB6.out).cell 0 _ rfl, (HA.out.later HB6.out).cell 1 _ rfl, (HA.out.later HB6.out).cell 2 _ rfl, (HA.out.later HB6.out).cell 3 _ rfl, (HC.out.later HB6.out).cell 0 _ rfl, (HC.out.later HB6.out).cell 1 _ rfl, (HC.out.later HB6.out).cell 2 _ rfl, (HC.out.later HB6.out).cell 3 _ rfl⟩; clear hb6))
 go_wp2
 go_ret
 exact ⟨rfl, qa1 HB0.out HB6.out⟩
end Go.Proofs.YtmgfeepnkahkmaaGreat
