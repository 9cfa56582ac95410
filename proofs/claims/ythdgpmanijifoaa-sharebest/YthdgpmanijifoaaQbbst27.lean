/-
  Stage 22: Best of the reference.
-/
import Derived.Test.YthdgpmanijifoaaQbbst00
import Derived.Test.YthdgpmanijifoaaQbbst24
import Derived.Test.YthdgpmanijifoaaQbbst25
import Derived.Test.YthdgpmanijifoaaQbbst26
import Derived.BigRegion
import Derived.Deep.Cut
import Derived.Deep.CutRange
set_option maxRecDepth 100000
set_option maxHeartbeats 16000000
namespace Go.Proofs.Ythdgpmanijifoaa
open Go.RowKit
abbrev pra (x : Ky) (n : Int) : Array Value := #[.int .i64 x.1, .int .i64 x.2.1, .int .u8 (x.2.2 : Nat), .int .i64 n]
theorem qcw (a b c d : Int) : (#[.int .i64 a, .int .i64 b, .int .u8 c, .int .i64 d] : Array Value).all (·.oneCell') = true := by simp [Value.oneCell']
abbrev pr0 : Array Value := #[.int .i64 0, .int .i64 0, .int .u8 0, .int .i64 0]
/-- What Best answers. -/
abbrev prb (p : Pr) (e : Int) : Value := .tuple #[prv p.1 (p.2 : Nat), .bool (decide (0 < p.2)), .int .i64 e]
def bump (p : Pr) : Nat := if p.2 = 0 then 1 else p.2
theorem sizeRp : (Try.prog.info? 31).map (·.size) = some 4 := by kernel_rfl
/-- The reference's variables: the flow, its answer, the best pair so far. -/
structure Bi (w wr : World) (gb : Nat) (fl : Array Value) (p : Pr) : Prop where
 vf : Vf wr w.heap.size 25 fl
 vr : Vf wr (w.heap.size + 1) 31 pr0
 vb : Vf wr gb 31 (pra p.1 (bump p : Nat))
 hb : Below w.heap.size w wr
 og : w.heap.size + 2 ≤ gb
theorem Bi.later {w wr w2 : World} {gb : Nat} {fl : Array Value} {p : Pr} (h : Bi w wr gb fl p) (hb : Below wr.heap.size wr w2) : Bi w w2 gb fl p :=
 ⟨h.vf.later hb, h.vr.later hb, h.vb.later hb, jtwo h.hb hb, h.og⟩
theorem Bi.put {w wr w2 : World} {gb : Nat} {fl : Array Value} {p p' : Pr} (h : Bi w wr gb fl p) (hv : Vf w2 gb 31 (pra p'.1 (bump p' : Nat))) (hg : wr.grownBy w2 (some gb)) : Bi w w2 gb fl p' :=
 ⟨h.vf.kept hg (by have := h.og; simp; omega), h.vr.kept hg (by have := h.og; simp; omega), hv, qa3 h.hb hg (by have := h.og; omega), h.og⟩
theorem qb0 {p : Pr} (h : 0 < p.2) : bump p = p.2 := by unfold bump; rw [if_neg (by omega)]
theorem c3_le (F : Fl) (x : Ky) : ∀ n, c3 F x n ≤ n
 | 0 => Nat.le_refl _
 | n + 1 => by
  have := c3_le F x n
  rw [c3]
  split <;> omega
/-- The reference's test is the right one. -/
theorem BestP.test {c : Ky → Nat} {S : Ky → Prop} {p : Pr} {y : Ky} (h : BestP c S p) : (bump p < c y ∨ c y = bump p ∧ 1 < c y ∧ lexlt y p.1) ↔ (2 ≤ c y ∧ better (y, c y) p) := by
 rcases h with ⟨rfl, _⟩ | ⟨h0, _⟩
 ·rw [show bump ((0, 0, 0), 0) = 1 from rfl]
  constructor
  ·rintro (h | ⟨_, h, _⟩)
   ·exact ⟨by omega, .inl (by show 0 < c y; omega)⟩
   ·exact ⟨by omega, .inl (by show 0 < c y; omega)⟩
  ·rintro ⟨h, _⟩
   exact .inl (by omega)
 ·rw [qb0 (by omega)]
  unfold better
  dsimp only
  constructor
  ·rintro (h | ⟨h1, h2, h3⟩)
   ·exact ⟨by omega, .inl h⟩
   ·exact ⟨by omega, .inr ⟨h1, h3⟩⟩
  ·rintro ⟨h, h1 | ⟨h1, h2⟩⟩
   ·exact .inl h1
   ·exact .inr ⟨h1, by omega, h2⟩
theorem rbst_bad (w : World) (a b c : Option Addr) (p q r : Nat) (F : Fl) (h : FlR w a b c F) (hm : ¬ MayP F) :
  Calls Try.prog 10 #[flv a F.ni p b F.nn q c F.no r] w fun e w' => e = .returned (prb ((0, 0, 0), 0) 2) ∧ Below w.heap.size w w' := by
 have HMay := qa0 (fun (w2 : World) (hb : Below w.heap.size w w2) => qad (qbt w2 a b c p q r F (h.later hb)) hm)
 obtain ⟨ni, inp, nn, nt, of, fc, no, out⟩ := F
 dsimp only at HMay ⊢
 have HB0 := qa0 (jtwo (jlow w (.cells #[.slice a ni p, .slice b nn q, .slice c no r] 25)) (jlow _ (.cells pr0 31)))
 have HV0 := qa0 (Vf.new (w.alloc (.cells #[.slice a ni p, .slice b nn q, .slice c no r] 25)) 31 pr0)
 rw [show (w.alloc (.cells #[.slice a ni p, .slice b nn q, .slice c no r] 25)).heap.size = w.heap.size + 1 by simp] at HV0
 clear h hm
 go_enter Try.func10, Try.ntmps10
 go_wp2_with (first
  | (go_at_call 17; refine (HMay.out _ HB0.out).mono ?_; rintro e w1 ⟨rfl, hb1⟩; have HB1 := qa0 (jtwo HB0.out hb1); have HV1 := qa0 (HV0.out.later hb1); clear hb1)
  | (refine qa1 rfl 31 _ _ rfl (w.heap.size + 1) _ pr0 rfl rfl HV1.out sizeRp rfl (qcw _ _ _ _) ?_; intro w9 HV9 HG9))
 have d0 := HV9.out.cell 0 _ rfl
 have d1 := HV9.out.cell 1 _ rfl
 have d2 := HV9.out.cell 2 _ rfl
 have d3 := HV9.out.cell 3 _ rfl
 try rw [Exit.noGoto_ret]
 refine bodyPost_ret (v := prb ((0, 0, 0), 0) 2) (by simp [results, Try.results10, go_sem, d0, d1, d2, d3]) rfl ?_
 exact ⟨rfl, qa3 HB1.out HG9.out (by omega)⟩
theorem BestP.no {c : Ky → Nat} {S S' : Ky → Prop} {p : Pr} {y : Ky} (h : BestP c S p) (hs : ∀ x, S' x ↔ S x ∨ x = y) (ht : ¬ (2 ≤ c y ∧ better (y, c y) p)) : BestP c S' p := by
 by_cases h2 : 2 ≤ c y
 ·exact h.leave hs h2 (fun hb => ht ⟨h2, hb⟩)
 ·exact h.less hs (by omega)
theorem k1_set (F : Fl) (n i j : Nat) (x y : Ky) (hy : pky F n i (i + 1 + j) = y) (a : Nat) : 0 < a + k1 F n i x (j + 1) ↔ 0 < a + k1 F n i x j ∨ x = y := by
 rw [k1, hy]
 by_cases e : y = x
 ·rw [if_pos e]
  exact ⟨fun _ => .inr e.symm, fun _ => by omega⟩
 ·rw [if_neg e]
  constructor
  ·intro h; exact .inl (by omega)
  ·rintro (h | h)
   ·omega
   ·exact absurd h.symm e
theorem Vf.setc {w : World} {b : Nat} {T : TypeId} {xs : Array Value} (h : Vf w b T xs) (i : Nat) (v : Value) {ys : Array Value} (e : xs.setIfInBounds i v = ys) : Vf (w.setCell ⟨b, i, none⟩ v) b T ys := by rw [← e]; exact h.put i v
theorem qas {B g i : Nat} {w w' : World} (h : Below B w w') (hg : B ≤ g) (v : Value) : Below B w (w'.setCell ⟨g, i, none⟩ v) := h.setCell hg v
theorem qa9 (w : World) (g i : Nat) (v : Value) : w.grownBy (w.setCell ⟨g, i, none⟩ v) (some g) := ⟨rfl, rfl, rfl, by simp, fun k _ hk => Below.heap_setCell w _ v k (fun e => hk (by rw [e]))⟩
theorem Vf.put4 {w : World} {g : Nat} {T : TypeId} {a0 a1 a2 a3 : Value} (h : Vf w g T #[a0, a1, a2, a3]) (x0 x1 x2 x3 : Value) : Vf ((((w.setCell ⟨g, 0, none⟩ x0).setCell ⟨g, 1, none⟩ x1).setCell ⟨g, 2, none⟩ x2).setCell ⟨g, 3, none⟩ x3) g T #[x0, x1, x2, x3] ∧ w.grownBy ((((w.setCell ⟨g, 0, none⟩ x0).setCell ⟨g, 1, none⟩ x1).setCell ⟨g, 2, none⟩ x2).setCell ⟨g, 3, none⟩ x3) (some g) :=
 ⟨(((h.setc 0 _ rfl).setc 1 _ rfl).setc 2 _ rfl).setc 3 _ rfl, (((qa9 w g 0 x0).andThen (qa9 _ g 1 x1) (fun _ h => .inr h)).andThen (qa9 _ g 2 x2) (fun _ h => .inr h)).andThen (qa9 _ g 3 x3) (fun _ h => .inr h)⟩
theorem vf_bump {w : World} {g cc n : Nat} {T : TypeId} {u v : Int} {rr : Nat} {yy : Ky} {F' : Fl} (h : Vf w g T #[.int .i64 u, .int .i64 v, .int .u8 (rr : Int), .int .i64 (cc : Int)]) (hy : (u, v, rr) = yy) (hc : c3 F' yy n = cc) (h0 : 0 < cc) : Vf w g T (pra yy (bump (yy, c3 F' yy n) : Nat)) := by
 rw [qb0 (by show 0 < c3 F' yy n; omega)]
 show Vf w g T (pra yy ((c3 F' yy n : Nat) : Int))
 rw [hc, ← hy]
 exact h
theorem rbst_ok (w : World) (a b c : Option Addr) (p q r : Nat) (F : Fl) (h : FlR w a b c F) (hm : MayP F) :
  Calls Try.prog 10 #[flv a F.ni p b F.nn q c F.no r] w fun e w' => e = .returned (prb (bstF F) 0) ∧ Below w.heap.size w w' := by
 have HN := qa0 h.nodes
 have hn4 := hm.n4
 have HMN := qa0 hm.nodes
 have HMay := qa0 (fun (w2 : World) (hb : Below w.heap.size w w2) => qa6 (qbt w2 a b c p q r F (h.later hb)) hm)
 obtain ⟨F', HE⟩ : ∃ F', Hid (F = F') := ⟨F, rfl⟩
 obtain ⟨AN, HAN⟩ : ∃ x, Hid (prb (bstF F) 0 = x) := ⟨_, rfl⟩
 rw [HAN.out]
 rw [HE.out] at HAN
 obtain ⟨ni, inp, nn, nt, of, fc, no, out⟩ := F
 dsimp only at HN hn4 HMN HMay ⊢
 have HNT : Hid (∀ i, F'.nt i = nt i) := fun i => by rw [← HE.out]
 have HNN : Hid (F'.nn = nn) := by rw [← HE.out]; rfl
 have HPK : Hid (∀ i l k, pky F' i l k = (of i l, of i k, fm (fc i k) (finv (fc i l)))) := fun i l k => by rw [← HE.out]; rfl
 have HIN : Hid (∀ m x, c3 F' x (m + 1) = c3 F' x m + (if InT (of m) (fc m) (nt m) x then 1 else 0)) := fun m x => by rw [← HE.out]; rfl
 have HAok : Hid (Aok F') := by
  rw [← HE.out]
  exact fun n hn => (hm.nodes n hn).nok fun a ha => ((h.nodes n hn).2.choose_spec.choose_spec.choose_spec.choose_spec.2.2 a ha).1
 have HBnd : Hid (∀ k, k < nn → nt k ≤ 140737488351232) := fun k hk => (HN.out k hk).1
 have HFew : Hid (Few F' ↔ tsm nt nn ≤ 512 ∧ nn < 4096) := by rw [← HE.out]; exact Iff.rfl
 have HB0 := qa0 (jtwo (jlow w (.cells #[.slice a ni p, .slice b nn q, .slice c no r] 25)) (jlow _ (.cells pr0 31)))
 have HV0 := qa0 (Vf.new (w.alloc (.cells #[.slice a ni p, .slice b nn q, .slice c no r] 25)) 31 pr0)
 have HF0 := qa0 ((Vf.new w 25 #[.slice a ni p, .slice b nn q, .slice c no r]).later (jlow _ (.cells pr0 31)))
 rw [show (w.alloc (.cells #[.slice a ni p, .slice b nn q, .slice c no r] 25)).heap.size = w.heap.size + 1 by simp] at HV0
 obtain ⟨SF, HSF⟩ : ∃ x, Hid (tsm nt nn = x) := ⟨_, rfl⟩
 clear h hm HE
 go_enter Try.func10, Try.ntmps10
 go_wp2_with (go_at_call 17; refine (HMay.out _ HB0.out).mono ?_; rintro e w1 ⟨rfl, hb1⟩; have HB1 := qa0 (jtwo HB0.out hb1); have HV1 := qa0 (HV0.out.later hb1); have HF1 := qa0 (HF0.out.later hb1); have x1 := HF1.out.cell 1 (.slice b nn q) rfl; clear hb1)
 go_loopw [5, 6] (fun vs vi wr => ∃ i : Nat, i ≤ nn ∧ vi = .int .i64 (i : Int) ∧ vs = .int .i64 (tsm nt i : Nat) ∧ w1 = wr) (fun _ vi _ => nn - (intOf vi).toNat)
 case atStart => exact ⟨0, by omega, rfl, rfl, rfl⟩
 case round =>
  obtain ⟨i, hie, rfl, rfl, rfl⟩ := hrel
  obtain ⟨s, HS⟩ : ∃ x, Hid (tsm nt i = x) := ⟨_, rfl⟩
  have hs : s ≤ i * 140737488351232 := by rw [← HS.out]; exact qbs nt _ i (fun k hk => HBnd.out k (by omega))
  rw [HS.out]
  by_cases hlt : i < nn
  ·obtain ⟨hnt, x, o, t, d, rfl, hc, htm⟩ := (HN.out.later HB1.out) i hlt
   obtain ⟨n, HK⟩ : ∃ k, Hid (nt i = k) := ⟨_, rfl⟩
   rw [HK.out] at hnt hc
   have p0 : (0 : Int) ≤ (i : Int) := by omega
   have p1 : (i : Int) < (nn : Int) := by omega
   have w2' : IntKind.i64.wrap ((s : Int) + (n : Int)) = (s : Int) + (n : Int) := by rw [IntKind.wrap_i64]; omega
   have HSx : Hid (tsm nt (i + 1) = s + n) := by show tsm nt i + nt i = _; rw [HS.out, HK.out]
   clear htm hs
   go_wp2
   exact ⟨⟨i + 1, by omega, by go_num, by rw [HSx.out]; simp, trivial⟩, by simp [intOf]; omega⟩
  ·obtain rfl : nn = i := by omega
   obtain rfl : s = SF := by rw [← HS.out, HSF.out]
   by_cases hfew : s ≤ 512 ∧ nn < 4096
   ·have g1 : ¬ (512 : Int) < (s : Int) := by omega
    have g1d : decide ((512 : Int) < (s : Int)) = false := by simp; omega
    have g1n : decide (512 < s) = false := by simp; omega
    have g2 : ¬ (4096 : Int) ≤ (nn : Int) := by omega
    have g2d : decide ((4096 : Int) ≤ (nn : Int)) = false := by simp; omega
    have g2n : decide (4096 ≤ nn) = false := by simp; omega
    have hs5 := hfew.1
    have hbst : bstF F' = bst F' := by unfold bstF; rw [if_pos (HFew.out.2 (by rw [HSF.out]; exact hfew))]
    have HAN2 := qa0 (show prb (bst F') 0 = AN by rw [← HAN.out, hbst])
    have HS5 := qa0 hs5
    clear hbst hfew hs hs5 HAN
    go_wp2
    obtain ⟨gb, HGB⟩ : ∃ g, Hid (w1.heap.size = g) := ⟨_, rfl⟩
    rw [HGB.out]
    have HBi0 := qa0 (show Bi w (w1.alloc (.cells #[.int .i64 0, .int .i64 0, .int .u8 0, .int .i64 1] 31)) gb #[.slice a ni p, .slice b nn q, .slice c no r] ((0, 0, 0), 0) from ⟨HF1.out.later (jlow _ _), HV1.out.later (jlow _ _), by rw [← HGB.out]; exact Vf.new w1 _ _, jtwo HB1.out (jlow _ _), by rw [← HGB.out]; exact HV1.out.lt⟩)
    clear x1 HB0 HV0 HF0 HB1 HV1 HF1 HS HSF HMay
    go_loopw [8] (fun vn wr => ∃ n : Nat, n ≤ nn ∧ vn = .int .i64 (n : Int) ∧ ∃ p9, BestP (fun x => c3 F' x nn) (fun x => 0 < k3 F' x n) p9 ∧ Bi w wr gb #[.slice a ni p, .slice b nn q, .slice c no r] p9) (fun vi _ => nn - (intOf vi).toNat)
    case atStart => exact ⟨0, by omega, rfl, _, BestP.start (fun x => by simp [k3]), HBi0.out⟩
    case round =>
     clear HBi0
     obtain ⟨n, hne, rfl, p9, hbp, hbi⟩ := hrel
     have HBP := qa0 hbp
     have HBI := qa0 hbi
     have x1 := hbi.vf.cell 1 (.slice b nn q) rfl
     have HB := qa0 hbi.hb
     clear hbp
     by_cases hlt : n < nn
     ·obtain ⟨hnt, x, o, t, d, rfl, hc, htm⟩ := HN.out n hlt
      have HT := qa0 htm
      have HC := qa0 hc
      obtain ⟨N, HK⟩ : ∃ k, Hid (nt n = k) := ⟨_, rfl⟩
      rw [HK.out] at hnt
      have p0 : (0 : Int) ≤ (n : Int) := by omega
      have p1 : (n : Int) < (nn : Int) := by omega
      clear htm hbi hc
      go_wp2
      go_loopw [9] (fun vi wr => ∃ i : Nat, i ≤ N ∧ vi = .int .i64 (i : Int) ∧ ∃ p9, BestP (fun x => c3 F' x nn) (fun x => 0 < k3 F' x n + k2 F' n x i) p9 ∧ Bi w wr gb #[.slice a ni p, .slice (some ⟨x, o, none⟩) nn q, .slice c no r] p9) (fun vi _ => N - (intOf vi).toNat)
      case atStart => exact ⟨0, by omega, rfl, p9, HBP.out.congr (fun x => by simp [k2]) (fun _ _ => rfl), HBI.out⟩
      case round =>
       clear HBP HBI HB x1
       obtain ⟨i, hie, rfl, p9, hbp, hbi⟩ := hrel
       have HBP := qa0 hbp
       have HBI := qa0 hbi
       have x1 := hbi.vf.cell 1 (.slice (some ⟨x, o, none⟩) nn q) rfl
       have y1 : wr.cell? ⟨x, o + n, none⟩ = some (.slice t N d) := by rw [hbi.hb.cell (p := ⟨x, _, none⟩) (qa2 HC.out), HC.out, HK.out]
       clear hbp hbi
       by_cases hlt2 : i < N
       ·have p2 : (0 : Int) ≤ (i : Int) := by omega
        have p3 : (i : Int) < (N : Int) := by omega
        have w1' : IntKind.i64.wrap ((i : Int) + 1) = (i : Int) + 1 := by rw [IntKind.wrap_i64]; omega
        go_wp2
        go_loopw [10] (fun vk wr => ∃ k j : Nat, k = i + 1 + j ∧ k ≤ N ∧ vk = .int .i64 (k : Int) ∧ ∃ p9, BestP (fun x => c3 F' x nn) (fun x => 0 < k3 F' x n + k2 F' n x i + k1 F' n i x j) p9 ∧ Bi w wr gb #[.slice a ni p, .slice (some ⟨x, o, none⟩) nn q, .slice c no r] p9) (fun vi _ => N - (intOf vi).toNat)
        case atStart => exact ⟨i + 1, 0, by omega, by omega, by simp, p9, HBP.out.congr (fun x => by simp [k1]) (fun _ _ => rfl), HBI.out⟩
        case round =>
         clear HBP HBI x1 y1 w1'
         obtain ⟨k, j, hkj, hke, rfl, p9, hbp, hbi⟩ := hrel
         have HBP := qa0 hbp
         have HBI := qa0 hbi
         have HB := qa0 hbi.hb
         have HKJ := qa0 hkj
         have x1 := hbi.vf.cell 1 (.slice (some ⟨x, o, none⟩) nn q) rfl
         have y1 : wr.cell? ⟨x, o + n, none⟩ = some (.slice t N d) := by rw [hbi.hb.cell (p := ⟨x, _, none⟩) (qa2 HC.out), HC.out, HK.out]
         clear hbp hbi hkj
         by_cases hlt3 : k < N
         ·obtain ⟨hg, xb, ob, rfl, t0, t1⟩ := HT.out i (by rw [HK.out]; exact hlt2)
          obtain ⟨hg2, xb', ob', e', t2, t3⟩ := HT.out k (by rw [HK.out]; exact hlt3)
          cases e'
          obtain ⟨u, HU⟩ : ∃ z, Hid (of n i = z) := ⟨_, rfl⟩
          obtain ⟨z, HZ⟩ : ∃ z, Hid (fc n i = z) := ⟨_, rfl⟩
          obtain ⟨v, HVv⟩ : ∃ z, Hid (of n k = z) := ⟨_, rfl⟩
          obtain ⟨y, HY⟩ : ∃ z, Hid (fc n k = z) := ⟨_, rfl⟩
          have s0 : wr.cell? ⟨xb, ob + i * 2, none⟩ = some (.int .i64 u) := by rw [HB.out.cell (p := ⟨xb, _, none⟩) (qa2 t0), t0, HU.out]
          have s1 : wr.cell? ⟨xb, ob + i * 2 + 1, none⟩ = some (.int .u8 (z : Nat)) := by rw [HB.out.cell (p := ⟨xb, _, none⟩) (qa2 t1), t1, HZ.out]
          have s2 : wr.cell? ⟨xb, ob + k * 2, none⟩ = some (.int .i64 v) := by rw [HB.out.cell (p := ⟨xb, _, none⟩) (qa2 t2), t2, HVv.out]
          have s3 : wr.cell? ⟨xb, ob + k * 2 + 1, none⟩ = some (.int .u8 (y : Nat)) := by rw [HB.out.cell (p := ⟨xb, _, none⟩) (qa2 t3), t3, HY.out]
          rw [HZ.out] at hg
          rw [HY.out] at hg2
          have p4 : (0 : Int) ≤ (k : Int) := by omega
          have p5 : (k : Int) < (N : Int) := by omega
          clear t0 t1 t2 t3
          have x1a := keepc (jlow wr (.cells #[.int .i64 0, .int .i64 0, .int .u8 0, .int .i64 0] 31)) x1
          have y1a := keepc (jlow wr (.cells #[.int .i64 0, .int .i64 0, .int .u8 0, .int .i64 0] 31)) y1
          have s0a := keepc (jlow wr (.cells #[.int .i64 0, .int .i64 0, .int .u8 0, .int .i64 0] 31)) s0
          have s2a := keepc (jlow wr (.cells #[.int .i64 0, .int .i64 0, .int .u8 0, .int .i64 0] 31)) s2
          obtain ⟨iz, HIZ⟩ : ∃ z', Hid (finv z = z') := ⟨_, rfl⟩
          have hiz : iz < 256 := by rw [← HIZ.out]; exact qac z
          have hz0 : z ≠ 0 := by rw [← HZ.out]; exact (HMN.out n hlt i (by rw [HK.out]; exact hlt2)).1
          have HInv : Hid (∀ w, Calls Try.prog 25 #[.int .u8 (z : Int)] w fun e w' => e = .returned (.tuple #[.int .u8 (iz : Int), .int .i64 0]) ∧ w = w') := by
           rw [← HIZ.out]
           exact fun w => (rinv_any z w hg).mono fun e w' hx => ⟨by rw [hx.1, ive, if_neg hz0], hx.2.symm⟩
          obtain ⟨rr, HR⟩ : ∃ z', Hid (fm y iz = z') := ⟨_, rfl⟩
          have hrr : rr < 256 := by rw [← HR.out]; exact qba y iz hg2
          have HMul : Hid (∀ w, Calls Try.prog 26 #[.int .u8 (y : Int), .int .u8 (iz : Int)] w fun e w' => e = .returned (.int .u8 (rr : Int)) ∧ w = w') := by rw [← HR.out]; exact fun w => qcn y iz w hg2 hiz
          obtain ⟨yy, HYY⟩ : ∃ yy : Ky, Hid ((u, v, rr) = yy) := ⟨_, rfl⟩
          have HPY : Hid (pky F' n i (i + 1 + j) = yy) := by
           show pky F' n i (i + 1 + j) = yy
           rw [HPK.out, ← HKJ.out, HU.out, HVv.out, HY.out, HZ.out, HIZ.out, HR.out, HYY.out]
          obtain ⟨W1, HW⟩ : ∃ W1, Hid ((wr.alloc (.cells #[.int .i64 u, .int .i64 v, .int .u8 0, .int .i64 0] 31)).drew = W1) := ⟨_, rfl⟩
          obtain ⟨gp, HGP⟩ : ∃ g, Hid (wr.heap.size = g) := ⟨_, rfl⟩
          have HBW := qa0 ((jlow wr (.cells #[.int .i64 u, .int .i64 v, .int .u8 0, .int .i64 0] 31)).drew)
          rw [HW.out] at HBW
          have HVP := qa0 (show Vf (wr.alloc (.cells #[.int .i64 u, .int .i64 v, .int .u8 0, .int .i64 0] 31)).drew wr.heap.size 31 #[.int .i64 u, .int .i64 v, .int .u8 0, .int .i64 0] from Vf.new wr _ _)
          rw [HW.out, HGP.out] at HVP
          have HNE : Hid (gp ≠ gb) := by rw [← HGP.out]; exact fun e => absurd HBI.out.vb.lt (by omega)
          go_wp2
          go_region
          rw [HW.out, HGP.out]
          clear x1a y1a s0a s2a s0 s2
          have x1b := keepc HBW.out x1
          have y1b := keepc HBW.out y1
          have s1b := keepc HBW.out s1
          have s3b := keepc HBW.out s3
          have z2 := HVP.out.cell 2 _ rfl
          have f2 := HVP.out.free 2
          clear x1 y1 s1 s3
          go_wp2_with (first
           | (go_at_call 25; refine (HInv.out _).mono ?_; rintro e w' ⟨rfl, rfl⟩)
           | (go_at_call 26; refine (HMul.out _).mono ?_; rintro e w' ⟨rfl, rfl⟩))
          clear x1b y1b s1b s3b z2 f2
          go_loopw [14] (fun vm w4 => ∃ m : Nat, m ≤ nn ∧ vm = .int .i64 (m : Int) ∧ Vf w4 gp 31 #[.int .i64 u, .int .i64 v, .int .u8 (rr : Int), .int .i64 (c3 F' yy m : Nat)] ∧ Below wr.heap.size wr w4) (fun vi _ => nn - (intOf vi).toNat)
          case atStart => exact ⟨0, by omega, rfl, HVP.out.setc 2 _ rfl, qas HBW.out (by have := HGP.out; omega) _⟩
          case round =>
           clear HVP HW HBW
           obtain ⟨m, hme, rfl, hvp, hbw⟩ := hrel
           have HBI2 := qa0 (HBI.out.later hbw)
           have HVP := qa0 hvp
           have HBW := qa0 hbw
           obtain ⟨cc, HCC⟩ : ∃ z, Hid (c3 F' yy m = z) := ⟨_, rfl⟩
           have hcc : cc ≤ m := by rw [← HCC.out]; exact c3_le F' yy m
           rw [HCC.out] at HVP
           have x1 := HBI2.out.vf.cell 1 (.slice (some ⟨x, o, none⟩) nn q) rfl
           have z0 := HVP.out.cell 0 _ rfl
           have z1 := HVP.out.cell 1 _ rfl
           have z2 := HVP.out.cell 2 _ rfl
           have z3 := HVP.out.cell 3 _ rfl
           clear hvp hbw
           by_cases hlt4 : m < nn
           ·obtain ⟨hnm, x', o', t', d', e', hc', htm'⟩ := HN.out m hlt4
            cases e'
            obtain ⟨M, HKM⟩ : ∃ k, Hid (nt m = k) := ⟨_, rfl⟩
            rw [HKM.out] at hnm
            have y1 : wr.cell? ⟨x, o + m, none⟩ = some (.slice t' M d') := by rw [HBI2.out.hb.cell (p := ⟨x, _, none⟩) (qa2 hc'), hc', HKM.out]
            have p6 : (0 : Int) ≤ (m : Int) := by omega
            have p7 : (m : Int) < (nn : Int) := by omega
            have w2' : IntKind.i64.wrap ((cc : Int) + 1) = (cc : Int) + 1 := by rw [IntKind.wrap_i64]; omega
            have f3 := HVP.out.free 3
            have HCal : Hid (∀ l, Calls Try.prog 27 #[.slice t' M d', .int .i64 u, .int .i64 v, .int .u8 (rr : Int)] (wr.drewN l) fun e w' => AnsB e (InT (of m) (fc m) M yy) ∧ wr.drewN l = w') := fun l => by
             rw [← HYY.out]
             exact rin_any (wr.drewN l) t' M d' (of m) (fc m) (u, v, rr) (by have := htm'.later (below_drewN HBI2.out.hb l); rw [HKM.out] at this; exact this) hnm hrr
            have HNX : Hid (∀ b : Nat, (if InT (of m) (fc m) M yy then 1 else 0) = b → c3 F' yy (m + 1) = cc + b) := fun b hb => by rw [HIN.out, HCC.out, HKM.out, hb]
            clear hc' htm'
            by_cases hin : InT (of m) (fc m) M yy
            ·have HC2 := qa0 (fun l => (qa6 (HCal.out l) hin).mono fun e w' hx => (⟨hx.1, hx.2.symm⟩ : e = _ ∧ w' = wr.drewN l))
             have HN1 := qa0 (HNX.out 1 (if_pos hin))
             clear HCal HNX hin
             go_wp2
             go_big_quiet ((go_at_call 27; exact Calls.quiet_of_same (HC2.out _)))
             go_wp2
             exact ⟨⟨m + 1, by omega, by go_num, by rw [HN1.out]; exact (HVP.out.later (below_drewN (Below.refl _ _) _)).setc 3 _ (by simp), qas (below_drewN HBW.out _) (by have := HGP.out; omega) _⟩, by simp [intOf]; omega⟩
            ·have HC2 := qa0 (fun l => (qad (HCal.out l) hin).mono fun e w' hx => (⟨hx.1, hx.2.symm⟩ : e = _ ∧ w' = wr.drewN l))
             have HN1 := qa0 (HNX.out 0 (if_neg hin))
             clear HCal HNX hin
             go_wp2
             go_big_quiet ((go_at_call 27; exact Calls.quiet_of_same (HC2.out _)))
             go_wp2
             exact ⟨⟨m + 1, by omega, by go_num, by rw [HN1.out]; exact HVP.out.later (below_drewN (Below.refl _ _) _), below_drewN HBW.out _⟩, by simp [intOf]; omega⟩
           ·obtain rfl : nn = m := by omega
            obtain ⟨bI, HBB⟩ : ∃ z, Hid (bump p9 = z) := ⟨_, rfl⟩
            have HTest := qa0 (HBP.out.test (y := yy))
            rw [HCC.out, HBB.out] at HTest
            have HSet : Hid (∀ x, 0 < k3 F' x n + k2 F' n x i + k1 F' n i x (j + 1) ↔ 0 < k3 F' x n + k2 F' n x i + k1 F' n i x j ∨ x = yy) := fun x => k1_set F' n i j x yy HPY.out _
            have HVB := qa0 HBI2.out.vb
            rw [HBB.out] at HVB
            have b0 := HVB.out.cell 0 _ rfl
            have b1 := HVB.out.cell 1 _ rfl
            have b2 := HVB.out.cell 2 _ rfl
            have b3 := HVB.out.cell 3 _ rfl
            obtain ⟨⟨⟨q1, q2, q3⟩, q4⟩, HP9⟩ : ∃ z, Hid (p9 = z) := ⟨_, rfl⟩
            rw [HP9.out] at HVB b0 b1 b2
            dsimp only at HVB b0 b1 b2
            have HP9' := qa0 (show (q1, q2, q3) = p9.1 by rw [HP9.out])
            have HLess : Hid (Calls Try.prog 28 #[.agg #[.int .i64 u, .int .i64 v, .int .u8 (rr : Int), .int .i64 (cc : Int)], .agg #[.int .i64 q1, .int .i64 q2, .int .u8 (q3 : Int), .int .i64 (bI : Int)]] wr fun e w' => AnsB e (lexlt yy p9.1) ∧ Below wr.heap.size wr w') := by
             rw [← HYY.out, ← HP9'.out]
             exact rls_any wr (u, v, rr) (q1, q2, q3) cc bI
            clear hcc hlt4
            go_upto_region 28 with fail
            clear x1
            go_cut [161] from 63 to 162 (fun s wx => ∃ b : Bool, s = .bool b ∧ (b = true ↔ (2 ≤ cc ∧ better (yy, cc) p9)) ∧ Below wr.heap.size wr wx)
            case first =>
             by_cases ha : bI < cc
             ·have a1 : (bI : Int) < (cc : Int) := by omega
              have a1d : decide ((bI : Int) < (cc : Int)) = true := by simp; omega
              have a1n : decide (bI < cc) = true := by simp; omega
              have HT2 := qa0 (HTest.out.1 (.inl ha))
              clear ha
              as_aux_lemma =>
               go_wp2
               go_meet
               exact ⟨true, rfl, ⟨fun _ => HT2.out, fun _ => rfl⟩, Below.refl _ _⟩
             ·have a1 : ¬ (bI : Int) < (cc : Int) := by omega
              have a1d : decide ((bI : Int) < (cc : Int)) = false := by simp; omega
              have a1n : decide (bI < cc) = false := by simp; omega
              by_cases hb : cc = bI
              ·have a2 : ((cc : Int) == (bI : Int)) = true := by simp; omega
               by_cases hc1 : 1 < cc
               ·have a3 : (1 : Int) < (cc : Int) := by omega
                have a3d : decide ((1 : Int) < (cc : Int)) = true := by simp; omega
                have a3n : decide (1 < cc) = true := by simp; omega
                by_cases hl : lexlt yy p9.1
                ·have HL2 := qa0 (qa6 HLess.out hl)
                 have HT2 := qa0 (HTest.out.1 (.inr ⟨hb, hc1, hl⟩))
                 clear ha hb hc1 hl HLess
                 as_aux_lemma =>
                  go_wp2_with (go_at_call 28; refine HL2.out.mono ?_; rintro e w5 ⟨rfl, hb5⟩; have HB5 := qa0 hb5; clear hb5)
                  go_meet
                  exact ⟨true, rfl, ⟨fun _ => HT2.out, fun _ => rfl⟩, HB5.out⟩
                ·have HL2 := qa0 (qad HLess.out hl)
                 have HT2 := qa0 (fun h => hl ((HTest.out.2 h).resolve_left ha).2.2)
                 clear ha hb hc1 hl HLess
                 as_aux_lemma =>
                  go_wp2_with (go_at_call 28; refine HL2.out.mono ?_; rintro e w5 ⟨rfl, hb5⟩; have HB5 := qa0 hb5; clear hb5)
                  go_meet
                  exact ⟨false, rfl, ⟨fun h => (by cases h), fun h => absurd h HT2.out⟩, HB5.out⟩
               ·have a3 : ¬ (1 : Int) < (cc : Int) := by omega
                have a3d : decide ((1 : Int) < (cc : Int)) = false := by simp; omega
                have a3n : decide (1 < cc) = false := by simp; omega
                have HT2 := qa0 (fun h => hc1 ((HTest.out.2 h).resolve_left ha).2.1)
                clear ha hb hc1 HLess
                as_aux_lemma =>
                 go_wp2
                 go_meet
                 exact ⟨false, rfl, ⟨fun h => (by cases h), fun h => absurd h HT2.out⟩, Below.refl _ _⟩
              ·have a2 : ((cc : Int) == (bI : Int)) = false := by simp; omega
               have HT2 := qa0 (fun h => hb ((HTest.out.2 h).resolve_left ha).1)
               clear ha hb HLess
               as_aux_lemma =>
                go_wp2
                go_meet
                exact ⟨false, rfl, ⟨fun h => (by cases h), fun h => absurd h HT2.out⟩, Below.refl _ _⟩
            case rest =>
             obtain ⟨s9, rfl, hs9, hbc⟩ := hcut
             have HBI5 := qa0 (HBI2.out.later hbc)
             have HVB5 := qa0 (HVB.out.later hbc)
             have HS9 := qa0 hs9
             have u0 := keepc hbc z0
             have u1 := keepc hbc z1
             have u2 := keepc hbc z2
             have u3 := keepc hbc z3
             have e0 := HVB5.out.cell 0 _ rfl
             have e1 := HVB5.out.cell 1 _ rfl
             have e2 := HVB5.out.cell 2 _ rfl
             have e3 := HVB5.out.cell 3 _ rfl
             have f0 := HVB5.out.free 0
             have f1 := HVB5.out.free 1
             have f2 := HVB5.out.free 2
             have f3 := HVB5.out.free 3
             clear hbc hs9 z0 z1 z2 z3 b0 b1 b2 b3
             cases s9 with
             | true =>
              have HT2 := qa0 (HS9.out.1 rfl)
              have HC0 := qa0 (show 0 < cc by have := HT2.out.1; omega)
              have P4 := qa0 (Vf.put4 HVB5.out (.int .i64 u) (.int .i64 v) (.int .u8 (rr : Int)) (.int .i64 (cc : Int)))
              have HV9' := qa0 (vf_bump P4.out.1 HYY.out HCC.out HC0.out)
              have HNB := qa0 (HBP.out.take (y := yy) HSet.out (show 2 ≤ c3 F' yy nn by rw [HCC.out]; exact HT2.out.1) (show better (yy, c3 F' yy nn) p9 by rw [HCC.out]; exact HT2.out.2))
              have HBI9 := qa0 (HBI5.out.put (p' := (yy, c3 F' yy nn)) HV9'.out P4.out.2)
              have hk1 : k + 1 = i + 1 + (j + 1) := by have := HKJ.out; omega
              clear HS9
              go_wp2
              go_roundw
              case rel => first | exact ⟨k + 1, j + 1, hk1, by omega, by go_num, _, HNB.out, HBI9.out⟩ | ((repeat apply Exists.intro); exact ⟨⟨k + 1, j + 1, hk1, by omega, by go_num, _, HNB.out, HBI9.out⟩, rfl⟩)
              case measure => simp [intOf]; omega
             | false =>
              have HNB := qa0 (HBP.out.no (y := yy) HSet.out (show ¬ (2 ≤ c3 F' yy nn ∧ better (yy, c3 F' yy nn) p9) by rw [HCC.out]; exact fun h => by have := HS9.out.2 h; cases this))
              have hk1 : k + 1 = i + 1 + (j + 1) := by have := HKJ.out; omega
              clear HS9
              go_wp2
              go_roundw
              case rel => first | exact ⟨k + 1, j + 1, hk1, by omega, by go_num, p9, HNB.out, HBI5.out⟩ | ((repeat apply Exists.intro); exact ⟨⟨k + 1, j + 1, hk1, by omega, by go_num, p9, HNB.out, HBI5.out⟩, rfl⟩)
              case measure => simp [intOf]; omega
         ·obtain rfl : N = k := by omega
          go_wp2
          refine ⟨⟨i + 1, by omega, by go_num, p9, HBP.out.congr (fun x => ?_) (fun _ _ => rfl), HBI.out⟩, by simp [intOf]; omega⟩
          show _ ↔ 0 < k3 F' x n + (k2 F' n x i + k1 F' n i x (F'.nt n - (i + 1)))
          rw [HNT.out, HK.out, show N - (i + 1) = j by have := HKJ.out; omega, Nat.add_assoc]
       ·obtain rfl : N = i := by omega
        go_wp2
        refine ⟨⟨n + 1, by omega, by go_num, p9, HBP.out.congr (fun x => ?_) (fun _ _ => rfl), HBI.out⟩, by simp [intOf]; omega⟩
        show _ ↔ 0 < k3 F' x n + k2 F' n x (F'.nt n)
        rw [HNT.out, HK.out]
     ·obtain rfl : nn = n := by omega
      have HFin := qa0 (bst_of' HAok.out (p := p9) (by rw [HNN.out]; exact HBP.out))
      obtain ⟨⟨⟨q1, q2, q3⟩, q4⟩, HP9⟩ : ∃ z, Hid (p9 = z) := ⟨_, rfl⟩
      have HVB := qa0 hbi.vb
      rw [HP9.out] at HVB HFin
      have HSp := HBP.out
      rw [HP9.out] at HSp
      by_cases h0 : q4 = 0
      ·have hz : ((q1, q2, q3), q4) = (((0 : Int), (0 : Int), (0 : Nat)), (0 : Nat)) := by
        rcases HSp with ⟨e, _⟩ | ⟨h2, _⟩
        ·exact e
        ·exact absurd h2 (by show ¬ 2 ≤ q4; omega)
       rw [hz] at HVB HFin
       have b3 := HVB.out.cell 3 (.int .i64 1) rfl
       clear hbi HSp h0 hz
       go_wp2_with (refine qa1 rfl 31 _ _ rfl (w.heap.size + 1) _ pr0 rfl rfl HBI.out.vr sizeRp rfl (qcw _ _ _ _) ?_; intro w9 HV9 HG9)
       have d0 := HV9.out.cell 0 _ rfl
       have d1 := HV9.out.cell 1 _ rfl
       have d2 := HV9.out.cell 2 _ rfl
       have d3 := HV9.out.cell 3 _ rfl
       try rw [Exit.noGoto_ret]
       refine bodyPost_ret (v := prb ((0, 0, 0), 0) 0) (by simp [results, Try.results10, go_sem, d0, d1, d2, d3]) rfl ?_
       exact ⟨by rw [← HAN2.out, ← HFin.out], qa3 HBI.out.hb HG9.out (by omega)⟩
      ·have h2 : 2 ≤ q4 := by
        rcases HSp with ⟨e, _⟩ | ⟨h2, _⟩
        ·exact absurd (congrArg Prod.snd e) h0
        ·exact h2
       rw [show bump ((q1, q2, q3), q4) = q4 from qb0 (by show 0 < q4; omega)] at HVB
       dsimp only at HVB
       have b0 := HVB.out.cell 0 _ rfl
       have b1 := HVB.out.cell 1 _ rfl
       have b2 := HVB.out.cell 2 _ rfl
       have b3 := HVB.out.cell 3 _ rfl
       have g3 : ¬ (q4 : Int) < 2 := by omega
       have hdec : decide (0 < q4) = true := by simp; omega
       have HDec := qa0 hdec
       clear hbi HSp h0 h2 hdec
       go_wp2_with (refine qa1 rfl 31 _ _ rfl (w.heap.size + 1) _ #[.int .i64 q1, .int .i64 q2, .int .u8 (q3 : Int), .int .i64 (q4 : Int)] rfl rfl HBI.out.vr sizeRp rfl (qcw _ _ _ _) ?_; intro w9 HV9 HG9)
       have d0 := HV9.out.cell 0 _ rfl
       have d1 := HV9.out.cell 1 _ rfl
       have d2 := HV9.out.cell 2 _ rfl
       have d3 := HV9.out.cell 3 _ rfl
       try rw [Exit.noGoto_ret]
       refine bodyPost_ret (v := .tuple #[prv (q1, q2, q3) (q4 : Nat), .bool true, .int .i64 0]) (by simp [results, Try.results10, go_sem, d0, d1, d2, d3]) rfl ?_
       exact ⟨by rw [← HAN2.out, ← HFin.out, ← HDec.out], qa3 HBI.out.hb HG9.out (by omega)⟩
   ·have hans : bstF F' = ((0, 0, 0), 0) := by unfold bstF; rw [if_neg (fun h => hfew (by have := HFew.out.1 h; rw [HSF.out] at this; exact this))]
    have HAN2 := qa0 (show AN = prb ((0, 0, 0), 0) 0 by rw [← HAN.out, hans])
    clear hans HAN
    by_cases h5 : s ≤ 512
    ·have g1 : ¬ (512 : Int) < (s : Int) := by omega
     have g1d : decide ((512 : Int) < (s : Int)) = false := by simp; omega
     have g1n : decide (512 < s) = false := by simp; omega
     have g2 : (4096 : Int) ≤ (nn : Int) := by omega
     have g2d : decide ((4096 : Int) ≤ (nn : Int)) = true := by simp; omega
     have g2n : decide (4096 ≤ nn) = true := by simp; omega
     clear hfew hs h5
     go_wp2_with (refine qa1 rfl 31 _ _ rfl (w.heap.size + 1) _ pr0 rfl rfl HV1.out sizeRp rfl (qcw _ _ _ _) ?_; intro w9 HV9 HG9)
     have d0 := HV9.out.cell 0 _ rfl
     have d1 := HV9.out.cell 1 _ rfl
     have d2 := HV9.out.cell 2 _ rfl
     have d3 := HV9.out.cell 3 _ rfl
     try rw [Exit.noGoto_ret]
     refine bodyPost_ret (v := prb ((0, 0, 0), 0) 0) (by simp [results, Try.results10, go_sem, d0, d1, d2, d3]) rfl ?_
     exact ⟨by rw [HAN2.out], qa3 HB1.out HG9.out (by omega)⟩
    ·have g1 : (512 : Int) < (s : Int) := by omega
     have g1d : decide ((512 : Int) < (s : Int)) = true := by simp; omega
     have g1n : decide (512 < s) = true := by simp; omega
     clear hfew hs h5
     go_wp2_with (refine qa1 rfl 31 _ _ rfl (w.heap.size + 1) _ pr0 rfl rfl HV1.out sizeRp rfl (qcw _ _ _ _) ?_; intro w9 HV9 HG9)
     have d0 := HV9.out.cell 0 _ rfl
     have d1 := HV9.out.cell 1 _ rfl
     have d2 := HV9.out.cell 2 _ rfl
     have d3 := HV9.out.cell 3 _ rfl
     try rw [Exit.noGoto_ret]
     refine bodyPost_ret (v := prb ((0, 0, 0), 0) 0) (by simp [results, Try.results10, go_sem, d0, d1, d2, d3]) rfl ?_
     exact ⟨by rw [HAN2.out], qa3 HB1.out HG9.out (by omega)⟩
end Go.Proofs.Ythdgpmanijifoaa
