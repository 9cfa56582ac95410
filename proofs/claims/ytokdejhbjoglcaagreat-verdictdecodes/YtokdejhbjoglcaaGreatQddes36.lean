/-
  A reduction is begun.
  Contracts of the program's gauss: Reduce, Rank.
  Contracts of the program's gauss: Solve, Combine.
  Contracts of the program's gauss: Inverse.
-/
import Derived.Test.YtokdejhbjoglcaaGreatQddes00
import Derived.Test.YtokdejhbjoglcaaGreatQddes35
import Derived.Test.YtokdejhbjoglcaaGreatQddes29
import Derived.Test.YtokdejhbjoglcaaGreatQddes31
set_option maxRecDepth 100000
set_option maxHeartbeats 16000000
namespace Go.Proofs.YtokdejhbjoglcaaGreat
open Go.RowKit
theorem onto_mk (w : World) (p : Option Addr) (n c : Nat) : Calls Tryz.prog 83 #[.slice p n c] w fun e w' => e = .returned (.func (.func 96) #[] #[.pointer (some ⟨w.heap.size, 0, none⟩)]) ∧ w' = w.alloc (.cells #[.slice p n c] 114) := by
 have hmf := mkf
 go_enter Tryz.func83, Tryz.ntmps83
 go_wp2
 go_ret
 exact ⟨rfl, rfl⟩
theorem infoG : (Tryz.prog.info? 90).map (fun i => (i.zero, i.size, i.bytes)) = some (some (.slice none 0 0), 1, 24) := by kernel_rfl
/-- One list of rows more. -/
theorem qdj {ops : Array Oper} {op : Oper} {a : Act} {w : World} {K : Act → World → Prop} {Q : Exit → Act → World → Prop} {E : Prop} (hgd : op.guard = none) (s x : Operand) (ho : op.op = .call { callee := .builtin .append, args := #[s, x], argTypes := #[114, 114] })
  (base n : Nat) (v : Value) (ls : List Value) (hs : a.eval s = v) (hown : w.ownsRow base 90 1 v n ls) (g : Nat) (u : Value) (h1 : u.oneCell' = true) (hx : a.eval x = .slice (some ⟨g, 0, none⟩) 1 1) (hu : w.cell? ⟨g, 0, none⟩ = some u) (h63 : n ≤ 64) (hbase : base ≤ w.heap.size)
  (h : ∀ v' w', w'.ownsRow base 90 1 v' (n + 1) (ls ++ [u]) → w.grownBy w' v.ownBlock → K (a.put op.dst v') w') : if Region.wanted op (yielded ops a.tmps) = true then Oper.wp Tryz.prog op a w K Q else E := by
 obtain ⟨i0, hi, hz0, hz1, hz2⟩ := info_parts infoG
 have hw : Region.wanted op (yielded ops a.tmps) = true := by simp [Region.wanted, hgd]
 rw [if_pos hw]
 refine wp_append_own w s x 114 ho base 90 i0 (.slice none 0 0) 1 24 Tryz.underlying114 hi hz0 hz1 hz2 rfl (by decide) v n ls hs hown ⟨g, 0, none⟩ 1 1 [u] hx rfl ?_ ?_ (by unfold maxLen; omega) (by omega) hbase (fun v' w' h1 h2 _ => h v' w' h1 h2)
 ·intro j y hj
  match j, hj with
  | 0, hj => simp at hj; subst hj; rw [add_plain]; exact hu
 ·intro y hy; simp at hy; subst hy; exact h1
/-- The lists beside, m of them. -/
structure Bes (w : World) (B m r c : Nat) (ls : List Value) (gr gd kk o : Nat → Nat) (J : Nat → Nat → Nat) : Prop where
 low : B ≤ w.heap.size
 m1 : m ≤ 1
 ls : ∀ t, t < m → ls[t]? = some (.slice (some ⟨gr t, 0, none⟩) r r)
 grid : ∀ t, t < m → Grid w B (gr t) (gd t) r (kk t) (fun i l => J i (o t + l))
 gd : ∀ t, t < m → gd t < w.heap.size
 k6 : ∀ t, t < m → kk t ≤ 64
 pos : 0 < c → 0 < r → ∀ t, t < m → 0 < kk t
/-- The reduction that is begun. -/
def beg (B g gv gL cL m r c g1 g2 : Nat) (gr gd kk o : Nat → Nat) : Cfg := ⟨B, g, gv, gL, cL, m, r, c, fun t => if t < m then gr t else g1, fun t => if t < m then gd t else g2, fun t => if t < m then kk t else c, fun t => if t < m then o t else 0⟩
theorem beg_ok {w : World} {B m r c g gv gL cL g1 g2 : Nat} {ls : List Value} {gr gd kk o : Nat → Nat} {J : Nat → Nat → Nat} (b : Bes w B m r c ls gr gd kk o J) (hr : r ≤ 64) (hc : c ≤ 64) (h1 : w.heap.size ≤ g1) (h2 : w.heap.size ≤ g2) : (beg B g gv gL cL m r c g1 g2 gr gd kk o).Ok := by
 have hm := b.m1
 refine ⟨fun s t hs ht hne => ?_, fun t ht => ?_, if_neg (by show ¬ m < m; omega), if_neg (by show ¬ m < m; omega), hr, hc, hm, fun p1 p2 t ht => ?_⟩
 ·have hs' : s ≤ m := hs
  have ht' : t ≤ m := ht
  show (if s < m then gr s else g1) ≠ (if t < m then gr t else g1) ∧ (if s < m then gd s else g2) ≠ (if t < m then gd t else g2)
  by_cases e1 : s < m
  ·rw [if_pos e1, if_pos e1, if_neg (by omega), if_neg (by omega)]
   have := (b.grid s e1).lt
   have := b.gd s e1
   exact ⟨by omega, by omega⟩
  ·rw [if_neg e1, if_neg e1, if_pos (by omega), if_pos (by omega)]
   have := (b.grid t (by omega)).lt
   have := b.gd t (by omega)
   exact ⟨by omega, by omega⟩
 ·show (if t < m then kk t else c) ≤ 64
  split
  ·exact b.k6 t (by assumption)
  ·exact hc
 ·show 0 < (if t < m then kk t else c)
  split
  ·exact b.pos p1 p2 t (by assumption)
  ·exact p1
theorem beg_rst {w w1 w3 : World} {B m r c gL cL g1 g2 : Nat} {ls : List Value} {gr gd kk o : Nat → Nat} {J : Nat → Nat → Nat} {p0 : Option Addr} {c0 : Nat} {ob : Obj} (b : Bes w B m r c ls gr gd kk o J) (hJ : El2 J) (hb1 : Below w.heap.size w w1) (G : Grid w1 B g1 g2 r c J) (hown : w3.ownsRow B 90 1 (.slice (some ⟨gL, 0, none⟩) (m + 1) cL) (m + 1) (ls ++ [.slice (some ⟨g1, 0, none⟩) r r])) (hl : ls.length = m)
  (ho : w1.ownsRow B 90 1 (.slice p0 m c0) m ls) (hg : (w1.alloc ob).grownBy w3 (Value.slice p0 m c0).ownBlock) :
  Rst ((w3.alloc (.cells #[.slice (some ⟨gL, 0, none⟩) (m + 1) cL] 114)).alloc (.cells #[.slice (some ⟨g1, 0, none⟩) r r, .int .i64 (c : Int), .slice none 0 0, .func (.func 96) #[] #[.pointer (some ⟨w3.heap.size, 0, none⟩)]] 96)) (beg B (w3.heap.size + 1) w3.heap.size gL cL m r c g1 g2 gr gd kk o) none 0 0 (fun _ => 0) J ∧ Below B w1 ((w3.alloc (.cells #[.slice (some ⟨gL, 0, none⟩) (m + 1) cL] 114)).alloc (.cells #[.slice (some ⟨g1, 0, none⟩) r r, .int .i64 (c : Int), .slice none 0 0, .func (.func 96) #[] #[.pointer (some ⟨w3.heap.size, 0, none⟩)]] 96)) := by
 have ha1 := qa1 w1 ob
 have hc : Chg (w1.alloc ob) w3 (fun k => (Value.slice p0 m c0).ownBlock = some k) := ⟨hg.os, hg.tape, hg.output, hg.size, fun k hk hne => hg.block k hk (fun e => hne e.symm)⟩
 have off : ∀ {k : Nat} {cs : Array Value} {t : TypeId}, (w1.alloc ob).heap[k]? = some (.cells cs t (0, 0)) → t ≠ 90 → ¬ ((Value.slice p0 m c0).ownBlock = some k) := fun h ht e => by
  obtain ⟨cs, hcs⟩ := ownb ho e
  have h9 := hcs
  rw [← ha1.block _ (lt_of_block hcs)] at h9
  exact qdi h h9 ht rfl
 have carry : ∀ {gx dx kx : Nat} {H : Nat → Nat → Nat}, Grid w1 B gx dx r kx H → Grid w3 B gx dx r kx H := fun g => by
  have g' := g.later ha1
  obtain ⟨c1, b1⟩ := g'.blk
  refine g'.chg hc (off b1 (by decide)) (fun k1 k2 => ?_)
  obtain ⟨_, _, c2, b2⟩ := g'.dat k1 k2
  exact off b2 (by decide)
 obtain ⟨w4, e4⟩ : ∃ w4, w4 = w3.alloc (.cells #[.slice (some ⟨gL, 0, none⟩) (m + 1) cL] 114) := ⟨_, rfl⟩
 have s4 : w4.heap.size = w3.heap.size + 1 := by rw [e4]; simp
 rw [← e4]
 have b4 : Below w3.heap.size w3 w4 := by rw [e4]; exact qa1 _ _
 obtain ⟨w5, e5⟩ : ∃ w5, w5 = w4.alloc (.cells #[.slice (some ⟨g1, 0, none⟩) r r, .int .i64 (c : Int), .slice none 0 0, .func (.func 96) #[] #[.pointer (some ⟨w3.heap.size, 0, none⟩)]] 96) := ⟨_, rfl⟩
 rw [← e5]
 have b5 : Below w4.heap.size w4 w5 := by rw [e5]; exact qa1 _ _
 have b35 := qa0 b4 b5
 have h5 : w5.heap[w3.heap.size + 1]? = some (.cells #[.slice (some ⟨g1, 0, none⟩) r r, .int .i64 (c : Int), .slice none 0 0, .func (.func 96) #[] #[.pointer (some ⟨w3.heap.size, 0, none⟩)]] 96 (0, 0)) := by rw [e5, ← s4]; exact qci w4 _
 have hv : V1 w5 w3.heap.size (.slice (some ⟨gL, 0, none⟩) (m + 1) cL) 114 := V1.later (by rw [e4]; exact V1.new w3 _ _) b5
 have h3B : B ≤ w3.heap.size := by
  have h1 := hg.size
  have h2 := ha1.size
  have h3 := hb1.size
  have h4 := b.low
  omega
 refine ⟨⟨⟨?_, hv, ?_, Oi.nil _ _ _, by show B ≤ w3.heap.size + 1; omega⟩, fun t ht => ?_, hJ⟩, ?_⟩
 ·show w5.heap[w3.heap.size + 1]? = some (.cells #[.slice (some ⟨(if m < m then gr m else g1), 0, none⟩) r r, _, _, _] _ _)
  rw [if_neg (by omega)]
  exact h5
 ·rcases hown.2 with ⟨e, _⟩ | ⟨g', cap, cur, e, hb, hgc, hcap, hmax, hsz, htk⟩
  ·cases e
  ·cases e
   refine ⟨cur, ?_, fun t ht => ?_⟩
   ·show w5.heap[gL]? = _
    rw [b35.block gL (lt_of_block hgc)]; exact hgc
   ·have ht' : t ≤ m := ht
    show cur[t]? = some (.slice (some ⟨(if t < m then gr t else g1), 0, none⟩) r r)
    have e1 : (cur.toList.take ((m + 1) * 1))[t]? = (ls ++ [Value.slice (some ⟨g1, 0, none⟩) r r])[t]? := by rw [htk]
    rw [List.getElem?_take, if_pos (by omega), Array.getElem?_toList] at e1
    rw [e1]
    by_cases h : t < m
    ·rw [if_pos h, List.getElem?_append_left (by omega)]
     exact b.ls t h
    ·rw [if_neg h, List.getElem?_append_right (by omega), hl, show t - m = 0 by omega]
     rfl
 ·have ht' : t ≤ m := ht
  show Grid w5 B (if t < m then gr t else g1) (if t < m then gd t else g2) r (if t < m then kk t else c) (fun i l => J i ((if t < m then o t else 0) + l))
  by_cases h : t < m
  ·rw [if_pos h, if_pos h, if_pos h, if_pos h]
   exact (carry ((b.grid t h).later hb1)).later b35
  ·rw [if_neg h, if_neg h, if_neg h, if_neg h]
   exact ((carry G).later b35).congr (fun i l _ _ => by rw [Nat.zero_add])
 ·refine ⟨?_, ?_, ?_, ?_, fun k hk => ?_⟩
  ·rw [b35.os, hg.os]; rfl
  ·rw [b35.tape, hg.tape]; rfl
  ·rw [b35.output, hg.output]; rfl
  ·have h1 := hg.size
   have h2 := ha1.size
   have h3 := b35.size
   omega
  ·have h3 := hb1.size
   have h4 := b.low
   have h1 := hg.size
   have h2 := ha1.size
   rw [b35.block k (by omega), hg.block k (by omega) (fun e => by have := qaa ho k e.symm; omega), ha1.block k (by omega)]
theorem qgb (w : World) (r c n k B m c0 : Nat) (a p0 : Option Addr) (F : Nat → Nat) (ls : List Value) (gr gd kk o : Nat → Nat) (J : Nat → Nat → Nat) (ha : Mt w a n k F) (R : Rt r c n) (b : Bes w B m r c ls gr gd kk o J) (ho : w.ownsRow B 90 1 (.slice p0 m c0) m ls) (hJ : El2 J) (hF : ∀ i l, i < r → l < c → J i l = m2 F r c i l) :
  Calls Tryz.prog 60 #[mv r c a n k, .slice p0 m c0] w fun e w' => ∃ C : Cfg, e = .returned (.pointer (some ⟨C.g, 0, none⟩)) ∧ C.Ok ∧ Rst w' C none 0 0 (fun _ => 0) J ∧ C.B = B ∧ C.n = r ∧ C.c = c ∧ C.m = m ∧ (∀ t, t < m → C.gr t = gr t ∧ C.gd t = gd t ∧ C.kk t = kk t ∧ C.o t = o t) ∧ Below B w w' := by
 have HA : Hid (Mt w a n k F) := ha
 have HR : Hid (Rt r c n) := R
 have HBS : Hid (Bes w B m r c ls gr gd kk o J) := b
 have HO : Hid (w.ownsRow B 90 1 (.slice p0 m c0) m ls) := ho
 have HF : Hid (∀ i l, i < r → l < c → J i l = m2 F r c i l) := hF
 have hr := R.r64
 have hc := R.c64
 have hm := b.m1
 have hB := b.low
 have hll : ls.length = m := by have := ho.1; omega
 clear ha R b ho hF
 go_enter Tryz.func60, Tryz.ntmps60
 go_wp2_with (go_at_call 59; refine (qga _ r c n k a F (HA.out.later (qa1 _ _)).sl HR.out).mono ?_; rintro e w1 ⟨g1, g2, rfl, hg1, hl1, hu1, hb1⟩; have HG1 : Hid (Grid w1 (w.heap.size + 1) g1 g2 r c (m2 F r c)) := by { show Grid _ _ _ _ _ _ _; have := hg1; simpa using this }; have HB1 : Hid (Below w.heap.size w w1) := qa0 (qa1 _ _) hb1; have HVB : Hid (Vr w1 w.heap.size (.int .i64 (r : Int)) (.int .i64 (c : Int)) (.slice a n k)) := (Vr.new w _ _ _).later hb1; have v1 := ((Vr.new w (.int .i64 (r : Int)) (.int .i64 (c : Int)) (.slice a n k)).later hb1).c1; have hl1' : w.heap.size + 1 ≤ g2 := by { have := hl1; simpa using this }; clear hg1 hb1 hl1)
 have hgl : w.heap.size + 1 ≤ g1 := HG1.out.base
 have hs1 : w.heap.size ≤ w1.heap.size := HB1.out.size
 obtain ⟨x0, HWD⟩ : ∃ x, Hid (x = w1.drew) := ⟨_, rfl⟩
 have B0 : Hid (Below w.heap.size w x0) := by rw [HWD.out]; exact HB1.out.drew
 have HO0 : Hid (x0.ownsRow B 90 1 (.slice p0 m c0) m ls) := World.ownsRow.kept HO.out (qa5.mpr B0.out) (by cases hv : (Value.slice p0 m c0).ownBlock <;> simp)
 have HG0 : Hid (Grid x0 B g1 g2 r c J) := by
  rw [HWD.out]
  have G := (HG1.out.drew).congr (fun i l hi hl => (HF.out i l hi hl).symm)
  obtain ⟨A, h1, h2⟩ := G.ex
  exact ⟨by omega, G.el, A, h1, fun hk hn => by
   obtain ⟨z, E, d, q1, q2, q3, q4, q5⟩ := h2 hk hn
   exact ⟨z, E, d, q1, q2, q3, q4.mono (by omega), q5⟩⟩
 have s0 : x0.cell? ⟨w.heap.size, 1, none⟩ = some (.int .i64 (c : Int)) := by rw [HWD.out]; exact v1
 have hs0 : w.heap.size ≤ x0.heap.size := B0.out.size
 have hvb := HVB
 refine wp_region_held (S := fun w' => w'.cell? ⟨w.heap.size, 1, none⟩ = some (.int .i64 (c : Int))) (by kernel_rfl) ?_
 change wpAnyH _ _ _ _ _ _ _ _ w1.drew
 rw [← HWD.out]
 refine wtkq 0 ?vs0 rfl (by kernel_rfl) (fun _ _ _ h => h) (by rfl) ?ys0 s0 ?zs0
 case ys0 => (intro w hSw; (try dsimp only at hSw); go_simp; try with_reducible rfl)
 try simp only [mz1, mz3, Act.put, mz4, mz5, mz6]
 refine wtkq 1 ?vs1 rfl (by kernel_rfl) (fun _ _ _ h => h) (by rfl) ?ys1 s0 ?zs1
 case ys1 => (intro w hSw; (try dsimp only at hSw); go_simp; try with_reducible rfl)
 try simp only [mz1, mz2, mz3, Act.put, mz4, mz5, mz6]
 refine wtkq 2 ?vs2 rfl (by kernel_rfl) (fun _ _ _ h => h) (by rfl) ?ys2 s0 ?zs2
 case ys2 => (intro w hSw; (try dsimp only at hSw); go_simp; try with_reducible rfl)
 try simp only [mz1, mz2, mz3, Act.put, mz4, mz5, mz6]
 refine wtkq 3 ?vs3 rfl (by kernel_rfl) (fun _ _ _ h => h) (by rfl) ?ys3 s0 ?zs3
 case ys3 => (intro w hSw; (try dsimp only at hSw); go_simp; try with_reducible rfl)
 try simp only [mz1, mz2, mz3, Act.put, mz4, mz5, mz6]
 refine wtkq 4 ?vs4 rfl (by kernel_rfl) (fun _ _ _ h => h) (by rfl) ?ys4 s0 ?zs4
 case ys4 => (intro w hSw; (try dsimp only at hSw); go_simp; try with_reducible rfl)
 try simp only [mz1, mz2, mz3, Act.put, mz4, mz5, mz6]
 refine wpAnyH_ready (rs := [5]) (by kernel_rfl) (by simp) ?_
 refine AllReadyH.cons rfl (fun K hK => ?_) AllReadyH.nil
 go_simp
 obtain ⟨x1, hx1⟩ : ∃ x, Hid (x = x0.alloc (.cells #[.slice (some ⟨g1, 0, none⟩) r r] 90)) := ⟨_, rfl⟩
 rw [← hx1.out]
 have ba : Below x0.heap.size x0 x1 := by rw [hx1.out]; exact qa1 _ _
 have s1 := qbt ba s0
 have HO1 : Hid (x1.ownsRow B 90 1 (.slice p0 m c0) m ls) := World.ownsRow.kept HO0.out (qa5.mpr ba) (by cases hv : (Value.slice p0 m c0).ownBlock <;> simp)
 have cu : x1.cell? ⟨x0.heap.size, 0, none⟩ = some (.slice (some ⟨g1, 0, none⟩) r r) := by rw [hx1.out]; exact (V1.new x0 _ _).cell
 have hsz1 : B ≤ x1.heap.size := by have := ba.size; omega
 refine hK.out _ _ s1 (fun _ => ?_)
 clear hK K
 try simp only [mz1, mz2, mz3, Act.put, mz4, mz5, mz6]
 refine wpAnyH_ready (rs := [6]) (by kernel_rfl) (by simp) ?_
 refine AllReadyH.cons rfl (fun K hK => ?_) AllReadyH.nil
 refine qdj rfl _ _ rfl B m (.slice p0 m c0) ls rfl HO1.out x0.heap.size (.slice (some ⟨g1, 0, none⟩) r r) rfl rfl cu (by omega) hsz1 ?_
 intro v2 x2 hown2 hgrow2
 obtain ⟨gL, cL, rfl⟩ : ∃ gL cL, v2 = .slice (some ⟨gL, 0, none⟩) (m + 1) cL := by
  rcases hown2.2 with ⟨_, h0⟩ | ⟨g, cap, cur, e, _⟩
  ·omega
  ·exact ⟨g, cap, e⟩
 have HO2 : Hid (x2.ownsRow B 90 1 (.slice (some ⟨gL, 0, none⟩) (m + 1) cL) (m + 1) (ls ++ [.slice (some ⟨g1, 0, none⟩) r r])) := hown2
 have HG2 : Hid ((x0.alloc (.cells #[.slice (some ⟨g1, 0, none⟩) r r] 90)).grownBy x2 (Value.slice p0 m c0).ownBlock) := by rw [← hx1.out]; exact hgrow2
 have s2 : x2.cell? ⟨w.heap.size, 1, none⟩ = some (.int .i64 (c : Int)) := hgrow2.cell s1 (fun e => by
  obtain ⟨cs, hcs⟩ := ownb HO1.out e.symm
  have h9 : x0.heap[w.heap.size]? = some (.cells #[.int .i64 (r : Int), .int .i64 (c : Int), .slice a n k] 24 (0, 0)) := by rw [HWD.out]; exact hvb.out
  rw [← ba.block w.heap.size (qar s0)] at h9
  exact qdi h9 hcs (by decide) rfl)
 clear hown2 hgrow2
 refine hK.out _ _ s2 (fun _ => ?_)
 clear hK K
 try simp only [mz1, mz2, mz3, Act.put, mz4, mz5, mz6]
 refine wpAnyH_ready (rs := [7]) (by kernel_rfl) (by simp) ?_
 refine AllReadyH.cons rfl (fun K hK => ?_) AllReadyH.nil
 go_simp
 refine (onto_mk _ _ _ _).mono ?_
 rintro e x3 ⟨rfl, ex3⟩
 have HX3 : Hid (x3 = x2.alloc (.cells #[.slice (some ⟨gL, 0, none⟩) (m + 1) cL] 114)) := ex3
 have s3 : x3.cell? ⟨w.heap.size, 1, none⟩ = some (.int .i64 (c : Int)) := by rw [ex3]; exact qbt (qa1 _ _) s2
 clear ex3
 refine hK.out _ _ s3 (fun _ => ?_)
 clear hK K
 try simp only [mz1, mz2, mz3, Act.put, mz4, mz5, mz6]
 refine wtkq 8 ?vs8 rfl (by kernel_rfl) (fun _ _ _ h => h) (by rfl) ?ys8 s3 ?zs8
 case ys8 => (intro w hSw; (try dsimp only at hSw); go_simp; try with_reducible rfl)
 try simp only [mz1, mz2, mz3, Act.put, mz4, mz5, mz6]
 refine wpAnyH_ready (rs := [9]) (by kernel_rfl) (by simp) ?_
 refine AllReadyH.cons rfl (fun K hK => ?_) AllReadyH.nil
 go_simp
 obtain ⟨x4, hx4⟩ : ∃ x, Hid (x = x3.alloc (.cells #[.slice (some ⟨g1, 0, none⟩) r r, .int .i64 (c : Int), .slice none 0 0, .func (.func 96) #[] #[.pointer (some ⟨x2.heap.size, 0, none⟩)]] 96)) := ⟨_, rfl⟩
 rw [← hx4.out]
 have s4 : x4.cell? ⟨w.heap.size, 1, none⟩ = some (.int .i64 (c : Int)) := by rw [hx4.out]; exact qbt (qa1 _ _) s3
 refine hK.out _ _ s4 (fun _ => ?_)
 clear hK K
 try simp only [mz1, mz2, mz3, Act.put, mz4, mz5, mz6]
 refine wtkq 10 ?vs10 rfl (by kernel_rfl) (fun _ _ _ h => h) (by rfl) ?ys10 s4 ?zs10
 case ys10 => (intro w hSw; (try dsimp only at hSw); go_simp; try with_reducible rfl)
 try simp only [mz1, mz2, mz3, Act.put, mz4, mz5, mz6]
 refine wpAnyH_done (by kernel_rfl) ?_ _
 go_wp2
 have sz3 : x3.heap.size = x2.heap.size + 1 := by rw [HX3.out]; simp
 have HE : Hid (x4 = (x2.alloc (.cells #[.slice (some ⟨gL, 0, none⟩) (m + 1) cL] 114)).alloc (.cells #[.slice (some ⟨g1, 0, none⟩) r r, .int .i64 (c : Int), .slice none 0 0, .func (.func 96) #[] #[.pointer (some ⟨x2.heap.size, 0, none⟩)]] 96)) := by show _ = _; rw [hx4.out, HX3.out]
 go_ret
 have fin := beg_rst HBS.out hJ B0.out HG0.out HO2.out hll HO0.out HG2.out
 rw [← HE.out] at fin
 refine ⟨beg B (x2.heap.size + 1) x2.heap.size gL cL m r c g1 g2 gr gd kk o, by rw [sz3]; rfl, beg_ok HBS.out hr hc (by omega) (by omega), fin.1, rfl, rfl, rfl, rfl, fun t ht => ⟨if_pos ht, if_pos ht, if_pos ht, if_pos ht⟩, (B0.out.mono hB).trans fin.2⟩
open Go.RowKit
theorem bes_none (w : World) (r c : Nat) (J : Nat → Nat → Nat) : Bes w w.heap.size 0 r c [] (fun _ => 0) (fun _ => 0) (fun _ => 0) (fun _ => 0) J :=
 ⟨Nat.le_refl _, by omega, fun t h => by omega, fun t h => by omega, fun t h => by omega, fun t h => by omega, fun _ _ t h => by omega⟩
/-- A reduction without lists beside it. -/
theorem ql0 (w : World) (r c n k : Nat) (a : Option Addr) (F : Nat → Nat) (ha : Mt w a n k F) (R : Rt r c n) :
  Calls Tryz.prog 60 #[mv r c a n k, .slice none 0 0] w fun e w' => ∃ C : Cfg, e = .returned (.pointer (some ⟨C.g, 0, none⟩)) ∧ C.Ok ∧ Rst w' C none 0 0 (fun _ => 0) (m2 F r c) ∧ C.B = w.heap.size ∧ C.n = r ∧ C.c = c ∧ C.m = 0 ∧ Below w.heap.size w w' :=
 (qgb w r c n k w.heap.size 0 0 a none F [] _ _ _ _ (m2 F r c) ha R (bes_none w r c _) (World.ownsRow_nil _ _ _ _) (qaq ha.sl.1 R) (fun _ _ _ _ => rfl)).mono (fun _ _ ⟨C, h1, h2, h3, h4, h5, h6, h7, _, h9⟩ => ⟨C, h1, h2, h3, h4, h5, h6, h7, h9⟩)
theorem H_last {C : Cfg} (K : C.Ok) (J : Nat → Nat → Nat) : C.H J C.m = J := by
 funext i l
 show J i (C.o C.m + l) = _
 rw [K.lo, Nat.zero_add]
theorem Rst.rows {w : World} {C : Cfg} {ps : Option Addr} {pd top : Nat} {p : Nat → Nat} {J : Nat → Nat → Nat} (K : C.Ok) (h : Rst w C ps pd top p J) : Prt w (some ⟨C.gr C.m, 0, none⟩) C.n C.c J := by
 have := (h.gs C.m (Nat.le_refl _)).prt
 rwa [K.lk, H_last K J] at this
theorem ofr_n (w : World) (s : Option Addr) (n q k N : Nat) (F : Nat → Nat → Nat) (h : Prt w s n k F) (hq : n ≤ q) (hn : n ≤ 64) (hk : k ≤ 64) (hN : n * k = N) :
  Calls Tryz.prog 63 #[.slice s n q, .int .i64 (k : Int)] w fun e w' => ∃ t d G, e = .returned (mv n k t N d) ∧ Mt w' t N d G ∧ (∀ i l, i < n → l < k → G (i * k + l) = F i l) ∧ Frs w' w.heap.size t N d ∧ Below w.heap.size w w' := by
 rw [← hN]
 exact ofr_any w s n q k F h hq hn hk
theorem ct_m2 (F : Nat → Nat) (r c i j : Nat) : ct (m2 F r c) c i j = m2 F r c i j := by
 by_cases hj : j < c
 ·rw [qg2 _ i hj]
 ·rw [qhq _ i (by omega), qac F (by omega)]
theorem Il.chg {w w' : World} {S : Nat → Prop} {b : Option Addr} {m : Nat} {q : Nat → Int} (h : Il w b m q) (hc : Chg w w' S) (hn : ∀ x, b = some x → ¬ S x.block) : Il w' b m q := fun i hi => by
 obtain ⟨x, o, e, hcl⟩ := h i hi
 refine ⟨x, o, e, ?_⟩
 rw [← hcl]
 exact World.cell?_of_block (hc.block x (qar hcl) (hn _ e))
theorem Mt.chg {w w' : World} {S : Nat → Prop} {a : Option Addr} {n k : Nat} {F : Nat → Nat} (h : Mt w a n k F) (hc : Chg w w' S) (hn : ∀ x, a = some x → ¬ S x.block) : Mt w' a n k F := ⟨h.sl.chg hc hn, h.room, h.nil⟩
theorem Oi.off {w : World} {B b n d : Nat} {s : Option Addr} {f : Nat → Nat} (h : Oi w B (.slice s n d) n f) (hb : b < B) : ∀ x, s = some x → x.block ≠ b := fun x hx e => by
 have := (h.base (g := x.block) (by rw [hx]; rfl)).1
 omega
theorem ql1 (w : World) (r c n k : Nat) (a : Option Addr) (F : Nat → Nat) (ha : Mt w a n k F) (R : Rt r c n) : Calls Tryz.prog 81 #[mv r c a n k] w fun e w' => FstP w w' e r c F := by
 have HA : Hid (Mt w a n k F) := ha
 have HR : Hid (Rt r c n) := R
 clear ha R
 go_enter Tryz.func81, Tryz.ntmps81
 go_wp2_with (first
  | (go_at_call 95; refine (qkd _ r c n k a F (HA.out.later (qa1 _ _)) HR.out).mono ?_; rintro e w1 ⟨gt, rfl, hr1, _, hb1⟩; have HB1 : Hid (Below w.heap.size w w1) := qa0 (qa1 _ _) hb1; have HM1 : Hid (Mt w1 (some ⟨gt, 0, none⟩) n n (trf F r c)) := hr1.mt (trf_lt HA.out.sl.1 HR.out); have va := Vr.new w1 (.int .i64 (c : Int)) (.int .i64 (r : Int)) (.slice (some ⟨gt, 0, none⟩) n n); have a0 := va.c0; have a1 := va.c1; have a2 := va.c2; clear hr1 hb1 va)
  | (go_at_call 60; refine (ql0 _ c r n n (some ⟨gt, 0, none⟩) (trf F r c) (HM1.out.later (qa1 _ _)) HR.out.turn).mono ?_; rintro e w2 ⟨C, rfl, hk2, hx2, e1, en, ec, hm0, hb2⟩; clear hm0; have HK : Hid C.Ok := hk2; have HX2 : Hid (Rst w2 C none 0 0 (fun _ => 0) (m2 (trf F r c) c r)) := hx2; have HB2 : Hid (Below w.heap.size w w2) := qa0 (qa0 HB1.out (qa1 _ _)) hb2; have HCB : Hid (w.heap.size ≤ C.B) := by { rw [e1]; exact (qa0 HB1.out (qa1 w1 _)).size }; have HEN : Hid (C.n = c ∧ C.c = r) := ⟨en, ec⟩; clear hk2 hx2 hb2 e1 en ec)
  | (go_at_call 61; refine (qeh _ C _ HK.out HX2.out).mono ?_; rintro e w3 ⟨rfl, ps, pd, top, p, J, hx3, he3, hs3, hb3⟩; have HX3 : Hid (Rst w3 C ps pd top p J) := hx3; have HE3 : Hid (Ech J c top r p) := by { have := he3; rw [HEN.out.1, HEN.out.2] at this; exact this }; have HS3 : Hid (SpEq J c (m2 (trf F r c) c r) c) := by { have := hs3; rw [HEN.out.1] at this; exact this }; have HB3 : Hid (Below w.heap.size w w3) := HB2.out.trans (hb3.mono HCB.out); have c2 := hx3.fix.c2; clear hx3 he3 hs3 hb3))
 go_ret2
 have hM := qaq HA.out.sl.1 HR.out
 have hT := qaq (trf_lt HA.out.sl.1 HR.out) HR.out.turn
 obtain ⟨N, hN, hA, hS⟩ := HE3.out.ex HX3.out.el
 have hS2 : SpEq (ct N r) c (m2 (trf F r c) c r) c := by
  have h1 := ((hS.trans HS3.out).ct r)
  rwa [show ct (m2 (trf F r c) c r) r = m2 (trf F r c) c r from funext fun i => funext fun j => ct_m2 (trf F r c) c r i j] at h1
 have hk : Rk (m2 F r c) r top := rk_trf HA.out.sl.1 HR.out ((hA.rdf.rk (ct_el hN r)).span hS2)
 exact ⟨ps, pd, top, p, rfl, HX3.out.fix.piv.il, fstl_of hM hT (ct_el hN r) (fun i j _ hj => qac F hj) (m2_trf F) hA.rdf hA.ech.lt hS2, hk, hk.rows hM, HB3.out⟩
open Go.RowKit
theorem RowAt.frs {w : World} {B g n : Nat} {f : Nat → Nat} (h : RowAt w g 5 n f) (hB : B ≤ g) (hn : n ≤ 4096) : Frs w B (some ⟨g, 0, none⟩) n n := ⟨Nat.le_refl _, by unfold maxLen; omega, (fun e => by cases e), fun x hx => by
 cases hx
 exact ⟨g, rfl, hB, fun i hi => ⟨⟨_, h.cell i hi⟩, h.free i⟩⟩⟩
/-- What stands beside in Solve and Inverse. -/
theorem bes_one {w : World} {B gs gd r c kb : Nat} {M N : Nat → Nat → Nat} (G : Grid w B gs gd r kb N) (hgd : gd < w.heap.size) (hB : B ≤ w.heap.size) (hk : kb ≤ 64) (hp : 0 < c → 0 < r → 0 < kb) : Bes w B 1 r c [.slice (some ⟨gs, 0, none⟩) r r] (fun _ => gs) (fun _ => gd) (fun _ => kb) (fun _ => c) (wd M c N) :=
 ⟨hB, Nat.le_refl _, fun t ht => by rw [show t = 0 by omega]; rfl, fun _ _ => G.congr (fun i l _ _ => (wd_r M N c i l).symm), fun _ _ => hgd, fun _ _ => hk, fun h1 h2 _ _ => hp h1 h2⟩
theorem lit_own (w : World) (B : Nat) (v : Value) (hB : B ≤ w.heap.size) : (w.alloc (.cells #[v] 90)).ownsRow B 90 1 (.slice (some ⟨w.heap.size, 0, none⟩) 1 1) 1 [v] :=
 ⟨rfl, .inr ⟨w.heap.size, 1, #[v], rfl, hB, qci w _, Nat.le_refl _, by unfold maxLen; omega, rfl, rfl⟩⟩
open Go.RowKit
theorem ginv_x (w : World) (r n k : Nat) (a : Option Addr) (F : Nat → Nat) (ha : Mt w a n k F) (R : Rt r r n) : Calls Tryz.prog 34 #[mv r r a n k] w fun e w' => (InvP w w' e r n F ∧ Rk (m2 F r r) r r ∧ ∃ s d, e = .returned (.tuple #[mv r r s n d, .int .i64 0]) ∧ Frs w' w.heap.size s n d) ∨ (e = .returned (.tuple #[mv 0 0 none 0 0, .int .i64 6]) ∧ Below w.heap.size w w' ∧ ∃ t, t < r ∧ Rk (m2 F r r) r t) := by
 obtain ⟨wb, HW, HX⟩ : ∃ wb, Hid (wb = (w.alloc (.cells #[.int .i64 (r : Int), .int .i64 (r : Int), .slice a n k] 24)).alloc (.cells #[.int .i64 0, .int .i64 0, .slice none 0 0] 24)) ∧ Hid (Box2 w wb r r n k a) := ⟨_, rfl, box2 w r r n k a⟩
 have HA : Hid (Mt w a n k F) := ha
 have HR : Hid (Rt r r n) := R
 have hr := R.r64
 have v0 := HX.out.va.c0
 have v1 := HX.out.va.c1
 have v2 := HX.out.va.c2
 have hwb : w.heap.size + 1 < wb.heap.size := HX.out.vr.lt
 have HLN : Hid (r * r = n) := R.len
 have HIE : Hid (∀ i, i < n → idf r i < 256) := fun i _ => by unfold idf; split <;> decide
 clear ha R
 go_enter Tryz.func34, Tryz.ntmps34
 go_wp2_with (first
  | (go_at_call 45; rw [← HW.out]; refine (qax _ _ _ _ _ _ HR.out.p).mono ?_; rintro e w1 ⟨rfl, hb1⟩; have HB1 : Hid (Below wb.heap.size wb w1) := hb1; have a0 := (HX.out.va.later hb1).c0; have a1 := (HX.out.va.later hb1).c1; clear hb1)
  | (go_at_call 35; refine (qg1 _ r n hr HLN).mono ?_; rintro e w2 ⟨gi, rfl, hr2, _, hb2⟩; have HB2 : Hid (Below wb.heap.size wb w2) := qa0 HB1.out hb2; have HI2 : Hid (Sl w2 (some ⟨gi, 0, none⟩) n (idf r)) := (hr2.mt HIE.out).sl; have va := Vr.new w2 (.int .i64 (r : Int)) (.int .i64 (r : Int)) (.slice (some ⟨gi, 0, none⟩) n n); have b0 := va.c0; have b1 := va.c1; have b2 := va.c2; clear hr2 hb2 va)
  | (go_at_call 59; refine (qga _ r r n n (some ⟨gi, 0, none⟩) (idf r) (HI2.out.later (qa1 _ _)) HR.out).mono ?_; rintro e w3 ⟨gs, gd, rfl, hg3, hl3, hu3, hb3⟩; have HG3 : Hid (Grid w3 (w2.heap.size + 1) gs gd r r (m2 (idf r) r r)) := by { show Grid _ _ _ _ _ _ _; have := hg3; simpa using this }; have HB3 : Hid (Below wb.heap.size wb w3) := qa0 (qa0 HB2.out (qa1 w2 _)) hb3; have HS3 : Hid (w2.heap.size + 1 ≤ w3.heap.size) := by { show _ ≤ _; have := hb3.size; simpa using this }; have HL3 : Hid (gd < w3.heap.size) := hu3; have HV3 : Hid (Vr w3 w.heap.size (.int .i64 (r : Int)) (.int .i64 (r : Int)) (.slice a n k)) := HX.out.va.later HB3.out; have HVL : Hid (Vr (w3.alloc (.cells #[.slice (some ⟨gs, 0, none⟩) r r] 90)) w.heap.size (.int .i64 (r : Int)) (.int .i64 (r : Int)) (.slice a n k)) := HV3.out.later (qa1 _ _); have d0 := HV3.out.c0; have d1 := HV3.out.c1; have d2 := HV3.out.c2; have l0 := HVL.out.c0; have l1 := HVL.out.c1; have l2 := HVL.out.c2; clear hg3 hb3 hl3 hu3 b0 b1 b2)
  | (go_at_call 60; refine (qgb _ r r n k (w2.heap.size + 1) 1 1 a (some ⟨w3.heap.size, 0, none⟩) F [.slice (some ⟨gs, 0, none⟩) r r] (fun _ => gs) (fun _ => gd) (fun _ => r) (fun _ => r) (wd (m2 F r r) r (m2 (idf r) r r)) (HA.out.later (qa0 HX.out.below (qa0 HB3.out (qa1 _ _)))) HR.out (bes_one (HG3.out.later (qa1 _ _)) (by have := HL3.out; simp; omega) (by have := HS3.out; simp; omega) hr (fun _ h => h)) (lit_own _ _ _ HS3.out) (wd_el (qaq HA.out.sl.1 HR.out) (qaq HIE.out HR.out) r) (fun i l _ hl => wd_l _ _ i hl)).mono ?_; rintro e w4 ⟨C, rfl, hk4, hx4, e1, en, ec, em, hq4, hb4⟩; have HK : Hid C.Ok := hk4; have HX4 : Hid (Rst w4 C none 0 0 (fun _ => 0) (wd (m2 F r r) r (m2 (idf r) r r))) := hx4; have HEQ : Hid (C.n = r ∧ C.c = r ∧ C.m = 1 ∧ C.B = w2.heap.size + 1 ∧ C.gr 0 = gs ∧ C.kk 0 = r ∧ C.o 0 = r) := ⟨en, ec, em, e1, (hq4 0 (by omega)).1, (hq4 0 (by omega)).2.2.1, (hq4 0 (by omega)).2.2.2⟩; have HB4 : Hid (Below wb.heap.size wb w4) := (qa0 HB3.out (qa1 w3 _)).trans (hb4.mono (by have := HB2.out.size; omega)); clear hk4 hx4 e1 en ec em hq4 hb4)
  | (go_at_call 61; refine (qeh _ C _ HK.out HX4.out).mono ?_; rintro e w5 ⟨rfl, ps, pd, top, p, J, hx5, he5, hs5, hb5⟩; have HX5 : Hid (Rst w5 C ps pd top p J) := hx5; have HE5 : Hid (Ech J r top r p) := by { have := he5; rw [HEQ.out.1, HEQ.out.2.1] at this; exact this }; have HS5 : Hid (SpEq J r (wd (m2 F r r) r (m2 (idf r) r r)) r) := by { have := hs5; rw [HEQ.out.1] at this; exact this }; have HB5 : Hid (Below wb.heap.size wb w5) := HB4.out.trans (hb5.mono (by have := HB2.out.size; have := HEQ.out.2.2.2.1; omega)); have c2 := hx5.fix.c2; have htr : top ≤ r := HE5.out.tr; have HV5 : Hid (Vr w5 w.heap.size (.int .i64 (r : Int)) (.int .i64 (r : Int)) (.slice a n k)) := HX.out.va.later HB5.out; have e0 := HV5.out.c0; have HVR : Hid (Vr w5 (w.heap.size + 1) (.int .i64 0) (.int .i64 0) (.slice none 0 0)) := HX.out.vr.later HB5.out; clear hx5 he5 hs5 hb5 d0 d1 d2 l0 l1 l2))
 have HRK : Hid (Rk (m2 F r r) r top) := by
  have h1 := (HE5.out.rk HX5.out.el).span (HS5.out.ct r)
  exact h1.at (fun i j hi => by
   by_cases hj : j < r
   ·rw [qg2 _ i hj, wd_l _ _ i hj]
   ·rw [qhq _ i (by omega), qac F (by omega)])
 by_cases ht : top < r
 ·have htd : decide (top < r) = true := by simpa using ht
  go_region
  go_wp2_with (refine qa2 rfl _ _ rfl (w.heap.size + 1) _ _ _ (.int .i64 0) (.int .i64 0) (.slice none 0 0) rfl rfl HVR.out rfl rfl rfl ?_; intro w6 HV6 HG6)
  have d0 := HV6.out.c0
  have d1 := HV6.out.c1
  have d2 := HV6.out.c2
  refine bodyPost_ret (v := .tuple #[mv 0 0 none 0 0, .int .i64 6]) (by simp [results, Tryz.results34, go_sem, d0, d1, d2, mv]) rfl ?_
  exact .inr ⟨rfl, qa4 (qa0 HX.out.below HB5.out.drew) HG6.out (by omega), top, ht, HRK.out⟩
 ·obtain rfl : r = top := by omega
  go_region
  go_wp2_with (first
   | (go_at_call 62; refine (qiw _ C ps pd r p J HK.out (HX5.out.later (Below.refl _ _).drew) (by rw [HEQ.out.1, HEQ.out.2.1]; exact HE5.out)).mono ?_; rintro e w6 ⟨rfl, J6, hx6, ha6, hs6, hb6, hq6⟩; have HX6 : Hid (Rst w6 C ps pd r p J6) := hx6; have HA6 : Hid (Asc J6 r r r p 0) := by { have := ha6; rw [HEQ.out.1, HEQ.out.2.1] at this; exact this }; have HS6 : Hid (SpEq J6 r (wd (m2 F r r) r (m2 (idf r) r r)) r) := by { have := hs6; rw [HEQ.out.1] at this; exact this.trans HS5.out }; have HB6 : Hid (Below wb.heap.size wb w6) := HB5.out.drew.trans (hb6.mono (by have := HB2.out.size; have := HEQ.out.2.2.2.1; omega)); have f1 := (HX.out.va.later HB6.out).c1; have HP6 : Hid (Prt w6 (some ⟨gs, 0, none⟩) r r (fun i l => J6 i (r + l))) := by { have h9 := (hx6.gs 0 (by omega)).prt; rw [HEQ.out.2.2.2.2.1, HEQ.out.2.2.2.2.2.1, HEQ.out.1] at h9; have e9 : C.H J6 0 = fun i l => J6 i (r + l) := by { funext i l; show J6 i (C.o 0 + l) = _; rw [HEQ.out.2.2.2.2.2.2] }; rw [e9] at h9; exact h9 }; clear hx6 ha6 hs6 hb6 hq6)
   | (go_at_call 63; refine (ofr_n _ _ r r r n (fun i l => J6 i (r + l)) HP6.out (Nat.le_refl _) hr hr HLN.out).mono ?_; rintro e w7 ⟨s, d, O, rfl, hm7, hO7, hf7, hb7⟩; have HM7 : Hid (Mt w7 s n d O) := hm7; have HO7 : Hid (∀ i l, i < r → l < r → O (i * r + l) = J6 i (r + l)) := hO7; have HB7 : Hid (Below wb.heap.size wb w7) := qa0 HB6.out hb7; have HF7 : Hid (Frs w7 wb.heap.size s n d) := Frs.mono hf7 HB6.out.size; have HV7 : Hid (Vr w7 (w.heap.size + 1) (.int .i64 0) (.int .i64 0) (.slice none 0 0)) := HX.out.vr.later HB7.out; clear hm7 hO7 hf7 hb7)
   | (refine qa2 rfl _ _ rfl (w.heap.size + 1) _ _ _ (.int .i64 (r : Int)) (.int .i64 (r : Int)) (.slice s n d) rfl rfl HV7.out rfl rfl rfl ?_; intro w8 HV8 HG8))
  have d0 := HV8.out.c0
  have d1 := HV8.out.c1
  have d2 := HV8.out.c2
  refine bodyPost_ret (v := .tuple #[mv r r s n d, .int .i64 0]) (by simp [results, Tryz.results34, go_sem, d0, d1, d2, mv]) rfl ?_
  have hinv := qiq (N := m2 (idf r) r r) HX6.out.el (qaq HA.out.sl.1 HR.out) (fun i j hi hj => by
   rw [qag _ hi hj, idf_at r i j hi hj]
   unfold dl
   by_cases e : i = j
   ·rw [if_pos e, if_pos e.symm]
   ·rw [if_neg e, if_neg (fun h => e h.symm)]) HS6.out HA6.out
  refine .inl ⟨⟨s, d, O, rfl, HM7.out.kept HG8.out (fun _ => HF7.out.off (by omega)), fun i j hi hj => ?_, qa4 (qa0 HX.out.below HB7.out) HG8.out (by omega)⟩, HRK.out, s, d, rfl, (HF7.out.kept HG8.out (by omega)).mono (by omega)⟩
  rw [← hinv i j hi hj]
  exact qal (fun _ _ => rfl) (fun t ht => by rw [qag O ht hj, HO7.out t j ht hj])
theorem ginv_ok (w : World) (r n k : Nat) (a : Option Addr) (F : Nat → Nat) (ha : Mt w a n k F) (R : Rt r r n) (hk : Rk (m2 F r r) r r) : Calls Tryz.prog 34 #[mv r r a n k] w fun e w' => InvP w w' e r n F :=
 (ginv_x w r n k a F ha R).mono fun _ _ h => by
  rcases h with ⟨h1, _⟩ | ⟨_, _, t, ht, hr⟩
  ·exact h1
  ·have := hk.unique hr (SpEq.refl (qaq ha.sl.1 R) r)
   omega
end Go.Proofs.YtokdejhbjoglcaaGreat
