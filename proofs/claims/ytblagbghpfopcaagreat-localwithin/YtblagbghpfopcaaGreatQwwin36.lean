/-
  A reduction is begun.
  Contracts of the program's gauss: Reduce, Rank.
-/
import Derived.Test.YtblagbghpfopcaaGreatQwwin00
import Derived.Test.YtblagbghpfopcaaGreatQwwin33
import Derived.Test.YtblagbghpfopcaaGreatQwwin34
import Derived.Test.YtblagbghpfopcaaGreatQwwin35
set_option maxRecDepth 100000
set_option maxHeartbeats 16000000
namespace Go.Proofs.YtblagbghpfopcaaGreat
open Go.RowKit
theorem onto_mk (w : World) (p : Option Addr) (n c : Nat) : Calls Tryz.prog 106 #[.slice p n c] w fun e w' => e = .returned (.func (.func 124) #[] #[.pointer (some ⟨w.heap.size, 0, none⟩)]) ∧ w' = w.alloc (.cells #[.slice p n c] 138) := by
 have hmf := mkf
 go_enter Tryz.func106, Tryz.ntmps106
 go_wp2
 go_ret
 exact ⟨rfl, rfl⟩
theorem infoG : (Tryz.prog.info? 120).map (fun i => (i.zero, i.size, i.bytes)) = some (some (.slice none 0 0), 1, 24) := by kernel_rfl
/-- One list of rows more. -/
theorem qdq {ops : Array Oper} {op : Oper} {a : Act} {w : World} {K : Act → World → Prop} {Q : Exit → Act → World → Prop} {E : Prop} (hgd : op.guard = none) (s x : Operand) (ho : op.op = .call { callee := .builtin .append, args := #[s, x], argTypes := #[138, 138] })
  (base n : Nat) (v : Value) (ls : List Value) (hs : a.eval s = v) (hown : w.ownsRow base 120 1 v n ls) (g : Nat) (u : Value) (h1 : u.oneCell' = true) (hx : a.eval x = .slice (some ⟨g, 0, none⟩) 1 1) (hu : w.cell? ⟨g, 0, none⟩ = some u) (h63 : n ≤ 64) (hbase : base ≤ w.heap.size)
  (h : ∀ v' w', w'.ownsRow base 120 1 v' (n + 1) (ls ++ [u]) → w.grownBy w' v.ownBlock → K (a.put op.dst v') w') : if Region.wanted op (yielded ops a.tmps) = true then Oper.wp Tryz.prog op a w K Q else E := by
 obtain ⟨i0, hi, hz0, hz1, hz2⟩ := info_parts infoG
 have hw : Region.wanted op (yielded ops a.tmps) = true := by simp [Region.wanted, hgd]
 rw [if_pos hw]
 refine wp_append_own w s x 138 ho base 120 i0 (.slice none 0 0) 1 24 Tryz.underlying138 hi hz0 hz1 hz2 rfl (by decide) v n ls hs hown ⟨g, 0, none⟩ 1 1 [u] hx rfl ?_ ?_ (by unfold maxLen; omega) (by omega) hbase (fun v' w' h1 h2 _ => h v' w' h1 h2)
 ·intro j y hj
  match j, hj with
  | 0, hj => simp at hj; subst hj; rw [add_plain]; exact hu
 ·intro y hy; simp at hy; subst hy; exact h1
/-- The lists beside, m of them. -/
structure Bes (w : World) (B m r c : Nat) (ls : List Value) (gr gd kk o : Nat → Nat) (J : Nat → Nat → Nat) : Prop where
 low : B ≤ w.heap.size
 m1 : m ≤ 1
 ls : ∀ t, t < m → ls[t]? = some (.slice (some ⟨gr t, 0, none⟩) r r)
 grid : ∀ t, t < m → Grid w B (gr t) (gd t) r (kk t) (fun i l => J i (o t + l))
 gd : ∀ t, t < m → gd t < w.heap.size
 k6 : ∀ t, t < m → kk t ≤ 64
 pos : 0 < c → 0 < r → ∀ t, t < m → 0 < kk t
/-- The reduction that is begun. -/
def beg (B g gv gL cL m r c g1 g2 : Nat) (gr gd kk o : Nat → Nat) : Cfg := ⟨B, g, gv, gL, cL, m, r, c, fun t => if t < m then gr t else g1, fun t => if t < m then gd t else g2, fun t => if t < m then kk t else c, fun t => if t < m then o t else 0⟩
theorem beg_ok {w : World} {B m r c g gv gL cL g1 g2 : Nat} {ls : List Value} {gr gd kk o : Nat → Nat} {J : Nat → Nat → Nat} (b : Bes w B m r c ls gr gd kk o J) (hr : r ≤ 64) (hc : c ≤ 64) (h1 : w.heap.size ≤ g1) (h2 : w.heap.size ≤ g2) : (beg B g gv gL cL m r c g1 g2 gr gd kk o).Ok := by
 have hm := b.m1
 refine ⟨fun s t hs ht hne => ?_, fun t ht => ?_, if_neg (by show ¬ m < m; omega), if_neg (by show ¬ m < m; omega), hr, hc, hm, fun p1 p2 t ht => ?_⟩
 ·have hs' : s ≤ m := hs
  have ht' : t ≤ m := ht
  show (if s < m then gr s else g1) ≠ (if t < m then gr t else g1) ∧ (if s < m then gd s else g2) ≠ (if t < m then gd t else g2)
  by_cases e1 : s < m
  ·rw [if_pos e1, if_pos e1, if_neg (by omega), if_neg (by omega)]
   have := (b.grid s e1).lt
   have := b.gd s e1
   exact ⟨by omega, by omega⟩
  ·rw [if_neg e1, if_neg e1, if_pos (by omega), if_pos (by omega)]
   have := (b.grid t (by omega)).lt
   have := b.gd t (by omega)
   exact ⟨by omega, by omega⟩
 ·show (if t < m then kk t else c) ≤ 64
  split
  ·exact b.k6 t (by assumption)
  ·exact hc
 ·show 0 < (if t < m then kk t else c)
  split
  ·exact b.pos p1 p2 t (by assumption)
  ·exact p1
theorem beg_rst {w w1 w3 : World} {B m r c gL cL g1 g2 : Nat} {ls : List Value} {gr gd kk o : Nat → Nat} {J : Nat → Nat → Nat} {p0 : Option Addr} {c0 : Nat} {ob : Obj} (b : Bes w B m r c ls gr gd kk o J) (hJ : El2 J) (hb1 : Below w.heap.size w w1) (G : Grid w1 B g1 g2 r c J) (hown : w3.ownsRow B 120 1 (.slice (some ⟨gL, 0, none⟩) (m + 1) cL) (m + 1) (ls ++ [.slice (some ⟨g1, 0, none⟩) r r])) (hl : ls.length = m)
  (ho : w1.ownsRow B 120 1 (.slice p0 m c0) m ls) (hg : (w1.alloc ob).grownBy w3 (Value.slice p0 m c0).ownBlock) :
  Rst ((w3.alloc (.cells #[.slice (some ⟨gL, 0, none⟩) (m + 1) cL] 138)).alloc (.cells #[.slice (some ⟨g1, 0, none⟩) r r, .int .i64 (c : Int), .slice none 0 0, .func (.func 124) #[] #[.pointer (some ⟨w3.heap.size, 0, none⟩)]] 123)) (beg B (w3.heap.size + 1) w3.heap.size gL cL m r c g1 g2 gr gd kk o) none 0 0 (fun _ => 0) J ∧ Below B w1 ((w3.alloc (.cells #[.slice (some ⟨gL, 0, none⟩) (m + 1) cL] 138)).alloc (.cells #[.slice (some ⟨g1, 0, none⟩) r r, .int .i64 (c : Int), .slice none 0 0, .func (.func 124) #[] #[.pointer (some ⟨w3.heap.size, 0, none⟩)]] 123)) := by
 have ha1 := qa1 w1 ob
 have hc : Chg (w1.alloc ob) w3 (fun k => (Value.slice p0 m c0).ownBlock = some k) := ⟨hg.os, hg.tape, hg.output, hg.size, fun k hk hne => hg.block k hk (fun e => hne e.symm)⟩
 have off : ∀ {k : Nat} {cs : Array Value} {t : TypeId}, (w1.alloc ob).heap[k]? = some (.cells cs t (0, 0)) → t ≠ 120 → ¬ ((Value.slice p0 m c0).ownBlock = some k) := fun h ht e => by
  obtain ⟨cs, hcs⟩ := ownb ho e
  have h9 := hcs
  rw [← ha1.block _ (lt_of_block hcs)] at h9
  exact qdj h h9 ht rfl
 have carry : ∀ {gx dx kx : Nat} {H : Nat → Nat → Nat}, Grid w1 B gx dx r kx H → Grid w3 B gx dx r kx H := fun g => by
  have g' := g.later ha1
  obtain ⟨c1, b1⟩ := g'.blk
  refine g'.chg hc (off b1 (by decide)) (fun k1 k2 => ?_)
  obtain ⟨_, _, c2, b2⟩ := g'.dat k1 k2
  exact off b2 (by decide)
 obtain ⟨w4, e4⟩ : ∃ w4, w4 = w3.alloc (.cells #[.slice (some ⟨gL, 0, none⟩) (m + 1) cL] 138) := ⟨_, rfl⟩
 have s4 : w4.heap.size = w3.heap.size + 1 := by rw [e4]; simp
 rw [← e4]
 have b4 : Below w3.heap.size w3 w4 := by rw [e4]; exact qa1 _ _
 obtain ⟨w5, e5⟩ : ∃ w5, w5 = w4.alloc (.cells #[.slice (some ⟨g1, 0, none⟩) r r, .int .i64 (c : Int), .slice none 0 0, .func (.func 124) #[] #[.pointer (some ⟨w3.heap.size, 0, none⟩)]] 123) := ⟨_, rfl⟩
 rw [← e5]
 have b5 : Below w4.heap.size w4 w5 := by rw [e5]; exact qa1 _ _
 have b35 := qa0 b4 b5
 have h5 : w5.heap[w3.heap.size + 1]? = some (.cells #[.slice (some ⟨g1, 0, none⟩) r r, .int .i64 (c : Int), .slice none 0 0, .func (.func 124) #[] #[.pointer (some ⟨w3.heap.size, 0, none⟩)]] 123 (0, 0)) := by rw [e5, ← s4]; exact qbz w4 _
 have hv : V1 w5 w3.heap.size (.slice (some ⟨gL, 0, none⟩) (m + 1) cL) 138 := V1.later (by rw [e4]; exact V1.new w3 _ _) b5
 have h3B : B ≤ w3.heap.size := by
  have h1 := hg.size
  have h2 := ha1.size
  have h3 := hb1.size
  have h4 := b.low
  omega
 refine ⟨⟨⟨?_, hv, ?_, Oi.nil _ _ _, by show B ≤ w3.heap.size + 1; omega⟩, fun t ht => ?_, hJ⟩, ?_⟩
 ·show w5.heap[w3.heap.size + 1]? = some (.cells #[.slice (some ⟨(if m < m then gr m else g1), 0, none⟩) r r, _, _, _] _ _)
  rw [if_neg (by omega)]
  exact h5
 ·rcases hown.2 with ⟨e, _⟩ | ⟨g', cap, cur, e, hb, hgc, hcap, hmax, hsz, htk⟩
  ·cases e
  ·cases e
   refine ⟨cur, ?_, fun t ht => ?_⟩
   ·show w5.heap[gL]? = _
    rw [b35.block gL (lt_of_block hgc)]; exact hgc
   ·have ht' : t ≤ m := ht
    show cur[t]? = some (.slice (some ⟨(if t < m then gr t else g1), 0, none⟩) r r)
    have e1 : (cur.toList.take ((m + 1) * 1))[t]? = (ls ++ [Value.slice (some ⟨g1, 0, none⟩) r r])[t]? := by rw [htk]
    rw [List.getElem?_take, if_pos (by omega), Array.getElem?_toList] at e1
    rw [e1]
    by_cases h : t < m
    ·rw [if_pos h, List.getElem?_append_left (by omega)]
     exact b.ls t h
    ·rw [if_neg h, List.getElem?_append_right (by omega), hl, show t - m = 0 by omega]
     rfl
 ·have ht' : t ≤ m := ht
  show Grid w5 B (if t < m then gr t else g1) (if t < m then gd t else g2) r (if t < m then kk t else c) (fun i l => J i ((if t < m then o t else 0) + l))
  by_cases h : t < m
  ·rw [if_pos h, if_pos h, if_pos h, if_pos h]
   exact (carry ((b.grid t h).later hb1)).later b35
  ·rw [if_neg h, if_neg h, if_neg h, if_neg h]
   exact ((carry G).later b35).congr (fun i l _ _ => by rw [Nat.zero_add])
 ·refine ⟨?_, ?_, ?_, ?_, fun k hk => ?_⟩
  ·rw [b35.os, hg.os]; rfl
  ·rw [b35.tape, hg.tape]; rfl
  ·rw [b35.output, hg.output]; rfl
  ·have h1 := hg.size
   have h2 := ha1.size
   have h3 := b35.size
   omega
  ·have h3 := hb1.size
   have h4 := b.low
   have h1 := hg.size
   have h2 := ha1.size
   rw [b35.block k (by omega), hg.block k (by omega) (fun e => by have := qag ho k e.symm; omega), ha1.block k (by omega)]
theorem qgt (w : World) (r c n k B m c0 : Nat) (a p0 : Option Addr) (F : Nat → Nat) (ls : List Value) (gr gd kk o : Nat → Nat) (J : Nat → Nat → Nat) (ha : Mt w a n k F) (R : Rt r c n) (b : Bes w B m r c ls gr gd kk o J) (ho : w.ownsRow B 120 1 (.slice p0 m c0) m ls) (hJ : El2 J) (hF : ∀ i l, i < r → l < c → J i l = m2 F r c i l) :
  Calls Tryz.prog 85 #[mv r c a n k, .slice p0 m c0] w fun e w' => ∃ C : Cfg, e = .returned (.pointer (some ⟨C.g, 0, none⟩)) ∧ C.Ok ∧ Rst w' C none 0 0 (fun _ => 0) J ∧ C.B = B ∧ C.n = r ∧ C.c = c ∧ C.m = m ∧ (∀ t, t < m → C.gr t = gr t ∧ C.gd t = gd t ∧ C.kk t = kk t ∧ C.o t = o t) ∧ Below B w w' := by
 have HA : Hid (Mt w a n k F) := ha
 have HR : Hid (Rt r c n) := R
 have HBS : Hid (Bes w B m r c ls gr gd kk o J) := b
 have HO : Hid (w.ownsRow B 120 1 (.slice p0 m c0) m ls) := ho
 have HF : Hid (∀ i l, i < r → l < c → J i l = m2 F r c i l) := hF
 have hr := R.r64
 have hc := R.c64
 have hm := b.m1
 have hB := b.low
 have hll : ls.length = m := by have := ho.1; omega
 clear ha R b ho hF
 go_enter Tryz.func85, Tryz.ntmps85
 go_wp2_with (go_at_call 91; refine (qes _ r c n k a F (HA.out.later (qa1 _ _)).sl HR.out).mono ?_; rintro e w1 ⟨g1, g2, rfl, hg1, hl1, hu1, hb1⟩; have HG1 : Hid (Grid w1 (w.heap.size + 1) g1 g2 r c (m2 F r c)) := by { show Grid _ _ _ _ _ _ _; have := hg1; simpa using this }; have HB1 : Hid (Below w.heap.size w w1) := qa0 (qa1 _ _) hb1; have HVB : Hid (Vr w1 w.heap.size (.int .i64 (r : Int)) (.int .i64 (c : Int)) (.slice a n k)) := (Vr.new w _ _ _).later hb1; have v1 := ((Vr.new w (.int .i64 (r : Int)) (.int .i64 (c : Int)) (.slice a n k)).later hb1).c1; have hl1' : w.heap.size + 1 ≤ g2 := by { have := hl1; simpa using this }; clear hg1 hb1 hl1)
 have hgl : w.heap.size + 1 ≤ g1 := HG1.out.base
 have hs1 : w.heap.size ≤ w1.heap.size := HB1.out.size
 obtain ⟨x0, HWD⟩ : ∃ x, Hid (x = w1.drew) := ⟨_, rfl⟩
 have B0 : Hid (Below w.heap.size w x0) := by rw [HWD.out]; exact HB1.out.drew
 have HO0 : Hid (x0.ownsRow B 120 1 (.slice p0 m c0) m ls) := World.ownsRow.kept HO.out (qa8.mpr B0.out) (by cases hv : (Value.slice p0 m c0).ownBlock <;> simp)
 have HG0 : Hid (Grid x0 B g1 g2 r c J) := by
  rw [HWD.out]
  have G := (HG1.out.drew).congr (fun i l hi hl => (HF.out i l hi hl).symm)
  obtain ⟨A, h1, h2⟩ := G.ex
  exact ⟨by omega, G.el, A, h1, fun hk hn => by
   obtain ⟨z, E, d, q1, q2, q3, q4, q5⟩ := h2 hk hn
   exact ⟨z, E, d, q1, q2, q3, q4.mono (by omega), q5⟩⟩
 have s0 : x0.cell? ⟨w.heap.size, 1, none⟩ = some (.int .i64 (c : Int)) := by rw [HWD.out]; exact v1
 have hs0 : w.heap.size ≤ x0.heap.size := B0.out.size
 have hvb := HVB
 refine wp_region_held (S := fun w' => w'.cell? ⟨w.heap.size, 1, none⟩ = some (.int .i64 (c : Int))) (by kernel_rfl) ?_
 change wpAnyH _ _ _ _ _ _ _ _ w1.drew
 rw [← HWD.out]
 refine wtkq 0 ?vs0 rfl (by kernel_rfl) (fun _ _ _ h => h) (by rfl) ?ys0 s0 ?zs0
 case ys0 => (intro w hSw; (try dsimp only at hSw); go_simp; try with_reducible rfl)
 try simp only [mz1, mz3, Act.put, mz4, mz5, mz6]
 refine wtkq 1 ?vs1 rfl (by kernel_rfl) (fun _ _ _ h => h) (by rfl) ?ys1 s0 ?zs1
 case ys1 => (intro w hSw; (try dsimp only at hSw); go_simp; try with_reducible rfl)
 try simp only [mz1, mz2, mz3, Act.put, mz4, mz5, mz6]
 refine wtkq 2 ?vs2 rfl (by kernel_rfl) (fun _ _ _ h => h) (by rfl) ?ys2 s0 ?zs2
 case ys2 => (intro w hSw; (try dsimp only at hSw); go_simp; try with_reducible rfl)
 try simp only [mz1, mz2, mz3, Act.put, mz4, mz5, mz6]
 refine wtkq 3 ?vs3 rfl (by kernel_rfl) (fun _ _ _ h => h) (by rfl) ?ys3 s0 ?zs3
 case ys3 => (intro w hSw; (try dsimp only at hSw); go_simp; try with_reducible rfl)
 try simp only [mz1, mz2, mz3, Act.put, mz4, mz5, mz6]
 refine wtkq 4 ?vs4 rfl (by kernel_rfl) (fun _ _ _ h => h) (by rfl) ?ys4 s0 ?zs4
 case ys4 => (intro w hSw; (try dsimp only at hSw); go_simp; try with_reducible rfl)
 try simp only [mz1, mz2, mz3, Act.put, mz4, mz5, mz6]
 refine wpAnyH_ready (rs := [5]) (by kernel_rfl) (by simp) ?_
 refine AllReadyH.cons rfl (fun K hK => ?_) AllReadyH.nil
 go_simp
 obtain ⟨x1, hx1⟩ : ∃ x, Hid (x = x0.alloc (.cells #[.slice (some ⟨g1, 0, none⟩) r r] 120)) := ⟨_, rfl⟩
 rw [← hx1.out]
 have ba : Below x0.heap.size x0 x1 := by rw [hx1.out]; exact qa1 _ _
 have s1 := qah ba s0
 have HO1 : Hid (x1.ownsRow B 120 1 (.slice p0 m c0) m ls) := World.ownsRow.kept HO0.out (qa8.mpr ba) (by cases hv : (Value.slice p0 m c0).ownBlock <;> simp)
 have cu : x1.cell? ⟨x0.heap.size, 0, none⟩ = some (.slice (some ⟨g1, 0, none⟩) r r) := by rw [hx1.out]; exact (V1.new x0 _ _).cell
 have hsz1 : B ≤ x1.heap.size := by have := ba.size; omega
 refine hK.out _ _ s1 (fun _ => ?_)
 clear hK K
 try simp only [mz1, mz2, mz3, Act.put, mz4, mz5, mz6]
 refine wpAnyH_ready (rs := [6]) (by kernel_rfl) (by simp) ?_
 refine AllReadyH.cons rfl (fun K hK => ?_) AllReadyH.nil
 refine qdq rfl _ _ rfl B m (.slice p0 m c0) ls rfl HO1.out x0.heap.size (.slice (some ⟨g1, 0, none⟩) r r) rfl rfl cu (by omega) hsz1 ?_
 intro v2 x2 hown2 hgrow2
 obtain ⟨gL, cL, rfl⟩ : ∃ gL cL, v2 = .slice (some ⟨gL, 0, none⟩) (m + 1) cL := by
  rcases hown2.2 with ⟨_, h0⟩ | ⟨g, cap, cur, e, _⟩
  ·omega
  ·exact ⟨g, cap, e⟩
 have HO2 : Hid (x2.ownsRow B 120 1 (.slice (some ⟨gL, 0, none⟩) (m + 1) cL) (m + 1) (ls ++ [.slice (some ⟨g1, 0, none⟩) r r])) := hown2
 have HG2 : Hid ((x0.alloc (.cells #[.slice (some ⟨g1, 0, none⟩) r r] 120)).grownBy x2 (Value.slice p0 m c0).ownBlock) := by rw [← hx1.out]; exact hgrow2
 have s2 : x2.cell? ⟨w.heap.size, 1, none⟩ = some (.int .i64 (c : Int)) := hgrow2.cell s1 (fun e => by
  obtain ⟨cs, hcs⟩ := ownb HO1.out e.symm
  have h9 : x0.heap[w.heap.size]? = some (.cells #[.int .i64 (r : Int), .int .i64 (c : Int), .slice a n k] 24 (0, 0)) := by rw [HWD.out]; exact hvb.out
  rw [← ba.block w.heap.size (qas s0)] at h9
  exact qdj h9 hcs (by decide) rfl)
 clear hown2 hgrow2
 refine hK.out _ _ s2 (fun _ => ?_)
 clear hK K
 try simp only [mz1, mz2, mz3, Act.put, mz4, mz5, mz6]
 refine wpAnyH_ready (rs := [7]) (by kernel_rfl) (by simp) ?_
 refine AllReadyH.cons rfl (fun K hK => ?_) AllReadyH.nil
 go_simp
 refine (onto_mk _ _ _ _).mono ?_
 rintro e x3 ⟨rfl, ex3⟩
 have HX3 : Hid (x3 = x2.alloc (.cells #[.slice (some ⟨gL, 0, none⟩) (m + 1) cL] 138)) := ex3
 have s3 : x3.cell? ⟨w.heap.size, 1, none⟩ = some (.int .i64 (c : Int)) := by rw [ex3]; exact qah (qa1 _ _) s2
 clear ex3
 refine hK.out _ _ s3 (fun _ => ?_)
 clear hK K
 try simp only [mz1, mz2, mz3, Act.put, mz4, mz5, mz6]
 refine wtkq 8 ?vs8 rfl (by kernel_rfl) (fun _ _ _ h => h) (by rfl) ?ys8 s3 ?zs8
 case ys8 => (intro w hSw; (try dsimp only at hSw); go_simp; try with_reducible rfl)
 try simp only [mz1, mz2, mz3, Act.put, mz4, mz5, mz6]
 refine wpAnyH_ready (rs := [9]) (by kernel_rfl) (by simp) ?_
 refine AllReadyH.cons rfl (fun K hK => ?_) AllReadyH.nil
 go_simp
 obtain ⟨x4, hx4⟩ : ∃ x, Hid (x = x3.alloc (.cells #[.slice (some ⟨g1, 0, none⟩) r r, .int .i64 (c : Int), .slice none 0 0, .func (.func 124) #[] #[.pointer (some ⟨x2.heap.size, 0, none⟩)]] 123)) := ⟨_, rfl⟩
 rw [← hx4.out]
 have s4 : x4.cell? ⟨w.heap.size, 1, none⟩ = some (.int .i64 (c : Int)) := by rw [hx4.out]; exact qah (qa1 _ _) s3
 refine hK.out _ _ s4 (fun _ => ?_)
 clear hK K
 try simp only [mz1, mz2, mz3, Act.put, mz4, mz5, mz6]
 refine wtkq 10 ?vs10 rfl (by kernel_rfl) (fun _ _ _ h => h) (by rfl) ?ys10 s4 ?zs10
 case ys10 => (intro w hSw; (try dsimp only at hSw); go_simp; try with_reducible rfl)
 try simp only [mz1, mz2, mz3, Act.put, mz4, mz5, mz6]
 refine wpAnyH_done (by kernel_rfl) ?_ _
 go_wp2
 have sz3 : x3.heap.size = x2.heap.size + 1 := by rw [HX3.out]; simp
 have HE : Hid (x4 = (x2.alloc (.cells #[.slice (some ⟨gL, 0, none⟩) (m + 1) cL] 138)).alloc (.cells #[.slice (some ⟨g1, 0, none⟩) r r, .int .i64 (c : Int), .slice none 0 0, .func (.func 124) #[] #[.pointer (some ⟨x2.heap.size, 0, none⟩)]] 123)) := by show _ = _; rw [hx4.out, HX3.out]
 go_ret
 have fin := beg_rst HBS.out hJ B0.out HG0.out HO2.out hll HO0.out HG2.out
 rw [← HE.out] at fin
 refine ⟨beg B (x2.heap.size + 1) x2.heap.size gL cL m r c g1 g2 gr gd kk o, by rw [sz3]; rfl, beg_ok HBS.out hr hc (by omega) (by omega), fin.1, rfl, rfl, rfl, rfl, fun t ht => ⟨if_pos ht, if_pos ht, if_pos ht, if_pos ht⟩, (B0.out.mono hB).trans fin.2⟩
open Go.RowKit
theorem bes_none (w : World) (r c : Nat) (J : Nat → Nat → Nat) : Bes w w.heap.size 0 r c [] (fun _ => 0) (fun _ => 0) (fun _ => 0) (fun _ => 0) J :=
 ⟨Nat.le_refl _, by omega, fun t h => by omega, fun t h => by omega, fun t h => by omega, fun t h => by omega, fun _ _ t h => by omega⟩
/-- A reduction without lists beside it. -/
theorem qgu (w : World) (r c n k : Nat) (a : Option Addr) (F : Nat → Nat) (ha : Mt w a n k F) (R : Rt r c n) :
  Calls Tryz.prog 85 #[mv r c a n k, .slice none 0 0] w fun e w' => ∃ C : Cfg, e = .returned (.pointer (some ⟨C.g, 0, none⟩)) ∧ C.Ok ∧ Rst w' C none 0 0 (fun _ => 0) (m2 F r c) ∧ C.B = w.heap.size ∧ C.n = r ∧ C.c = c ∧ C.m = 0 ∧ Below w.heap.size w w' :=
 (qgt w r c n k w.heap.size 0 0 a none F [] _ _ _ _ (m2 F r c) ha R (bes_none w r c _) (World.ownsRow_nil _ _ _ _) (qax ha.sl.1 R) (fun _ _ _ _ => rfl)).mono (fun _ _ ⟨C, h1, h2, h3, h4, h5, h6, h7, _, h9⟩ => ⟨C, h1, h2, h3, h4, h5, h6, h7, h9⟩)
theorem H_last {C : Cfg} (K : C.Ok) (J : Nat → Nat → Nat) : C.H J C.m = J := by
 funext i l
 show J i (C.o C.m + l) = _
 rw [K.lo, Nat.zero_add]
theorem Rst.rows {w : World} {C : Cfg} {ps : Option Addr} {pd top : Nat} {p : Nat → Nat} {J : Nat → Nat → Nat} (K : C.Ok) (h : Rst w C ps pd top p J) : Prt w (some ⟨C.gr C.m, 0, none⟩) C.n C.c J := by
 have := (h.gs C.m (Nat.le_refl _)).prt
 rwa [K.lk, H_last K J] at this
theorem ofr_n (w : World) (s : Option Addr) (n q k N : Nat) (F : Nat → Nat → Nat) (h : Prt w s n k F) (hq : n ≤ q) (hn : n ≤ 64) (hk : k ≤ 64) (hN : n * k = N) :
  Calls Tryz.prog 88 #[.slice s n q, .int .i64 (k : Int)] w fun e w' => ∃ t d G, e = .returned (mv n k t N d) ∧ Mt w' t N d G ∧ (∀ i l, i < n → l < k → G (i * k + l) = F i l) ∧ Frs w' w.heap.size t N d ∧ Below w.heap.size w w' := by
 rw [← hN]
 exact qlz w s n q k F h hq hn hk
theorem m2_ct {G : Nat → Nat} {J : Nat → Nat → Nat} {r c : Nat} (hG : ∀ i l, i < r → l < c → G (i * c + l) = J i l) : ∀ i j, i < r → m2 G r c i j = ct J c i j := fun i j hi => by
 by_cases hj : j < c
 ·rw [qb1 G hi hj, qf2 J i hj, hG i j hi hj]
 ·rw [qaf G (by omega), qeq J i (by omega)]
theorem ct_m2 (F : Nat → Nat) (r c i j : Nat) : ct (m2 F r c) c i j = m2 F r c i j := by
 by_cases hj : j < c
 ·rw [qf2 _ i hj]
 ·rw [qeq _ i (by omega), qaf F (by omega)]
theorem red_fin {F G p : Nat → Nat} {J : Nat → Nat → Nat} {r c top : Nat} (hA : Asc J r top c p 0) (hS : SpEq J r (m2 F r c) r) (hG : ∀ i l, i < r → l < c → G (i * c + l) = J i l) : Rdf (m2 G r c) r top p ∧ SpEq (m2 G r c) r (m2 F r c) r := by
 refine ⟨hA.rdf.first hA.ech.lt (fun i j hi => ?_), ?_⟩
 ·rw [m2_ct hG i j hi]
  by_cases hj : j < c
  ·rw [if_pos hj]
  ·rw [if_neg hj, qeq J i (by omega)]
 ·have h1 := (hS.ct c).rows (fun i j hi => m2_ct hG i j hi)
  rwa [show ct (m2 F r c) c = m2 F r c from funext fun i => funext fun j => ct_m2 F r c i j] at h1
theorem Il.chg {w w' : World} {S : Nat → Prop} {b : Option Addr} {m : Nat} {q : Nat → Int} (h : Il w b m q) (hc : Chg w w' S) (hn : ∀ x, b = some x → ¬ S x.block) : Il w' b m q := fun i hi => by
 obtain ⟨x, o, e, hcl⟩ := h i hi
 refine ⟨x, o, e, ?_⟩
 rw [← hcl]
 exact World.cell?_of_block (hc.block x (qas hcl) (hn _ e))
theorem Mt.chg {w w' : World} {S : Nat → Prop} {a : Option Addr} {n k : Nat} {F : Nat → Nat} (h : Mt w a n k F) (hc : Chg w w' S) (hn : ∀ x, a = some x → ¬ S x.block) : Mt w' a n k F := ⟨h.sl.chg hc hn, h.room, h.nil⟩
theorem Oi.off {w : World} {B b n d : Nat} {s : Option Addr} {f : Nat → Nat} (h : Oi w B (.slice s n d) n f) (hb : b < B) : ∀ x, s = some x → x.block ≠ b := fun x hx e => by
 have := (h.base (g := x.block) (by rw [hx]; rfl)).1
 omega
theorem grank_x (w : World) (r c n k : Nat) (a : Option Addr) (F : Nat → Nat) (ha : Mt w a n k F) (R : Rt r c n) : Calls Tryz.prog 98 #[mv r c a n k] w fun e w' => ∃ t : Nat, e = .returned (.tuple #[.int .i64 (t : Int), .int .i64 0]) ∧ Rk (m2 F r c) r t ∧ (∃ R p, El2 R ∧ Rdf R r t p ∧ SpEq R r (m2 F r c) r ∧ ∀ i, i < t → p i < c) ∧ Below w.heap.size w w' := by
 have HA : Hid (Mt w a n k F) := ha
 have HR : Hid (Rt r c n) := R
 clear ha R
 go_enter Tryz.func98, Tryz.ntmps98
 go_wp2_with (first
  | (go_at_call 60; refine (qaj _ _ _ _ _ _ HR.out.p).mono ?_; rintro e w1 ⟨rfl, hb1⟩; have HB1 : Hid (Below w.heap.size w w1) := qa0 (qa1 _ _) hb1; have va := (Vr.new w (.int .i64 (r : Int)) (.int .i64 (c : Int)) (.slice a n k)).later hb1; have a0 := va.c0; have a1 := va.c1; have a2 := va.c2; clear hb1 va)
  | (go_at_call 85; refine (qgu _ r c n k a F (HA.out.later HB1.out) HR.out).mono ?_; rintro e w2 ⟨C, rfl, hk2, hx2, e1, rfl, rfl, hm0, hb2⟩; clear hm0; have HK : Hid C.Ok := hk2; have HX2 : Hid (Rst w2 C none 0 0 (fun _ => 0) (m2 F C.n C.c)) := hx2; have HB2 : Hid (Below w.heap.size w w2) := qa0 HB1.out hb2; have HCB : Hid (w.heap.size ≤ C.B) := by { rw [e1]; exact HB1.out.size }; clear hk2 hx2 hb2 e1)
  | (go_at_call 86; refine (qcu _ C _ HK.out HX2.out).mono ?_; rintro e w3 ⟨rfl, ps, pd, top, p, J, hx3, he3, hs3, hb3⟩; have HX3 : Hid (Rst w3 C ps pd top p J) := hx3; have HE3 : Hid (Ech J C.n top C.c p) := he3; have HS3 : Hid (SpEq J C.n (m2 F C.n C.c) C.n) := hs3; have HB3 : Hid (Below w.heap.size w w3) := HB2.out.trans (hb3.mono HCB.out); have c2 := hx3.fix.c2; clear hx3 he3 hs3 hb3))
 go_ret2
 have ecm : ct (m2 F C.n C.c) C.c = m2 F C.n C.c := funext fun i => funext fun j => ct_m2 F C.n C.c i j
 refine ⟨top, rfl, ?_, ?_, HB3.out⟩
 rotate_left
 ·obtain ⟨N, hN, hA, hS⟩ := HE3.out.ex HX3.out.el
  have h1 := (hS.trans HS3.out).ct C.c
  rw [ecm] at h1
  exact ⟨ct N C.c, p, qlu hN C.c, hA.rdf, h1, hA.ech.lt⟩
 have h1 := (HE3.out.rk HX3.out.el).span (HS3.out.ct C.c)
 exact h1.at (fun i j hi => by
  by_cases hj : j < C.c
  ·rw [qf2 _ i hj]
  ·rw [qeq _ i (by omega), qaf F (by omega)])
theorem grank_ok (w : World) (r c n k : Nat) (a : Option Addr) (F : Nat → Nat) (ha : Mt w a n k F) (R : Rt r c n) : Calls Tryz.prog 98 #[mv r c a n k] w fun e w' => ∃ t : Nat, e = .returned (.tuple #[.int .i64 (t : Int), .int .i64 0]) ∧ Rk (m2 F r c) r t ∧ Below w.heap.size w w' := (grank_x w r c n k a F ha R).mono fun _ _ ⟨t, h1, h2, _, h4⟩ => ⟨t, h1, h2, h4⟩
theorem gred_x (w : World) (r c n k : Nat) (a : Option Addr) (F : Nat → Nat) (ha : Mt w a n k F) (R : Rt r c n) : Calls Tryz.prog 58 #[mv r c a n k] w fun e w' => RedP w w' e r c n F ∧ ∃ s d ps t pd, e = .returned (.tuple #[mv r c s n d, .slice ps t pd, .int .i64 0]) ∧ Frs w' w.heap.size s n d := by
 obtain ⟨wb, HW, HX⟩ : ∃ wb, Hid (wb = (w.alloc (.cells #[.int .i64 (r : Int), .int .i64 (c : Int), .slice a n k] 24)).alloc (.cells #[.int .i64 0, .int .i64 0, .slice none 0 0] 24)) ∧ Hid (Box2 w wb r c n k a) := ⟨_, rfl, box2 w r c n k a⟩
 have HA : Hid (Mt w a n k F) := ha
 have HR : Hid (Rt r c n) := R
 have hr := R.r64
 have hc := R.c64
 have v0 := HX.out.va.c0
 have v1 := HX.out.va.c1
 have v2 := HX.out.va.c2
 have hwb : w.heap.size + 1 < wb.heap.size := HX.out.vr.lt
 clear ha R
 go_enter Tryz.func58, Tryz.ntmps58
 go_wp2_with (first
  | (go_at_call 60; rw [← HW.out]; refine (qaj _ _ _ _ _ _ HR.out.p).mono ?_; rintro e w1 ⟨rfl, hb1⟩; have HB1 : Hid (Below wb.heap.size wb w1) := hb1; have a0 := (HX.out.va.later hb1).c0; have a1 := (HX.out.va.later hb1).c1; have a2 := (HX.out.va.later hb1).c2; clear hb1)
  | (go_at_call 85; refine (qgu _ r c n k a F (HA.out.later (qa0 HX.out.below HB1.out)) HR.out).mono ?_; rintro e w2 ⟨C, rfl, hk2, hx2, e1, rfl, rfl, hm0, hb2⟩; clear hm0; have HK : Hid C.Ok := hk2; have HX2 : Hid (Rst w2 C none 0 0 (fun _ => 0) (m2 F C.n C.c)) := hx2; have HB2 : Hid (Below wb.heap.size wb w2) := qa0 HB1.out hb2; have HCB : Hid (wb.heap.size ≤ C.B) := by { rw [e1]; exact HB1.out.size }; clear hk2 hx2 hb2 e1)
  | (go_at_call 86; refine (qcu _ C _ HK.out HX2.out).mono ?_; rintro e w3 ⟨rfl, ps, pd, top, p, J, hx3, he3, hs3, hb3⟩; have HX3 : Hid (Rst w3 C ps pd top p J) := hx3; have HE3 : Hid (Ech J C.n top C.c p) := he3; have HS3 : Hid (SpEq J C.n (m2 F C.n C.c) C.n) := hs3; have HB3 : Hid (Below wb.heap.size wb w3) := HB2.out.trans (hb3.mono HCB.out); clear hx3 he3 hs3 hb3)
  | (go_at_call 87; refine (qdk _ C ps pd top p J HK.out HX3.out HE3.out).mono ?_; rintro e w4 ⟨rfl, J4, hx4, ha4, hs4, hb4, hq4⟩; clear hq4; have HX4 : Hid (Rst w4 C ps pd top p J4) := hx4; have HA4 : Hid (Asc J4 C.n top C.c p 0) := ha4; have HS4 : Hid (SpEq J4 C.n (m2 F C.n C.c) C.n) := hs4.trans HS3.out; have HB4 : Hid (Below wb.heap.size wb w4) := HB3.out.trans (hb4.mono HCB.out); have c0 := hx4.fix.c0; have c2 := hx4.fix.c2; have b1 := (HX.out.va.later HB4.out).c1; clear hx4 ha4 hs4 hb4))
 have hcb := HCB.out
 have hgb : C.B ≤ C.g := HX4.out.fix.base
 have HD : Hid (w4.cell? ⟨C.g, 0, none⟩ = some (.slice (some ⟨C.gr C.m, 0, none⟩) C.n C.n) ∧ w4.cell? ⟨w.heap.size, 1, none⟩ = some (.int .i64 (C.c : Int)) ∧ w4.cell? ⟨C.g, 2, none⟩ = some (.slice ps top pd)) := ⟨c0, b1, c2⟩


 refine wp_region_held (S := fun w' => w'.cell? ⟨C.g, 0, none⟩ = some (.slice (some ⟨C.gr C.m, 0, none⟩) C.n C.n) ∧ w'.cell? ⟨w.heap.size, 1, none⟩ = some (.int .i64 (C.c : Int)) ∧ w'.cell? ⟨C.g, 2, none⟩ = some (.slice ps top pd)) (by kernel_rfl) ?_
 refine wtkq 0 ?vr0 rfl (by kernel_rfl) (fun _ _ _ h => h) (by rfl) ?yr0 HD.out ?zr0
 case yr0 => (intro w hSw; (try dsimp only at hSw); go_simp; try with_reducible rfl)
 try simp only [mz1, mz3, Act.put, mz4, mz5, mz6]
 refine wtkq 1 ?vr1 rfl (by kernel_rfl) (fun _ _ _ h => h) (by rfl) ?yr1 HD.out ?zr1
 case yr1 => (intro w hSw; (try dsimp only at hSw); go_simp; try with_reducible rfl)
 try simp only [mz1, mz2, mz3, Act.put, mz4, mz5, mz6]
 refine wtkq 2 ?vr2 rfl (by kernel_rfl) (fun _ _ _ h => h) (by rfl) ?yr2 HD.out ?zr2
 case yr2 => (intro w hSw; (try dsimp only at hSw); go_simp; try with_reducible rfl)
 try simp only [mz1, mz2, mz3, Act.put, mz4, mz5, mz6]
 refine wtkq 3 ?vr3 rfl (by kernel_rfl) (fun _ _ _ h => h) (by rfl) ?yr3 HD.out ?zr3
 case yr3 => (intro w hSw; (try dsimp only at hSw); go_simp; try with_reducible rfl)
 try simp only [mz1, mz2, mz3, Act.put, mz4, mz5, mz6]
 refine wtkq 4 ?vr4 rfl (by kernel_rfl) (fun _ _ _ h => h) (by rfl) ?yr4 HD.out ?zr4
 case yr4 => (intro w hSw; (try dsimp only at hSw); go_simp; try with_reducible rfl)
 try simp only [mz1, mz2, mz3, Act.put, mz4, mz5, mz6]
 refine wtkq 5 ?vr5 rfl (by kernel_rfl) (fun _ _ _ h => h) (by rfl) ?yr5 HD.out ?zr5
 case yr5 => (intro w hSw; (try dsimp only at hSw); go_simp; try with_reducible rfl)
 try simp only [mz1, mz2, mz3, Act.put, mz4, mz5, mz6]
 refine wtkq 7 ?vr7 rfl (by kernel_rfl) (fun _ _ _ h => h) (by rfl) ?yr7 HD.out ?zr7
 case yr7 => (intro w hSw; (try dsimp only at hSw); go_simp; try with_reducible rfl)
 try simp only [mz1, mz2, mz3, Act.put, mz4, mz5, mz6]
 refine wtkq 8 ?vr8 rfl (by kernel_rfl) (fun _ _ _ h => h) (by rfl) ?yr8 HD.out ?zr8
 case yr8 => (intro w hSw; (try dsimp only at hSw); go_simp; try with_reducible rfl)
 try simp only [mz1, mz2, mz3, Act.put, mz4, mz5, mz6]
 refine wtkq 9 ?vr9 rfl (by kernel_rfl) (fun _ _ _ h => h) (by rfl) ?yr9 HD.out ?zr9
 case yr9 => (intro w hSw; (try dsimp only at hSw); go_simp; try with_reducible rfl)
 try simp only [mz1, mz2, mz3, Act.put, mz4, mz5, mz6]
 refine wtkq 10 ?vr10 rfl (by kernel_rfl) (fun _ _ _ h => h) (by rfl) ?yr10 HD.out ?zr10
 case yr10 => (intro w hSw; (try dsimp only at hSw); go_simp; try with_reducible rfl)
 try simp only [mz1, mz2, mz3, Act.put, mz4, mz5, mz6]
 refine wpAnyH_ready (rs := [6]) (by kernel_rfl) (by simp) ?_
 refine AllReadyH.cons rfl (fun K hK => ?_) AllReadyH.nil
 go_simp
 refine (ofr_n _ _ C.n C.n C.c n J4 ((HX4.out.later (Below.refl _ _).drew).rows HK.out) (Nat.le_refl _) hr hc HR.out.len).mono ?_
 rintro e w5 ⟨s, d, G, rfl, hm5, hG5, hf5, hb0⟩
 have hb5 := undrew hb0
 have HB5 : Hid (Below wb.heap.size wb w5) := qa0 HB4.out hb5
 have HX5 : Hid (Rst w5 C ps pd top p J4) := HX4.out.later hb5
 have HM5 : Hid (Mt w5 s n d G) := hm5
 have HG5 : Hid (∀ i l, i < C.n → l < C.c → G (i * C.c + l) = J4 i l) := hG5
 have HF5 : Hid (Frs w5 wb.heap.size s n d) := Frs.mono hf5 HB4.out.size
 have HV5 : Hid (Vr w5 (w.heap.size + 1) (.int .i64 0) (.int .i64 0) (.slice none 0 0)) := HX.out.vr.later HB5.out
 have HD1 : Hid (w5.cell? ⟨C.g, 0, none⟩ = some (.slice (some ⟨C.gr C.m, 0, none⟩) C.n C.n) ∧ w5.cell? ⟨w.heap.size, 1, none⟩ = some (.int .i64 (C.c : Int)) ∧ w5.cell? ⟨C.g, 2, none⟩ = some (.slice ps top pd)) := ⟨qah hb5 c0, qah hb5 b1, qah hb5 c2⟩
 clear hm5 hG5 hf5 hb0 hb5
 refine hK.out _ _ HD1.out (fun _ => ?_)
 clear hK K
 try simp only [mz1, mz2, mz3, Act.put, mz4, mz5, mz6]
 refine wpAnyH_ready (rs := [11]) (by kernel_rfl) (by simp) ?_
 refine AllReadyH.cons rfl (fun K hK => ?_) AllReadyH.nil
 refine qaq rfl _ _ rfl (w.heap.size + 1) _ _ _ (.int .i64 (C.n : Int)) (.int .i64 (C.c : Int)) (.slice s n d) rfl rfl HV5.out rfl rfl rfl ?_
 intro w6 HV6 HG6
 have HD2 : Hid (w6.cell? ⟨C.g, 0, none⟩ = some (.slice (some ⟨C.gr C.m, 0, none⟩) C.n C.n) ∧ w6.cell? ⟨w.heap.size, 1, none⟩ = some (.int .i64 (C.c : Int)) ∧ w6.cell? ⟨C.g, 2, none⟩ = some (.slice ps top pd)) := ⟨qff HG6.out HD1.out.1 (by omega), qff HG6.out HD1.out.2.1 (by omega), qff HG6.out HD1.out.2.2 (by omega)⟩
 refine hK.out _ _ HD2.out (fun _ => ?_)
 clear hK K
 try simp only [mz1, mz2, mz3, Act.put]
 refine wtkq 12 ?vr12 rfl (by kernel_rfl) (fun _ _ _ h => h) (by rfl) ?yr12 HD2.out ?zr12
 case yr12 => (intro w hSw; (try dsimp only at hSw); go_simp; try with_reducible rfl)
 try simp only [mz1, mz2, mz3, Act.put, mz4, mz5, mz6]
 refine wtkq 13 ?vr13 rfl (by kernel_rfl) (fun _ _ _ h => h) (by rfl) ?yr13 HD2.out ?zr13
 case yr13 => (intro w hSw; (try dsimp only at hSw); go_simp; try with_reducible rfl)
 try simp only [mz1, mz2, mz3, Act.put, mz4, mz5, mz6]
 refine wpAnyH_done (by kernel_rfl) ?_ _
 go_wp2
 have d0 := HV6.out.c0
 have d1 := HV6.out.c1
 have d2 := HV6.out.c2
 refine bodyPost_ret (v := .tuple #[mv C.n C.c s n d, .slice ps top pd, .int .i64 0]) (by simp [results, Tryz.results58, go_sem, d0, d1, d2, mv]) rfl ?_
 have hch : Chg w5 w6 (fun b => b = w.heap.size + 1) := Chg.of_grown HG6.out rfl
 obtain ⟨h1, h2⟩ := red_fin HA4.out HS4.out HG5.out
 have hf := (HF5.out.kept HG6.out (by omega)).mono (B' := w.heap.size) (by omega)
 exact ⟨⟨s, d, ps, pd, top, p, G, rfl, HM5.out.kept HG6.out (fun _ => HF5.out.off (by omega)), HX5.out.fix.piv.il.chg hch (HX5.out.fix.piv.off (by omega)), h1, h2, HA4.out.ech.lt, qa9 (qa0 HX.out.below HB5.out) HG6.out (by omega)⟩, s, d, ps, top, pd, rfl, hf⟩
theorem qm3 (w : World) (r c n k : Nat) (a : Option Addr) (F : Nat → Nat) (ha : Mt w a n k F) (R : Rt r c n) : Calls Tryz.prog 58 #[mv r c a n k] w fun e w' => RedP w w' e r c n F := (gred_x w r c n k a F ha R).mono fun _ _ h => h.1
end Go.Proofs.YtblagbghpfopcaaGreat
