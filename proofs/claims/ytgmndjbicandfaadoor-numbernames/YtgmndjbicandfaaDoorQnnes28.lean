/-
  Stage 12: the reference's put.
-/
import Derived.Test.YtgmndjbicandfaaDoorQnnes00
import Derived.Test.YtgmndjbicandfaaDoorQnnes27
set_option maxRecDepth 100000
set_option maxHeartbeats 16000000
namespace Go.Proofs.YtgmndjbicandfaaDoor
open Go.RowKit
/-- One expression more at an own list's end, in a drawn region. -/
theorem qar {ops : Array Oper} {op : Oper} {a : Act} {w : World} {K : Act → World → Prop} {Q : Exit → Act → World → Prop} {E : Prop} (hgd : op.guard = none) (sl x : Operand) (ho : op.op = .call { callee := .builtin .append, args := #[sl, x], argTypes := #[23, 23] })
  (B : Nat) (v : Value) (n : Nat) (xs : List Value) (hs : a.eval sl = v) (hown : w.ownsRow B 25 6 v n xs) (ad : Addr) (news : List Value) (hx : a.eval x = .slice (some ad) 1 1) (hl : news.length = 6) (hnews : ∀ j u, news[j]? = some u → w.cell? (ad.add j) = some u) (h1 : ∀ u ∈ news, u.oneCell' = true) (hn : n ≤ 1000) (hB : B ≤ w.heap.size)
  (h : ∀ v' w', w'.ownsRow B 25 6 v' (n + 1) (xs ++ news) → w.grownBy w' v.ownBlock → (v'.ownBlock = v.ownBlock ∨ v'.ownBlock = some w.heap.size) → K (a.put op.dst v') w') : if Region.wanted op (yielded ops a.tmps) = true then Oper.wp Tryd.prog op a w K Q else E := by
 obtain ⟨i0, hi0, hz0, hz1, hz2⟩ := info_parts qca
 have hw : Region.wanted op (yielded ops a.tmps) = true := by simp [Region.wanted, hgd]
 rw [if_pos hw]
 obtain ⟨v', w', hrun, r1, r2, _, r4⟩ := run_append_own_at (P := Tryd.prog) w B 23 op.type 25 i0 (.agg #[.int .u8 0, .int .i64 0, .string ⟨#[]⟩, .slice none 0 0, .int .i64 0, .int .i64 0]) 6 72 Tryd.underlying23 hi0 hz0 hz1 hz2 rfl (by decide) v n xs hown ad 1 1 news (by omega) hnews h1 (by unfold maxLen; omega) (by omega) hB
 unfold Oper.wp
 simp [execOp, ho, resolve, invoke, builtin, hs, hx, hrun, Result.andThen]
 exact h v' w' r1 r2 r4
theorem rput_hit (s : ByteArray) (yk ylen ycap : Nat) (yn yln ycl : Int) (ynm : ByteArray) (ya : Option Addr) (w : World) (k len cap : Nat) (n ln cl : Int) (nm : ByteArray) (a : Option Addr) (hk : k = 2) (hs : sbq nm s = true) : Calls Tryd.prog 34 #[.agg #[.int .u8 (k : Int), .int .i64 n, .string nm, .slice a len cap, .int .i64 ln, .int .i64 cl], .string s, .agg #[.int .u8 (yk : Int), .int .i64 yn, .string ynm, .slice ya ylen ycap, .int .i64 yln, .int .i64 ycl]] w fun e w' => e = .returned (.agg #[.int .u8 (yk : Int), .int .i64 yn, .string ynm, .slice ya ylen ycap, .int .i64 yln, .int .i64 ycl]) ∧ Below w.heap.size w w' := by
 subst hk
 have hs : (nm.toList == s.toList) = true := hs
 have H1 := qa0 (Vn.new w 25 #[.int .u8 ((2 : Nat) : Int), .int .i64 n, .string nm, .slice a len cap, .int .i64 ln, .int .i64 cl])
 have H2 := qa0 (Vn.new (w.alloc (.cells #[.int .u8 ((2 : Nat) : Int), .int .i64 n, .string nm, .slice a len cap, .int .i64 ln, .int .i64 cl] 25)) 25 #[.int .u8 (yk : Int), .int .i64 yn, .string ynm, .slice ya ylen ycap, .int .i64 yln, .int .i64 ycl])
 have H4 := qa0 (Vn.new ((w.alloc (.cells #[.int .u8 ((2 : Nat) : Int), .int .i64 n, .string nm, .slice a len cap, .int .i64 ln, .int .i64 cl] 25)).alloc (.cells #[.int .u8 (yk : Int), .int .i64 yn, .string ynm, .slice ya ylen ycap, .int .i64 yln, .int .i64 ycl] 25)) 25 #[.int .u8 0, .int .i64 0, .string ⟨#[]⟩, .slice none 0 0, .int .i64 0, .int .i64 0])
 have B1 := qa0 (jlow w (.cells #[.int .u8 ((2 : Nat) : Int), .int .i64 n, .string nm, .slice a len cap, .int .i64 ln, .int .i64 cl] 25))
 have B2 := qa0 (jtwo B1.out (jlow _ (.cells #[.int .u8 (yk : Int), .int .i64 yn, .string ynm, .slice ya ylen ycap, .int .i64 yln, .int .i64 ycl] 25)))
 have HB := qa0 (jtwo B2.out (jlow _ (.cells #[.int .u8 0, .int .i64 0, .string ⟨#[]⟩, .slice none 0 0, .int .i64 0, .int .i64 0] 25)))
 have HX := qa0 ((H1.out.later (jlow _ (.cells #[.int .u8 (yk : Int), .int .i64 yn, .string ynm, .slice ya ylen ycap, .int .i64 yln, .int .i64 ycl] 25))).later (jlow _ (.cells #[.int .u8 0, .int .i64 0, .string ⟨#[]⟩, .slice none 0 0, .int .i64 0, .int .i64 0] 25)))
 have HY := qa0 (H2.out.later (jlow _ (.cells #[.int .u8 0, .int .i64 0, .string ⟨#[]⟩, .slice none 0 0, .int .i64 0, .int .i64 0] 25)))
 rw [qa2] at HY
 rw [qa2, qa2] at H4
 clear H1 H2 B1 B2
 have c0 := HX.out.cell 0 _ rfl
 have c1 := HX.out.cell 1 _ rfl
 have c2 := HX.out.cell 2 _ rfl
 have c3 := HX.out.cell 3 _ rfl
 have c4 := HX.out.cell 4 _ rfl
 have c5 := HX.out.cell 5 _ rfl
 have e0 := HY.out.cell 0 _ rfl
 have e1 := HY.out.cell 1 _ rfl
 have e2 := HY.out.cell 2 _ rfl
 have e3 := HY.out.cell 3 _ rfl
 have e4 := HY.out.cell 4 _ rfl
 have e5 := HY.out.cell 5 _ rfl
 go_enter Tryd.func34, Tryd.ntmps34
 go_wp2_with (refine qa1 rfl 25 _ _ rfl (w.heap.size + 2) _ #[.int .u8 (yk : Int), .int .i64 yn, .string ynm, .slice ya ylen ycap, .int .i64 yln, .int .i64 ycl] rfl rfl H4.out sizeX rfl (all6 rfl rfl rfl rfl rfl rfl) ?_; intro w8 HV8 hg8)
 have d0 := HV8.out.cell 0 _ rfl
 have d1 := HV8.out.cell 1 _ rfl
 have d2 := HV8.out.cell 2 _ rfl
 have d3 := HV8.out.cell 3 _ rfl
 have d4 := HV8.out.cell 4 _ rfl
 have d5 := HV8.out.cell 5 _ rfl
 refine bodyPost_ret (v := .agg #[.int .u8 (yk : Int), .int .i64 yn, .string ynm, .slice ya ylen ycap, .int .i64 yln, .int .i64 ycl]) (by simp [results, Tryd.results34, go_sem, d0, d1, d2, d3, d4, d5]) rfl ?_
 exact ⟨rfl, HB.out.trans (jbelow hg8.out HB.out.size (fun g e => by cases e; omega))⟩
theorem rput_noA (s : ByteArray) (w0 w : World) (s0 : Nat) (hs0 : s0 ≤ w.heap.size) (yk ylen ycap : Nat) (yn yln ycl : Int) (ynm : ByteArray) (ya : Option Addr) (k len cap : Nat) (n ln cl : Int) (nm : ByteArray) (a : Option Addr) (T : Xt) (F : Nat → Xt) (hl : len ≤ 2) (hq : ((k : Int) == 2) = false) (hXl : ∀ d, XL d w0 a len (kid T)) (hb0 : Below w0.heap.size w0 w)
  (hC : ∀ i, i < len → ∀ (w1 : World) (v1 : Value), XV w0 v1 (kid T i) → Below w.heap.size w w1 → Calls Tryd.prog 34 #[v1, .string s, .agg #[.int .u8 (yk : Int), .int .i64 yn, .string ynm, .slice ya ylen ycap, .int .i64 yln, .int .i64 ycl]] w1 fun e w2 => (∃ v', e = .returned v' ∧ StX s0 w1.heap.size w2 v' (F i)) ∧ Below w1.heap.size w1 w2) :
  Calls Tryd.prog 34 #[.agg #[.int .u8 (k : Int), .int .i64 n, .string nm, .slice a len cap, .int .i64 ln, .int .i64 cl], .string s, .agg #[.int .u8 (yk : Int), .int .i64 yn, .string ynm, .slice ya ylen ycap, .int .i64 yln, .int .i64 ycl]] w fun e w' => (∃ (a2 : Option Addr) (cap2 : Nat), e = .returned (.agg #[.int .u8 (k : Int), .int .i64 n, .string nm, .slice a2 len cap2, .int .i64 ln, .int .i64 cl]) ∧ ∀ u, AgT s0 w.heap.size w' u → ∀ d, XL d u a2 len F) ∧ Below w.heap.size w w' := by
 have HXl := qa0 hXl
 have HCa := qa0 hC
 have HB0 := qa0 hb0
 clear hXl hC hb0
 obtain ⟨i0, hi0, hz0, hz1, hz2⟩ := info_parts qca
 have H1 := qa0 (Vn.new w 25 #[.int .u8 (k : Int), .int .i64 n, .string nm, .slice a len cap, .int .i64 ln, .int .i64 cl])
 have H2 := qa0 (Vn.new (w.alloc (.cells #[.int .u8 (k : Int), .int .i64 n, .string nm, .slice a len cap, .int .i64 ln, .int .i64 cl] 25)) 25 #[.int .u8 (yk : Int), .int .i64 yn, .string ynm, .slice ya ylen ycap, .int .i64 yln, .int .i64 ycl])
 have H4 := qa0 (Vn.new ((w.alloc (.cells #[.int .u8 (k : Int), .int .i64 n, .string nm, .slice a len cap, .int .i64 ln, .int .i64 cl] 25)).alloc (.cells #[.int .u8 (yk : Int), .int .i64 yn, .string ynm, .slice ya ylen ycap, .int .i64 yln, .int .i64 ycl] 25)) 25 #[.int .u8 0, .int .i64 0, .string ⟨#[]⟩, .slice none 0 0, .int .i64 0, .int .i64 0])
 have B1 := qa0 (jlow w (.cells #[.int .u8 (k : Int), .int .i64 n, .string nm, .slice a len cap, .int .i64 ln, .int .i64 cl] 25))
 have B2 := qa0 (jtwo B1.out (jlow _ (.cells #[.int .u8 (yk : Int), .int .i64 yn, .string ynm, .slice ya ylen ycap, .int .i64 yln, .int .i64 ycl] 25)))
 have HB := qa0 (jtwo B2.out (jlow _ (.cells #[.int .u8 0, .int .i64 0, .string ⟨#[]⟩, .slice none 0 0, .int .i64 0, .int .i64 0] 25)))
 have HX := qa0 ((H1.out.later (jlow _ (.cells #[.int .u8 (yk : Int), .int .i64 yn, .string ynm, .slice ya ylen ycap, .int .i64 yln, .int .i64 ycl] 25))).later (jlow _ (.cells #[.int .u8 0, .int .i64 0, .string ⟨#[]⟩, .slice none 0 0, .int .i64 0, .int .i64 0] 25)))
 have HY := qa0 (H2.out.later (jlow _ (.cells #[.int .u8 0, .int .i64 0, .string ⟨#[]⟩, .slice none 0 0, .int .i64 0, .int .i64 0] 25)))
 rw [qa2] at HY
 rw [qa2, qa2] at H4
 clear H1 H2 B1 B2
 have c0 := HX.out.cell 0 _ rfl
 have c1 := HX.out.cell 1 _ rfl
 have c2 := HX.out.cell 2 _ rfl
 have c3 := HX.out.cell 3 _ rfl
 have c4 := HX.out.cell 4 _ rfl
 have c5 := HX.out.cell 5 _ rfl
 have e0 := HY.out.cell 0 _ rfl
 have e1 := HY.out.cell 1 _ rfl
 have e2 := HY.out.cell 2 _ rfl
 have e3 := HY.out.cell 3 _ rfl
 have e4 := HY.out.cell 4 _ rfl
 have e5 := HY.out.cell 5 _ rfl
 go_enter Tryd.func34, Tryd.ntmps34
 go_wp2
 go_loopw [7, 8] (fun vp vi wr => ∃ (i : Nat) (cs : List Value), i ≤ len ∧ vi = .int .i64 (i : Int) ∧ Hid (wr.ownsRow (w.heap.size + 3) 25 6 vp i cs) ∧ Hid (∀ j, j < i → StC s0 (w.heap.size + 3) vp.ownBlock wr (seg6 cs j) (F j)) ∧ Hid (Vn wr w.heap.size 25 #[.int .u8 (k : Int), .int .i64 n, .string nm, .slice a len cap, .int .i64 ln, .int .i64 cl]) ∧ Hid (Vn wr (w.heap.size + 1) 25 #[.int .u8 (yk : Int), .int .i64 yn, .string ynm, .slice ya ylen ycap, .int .i64 yln, .int .i64 ycl]) ∧ Hid (Vn wr (w.heap.size + 1 + 1) 25 #[.int .u8 0, .int .i64 0, .string ⟨#[]⟩, .slice none 0 0, .int .i64 0, .int .i64 0]) ∧ Below w.heap.size w wr) (fun _ vi _ => len - (intOf vi).toNat)
 case atStart => exact ⟨0, [], by omega, rfl, World.ownsRow_nil _ _ _ _, fun j hj => by omega, HX, HY, H4, HB.out⟩
 case round =>
  clear HX HY H4 HB c0 c1 c2 c3 c4 c5 e0 e1 e2 e3 e4 e5
  obtain ⟨i, cs, hi, rfl, HO, HS, HX, HY, HV, hb⟩ := hrel
  have HB := qa0 hb
  have hsz1 := HV.out.lt
  have c3 := HX.out.cell 3 _ rfl
  by_cases hlt : i < len
  ·have p0 : (0 : Int) ≤ (i : Int) := by omega
   have p1 : (i : Int) < (len : Int) := by omega
   obtain ⟨bk, okk, kk, nl, nn, ll, cc, nx, ka, kc, rfl, hkid, hcl⟩ := XL.at_ HXl.out (i := i) hlt
   have HKc := qa0 (fun wq (hbq : Below w.heap.size w wq) => hcl wq (jtwo HB0.out hbq))
   have HC : Hid (∀ w1 : World, Below w.heap.size w w1 → Calls Tryd.prog 34 #[.agg #[.int .u8 (kk : Int), .int .i64 nn, .string nx, .slice ka nl kc, .int .i64 ll, .int .i64 cc], .string s, .agg #[.int .u8 (yk : Int), .int .i64 yn, .string ynm, .slice ya ylen ycap, .int .i64 yln, .int .i64 ycl]] w1 fun e w2 => (∃ v', e = .returned v' ∧ StX s0 w1.heap.size w2 v' (F i)) ∧ Below w1.heap.size w1 w2) := fun w1 hb1 => HCa.out i hlt w1 _ hkid hb1
   clear hkid hb hcl
   go_wp2
   refine wp_region_held (S := fun w' => Below w.heap.size w w' ∧ Vn w' w.heap.size 25 #[.int .u8 (k : Int), .int .i64 n, .string nm, .slice (some ⟨bk, okk, none⟩) len cap, .int .i64 ln, .int .i64 cl] ∧ Vn w' (w.heap.size + 1) 25 #[.int .u8 (yk : Int), .int .i64 yn, .string ynm, .slice ya ylen ycap, .int .i64 yln, .int .i64 ycl]) (by kernel_rfl) ?_
   change wpAnyH _ _ _ _ _ _ _ _ (World.drew _)
   obtain ⟨W0, HW0⟩ : ∃ W0, Hid (wr.drew = W0) := ⟨_, rfl⟩
   have bl0 : Below wr.heap.size wr W0 := by rw [← HW0.out]; exact (Below.refl _ _).drew
   have hz0w : W0.heap.size = wr.heap.size := by rw [← HW0.out]; rfl
   rw [HW0.out]
   clear HW0
   have hX0 := HX.out.later bl0
   have hY0 := HY.out.later bl0
   have hV0 := HV.out.later bl0
   have hb0 := jtwo HB.out bl0
   have hO0 := HO.out.kept (jgrown.mpr bl0) (own_ne _)
   have hS0 := fun j hj => (HS.out j hj).later bl0
   refine wtkq 0 ?vt0_1 rfl (by kernel_rfl) (fun _ _ _ h => h) (by rfl) ?yt0_1 ⟨hb0, hX0, hY0⟩ ?zt0_1
   case yt0_1 => (intro wq hSw; obtain ⟨hbq, hxq, hyq⟩ := hSw; obtain ⟨k0, k1, k2, k3, k4, k5⟩ := HKc.out wq hbq; have r3 := hxq.cell 3 _ rfl; have q0 := hyq.cell 0 _ rfl; have q1 := hyq.cell 1 _ rfl; have q2 := hyq.cell 2 _ rfl; have q3 := hyq.cell 3 _ rfl; have q4 := hyq.cell 4 _ rfl; have q5 := hyq.cell 5 _ rfl; clear hxq hyq; go_simp; try with_reducible rfl)
   try simp only [mz1, mz3, Act.put, mz4, mz5, mz6]
   refine wtkq 1 ?vt1_2 rfl (by kernel_rfl) (fun _ _ _ h => h) (by rfl) ?yt1_2 ⟨hb0, hX0, hY0⟩ ?zt1_2
   case yt1_2 => (intro wq hSw; obtain ⟨hbq, hxq, hyq⟩ := hSw; obtain ⟨k0, k1, k2, k3, k4, k5⟩ := HKc.out wq hbq; have r3 := hxq.cell 3 _ rfl; have q0 := hyq.cell 0 _ rfl; have q1 := hyq.cell 1 _ rfl; have q2 := hyq.cell 2 _ rfl; have q3 := hyq.cell 3 _ rfl; have q4 := hyq.cell 4 _ rfl; have q5 := hyq.cell 5 _ rfl; clear hxq hyq; go_simp; try with_reducible rfl)
   try simp only [mz1, mz2, mz3, Act.put, mz4, mz5, mz6]
   refine wtkq 2 ?vt2_3 rfl (by kernel_rfl) (fun _ _ _ h => h) (by rfl) ?yt2_3 ⟨hb0, hX0, hY0⟩ ?zt2_3
   case yt2_3 => (intro wq hSw; obtain ⟨hbq, hxq, hyq⟩ := hSw; obtain ⟨k0, k1, k2, k3, k4, k5⟩ := HKc.out wq hbq; have r3 := hxq.cell 3 _ rfl; have q0 := hyq.cell 0 _ rfl; have q1 := hyq.cell 1 _ rfl; have q2 := hyq.cell 2 _ rfl; have q3 := hyq.cell 3 _ rfl; have q4 := hyq.cell 4 _ rfl; have q5 := hyq.cell 5 _ rfl; clear hxq hyq; go_simp; try with_reducible rfl)
   try simp only [mz1, mz2, mz3, Act.put, mz4, mz5, mz6]
   refine wtkq 3 ?vt3_4 rfl (by kernel_rfl) (fun _ _ _ h => h) (by rfl) ?yt3_4 ⟨hb0, hX0, hY0⟩ ?zt3_4
   case yt3_4 => (intro wq hSw; obtain ⟨hbq, hxq, hyq⟩ := hSw; obtain ⟨k0, k1, k2, k3, k4, k5⟩ := HKc.out wq hbq; have r3 := hxq.cell 3 _ rfl; have q0 := hyq.cell 0 _ rfl; have q1 := hyq.cell 1 _ rfl; have q2 := hyq.cell 2 _ rfl; have q3 := hyq.cell 3 _ rfl; have q4 := hyq.cell 4 _ rfl; have q5 := hyq.cell 5 _ rfl; clear hxq hyq; go_simp; try with_reducible rfl)
   try simp only [mz1, mz2, mz3, Act.put, mz4, mz5, mz6]
   refine wtkq 4 ?vt4_5 rfl (by kernel_rfl) (fun _ _ _ h => h) (by rfl) ?yt4_5 ⟨hb0, hX0, hY0⟩ ?zt4_5
   case yt4_5 => (intro wq hSw; obtain ⟨hbq, hxq, hyq⟩ := hSw; obtain ⟨k0, k1, k2, k3, k4, k5⟩ := HKc.out wq hbq; have r3 := hxq.cell 3 _ rfl; have q0 := hyq.cell 0 _ rfl; have q1 := hyq.cell 1 _ rfl; have q2 := hyq.cell 2 _ rfl; have q3 := hyq.cell 3 _ rfl; have q4 := hyq.cell 4 _ rfl; have q5 := hyq.cell 5 _ rfl; clear hxq hyq; go_simp; try with_reducible rfl)
   try simp only [mz1, mz2, mz3, Act.put, mz4, mz5, mz6]
   refine wtkq 5 ?vt5_6 rfl (by kernel_rfl) (fun _ _ _ h => h) (by rfl) ?yt5_6 ⟨hb0, hX0, hY0⟩ ?zt5_6
   case yt5_6 => (intro wq hSw; obtain ⟨hbq, hxq, hyq⟩ := hSw; obtain ⟨k0, k1, k2, k3, k4, k5⟩ := HKc.out wq hbq; have r3 := hxq.cell 3 _ rfl; have q0 := hyq.cell 0 _ rfl; have q1 := hyq.cell 1 _ rfl; have q2 := hyq.cell 2 _ rfl; have q3 := hyq.cell 3 _ rfl; have q4 := hyq.cell 4 _ rfl; have q5 := hyq.cell 5 _ rfl; clear hxq hyq; go_simp; try with_reducible rfl)
   try simp only [mz1, mz2, mz3, Act.put, mz4, mz5, mz6]
   refine wtkq 6 ?vt6_7 rfl (by kernel_rfl) (fun _ _ _ h => h) (by rfl) ?yt6_7 ⟨hb0, hX0, hY0⟩ ?zt6_7
   case yt6_7 => (intro wq hSw; obtain ⟨hbq, hxq, hyq⟩ := hSw; obtain ⟨k0, k1, k2, k3, k4, k5⟩ := HKc.out wq hbq; have r3 := hxq.cell 3 _ rfl; have q0 := hyq.cell 0 _ rfl; have q1 := hyq.cell 1 _ rfl; have q2 := hyq.cell 2 _ rfl; have q3 := hyq.cell 3 _ rfl; have q4 := hyq.cell 4 _ rfl; have q5 := hyq.cell 5 _ rfl; clear hxq hyq; go_simp; try with_reducible rfl)
   try simp only [mz1, mz2, mz3, Act.put, mz4, mz5, mz6]
   refine wtkq 7 ?vt7_8 rfl (by kernel_rfl) (fun _ _ _ h => h) (by rfl) ?yt7_8 ⟨hb0, hX0, hY0⟩ ?zt7_8
   case yt7_8 => (intro wq hSw; obtain ⟨hbq, hxq, hyq⟩ := hSw; obtain ⟨k0, k1, k2, k3, k4, k5⟩ := HKc.out wq hbq; have r3 := hxq.cell 3 _ rfl; have q0 := hyq.cell 0 _ rfl; have q1 := hyq.cell 1 _ rfl; have q2 := hyq.cell 2 _ rfl; have q3 := hyq.cell 3 _ rfl; have q4 := hyq.cell 4 _ rfl; have q5 := hyq.cell 5 _ rfl; clear hxq hyq; go_simp; try with_reducible rfl)
   try simp only [mz1, mz2, mz3, Act.put, mz4, mz5, mz6]
   refine wpAnyH_ready (rs := [8]) (by kernel_rfl) (by simp) ?_
   refine AllReadyH.cons rfl (fun KK hKK => ?_) AllReadyH.nil
   go_simp
   refine (HC.out W0 hb0).mono ?_
   rintro e w2 ⟨⟨v', rfl, hst⟩, hb2⟩
   obtain ⟨⟨ra, rcap, rfl, _⟩, _⟩ := hst.now
   have hz2w := hb2.size
   have hB2 := jtwo hb0 hb2
   refine hKK.out _ _ ⟨hB2, hX0.later hb2, hY0.later hb2⟩ (fun _ => ?_)
   clear hKK KK
   try simp only [mz1, mz2, mz3, Act.put, mz4, mz5, mz6]
   refine wpAnyH_ready (rs := [9]) (by kernel_rfl) (by simp) ?_
   refine AllReadyH.cons rfl (fun KK hKK => ?_) AllReadyH.nil
   go_simp
   obtain ⟨W3, HW3⟩ : ∃ W, Hid (w2.alloc (.cells (List.toArray [.int .u8 ((F i []).k : Int), .int .i64 (F i []).n, .string (F i []).nm, .slice ra (F i []).len rcap, .int .i64 (F i []).ln, .int .i64 (F i []).cl]) 25) = W) := ⟨_, rfl⟩
   have hb3 : Below w2.heap.size w2 W3 := by rw [← HW3.out]; exact jlow _ _
   have hz3w : W3.heap.size = w2.heap.size + 1 := by rw [← HW3.out]; exact qa2 _ _
   have hnw : ∀ j u, ([.int .u8 ((F i []).k : Int), .int .i64 (F i []).n, .string (F i []).nm, .slice ra (F i []).len rcap, .int .i64 (F i []).ln, .int .i64 (F i []).cl] : List Value)[j]? = some u → W3.cell? ((⟨w2.heap.size, 0, none⟩ : Addr).add j) = some u := by rw [← HW3.out]; exact qam _ _ _
   rw [HW3.out]
   have hB3 := jtwo hB2 hb3
   have hL3 := jtwo hb2 hb3
   refine hKK.out _ _ ⟨hB3, hX0.later hL3, hY0.later hL3⟩ (fun _ => ?_)
   clear hKK KK
   try simp only [mz1, mz2, mz3, Act.put, mz4, mz5, mz6]
   refine wpAnyH_ready (rs := [10]) (by kernel_rfl) (by simp) ?_
   refine AllReadyH.cons rfl (fun KK hKK => ?_) AllReadyH.nil
   refine qar rfl _ _ rfl (w.heap.size + 3) _ i cs rfl (hO0.kept (jgrown.mpr hL3) (own_ne _)) ⟨w2.heap.size, 0, none⟩ [.int .u8 ((F i []).k : Int), .int .i64 (F i []).n, .string (F i []).nm, .slice ra (F i []).len rcap, .int .i64 (F i []).ln, .int .i64 (F i []).cl] rfl rfl hnw (qbv rfl rfl rfl rfl rfl rfl) (by omega) (by omega) ?_
   intro v3 w3 hO3 hg3 hl3
   have hbase := HO.out.lt
   have hne : ∀ g : Nat, g < w.heap.size + 3 → some g ≠ Value.ownBlock _ := fun g hg e => by have := (hbase g e.symm).1; omega
   have hX4 := (hX0.later hL3).kept12 hg3 (hne _ (by omega))
   have hY4 := (hY0.later hL3).kept12 hg3 (hne _ (by omega))
   have hV4 := (hV0.later hL3).kept12 hg3 (hne _ (by omega))
   have hB4 := hB3.trans (jbelow hg3 hB3.size (fun g e => by have := (hbase g e).1; omega))
   have HS4 : Hid (∀ j, j < i + 1 → StC s0 (w.heap.size + 3) v3.ownBlock w3 (seg6 (cs ++ [.int .u8 ((F i []).k : Int), .int .i64 (F i []).n, .string (F i []).nm, .slice ra (F i []).len rcap, .int .i64 (F i []).ln, .int .i64 (F i []).cl]) j) (F j)) := fun j hj => by
    by_cases e : j = i
    ·subst e
     rw [qba HO.out.1 rfl]
     exact ((hst.later hb3).cells (cs := List.toArray [.int .u8 ((F j []).k : Int), .int .i64 (F j []).n, .string (F j []).nm, .slice ra (F j []).len rcap, .int .i64 (F j []).ln, .int .i64 (F j []).cl]) (t := w.heap.size + 3) (by omega) (fun x hx => by have := hbase x hx; omega)).app hg3 hl3
    ·rw [qb9 HO.out.1 (by omega)]
     exact ((hS0 j (by omega)).later hL3).app hg3 hl3
   have HO4 := qa0 hO3
   have HX4 := qa0 hX4
   have HY4 := qa0 hY4
   have HV4 := qa0 hV4
   have HB4 := qa0 hB4
   refine hKK.out _ _ ⟨hB4, hX4, hY4⟩ (fun _ => ?_)
   clear hKK KK
   try simp only [mz1, mz2, mz3, Act.put, mz4, mz5, mz6]
   refine wtkq 11 ?vt11_9 rfl (by kernel_rfl) (fun _ _ _ h => h) (by rfl) ?yt11_9 ⟨HB4.out, HX4.out, HY4.out⟩ ?zt11_9
   case yt11_9 => (intro wq hSw; obtain ⟨hbq, hxq, hyq⟩ := hSw; obtain ⟨k0, k1, k2, k3, k4, k5⟩ := HKc.out wq hbq; have r3 := hxq.cell 3 _ rfl; have q0 := hyq.cell 0 _ rfl; have q1 := hyq.cell 1 _ rfl; have q2 := hyq.cell 2 _ rfl; have q3 := hyq.cell 3 _ rfl; have q4 := hyq.cell 4 _ rfl; have q5 := hyq.cell 5 _ rfl; clear hxq hyq; go_simp; try with_reducible rfl)
   try simp only [mz1, mz2, mz3, Act.put, mz4, mz5, mz6]
   refine wpAnyH_done (by kernel_rfl) ?_ _
   try simp only [mz1, mz2, mz3, Act.put, mz4, mz5, mz6]
   clear hX0 hY0 hV0 hb0 hO0 hS0 hst hb2 hB2 hnw hb3 hB3 hL3 hO3 hg3 hl3 hX4 hY4 hV4 hB4 HX HY HV HO HS HB HC
   go_wp2
   exact ⟨⟨i + 1, _, by omega, by go_num, HO4, HS4, HX4, HY4, HV4, HB4.out⟩, by simp [intOf]; omega⟩
  ·obtain rfl : len = i := by omega
   clear hb HCa HXl
   have d1 : decide ((len : Int) < (len : Int)) = false := decide_eq_false (by omega)
   obtain ⟨a2, cap2, rfl, hread⟩ := qb1 HO.out (t := w.heap.size + 3) (Nat.le_refl _) HS.out
   have HR := qa0 hread
   clear hread HO HS
   have M1 : True := trivial
   go_wp2_with (first
    | (clear M1; refine wpList_store_one rfl 23 _ _ rfl w.heap.size 3 25 _ (.slice a2 len cap2) rfl rfl qbw rfl rfl HX.out (by show 3 < 6; omega) ?_; intro w5 HX5 hg5; have HX6 : Hid (Vn w5 w.heap.size 25 #[.int .u8 (k : Int), .int .i64 n, .string nm, .slice a2 len cap2, .int .i64 ln, .int .i64 cl]) := HX5; have HV5 := qa0 (HV.out.kept12 hg5.out (by simp <;> omega)); have y0 := HX6.out.cell 0 _ rfl; have y1 := HX6.out.cell 1 _ rfl; have y2 := HX6.out.cell 2 _ rfl; have y3 := HX6.out.cell 3 _ rfl; have y4 := HX6.out.cell 4 _ rfl; have y5 := HX6.out.cell 5 _ rfl; clear HX5)
    | (refine qa1 rfl 25 _ _ rfl (w.heap.size + 1 + 1) _ #[.int .u8 (k : Int), .int .i64 n, .string nm, .slice a2 len cap2, .int .i64 ln, .int .i64 cl] rfl rfl HV5.out sizeX rfl (all6 rfl rfl rfl rfl rfl rfl) ?_; intro w8 HV8 hg8))
   clear d1
   have d0 := HV8.out.cell 0 _ rfl
   have d1 := HV8.out.cell 1 _ rfl
   have d2 := HV8.out.cell 2 _ rfl
   have d3 := HV8.out.cell 3 _ rfl
   have d4 := HV8.out.cell 4 _ rfl
   have d5 := HV8.out.cell 5 _ rfl
   have z5 := hg5.out.size
   refine bodyPost_ret (v := .agg #[.int .u8 (k : Int), .int .i64 n, .string nm, .slice a2 len cap2, .int .i64 ln, .int .i64 cl]) (by simp [results, Tryd.results34, go_sem, d0, d1, d2, d3, d4, d5]) rfl ?_
   refine ⟨⟨a2, cap2, rfl, fun u hu d => HR.out u (fun b hb hr => ?_) d⟩, (HB.out.trans (jbelow hg5.out HB.out.size (fun g e => by cases e; omega))).trans (jbelow hg8.out (by omega) (fun g e => by cases e; omega))⟩
   rw [hu b (by have := hg8.out.size; omega) (hr.imp id (fun q => by omega)), hg8.out.block b (by omega) (fun e => by cases e; omega), hg5.out.block b hb (fun e => by cases e; omega)]
theorem rput_noB (s : ByteArray) (w0 w : World) (s0 : Nat) (hs0 : s0 ≤ w.heap.size) (yk ylen ycap : Nat) (yn yln ycl : Int) (ynm : ByteArray) (ya : Option Addr) (k len cap : Nat) (n ln cl : Int) (nm : ByteArray) (a : Option Addr) (T : Xt) (F : Nat → Xt) (hl : len ≤ 2) (hq : ((k : Int) == 2) = true) (hq2 : (nm.toList == s.toList) = false) (hXl : ∀ d, XL d w0 a len (kid T)) (hb0 : Below w0.heap.size w0 w)
  (hC : ∀ i, i < len → ∀ (w1 : World) (v1 : Value), XV w0 v1 (kid T i) → Below w.heap.size w w1 → Calls Tryd.prog 34 #[v1, .string s, .agg #[.int .u8 (yk : Int), .int .i64 yn, .string ynm, .slice ya ylen ycap, .int .i64 yln, .int .i64 ycl]] w1 fun e w2 => (∃ v', e = .returned v' ∧ StX s0 w1.heap.size w2 v' (F i)) ∧ Below w1.heap.size w1 w2) :
  Calls Tryd.prog 34 #[.agg #[.int .u8 (k : Int), .int .i64 n, .string nm, .slice a len cap, .int .i64 ln, .int .i64 cl], .string s, .agg #[.int .u8 (yk : Int), .int .i64 yn, .string ynm, .slice ya ylen ycap, .int .i64 yln, .int .i64 ycl]] w fun e w' => (∃ (a2 : Option Addr) (cap2 : Nat), e = .returned (.agg #[.int .u8 (k : Int), .int .i64 n, .string nm, .slice a2 len cap2, .int .i64 ln, .int .i64 cl]) ∧ ∀ u, AgT s0 w.heap.size w' u → ∀ d, XL d u a2 len F) ∧ Below w.heap.size w w' := by
 have HXl := qa0 hXl
 have HCa := qa0 hC
 have HB0 := qa0 hb0
 clear hXl hC hb0
 obtain ⟨i0, hi0, hz0, hz1, hz2⟩ := info_parts qca
 have H1 := qa0 (Vn.new w 25 #[.int .u8 (k : Int), .int .i64 n, .string nm, .slice a len cap, .int .i64 ln, .int .i64 cl])
 have H2 := qa0 (Vn.new (w.alloc (.cells #[.int .u8 (k : Int), .int .i64 n, .string nm, .slice a len cap, .int .i64 ln, .int .i64 cl] 25)) 25 #[.int .u8 (yk : Int), .int .i64 yn, .string ynm, .slice ya ylen ycap, .int .i64 yln, .int .i64 ycl])
 have H4 := qa0 (Vn.new ((w.alloc (.cells #[.int .u8 (k : Int), .int .i64 n, .string nm, .slice a len cap, .int .i64 ln, .int .i64 cl] 25)).alloc (.cells #[.int .u8 (yk : Int), .int .i64 yn, .string ynm, .slice ya ylen ycap, .int .i64 yln, .int .i64 ycl] 25)) 25 #[.int .u8 0, .int .i64 0, .string ⟨#[]⟩, .slice none 0 0, .int .i64 0, .int .i64 0])
 have B1 := qa0 (jlow w (.cells #[.int .u8 (k : Int), .int .i64 n, .string nm, .slice a len cap, .int .i64 ln, .int .i64 cl] 25))
 have B2 := qa0 (jtwo B1.out (jlow _ (.cells #[.int .u8 (yk : Int), .int .i64 yn, .string ynm, .slice ya ylen ycap, .int .i64 yln, .int .i64 ycl] 25)))
 have HB := qa0 (jtwo B2.out (jlow _ (.cells #[.int .u8 0, .int .i64 0, .string ⟨#[]⟩, .slice none 0 0, .int .i64 0, .int .i64 0] 25)))
 have HX := qa0 ((H1.out.later (jlow _ (.cells #[.int .u8 (yk : Int), .int .i64 yn, .string ynm, .slice ya ylen ycap, .int .i64 yln, .int .i64 ycl] 25))).later (jlow _ (.cells #[.int .u8 0, .int .i64 0, .string ⟨#[]⟩, .slice none 0 0, .int .i64 0, .int .i64 0] 25)))
 have HY := qa0 (H2.out.later (jlow _ (.cells #[.int .u8 0, .int .i64 0, .string ⟨#[]⟩, .slice none 0 0, .int .i64 0, .int .i64 0] 25)))
 rw [qa2] at HY
 rw [qa2, qa2] at H4
 clear H1 H2 B1 B2
 have c0 := HX.out.cell 0 _ rfl
 have c1 := HX.out.cell 1 _ rfl
 have c2 := HX.out.cell 2 _ rfl
 have c3 := HX.out.cell 3 _ rfl
 have c4 := HX.out.cell 4 _ rfl
 have c5 := HX.out.cell 5 _ rfl
 have e0 := HY.out.cell 0 _ rfl
 have e1 := HY.out.cell 1 _ rfl
 have e2 := HY.out.cell 2 _ rfl
 have e3 := HY.out.cell 3 _ rfl
 have e4 := HY.out.cell 4 _ rfl
 have e5 := HY.out.cell 5 _ rfl
 go_enter Tryd.func34, Tryd.ntmps34
 go_wp2
 go_loopw [7, 8] (fun vp vi wr => ∃ (i : Nat) (cs : List Value), i ≤ len ∧ vi = .int .i64 (i : Int) ∧ Hid (wr.ownsRow (w.heap.size + 3) 25 6 vp i cs) ∧ Hid (∀ j, j < i → StC s0 (w.heap.size + 3) vp.ownBlock wr (seg6 cs j) (F j)) ∧ Hid (Vn wr w.heap.size 25 #[.int .u8 (k : Int), .int .i64 n, .string nm, .slice a len cap, .int .i64 ln, .int .i64 cl]) ∧ Hid (Vn wr (w.heap.size + 1) 25 #[.int .u8 (yk : Int), .int .i64 yn, .string ynm, .slice ya ylen ycap, .int .i64 yln, .int .i64 ycl]) ∧ Hid (Vn wr (w.heap.size + 1 + 1) 25 #[.int .u8 0, .int .i64 0, .string ⟨#[]⟩, .slice none 0 0, .int .i64 0, .int .i64 0]) ∧ Below w.heap.size w wr) (fun _ vi _ => len - (intOf vi).toNat)
 case atStart => exact ⟨0, [], by omega, rfl, World.ownsRow_nil _ _ _ _, fun j hj => by omega, HX, HY, H4, HB.out⟩
 case round =>
  clear HX HY H4 HB c0 c1 c2 c3 c4 c5 e0 e1 e2 e3 e4 e5
  obtain ⟨i, cs, hi, rfl, HO, HS, HX, HY, HV, hb⟩ := hrel
  have HB := qa0 hb
  have hsz1 := HV.out.lt
  have c3 := HX.out.cell 3 _ rfl
  by_cases hlt : i < len
  ·have p0 : (0 : Int) ≤ (i : Int) := by omega
   have p1 : (i : Int) < (len : Int) := by omega
   obtain ⟨bk, okk, kk, nl, nn, ll, cc, nx, ka, kc, rfl, hkid, hcl⟩ := XL.at_ HXl.out (i := i) hlt
   have HKc := qa0 (fun wq (hbq : Below w.heap.size w wq) => hcl wq (jtwo HB0.out hbq))
   have HC : Hid (∀ w1 : World, Below w.heap.size w w1 → Calls Tryd.prog 34 #[.agg #[.int .u8 (kk : Int), .int .i64 nn, .string nx, .slice ka nl kc, .int .i64 ll, .int .i64 cc], .string s, .agg #[.int .u8 (yk : Int), .int .i64 yn, .string ynm, .slice ya ylen ycap, .int .i64 yln, .int .i64 ycl]] w1 fun e w2 => (∃ v', e = .returned v' ∧ StX s0 w1.heap.size w2 v' (F i)) ∧ Below w1.heap.size w1 w2) := fun w1 hb1 => HCa.out i hlt w1 _ hkid hb1
   clear hkid hb hcl
   go_wp2
   refine wp_region_held (S := fun w' => Below w.heap.size w w' ∧ Vn w' w.heap.size 25 #[.int .u8 (k : Int), .int .i64 n, .string nm, .slice (some ⟨bk, okk, none⟩) len cap, .int .i64 ln, .int .i64 cl] ∧ Vn w' (w.heap.size + 1) 25 #[.int .u8 (yk : Int), .int .i64 yn, .string ynm, .slice ya ylen ycap, .int .i64 yln, .int .i64 ycl]) (by kernel_rfl) ?_
   change wpAnyH _ _ _ _ _ _ _ _ (World.drew _)
   obtain ⟨W0, HW0⟩ : ∃ W0, Hid (wr.drew = W0) := ⟨_, rfl⟩
   have bl0 : Below wr.heap.size wr W0 := by rw [← HW0.out]; exact (Below.refl _ _).drew
   have hz0w : W0.heap.size = wr.heap.size := by rw [← HW0.out]; rfl
   rw [HW0.out]
   clear HW0
   have hX0 := HX.out.later bl0
   have hY0 := HY.out.later bl0
   have hV0 := HV.out.later bl0
   have hb0 := jtwo HB.out bl0
   have hO0 := HO.out.kept (jgrown.mpr bl0) (own_ne _)
   have hS0 := fun j hj => (HS.out j hj).later bl0
   refine wtkq 0 ?vt0_1 rfl (by kernel_rfl) (fun _ _ _ h => h) (by rfl) ?yt0_1 ⟨hb0, hX0, hY0⟩ ?zt0_1
   case yt0_1 => (intro wq hSw; obtain ⟨hbq, hxq, hyq⟩ := hSw; obtain ⟨k0, k1, k2, k3, k4, k5⟩ := HKc.out wq hbq; have r3 := hxq.cell 3 _ rfl; have q0 := hyq.cell 0 _ rfl; have q1 := hyq.cell 1 _ rfl; have q2 := hyq.cell 2 _ rfl; have q3 := hyq.cell 3 _ rfl; have q4 := hyq.cell 4 _ rfl; have q5 := hyq.cell 5 _ rfl; clear hxq hyq; go_simp; try with_reducible rfl)
   try simp only [mz1, mz3, Act.put, mz4, mz5, mz6]
   refine wtkq 1 ?vt1_2 rfl (by kernel_rfl) (fun _ _ _ h => h) (by rfl) ?yt1_2 ⟨hb0, hX0, hY0⟩ ?zt1_2
   case yt1_2 => (intro wq hSw; obtain ⟨hbq, hxq, hyq⟩ := hSw; obtain ⟨k0, k1, k2, k3, k4, k5⟩ := HKc.out wq hbq; have r3 := hxq.cell 3 _ rfl; have q0 := hyq.cell 0 _ rfl; have q1 := hyq.cell 1 _ rfl; have q2 := hyq.cell 2 _ rfl; have q3 := hyq.cell 3 _ rfl; have q4 := hyq.cell 4 _ rfl; have q5 := hyq.cell 5 _ rfl; clear hxq hyq; go_simp; try with_reducible rfl)
   try simp only [mz1, mz2, mz3, Act.put, mz4, mz5, mz6]
   refine wtkq 2 ?vt2_3 rfl (by kernel_rfl) (fun _ _ _ h => h) (by rfl) ?yt2_3 ⟨hb0, hX0, hY0⟩ ?zt2_3
   case yt2_3 => (intro wq hSw; obtain ⟨hbq, hxq, hyq⟩ := hSw; obtain ⟨k0, k1, k2, k3, k4, k5⟩ := HKc.out wq hbq; have r3 := hxq.cell 3 _ rfl; have q0 := hyq.cell 0 _ rfl; have q1 := hyq.cell 1 _ rfl; have q2 := hyq.cell 2 _ rfl; have q3 := hyq.cell 3 _ rfl; have q4 := hyq.cell 4 _ rfl; have q5 := hyq.cell 5 _ rfl; clear hxq hyq; go_simp; try with_reducible rfl)
   try simp only [mz1, mz2, mz3, Act.put, mz4, mz5, mz6]
   refine wtkq 3 ?vt3_4 rfl (by kernel_rfl) (fun _ _ _ h => h) (by rfl) ?yt3_4 ⟨hb0, hX0, hY0⟩ ?zt3_4
   case yt3_4 => (intro wq hSw; obtain ⟨hbq, hxq, hyq⟩ := hSw; obtain ⟨k0, k1, k2, k3, k4, k5⟩ := HKc.out wq hbq; have r3 := hxq.cell 3 _ rfl; have q0 := hyq.cell 0 _ rfl; have q1 := hyq.cell 1 _ rfl; have q2 := hyq.cell 2 _ rfl; have q3 := hyq.cell 3 _ rfl; have q4 := hyq.cell 4 _ rfl; have q5 := hyq.cell 5 _ rfl; clear hxq hyq; go_simp; try with_reducible rfl)
   try simp only [mz1, mz2, mz3, Act.put, mz4, mz5, mz6]
   refine wtkq 4 ?vt4_5 rfl (by kernel_rfl) (fun _ _ _ h => h) (by rfl) ?yt4_5 ⟨hb0, hX0, hY0⟩ ?zt4_5
   case yt4_5 => (intro wq hSw; obtain ⟨hbq, hxq, hyq⟩ := hSw; obtain ⟨k0, k1, k2, k3, k4, k5⟩ := HKc.out wq hbq; have r3 := hxq.cell 3 _ rfl; have q0 := hyq.cell 0 _ rfl; have q1 := hyq.cell 1 _ rfl; have q2 := hyq.cell 2 _ rfl; have q3 := hyq.cell 3 _ rfl; have q4 := hyq.cell 4 _ rfl; have q5 := hyq.cell 5 _ rfl; clear hxq hyq; go_simp; try with_reducible rfl)
   try simp only [mz1, mz2, mz3, Act.put, mz4, mz5, mz6]
   refine wtkq 5 ?vt5_6 rfl (by kernel_rfl) (fun _ _ _ h => h) (by rfl) ?yt5_6 ⟨hb0, hX0, hY0⟩ ?zt5_6
   case yt5_6 => (intro wq hSw; obtain ⟨hbq, hxq, hyq⟩ := hSw; obtain ⟨k0, k1, k2, k3, k4, k5⟩ := HKc.out wq hbq; have r3 := hxq.cell 3 _ rfl; have q0 := hyq.cell 0 _ rfl; have q1 := hyq.cell 1 _ rfl; have q2 := hyq.cell 2 _ rfl; have q3 := hyq.cell 3 _ rfl; have q4 := hyq.cell 4 _ rfl; have q5 := hyq.cell 5 _ rfl; clear hxq hyq; go_simp; try with_reducible rfl)
   try simp only [mz1, mz2, mz3, Act.put, mz4, mz5, mz6]
   refine wtkq 6 ?vt6_7 rfl (by kernel_rfl) (fun _ _ _ h => h) (by rfl) ?yt6_7 ⟨hb0, hX0, hY0⟩ ?zt6_7
   case yt6_7 => (intro wq hSw; obtain ⟨hbq, hxq, hyq⟩ := hSw; obtain ⟨k0, k1, k2, k3, k4, k5⟩ := HKc.out wq hbq; have r3 := hxq.cell 3 _ rfl; have q0 := hyq.cell 0 _ rfl; have q1 := hyq.cell 1 _ rfl; have q2 := hyq.cell 2 _ rfl; have q3 := hyq.cell 3 _ rfl; have q4 := hyq.cell 4 _ rfl; have q5 := hyq.cell 5 _ rfl; clear hxq hyq; go_simp; try with_reducible rfl)
   try simp only [mz1, mz2, mz3, Act.put, mz4, mz5, mz6]
   refine wtkq 7 ?vt7_8 rfl (by kernel_rfl) (fun _ _ _ h => h) (by rfl) ?yt7_8 ⟨hb0, hX0, hY0⟩ ?zt7_8
   case yt7_8 => (intro wq hSw; obtain ⟨hbq, hxq, hyq⟩ := hSw; obtain ⟨k0, k1, k2, k3, k4, k5⟩ := HKc.out wq hbq; have r3 := hxq.cell 3 _ rfl; have q0 := hyq.cell 0 _ rfl; have q1 := hyq.cell 1 _ rfl; have q2 := hyq.cell 2 _ rfl; have q3 := hyq.cell 3 _ rfl; have q4 := hyq.cell 4 _ rfl; have q5 := hyq.cell 5 _ rfl; clear hxq hyq; go_simp; try with_reducible rfl)
   try simp only [mz1, mz2, mz3, Act.put, mz4, mz5, mz6]
   refine wpAnyH_ready (rs := [8]) (by kernel_rfl) (by simp) ?_
   refine AllReadyH.cons rfl (fun KK hKK => ?_) AllReadyH.nil
   go_simp
   refine (HC.out W0 hb0).mono ?_
   rintro e w2 ⟨⟨v', rfl, hst⟩, hb2⟩
   obtain ⟨⟨ra, rcap, rfl, _⟩, _⟩ := hst.now
   have hz2w := hb2.size
   have hB2 := jtwo hb0 hb2
   refine hKK.out _ _ ⟨hB2, hX0.later hb2, hY0.later hb2⟩ (fun _ => ?_)
   clear hKK KK
   try simp only [mz1, mz2, mz3, Act.put, mz4, mz5, mz6]
   refine wpAnyH_ready (rs := [9]) (by kernel_rfl) (by simp) ?_
   refine AllReadyH.cons rfl (fun KK hKK => ?_) AllReadyH.nil
   go_simp
   obtain ⟨W3, HW3⟩ : ∃ W, Hid (w2.alloc (.cells (List.toArray [.int .u8 ((F i []).k : Int), .int .i64 (F i []).n, .string (F i []).nm, .slice ra (F i []).len rcap, .int .i64 (F i []).ln, .int .i64 (F i []).cl]) 25) = W) := ⟨_, rfl⟩
   have hb3 : Below w2.heap.size w2 W3 := by rw [← HW3.out]; exact jlow _ _
   have hz3w : W3.heap.size = w2.heap.size + 1 := by rw [← HW3.out]; exact qa2 _ _
   have hnw : ∀ j u, ([.int .u8 ((F i []).k : Int), .int .i64 (F i []).n, .string (F i []).nm, .slice ra (F i []).len rcap, .int .i64 (F i []).ln, .int .i64 (F i []).cl] : List Value)[j]? = some u → W3.cell? ((⟨w2.heap.size, 0, none⟩ : Addr).add j) = some u := by rw [← HW3.out]; exact qam _ _ _
   rw [HW3.out]
   have hB3 := jtwo hB2 hb3
   have hL3 := jtwo hb2 hb3
   refine hKK.out _ _ ⟨hB3, hX0.later hL3, hY0.later hL3⟩ (fun _ => ?_)
   clear hKK KK
   try simp only [mz1, mz2, mz3, Act.put, mz4, mz5, mz6]
   refine wpAnyH_ready (rs := [10]) (by kernel_rfl) (by simp) ?_
   refine AllReadyH.cons rfl (fun KK hKK => ?_) AllReadyH.nil
   refine qar rfl _ _ rfl (w.heap.size + 3) _ i cs rfl (hO0.kept (jgrown.mpr hL3) (own_ne _)) ⟨w2.heap.size, 0, none⟩ [.int .u8 ((F i []).k : Int), .int .i64 (F i []).n, .string (F i []).nm, .slice ra (F i []).len rcap, .int .i64 (F i []).ln, .int .i64 (F i []).cl] rfl rfl hnw (qbv rfl rfl rfl rfl rfl rfl) (by omega) (by omega) ?_
   intro v3 w3 hO3 hg3 hl3
   have hbase := HO.out.lt
   have hne : ∀ g : Nat, g < w.heap.size + 3 → some g ≠ Value.ownBlock _ := fun g hg e => by have := (hbase g e.symm).1; omega
   have hX4 := (hX0.later hL3).kept12 hg3 (hne _ (by omega))
   have hY4 := (hY0.later hL3).kept12 hg3 (hne _ (by omega))
   have hV4 := (hV0.later hL3).kept12 hg3 (hne _ (by omega))
   have hB4 := hB3.trans (jbelow hg3 hB3.size (fun g e => by have := (hbase g e).1; omega))
   have HS4 : Hid (∀ j, j < i + 1 → StC s0 (w.heap.size + 3) v3.ownBlock w3 (seg6 (cs ++ [.int .u8 ((F i []).k : Int), .int .i64 (F i []).n, .string (F i []).nm, .slice ra (F i []).len rcap, .int .i64 (F i []).ln, .int .i64 (F i []).cl]) j) (F j)) := fun j hj => by
    by_cases e : j = i
    ·subst e
     rw [qba HO.out.1 rfl]
     exact ((hst.later hb3).cells (cs := List.toArray [.int .u8 ((F j []).k : Int), .int .i64 (F j []).n, .string (F j []).nm, .slice ra (F j []).len rcap, .int .i64 (F j []).ln, .int .i64 (F j []).cl]) (t := w.heap.size + 3) (by omega) (fun x hx => by have := hbase x hx; omega)).app hg3 hl3
    ·rw [qb9 HO.out.1 (by omega)]
     exact ((hS0 j (by omega)).later hL3).app hg3 hl3
   have HO4 := qa0 hO3
   have HX4 := qa0 hX4
   have HY4 := qa0 hY4
   have HV4 := qa0 hV4
   have HB4 := qa0 hB4
   refine hKK.out _ _ ⟨hB4, hX4, hY4⟩ (fun _ => ?_)
   clear hKK KK
   try simp only [mz1, mz2, mz3, Act.put, mz4, mz5, mz6]
   refine wtkq 11 ?vt11_9 rfl (by kernel_rfl) (fun _ _ _ h => h) (by rfl) ?yt11_9 ⟨HB4.out, HX4.out, HY4.out⟩ ?zt11_9
   case yt11_9 => (intro wq hSw; obtain ⟨hbq, hxq, hyq⟩ := hSw; obtain ⟨k0, k1, k2, k3, k4, k5⟩ := HKc.out wq hbq; have r3 := hxq.cell 3 _ rfl; have q0 := hyq.cell 0 _ rfl; have q1 := hyq.cell 1 _ rfl; have q2 := hyq.cell 2 _ rfl; have q3 := hyq.cell 3 _ rfl; have q4 := hyq.cell 4 _ rfl; have q5 := hyq.cell 5 _ rfl; clear hxq hyq; go_simp; try with_reducible rfl)
   try simp only [mz1, mz2, mz3, Act.put, mz4, mz5, mz6]
   refine wpAnyH_done (by kernel_rfl) ?_ _
   try simp only [mz1, mz2, mz3, Act.put, mz4, mz5, mz6]
   clear hX0 hY0 hV0 hb0 hO0 hS0 hst hb2 hB2 hnw hb3 hB3 hL3 hO3 hg3 hl3 hX4 hY4 hV4 hB4 HX HY HV HO HS HB HC
   go_wp2
   exact ⟨⟨i + 1, _, by omega, by go_num, HO4, HS4, HX4, HY4, HV4, HB4.out⟩, by simp [intOf]; omega⟩
  ·obtain rfl : len = i := by omega
   clear hb HCa HXl
   have d1 : decide ((len : Int) < (len : Int)) = false := decide_eq_false (by omega)
   obtain ⟨a2, cap2, rfl, hread⟩ := qb1 HO.out (t := w.heap.size + 3) (Nat.le_refl _) HS.out
   have HR := qa0 hread
   clear hread HO HS
   have M1 : True := trivial
   go_wp2_with (first
    | (clear M1; refine wpList_store_one rfl 23 _ _ rfl w.heap.size 3 25 _ (.slice a2 len cap2) rfl rfl qbw rfl rfl HX.out (by show 3 < 6; omega) ?_; intro w5 HX5 hg5; have HX6 : Hid (Vn w5 w.heap.size 25 #[.int .u8 (k : Int), .int .i64 n, .string nm, .slice a2 len cap2, .int .i64 ln, .int .i64 cl]) := HX5; have HV5 := qa0 (HV.out.kept12 hg5.out (by simp <;> omega)); have y0 := HX6.out.cell 0 _ rfl; have y1 := HX6.out.cell 1 _ rfl; have y2 := HX6.out.cell 2 _ rfl; have y3 := HX6.out.cell 3 _ rfl; have y4 := HX6.out.cell 4 _ rfl; have y5 := HX6.out.cell 5 _ rfl; clear HX5)
    | (refine qa1 rfl 25 _ _ rfl (w.heap.size + 1 + 1) _ #[.int .u8 (k : Int), .int .i64 n, .string nm, .slice a2 len cap2, .int .i64 ln, .int .i64 cl] rfl rfl HV5.out sizeX rfl (all6 rfl rfl rfl rfl rfl rfl) ?_; intro w8 HV8 hg8))
   clear d1
   have d0 := HV8.out.cell 0 _ rfl
   have d1 := HV8.out.cell 1 _ rfl
   have d2 := HV8.out.cell 2 _ rfl
   have d3 := HV8.out.cell 3 _ rfl
   have d4 := HV8.out.cell 4 _ rfl
   have d5 := HV8.out.cell 5 _ rfl
   have z5 := hg5.out.size
   refine bodyPost_ret (v := .agg #[.int .u8 (k : Int), .int .i64 n, .string nm, .slice a2 len cap2, .int .i64 ln, .int .i64 cl]) (by simp [results, Tryd.results34, go_sem, d0, d1, d2, d3, d4, d5]) rfl ?_
   refine ⟨⟨a2, cap2, rfl, fun u hu d => HR.out u (fun b hb hr => ?_) d⟩, (HB.out.trans (jbelow hg5.out HB.out.size (fun g e => by cases e; omega))).trans (jbelow hg8.out (by omega) (fun g e => by cases e; omega))⟩
   rw [hu b (by have := hg8.out.size; omega) (hr.imp id (fun q => by omega)), hg8.out.block b (by omega) (fun e => by cases e; omega), hg5.out.block b hb (fun e => by cases e; omega)]
/-- The reference's put. -/
theorem rput (s : ByteArray) (w0 : World) (y : Value) (Y : Xt) (hY : XV w0 y Y) : ∀ (d : Nat) (w : World) (T : Xt) (v : Value), XV w0 v T → MX d T → Below w0.heap.size w0 w → Calls Tryd.prog 34 #[v, .string s, y] w fun e w' => (∃ v', e = .returned v' ∧ StX w0.heap.size w.heap.size w' v' (xput s Y T)) ∧ Below w.heap.size w w' := by
 intro d
 induction d with
 | zero => intro w T v _ hM _; exact hM.no.elim
 | succ d ih =>
  intro w T v hX hM hb
  have hX0 := hX
  obtain ⟨⟨a, cap, rfl, hXl⟩, hok⟩ := hX
  have hY0 := hY
  obtain ⟨⟨ya, ycap, rfl, _⟩, _⟩ := hY
  by_cases h : hitX s T = true
  ·have hh := h
   unfold hitX at hh
   rw [Bool.and_eq_true, decide_eq_true_eq] at hh
   refine (rput_hit s _ _ _ _ _ _ _ _ w _ _ _ _ _ _ _ _ hh.1 hh.2).mono ?_
   rintro e w' ⟨rfl, hb'⟩
   refine ⟨⟨_, rfl, ?_⟩, hb'⟩
   rw [qd3 h]
   exact StX.old hY0 (jtwo hb hb') _
  ·have h' : hitX s T = false := by simpa using h
   have hfin : ∀ (e : Ending) (w' : World), (∃ (a2 : Option Addr) (cap2 : Nat), e = .returned (.agg #[.int .u8 ((T []).k : Int), .int .i64 (T []).n, .string (T []).nm, .slice a2 (T []).len cap2, .int .i64 (T []).ln, .int .i64 (T []).cl]) ∧ ∀ u, AgT w0.heap.size w.heap.size w' u → ∀ d, XL d u a2 (T []).len (fun i => xput s Y (kid T i))) ∧ Below w.heap.size w w' → (∃ v', e = .returned v' ∧ StX w0.heap.size w.heap.size w' v' (xput s Y T)) ∧ Below w.heap.size w w' := by
    rintro e w' ⟨⟨a2, cap2, rfl, hR⟩, hb'⟩
    refine ⟨⟨_, rfl, fun u hu => ?_⟩, hb'⟩
    rw [qe3 h']
    exact ⟨⟨a2, cap2, rfl, hR u hu⟩, hok⟩
   have hC := fun i (hi : i < (T []).len) (w1 : World) (v1 : Value) (hv1 : XV w0 v1 (kid T i)) (hb1 : Below w.heap.size w w1) => ih w1 (kid T i) v1 hv1 (hM.kid hi) (jtwo hb hb1)
   by_cases hk : (T []).k = 2
   ·have h2 : ((T []).nm.toList == s.toList) = false := by
     unfold hitX at h'
     rw [hk] at h'
     simpa [sbq] using h'
    exact (rput_noB s w0 w w0.heap.size hb.size _ _ _ _ _ _ _ _ _ _ cap _ _ _ _ a T _ hM.len (by simp; omega) h2 hXl hb hC).mono hfin
   ·exact (rput_noA s w0 w w0.heap.size hb.size _ _ _ _ _ _ _ _ _ _ cap _ _ _ _ a T _ hM.len (by simp; omega) hXl hb hC).mono hfin
end Go.Proofs.YtgmndjbicandfaaDoor
