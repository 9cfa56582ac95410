/-
  The changes: a row multiplied; a row's multiple put to another.
-/
import Derived.Test.YtblagbghpfopcaaQppts00
import Derived.Test.YtblagbghpfopcaaQppts33
set_option maxRecDepth 100000
set_option maxHeartbeats 16000000
namespace Go.Proofs.Ytblagbghpfopcaa
open Go.RowKit
theorem qix {op : Oper} {a : Act} {w : World} {K : Act → World → Prop} {Q : Exit → Act → World → Prop} (d s : Operand) (ho : op.op = .call { callee := .builtin .copy, args := #[d, s], argTypes := #[22, 22] })
  (B g p n c dn dc sc b o : Nat) (f h : Nat → Nat) (hd : a.eval d = .slice (some ⟨g, p, none⟩) c dc) (hs : a.eval s = .slice (some ⟨b, o, none⟩) c sc) (hr : Ob w B (.slice (some ⟨g, 0, none⟩) n dn) n f) (hsl : Sl w (some ⟨b, o, none⟩) c h) (hfit : p + c ≤ n)
  (k : ∀ w', Hid (Ob w' B (.slice (some ⟨g, 0, none⟩) n dn) n (cpf f h p c)) → Hid (w.grownBy w' (some g)) → K (a.put op.dst (goInt c)) w') : Oper.wp Try.prog op a w K Q := by
 rcases hr.2 with ⟨e, _⟩ | ⟨g', cap, cur, e, hb, hg, hcap, hmax, hsz, ht⟩
 ·cases e
 ·cases e
  have hlen : (row c h).toList.length = c := by simp [qa3]
  have hsrc : ∀ j v, (row c h).toList[j]? = some v → w.cell? ((⟨b, o, none⟩ : Addr).add j) = some v := qbv hsl (Below.refl _ _)
  have hrun := run_copy_row (P := Try.prog) w 22 22 op.type 5 g p c dc ⟨b, o, none⟩ c sc cur 5 (row c h).toList Try.underlying22 size8 hg (by rw [hlen]; exact (Nat.min_self c).symm) hsrc (by rw [hlen]; omega) (qbw c h)
  rw [hlen, List.append_assoc] at hrun
  unfold Oper.wp
  simp [execOp, ho, resolve, invoke, builtin, hd, hs, hrun, Result.andThen]
  refine k _ ⟨by simp [qa3], .inr ⟨g, dn, _, rfl, hb, setRow_heap w g _ _ _ _ hg, hcap, hmax, by simp [qa3]; omega, ?_⟩⟩ (qby _ _ _)
  rw [Nat.mul_one] at ht ⊢
  rw [← qgk n p c f h hfit, ← ht]
  have hpn : p ≤ n := by omega
  rw [List.take_append, List.take_append, List.take_take, List.take_take, Nat.min_eq_right hpn, Nat.min_eq_left hpn]
  have l1 : (List.take p cur.toList).length = p := by simp; omega
  rw [l1, hlen, List.take_of_length_le (l := (row c h).toList) (by rw [hlen]; omega), List.drop_take, Nat.sub_sub]
theorem qg2 {ops : Array Oper} {op : Oper} {a : Act} {w : World} {K : Act → World → Prop} {Q : Exit → Act → World → Prop} {E : Prop} (hgd : op.guard = none) (d s : Operand) (ho : op.op = .call { callee := .builtin .copy, args := #[d, s], argTypes := #[22, 22] })
  (B g p n c dn dc sc b o : Nat) (f h : Nat → Nat) (hd : a.eval d = .slice (some ⟨g, p, none⟩) c dc) (hs : a.eval s = .slice (some ⟨b, o, none⟩) c sc) (hr : Ob w B (.slice (some ⟨g, 0, none⟩) n dn) n f) (hsl : Sl w (some ⟨b, o, none⟩) c h) (hfit : p + c ≤ n)
  (k : ∀ w', Hid (Ob w' B (.slice (some ⟨g, 0, none⟩) n dn) n (cpf f h p c)) → Hid (w.grownBy w' (some g)) → K (a.put op.dst (goInt c)) w') : if Region.wanted op (yielded ops a.tmps) = true then Oper.wp Try.prog op a w K Q else E := by
 have hw : Region.wanted op (yielded ops a.tmps) = true := by simp [Region.wanted, hgd]
 rw [if_pos hw]
 exact qix d s ho B g p n c dn dc sc b o f h hd hs hr hsl hfit k
theorem undrew {w w1 : World} (h : Below w.drew.heap.size w.drew w1) : Below w.heap.size w w1 := qa1 (Below.refl _ _).drew h
theorem qep {w w' : World} {g b o : Nat} {v : Value} (hg : w.grownBy w' (some g)) (h : w.cell? ⟨b, o, none⟩ = some v) (hne : b ≠ g) : w'.cell? ⟨b, o, none⟩ = some v := hg.cell h (by simpa using hne)
theorem qaj {w w' : World} {b o : Nat} {v : Value} (hb : Below w.heap.size w w') (h : w.cell? ⟨b, o, none⟩ = some v) : w'.cell? ⟨b, o, none⟩ = some v := by rw [← h]; exact World.cell?_of_block (hb.block b (qav h))
theorem mult_do (w : World) (B gr gd n k i c gi gc : Nat) (F : Nat → Nat → Nat) (G : Grid w B gr gd n k F) (hk : 0 < k) (hk6 : k ≤ 64) (hi : i < n) (hc : c < 256) (ni : gi ≠ gd) (nc : gc ≠ gd) (ci : w.cell? ⟨gi, 0, none⟩ = some (.int .i64 (i : Int))) (cc : w.cell? ⟨gc, 0, none⟩ = some (.int .u8 (c : Int))) :
  Calls Try.prog 82 #[.slice (some ⟨gr, 0, none⟩) n n, .pointer (some ⟨gi, 0, none⟩), .pointer (some ⟨gc, 0, none⟩)] w fun e w' => e = .returned (.tuple #[]) ∧ Grid w' B gr gd n k (mu1 F i c) ∧ Chg w w' (fun b => b = gr ∨ b = gd) := by
 obtain ⟨o, d, D, co, ho, hfit, hs, hclose⟩ := G.open hk hi
 have nr : gr ≠ gd := by
  obtain ⟨cs, h1⟩ := G.blk
  obtain ⟨_, _, cs2, h2⟩ := G.dat hk (by omega)
  exact qdb h1 h2 (by decide)
 have HO : Hid (Ob w B (.slice (some ⟨gd, 0, none⟩) (n * k) d) (n * k) D) := ho
 have HS : Hid (Sl w (some ⟨gd, o, none⟩) k (F i)) := hs
 have HC : Hid (∀ (w1 w' : World) (y : Nat → Nat), Below w.heap.size w w1 → (∀ l, l < k → y l < 256) → Ob w' B (.slice (some ⟨gd, 0, none⟩) (n * k) d) (n * k) (cpf D y o k) → w1.grownBy w' (some gd) → Grid w' B gr gd n k (rw1 F i y)) := hclose
 have HD : Hid (w.cell? ⟨gi, 0, none⟩ = some (.int .i64 (i : Int)) ∧ w.cell? ⟨gc, 0, none⟩ = some (.int .u8 (c : Int)) ∧ w.cell? ⟨gr, i, none⟩ = some (.slice (some ⟨gd, o, none⟩) k k)) := ⟨ci, cc, co⟩
 have HDr : Hid (w.drew.cell? ⟨gi, 0, none⟩ = some (.int .i64 (i : Int)) ∧ w.drew.cell? ⟨gc, 0, none⟩ = some (.int .u8 (c : Int)) ∧ w.drew.cell? ⟨gr, i, none⟩ = some (.slice (some ⟨gd, o, none⟩) k k)) := HD.out
 have HSr : Hid (Sl w.drew (some ⟨gd, o, none⟩) k (F i)) := hs
 clear G ho hs hclose
 go_enter Try.func82, Try.ntmps82
 go_wp2_with fail
 refine wp_region_held (S := fun w' => w'.cell? ⟨gi, 0, none⟩ = some (.int .i64 (i : Int)) ∧ w'.cell? ⟨gc, 0, none⟩ = some (.int .u8 (c : Int)) ∧ w'.cell? ⟨gr, i, none⟩ = some (.slice (some ⟨gd, o, none⟩) k k)) (by kernel_rfl) ?_
 refine wtkq 0 ?va0 rfl (by kernel_rfl) (fun _ _ _ h => h) (by rfl) ?ya0 HD.out ?za0
 case ya0 => (intro w hSw; (try dsimp only at hSw); go_simp; try with_reducible rfl)
 try simp only [mz1, mz3, Act.put, mz4, mz5, mz6]
 refine wtkq 1 ?va1 rfl (by kernel_rfl) (fun _ _ _ h => h) (by rfl) ?ya1 HD.out ?za1
 case ya1 => (intro w hSw; (try dsimp only at hSw); go_simp; try with_reducible rfl)
 try simp only [mz1, mz2, mz3, Act.put, mz4, mz5, mz6]
 refine wtkq 2 ?va2 rfl (by kernel_rfl) (fun _ _ _ h => h) (by rfl) ?ya2 HD.out ?za2
 case ya2 => (intro w hSw; (try dsimp only at hSw); go_simp; try with_reducible rfl)
 try simp only [mz1, mz2, mz3, Act.put, mz4, mz5, mz6]
 refine wtkq 3 ?va3 rfl (by kernel_rfl) (fun _ _ _ h => h) (by rfl) ?ya3 HD.out ?za3
 case ya3 => (intro w hSw; (try dsimp only at hSw); go_simp; try with_reducible rfl)
 try simp only [mz1, mz2, mz3, Act.put, mz4, mz5, mz6]
 refine wtkq 4 ?va4 rfl (by kernel_rfl) (fun _ _ _ h => h) (by rfl) ?ya4 HD.out ?za4
 case ya4 => (intro w hSw; (try dsimp only at hSw); go_simp; try with_reducible rfl)
 try simp only [mz1, mz2, mz3, Act.put, mz4, mz5, mz6]
 refine wtkq 5 ?va5 rfl (by kernel_rfl) (fun _ _ _ h => h) (by rfl) ?ya5 HD.out ?za5
 case ya5 => (intro w hSw; (try dsimp only at hSw); go_simp; try with_reducible rfl)
 try simp only [mz1, mz2, mz3, Act.put, mz4, mz5, mz6]
 refine wtkq 6 ?va6 rfl (by kernel_rfl) (fun _ _ _ h => h) (by rfl) ?ya6 HD.out ?za6
 case ya6 => (intro w hSw; (try dsimp only at hSw); go_simp; try with_reducible rfl)
 try simp only [mz1, mz2, mz3, Act.put, mz4, mz5, mz6]
 refine wtkq 7 ?va7 rfl (by kernel_rfl) (fun _ _ _ h => h) (by rfl) ?ya7 HD.out ?za7
 case ya7 => (intro w hSw; (try dsimp only at hSw); go_simp; try with_reducible rfl)
 try simp only [mz1, mz2, mz3, Act.put, mz4, mz5, mz6]
 refine wtkq 8 ?va8 rfl (by kernel_rfl) (fun _ _ _ h => h) (by rfl) ?ya8 HD.out ?za8
 case ya8 => (intro w hSw; (try dsimp only at hSw); go_simp; try with_reducible rfl)
 try simp only [mz1, mz2, mz3, Act.put, mz4, mz5, mz6]
 refine wpAnyH_ready (rs := [9]) (by kernel_rfl) (by simp) ?_
 refine AllReadyH.cons rfl (fun K hK => ?_) AllReadyH.nil
 go_simp
 refine (qjj _ (some ⟨gd, o, none⟩) k c k _ hc HSr.out (by omega)).mono ?_
 rintro e w1 ⟨rfl, hr1, hb0⟩
 have hb1 := undrew hb0
 have HB1 : Hid (Below w.heap.size w w1) := hb1
 have HR1 : Hid (Sl w1 (some ⟨w.heap.size, 0, none⟩) k (fun l => fm c (F i l))) := RowAt.sl hr1 (fun l _ => qal _ _ hc)
 have HO1 : Hid (Ob w1 B (.slice (some ⟨gd, 0, none⟩) (n * k) d) (n * k) D) := HO.out.later hb1
 have HD1 : Hid (w1.cell? ⟨gi, 0, none⟩ = some (.int .i64 (i : Int)) ∧ w1.cell? ⟨gc, 0, none⟩ = some (.int .u8 (c : Int)) ∧ w1.cell? ⟨gr, i, none⟩ = some (.slice (some ⟨gd, o, none⟩) k k)) := ⟨qaj hb1 ci, qaj hb1 cc, qaj hb1 co⟩
 clear hr1 hb0 hb1
 refine hK.out _ _ HD1.out (fun _ => ?_)
 clear hK K
 try simp only [mz1, mz2, mz3, Act.put, mz4, mz5, mz6]
 refine wpAnyH_ready (rs := [10]) (by kernel_rfl) (by simp) ?_
 refine AllReadyH.cons rfl (fun K hK => ?_) AllReadyH.nil
 refine qg2 rfl _ _ rfl B gd o (n * k) k d k k w.heap.size 0 D _ rfl rfl HO1.out HR1.out hfit ?_
 intro w2 HO2 HG2
 have HD2 : Hid (w2.cell? ⟨gi, 0, none⟩ = some (.int .i64 (i : Int)) ∧ w2.cell? ⟨gc, 0, none⟩ = some (.int .u8 (c : Int)) ∧ w2.cell? ⟨gr, i, none⟩ = some (.slice (some ⟨gd, o, none⟩) k k)) := ⟨qep HG2.out HD1.out.1 ni, qep HG2.out HD1.out.2.1 nc, qep HG2.out HD1.out.2.2 nr⟩
 refine hK.out _ _ HD2.out (fun _ => ?_)
 clear hK K
 try simp only [mz1, mz2, mz3, Act.put, mz4, mz5, mz6]
 refine wpAnyH_done (by kernel_rfl) ?_ _
 go_wp2
 go_end0
 exact ⟨rfl, HC.out w1 w2 _ HB1.out (fun l _ => qal _ _ hc) HO2.out HG2.out, (Chg.of_below HB1.out).trans (Chg.of_grown HG2.out (.inr rfl))⟩
theorem put_do (w : World) (B gr gd n k i j c gi gc gj : Nat) (F : Nat → Nat → Nat) (G : Grid w B gr gd n k F) (hk : 0 < k) (hk6 : k ≤ 64) (hi : i < n) (hj : j < n) (hc : c < 256) (ci : w.cell? ⟨gi, 0, none⟩ = some (.int .i64 (i : Int))) (cc : w.cell? ⟨gc, 0, none⟩ = some (.int .u8 (c : Int))) (cj : w.cell? ⟨gj, 0, none⟩ = some (.int .i64 (j : Int))) :
  Calls Try.prog 95 #[.slice (some ⟨gr, 0, none⟩) n n, .pointer (some ⟨gi, 0, none⟩), .pointer (some ⟨gc, 0, none⟩), .pointer (some ⟨gj, 0, none⟩)] w fun e w' => e = .returned (.tuple #[]) ∧ Grid w' B gr gd n k (ad1 F i c j) ∧ Chg w w' (fun b => b = gr ∨ b = gd) := by
 obtain ⟨o, d, D, co, ho, hfit, hs, hclose⟩ := G.open hk hi
 obtain ⟨a2, ca, hs2, hx2⟩ := G.row hj
 obtain ⟨o2, rfl⟩ := hx2 hk
 have HO : Hid (Ob w B (.slice (some ⟨gd, 0, none⟩) (n * k) d) (n * k) D) := ho
 have HS : Hid (Sl w (some ⟨gd, o, none⟩) k (F i)) := hs
 have HS2 : Hid (Sl w (some ⟨gd, o2, none⟩) k (F j)) := hs2
 have HE : Hid (∀ l, l < k → F i l < 256) := fun l hl => G.el i l hi hl
 have HC : Hid (∀ (w1 w' : World) (y : Nat → Nat), Below w.heap.size w w1 → (∀ l, l < k → y l < 256) → Ob w' B (.slice (some ⟨gd, 0, none⟩) (n * k) d) (n * k) (cpf D y o k) → w1.grownBy w' (some gd) → Grid w' B gr gd n k (rw1 F i y)) := hclose
 have HD : Hid (w.cell? ⟨gi, 0, none⟩ = some (.int .i64 (i : Int)) ∧ w.cell? ⟨gc, 0, none⟩ = some (.int .u8 (c : Int)) ∧ w.cell? ⟨gr, i, none⟩ = some (.slice (some ⟨gd, o, none⟩) k k) ∧ w.cell? ⟨gj, 0, none⟩ = some (.int .i64 (j : Int)) ∧ w.cell? ⟨gr, j, none⟩ = some (.slice (some ⟨gd, o2, none⟩) k k)) := ⟨ci, cc, co, cj, ca⟩
 have HSr : Hid (Sl w.drew (some ⟨gd, o, none⟩) k (F i)) := hs
 have HSr2 : Hid (Sl w.drew (some ⟨gd, o2, none⟩) k (F j)) := hs2
 clear G ho hs hs2 hclose
 go_enter Try.func95, Try.ntmps95
 go_wp2_with fail
 refine wp_region_held (S := fun w' => w'.cell? ⟨gi, 0, none⟩ = some (.int .i64 (i : Int)) ∧ w'.cell? ⟨gc, 0, none⟩ = some (.int .u8 (c : Int)) ∧ w'.cell? ⟨gr, i, none⟩ = some (.slice (some ⟨gd, o, none⟩) k k) ∧ w'.cell? ⟨gj, 0, none⟩ = some (.int .i64 (j : Int)) ∧ w'.cell? ⟨gr, j, none⟩ = some (.slice (some ⟨gd, o2, none⟩) k k)) (by kernel_rfl) ?_
 refine wtkq 0 ?vb0 rfl (by kernel_rfl) (fun _ _ _ h => h) (by rfl) ?yb0 HD.out ?zb0
 case yb0 => (intro w hSw; (try dsimp only at hSw); go_simp; try with_reducible rfl)
 try simp only [mz1, mz3, Act.put, mz4, mz5, mz6]
 refine wtkq 1 ?vb1 rfl (by kernel_rfl) (fun _ _ _ h => h) (by rfl) ?yb1 HD.out ?zb1
 case yb1 => (intro w hSw; (try dsimp only at hSw); go_simp; try with_reducible rfl)
 try simp only [mz1, mz2, mz3, Act.put, mz4, mz5, mz6]
 refine wtkq 2 ?vb2 rfl (by kernel_rfl) (fun _ _ _ h => h) (by rfl) ?yb2 HD.out ?zb2
 case yb2 => (intro w hSw; (try dsimp only at hSw); go_simp; try with_reducible rfl)
 try simp only [mz1, mz2, mz3, Act.put, mz4, mz5, mz6]
 refine wtkq 3 ?vb3 rfl (by kernel_rfl) (fun _ _ _ h => h) (by rfl) ?yb3 HD.out ?zb3
 case yb3 => (intro w hSw; (try dsimp only at hSw); go_simp; try with_reducible rfl)
 try simp only [mz1, mz2, mz3, Act.put, mz4, mz5, mz6]
 refine wtkq 4 ?vb4 rfl (by kernel_rfl) (fun _ _ _ h => h) (by rfl) ?yb4 HD.out ?zb4
 case yb4 => (intro w hSw; (try dsimp only at hSw); go_simp; try with_reducible rfl)
 try simp only [mz1, mz2, mz3, Act.put, mz4, mz5, mz6]
 refine wtkq 5 ?vb5 rfl (by kernel_rfl) (fun _ _ _ h => h) (by rfl) ?yb5 HD.out ?zb5
 case yb5 => (intro w hSw; (try dsimp only at hSw); go_simp; try with_reducible rfl)
 try simp only [mz1, mz2, mz3, Act.put, mz4, mz5, mz6]
 refine wtkq 6 ?vb6 rfl (by kernel_rfl) (fun _ _ _ h => h) (by rfl) ?yb6 HD.out ?zb6
 case yb6 => (intro w hSw; (try dsimp only at hSw); go_simp; try with_reducible rfl)
 try simp only [mz1, mz2, mz3, Act.put, mz4, mz5, mz6]
 refine wtkq 7 ?vb7 rfl (by kernel_rfl) (fun _ _ _ h => h) (by rfl) ?yb7 HD.out ?zb7
 case yb7 => (intro w hSw; (try dsimp only at hSw); go_simp; try with_reducible rfl)
 try simp only [mz1, mz2, mz3, Act.put, mz4, mz5, mz6]
 refine wtkq 8 ?vb8 rfl (by kernel_rfl) (fun _ _ _ h => h) (by rfl) ?yb8 HD.out ?zb8
 case yb8 => (intro w hSw; (try dsimp only at hSw); go_simp; try with_reducible rfl)
 try simp only [mz1, mz2, mz3, Act.put, mz4, mz5, mz6]
 refine wpAnyH_ready (rs := [9]) (by kernel_rfl) (by simp) ?_
 refine AllReadyH.cons rfl (fun K hK => ?_) AllReadyH.nil
 go_simp
 refine (mac_any _ (some ⟨gd, o, none⟩) (some ⟨gd, o2, none⟩) k c k k _ _ hc HSr.out HSr2.out (by omega)).mono ?_
 rintro e w1 ⟨rfl, hr1, hb0⟩
 have hb1 := undrew hb0
 have HB1 : Hid (Below w.heap.size w w1) := hb1
 have HR1 : Hid (Sl w1 (some ⟨w.heap.size, 0, none⟩) k (fun l => F i l ^^^ fm c (F j l))) := RowAt.sl hr1 (fun l hl => qbb _ _ (HE.out l hl) (qal _ _ hc))
 have HO1 : Hid (Ob w1 B (.slice (some ⟨gd, 0, none⟩) (n * k) d) (n * k) D) := HO.out.later hb1
 have HD1 : Hid (w1.cell? ⟨gi, 0, none⟩ = some (.int .i64 (i : Int)) ∧ w1.cell? ⟨gc, 0, none⟩ = some (.int .u8 (c : Int)) ∧ w1.cell? ⟨gr, i, none⟩ = some (.slice (some ⟨gd, o, none⟩) k k) ∧ w1.cell? ⟨gj, 0, none⟩ = some (.int .i64 (j : Int)) ∧ w1.cell? ⟨gr, j, none⟩ = some (.slice (some ⟨gd, o2, none⟩) k k)) := ⟨qaj hb1 ci, qaj hb1 cc, qaj hb1 co, qaj hb1 cj, qaj hb1 ca⟩
 have ci1 := HD1.out.1
 have co1 := HD1.out.2.2.1
 clear hr1 hb0 hb1
 refine hK.out _ _ HD1.out (fun _ => ?_)
 clear hK K
 try simp only [mz1, mz2, mz3, Act.put, mz4, mz5, mz6]
 refine wtkq 10 ?vb10 rfl (by kernel_rfl) (fun _ _ _ h => h) (by rfl) ?yb10 HD1.out ?zb10
 case yb10 => (intro w hSw; (try dsimp only at hSw); go_simp; try with_reducible rfl)
 try simp only [mz1, mz2, mz3, Act.put, mz4, mz5, mz6]
 refine wtkq 11 ?vb11 rfl (by kernel_rfl) (fun _ _ _ h => h) (by rfl) ?yb11 HD1.out ?zb11
 case yb11 => (intro w hSw; (try dsimp only at hSw); go_simp; try with_reducible rfl)
 try simp only [mz1, mz2, mz3, Act.put, mz4, mz5, mz6]
 refine wtkq 12 ?vb12 rfl (by kernel_rfl) (fun _ _ _ h => h) (by rfl) ?yb12 HD1.out ?zb12
 case yb12 => (intro w hSw; (try dsimp only at hSw); go_simp; try with_reducible rfl)
 try simp only [mz1, mz2, mz3, Act.put, mz4, mz5, mz6]
 refine wtkq 13 ?vb13 rfl (by kernel_rfl) (fun _ _ _ h => h) (by rfl) ?yb13 HD1.out ?zb13
 case yb13 => (intro w hSw; (try dsimp only at hSw); go_simp; try with_reducible rfl)
 try simp only [mz1, mz2, mz3, Act.put, mz4, mz5, mz6]
 refine wtkq 14 ?vb14 rfl (by kernel_rfl) (fun _ _ _ h => h) (by rfl) ?yb14 HD1.out ?zb14
 case yb14 => (intro w hSw; (try dsimp only at hSw); go_simp; try with_reducible rfl)
 try simp only [mz1, mz2, mz3, Act.put, mz4, mz5, mz6]
 refine wpAnyH_done (by kernel_rfl) ?_ _
 go_wp2_with (refine qcg rfl _ _ rfl B gd o (n * k) k k d k k w.heap.size 0 D _ rfl rfl HO1.out HR1.out (Nat.le_refl _) hfit ?_; intro w2 HO2 HG2)
 go_end0
 exact ⟨rfl, HC.out w1 w2 _ HB1.out (fun l hl => qbb _ _ (HE.out l hl) (qal _ _ hc)) HO2.out HG2.out, (Chg.of_below HB1.out).trans (Chg.of_grown HG2.out (.inr rfl))⟩
end Go.Proofs.Ytblagbghpfopcaa
