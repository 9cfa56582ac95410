/-
  Stage 12: the reference's Names.
-/
import Derived.Test.YtgmndjbicandfaaDoorQnnes00
import Derived.Test.YtgmndjbicandfaaDoorQnnes34
import Derived.Test.YtgmndjbicandfaaDoorQnnes03
set_option maxRecDepth 100000
set_option maxHeartbeats 16000000
namespace Go.Proofs.YtgmndjbicandfaaDoor
open Go.RowKit Go.Shelf Go.Maps
open Go.Proofs (encStr)
/-- A rising list of the names of an expression. -/
def NmA (w : World) (B : Nat) (e : Ending) (T : Xt) : Prop := ∃ v Q, e = .returned (.tuple #[v, .int .i64 0]) ∧ Nw w B v Q ∧ Ris Q ∧ (∀ x, x ∈ Q ↔ x ∈ nmx 16 T) ∧ Q.length ≤ 8192
theorem qe6 (w : World) (T : Xt) (v : Value) (hX : XV w v T) (hm : mayX T = true) : Calls Tryd.prog 11 #[v] w fun e w' => NmA w' w.heap.size e T ∧ Below w.heap.size w w' := by
 have HMy : Hid (∀ w' : World, Below w.heap.size w w' → Calls Tryd.prog 19 #[v] w' fun e w'' => e = .returned (.bool true) ∧ Below w'.heap.size w' w'') := fun w' hb => by
  have h := qaq w' T v (hX.later hb)
  rw [hm] at h
  exact h
 obtain ⟨U, HU⟩ : ∃ U, Hid (nmx 16 T = U) := ⟨_, rfl⟩
 have HAl : Hid (∀ w' : World, Below w.heap.size w w' → Calls Tryd.prog 29 #[v] w' fun e w'' => (∃ v', e = .returned v' ∧ Nw w'' w'.heap.size v' U) ∧ Below w'.heap.size w' w'') := fun w' hb => by
  rw [← HU.out]
  exact rall12 16 w' T v (hX.later hb) (qai hm)
 have hU8 : U.length ≤ 8192 := by rw [← HU.out]; exact qbg (qai hm)
 obtain ⟨i0, hi0, hz0, hz1, hz2⟩ := info_parts jstr13
 obtain ⟨⟨a, cap, rfl, _⟩, _⟩ := hX
 generalize T [] = l at *
 obtain ⟨k, n, nm, len, ln, cl⟩ := l
 dsimp only at HMy HAl ⊢
 obtain ⟨wb, HW⟩ : ∃ wb, Hid (wb = w.alloc (.cells #[.int .u8 (k : Int), .int .i64 n, .string nm, .slice a len cap, .int .i64 ln, .int .i64 cl] 25)) := ⟨_, rfl⟩
 have HX : Hid (Vn wb w.heap.size 25 #[.int .u8 (k : Int), .int .i64 n, .string nm, .slice a len cap, .int .i64 ln, .int .i64 cl]) := by show Vn _ _ _ _; rw [HW.out]; exact Vn.new w _ _
 have HB0 : Hid (Below w.heap.size w wb) := by show Below _ _ _; rw [HW.out]; exact jlow _ _
 have c0 := HX.out.cell 0 _ rfl
 have c1 := HX.out.cell 1 _ rfl
 have c2 := HX.out.cell 2 _ rfl
 have c3 := HX.out.cell 3 _ rfl
 have c4 := HX.out.cell 4 _ rfl
 have c5 := HX.out.cell 5 _ rfl
 clear hm
 go_enter Tryd.func11, Tryd.ntmps11
 go_wp2_with (first
  | rw [← HW.out]
  | (go_at_call 19; go_loud (refine (HMy.out _ HB0.out).mono ?_; rintro e w1 ⟨rfl, hb1⟩; have HB1 := qa0 (jtwo HB0.out hb1); have HX1 := qa0 (HX.out.later hb1); have t0 := HX1.out.cell 0 _ rfl; have t1 := HX1.out.cell 1 _ rfl; have t2 := HX1.out.cell 2 _ rfl; have t3 := HX1.out.cell 3 _ rfl; have t4 := HX1.out.cell 4 _ rfl; have t5 := HX1.out.cell 5 _ rfl; clear hb1))
  | (go_at_call 29; go_loud (refine (HAl.out _ HB1.out).mono ?_; rintro e w3 ⟨⟨v3, rfl, h3⟩, hb3⟩; obtain ⟨xu, du, rfl, -⟩ := h3.form; have hs1 := HB1.out.size; have H3 := qa0 (h3.low hs1); have HB3 := qa0 (jtwo HB1.out hb3); clear h3 hb3 hs1)))
 clear HMy HAl HX HX1 HB0 HB1 HW c0 c1 c2 c3 c4 c5 t0 t1 t2 t3 t4 t5
 go_loopw [5, 6] (fun vt vi wq => ∃ (j : Nat) (Q : List (List UInt8)), j ≤ U.length ∧ Q.length ≤ j ∧ vi = .int .i64 (j : Int) ∧ Hid (Ris Q ∧ ∀ x, x ∈ Q ↔ ∃ u ∈ U.take j, u = x) ∧ (∃ x d, vt = .slice x Q.length d) ∧ Hid (Nw wq w.heap.size vt Q) ∧ Hid (Nw wq w.heap.size (.slice xu U.length du) U) ∧ Hid (Below w.heap.size w wq) ∧ Hid (∀ g, vt.ownBlock = some g → (Value.slice xu U.length du).ownBlock ≠ some g)) (fun _ vi _ => U.length - (intOf vi).toNat)
 case atStart => exact ⟨0, [], by omega, Nat.zero_le _, rfl, ⟨List.Pairwise.nil, fun x => ⟨fun h => (by cases h), fun ⟨u, h, _⟩ => (by cases h)⟩⟩, ⟨none, 0, rfl⟩, Nw.nil _ _, H3, HB3, fun g h1 _ => by cases h1⟩
 case round =>
  obtain ⟨j, Q, hj, hQj, rfl, HRq, ⟨xq, dq, rfl⟩, HNq, HUq, HBq, HSp⟩ := hrel
  clear H3 HB3
  by_cases hjt : j < U.length
  ·have p2 : (0 : Int) ≤ (j : Int) := by omega
   have p3 : (j : Int) < (U.length : Int) := by omega
   obtain ⟨x0, hu⟩ : ∃ u, U[j]? = some u := ⟨_, List.getElem?_eq_getElem hjt⟩
   obtain ⟨un, hun⟩ : ∃ un : ByteArray, un.data.toList = x0 := ⟨⟨x0.toArray⟩, by simp⟩
   have HCu : Hid (∀ W : World, Nw W w.heap.size (.slice xu U.length du) U → ∃ g, xu = some ⟨g, 0, none⟩ ∧ W.cell? ⟨g, j, none⟩ = some (.string un)) := fun W h => by
    obtain ⟨g, e, h0⟩ := h.el hu
    exact ⟨g, e, by rw [h0, ← hun]⟩
   have HTk : Hid (U.take (j + 1) = U.take j ++ [un.data.toList]) := by show _ = _; rw [List.take_add_one, hu, hun]; rfl
   have hql : Q.length ≤ 8192 := by omega
   clear hun
   clear hu
   go_wp2
   go_loopw [7] (fun vi wp => ∃ q : Nat, q ≤ Q.length ∧ vi = .int .i64 (q : Int) ∧ Hid (∀ (r : Nat) (y : List UInt8), r < q → Q[r]? = some y → y < un.data.toList) ∧ Hid (Nw wp w.heap.size (.slice xq Q.length dq) Q) ∧ Hid (Nw wp w.heap.size (.slice xu U.length du) U) ∧ Hid (Below w.heap.size w wp)) (fun vi _ => Q.length - (intOf vi).toNat)
   case atStart => exact ⟨0, by omega, rfl, (fun r y h => by omega), HNq, HUq, HBq⟩
   case round =>
    obtain ⟨q, hq, rfl, HLe, HNp, HUp, HBp⟩ := hrel
    clear HNq HUq HBq
    obtain ⟨gu, ex, z0⟩ := HCu.out _ HUp.out
    subst ex
    by_cases hqt : q < Q.length
    ·have p4 : (0 : Int) ≤ (q : Int) := by omega
     have p5 : (q : Int) < (Q.length : Int) := by omega
     obtain ⟨y, hy⟩ : ∃ y, Q[q]? = some y := ⟨_, List.getElem?_eq_getElem hqt⟩
     obtain ⟨gq, ex, z1⟩ := HNp.out.el hy
     subst ex
     obtain ⟨ys, Hys⟩ : ∃ ys : ByteArray, Hid (⟨y.toArray⟩ = ys) := ⟨_, rfl⟩
     have hyd : ys.data.toList = y := by rw [← Hys.out]
     rw [Hys.out] at z1
     have hls := less_str ys un
     rw [hyd] at hls
     by_cases hb : y < un.data.toList
     ·rw [decide_eq_true hb] at hls
      have HLe2 : Hid (∀ (r : Nat) (z : List UInt8), r < q + 1 → Q[r]? = some z → z < un.data.toList) := fun r z hr hz => by
       by_cases e : r = q
       ·subst e; rw [hy] at hz; cases hz; exact hb
       ·exact HLe.out r z (by omega) hz
      clear hy hyd Hys hb HLe
      go_wp2
      go_quiet (fail)
      go_wp2
      exact ⟨⟨q + 1, by omega, by go_num, HLe2, HNp.out.later (below_drewN (Below.refl _ _) _), HUp.out.later (below_drewN (Below.refl _ _) _), below_drewN HBp.out _⟩, by simp [intOf]; omega⟩
     ·rw [decide_eq_false hb] at hls
      by_cases hyx : y = un.data.toList
      ·have eyu : ys = un := ByteArray.ext (Array.toList_inj.1 (by rw [hyd, hyx]))
       subst eyu
       have HR2 : Hid (Ris Q ∧ ∀ x, x ∈ Q ↔ ∃ u ∈ U.take (j + 1), u = x) := by
        refine ⟨HRq.out.1, fun z => ?_⟩
        rw [HTk.out, HRq.out.2 z]
        constructor
        ·rintro ⟨v, hv, e⟩; exact ⟨v, List.mem_append_left _ hv, e⟩
        ·rintro ⟨v, hv, e⟩
         rcases List.mem_append.1 hv with hv | hv
         ·exact ⟨v, hv, e⟩
         ·rw [List.mem_singleton.1 hv] at e
          have hz : z ∈ Q := by rw [← e, ← hyx]; exact List.mem_of_getElem? hy
          exact (HRq.out.2 z).1 hz
       clear hy hyd hyx Hys hb HLe
       go_wp2
       go_quiet (fail)
       go_wp2
       go_quiet (fail)
       go_wp2
       exact ⟨⟨j + 1, Q, by omega, by omega, by go_num, HR2, ⟨_, _, rfl⟩, HNp.out.later (below_drewN (Below.refl _ _) _), HUp.out.later (below_drewN (Below.refl _ _) _), below_drewN HBp.out _, HSp⟩, by simp [intOf]; omega⟩
      ·have eyu : ys ≠ un := fun e => hyx (by rw [← hyd, e])
       have g1 : sbq ys un = false := sbq_ne eyu
       have g2 : (ys.toList == un.toList) = false := g1
       have g3 : decide (ys = un) = false := decide_eq_false eyu
       have HPt : Hid (∀ z, Q[q]? = some z → ¬ z < un.data.toList ∧ z ≠ un.data.toList) := fun z hz => by
        rw [hy] at hz
        cases hz
        exact ⟨hb, hyx⟩
       clear hy hyd hyx Hys hb
       go_wp2
       go_quiet (fail)
       have hbA : Below wr.heap.size wr (wr.drewN nq) := below_drewN (Below.refl _ _) _
       have HNa := qa0 (HNp.out.later hbA)
       have HUa := qa0 (HUp.out.later hbA)
       have HBa := qa0 (jtwo HBp.out hbA)
       have y0 := cell_kept z0 hbA
       have y1 := cell_kept z1 hbA
       clear hbA z0 z1 HNp HUp HBp
       generalize wr.drewN nq = w6 at *
       go_wp2
       go_quiet (fail)
       have hbA : Below w6.heap.size w6 (w6.drewN nq) := below_drewN (Below.refl _ _) _
       have HNb := qa0 (HNa.out.later hbA)
       have HUb := qa0 (HUa.out.later hbA)
       have HBb := qa0 (jtwo HBa.out hbA)
       have x0 := cell_kept y0 hbA
       have x1 := cell_kept y1 hbA
       clear hbA y0 y1 HNa HUa HBa
       generalize w6.drewN nq = w7 at *
       go_wp2_with (at_builtin; go_loud (refine wpList_append_lies _ rfl _ _ 34 rfl w.heap.size 9 i0 (.string ⟨#[]⟩) 1 16 Tryd.underlying34 hi0 hz0 hz1 hz2 rfl (by decide) _ Q.length _ rfl (HNb.out.later (jlow _ _)) ⟨w7.heap.size, 0, none⟩ 1 1 [.string ⟨#[]⟩] rfl rfl (qam _ _ _) (by intro u hu; rw [List.mem_singleton.1 hu]; rfl) (by omega) (by unfold maxLen; omega) (by omega) (by have := HBb.out.size; simp; omega) _ rfl ?_; intro ga capa wa hOa hga hla hlb; have HOa := qa0 hOa; have HCm : Hid (capa ≤ maxLen) := (by rcases hOa.2 with ⟨e, _⟩ | ⟨g, cap, cur, e, _, _, _, h, _⟩ <;> cases e; exact h); have HUa2 : Hid (Nw wa w.heap.size (.slice (some ⟨gu, 0, none⟩) U.length du) U) := World.ownsRow.kept (HUb.out.later (jlow _ _)) hga (.inr (fun e => HSp.out gu e.symm rfl)); have HNe : Hid (ga ≠ gu) := (fun e => by rcases hla with h | h; exact HSp.out gu (h.trans (congrArg some e)) rfl; (have h2 := (HUb.out.base (g := gu) rfl).2; simp at h; omega)); have HBa := qa0 ((HBb.out.trans ((jlow _ _).mono HBb.out.size)).trans (jbelow hga (by have := HBb.out.size; simp; omega) (fun g hg => (HNb.out.base hg).1))); clear hOa hga))
       have hcp : Q.length + 1 ≤ capa := by rcases HOa.out.2 with ⟨e, _⟩ | ⟨g, cap, cur, e, _, _, h, _⟩; (cases e); (cases e; exact h)
       have w1' : IntKind.i64.wrap ((q : Int) + 1) = (q : Int) + 1 := by rw [IntKind.wrap_i64]; omega
       have w2' : ((q : Int) + 1).toNat = q + 1 := by omega
       have w3' : (0 : Int) ≤ (q : Int) + 1 := by omega
       have w4' : (q : Int) + 1 ≤ (Q.length : Int) + 1 := by omega
       have w5' : (q : Int) ≤ (Q.length : Int) + 1 := by omega
       have w6' : (0 : Int) ≤ (q : Int) := by omega
       refine wp_region_held (S := fun _ => True) (by kernel_rfl) ?_
       change wpAnyH _ _ _ _ _ _ _ _ (World.drew _)
       obtain ⟨wd, HWd⟩ : ∃ wd, Hid (wa.drew = wd) := ⟨_, rfl⟩
       have hbd : Below wa.heap.size wa wd := by rw [← HWd.out]; exact (Below.refl _ _).drew
       rw [HWd.out]
       clear HWd
       refine wtkq 0 ?vi180 rfl (by kernel_rfl) (fun _ _ _ h => h) (by rfl) ?yi180 trivial ?zi180
       case yi180 => (intro wq hSw; go_simp; try with_reducible rfl)
       try simp only [mz1, mz3, Act.put, mz4, mz5, mz6]
       refine wtkq 1 ?vi181 rfl (by kernel_rfl) (fun _ _ _ h => h) (by rfl) ?yi181 trivial ?zi181
       case yi181 => (intro wq hSw; go_simp; try with_reducible rfl)
       try simp only [mz1, mz2, mz3, Act.put, mz4, mz5, mz6]
       refine wtkq 2 ?vi182 rfl (by kernel_rfl) (fun _ _ _ h => h) (by rfl) ?yi182 trivial ?zi182
       case yi182 => (intro wq hSw; go_simp; try with_reducible rfl)
       try simp only [mz1, mz2, mz3, Act.put, mz4, mz5, mz6]
       refine wtkq 3 ?vi183 rfl (by kernel_rfl) (fun _ _ _ h => h) (by rfl) ?yi183 trivial ?zi183
       case yi183 => (intro wq hSw; go_simp; try with_reducible rfl)
       try simp only [mz1, mz2, mz3, Act.put, mz4, mz5, mz6]
       refine wtkq 4 ?vi184 rfl (by kernel_rfl) (fun _ _ _ h => h) (by rfl) ?yi184 trivial ?zi184
       case yi184 => (intro wq hSw; go_simp; try with_reducible rfl)
       try simp only [mz1, mz2, mz3, Act.put, mz4, mz5, mz6]
       refine wtkq 5 ?vi185 rfl (by kernel_rfl) (fun _ _ _ h => h) (by rfl) ?yi185 trivial ?zi185
       case yi185 => (intro wq hSw; go_simp; try with_reducible rfl)
       try simp only [mz1, mz2, mz3, Act.put, mz4, mz5, mz6]
       refine wtkq 6 ?vi186 rfl (by kernel_rfl) (fun _ _ _ h => h) (by rfl) ?yi186 trivial ?zi186
       case yi186 => (intro wq hSw; go_simp; try with_reducible rfl)
       try simp only [mz1, mz2, mz3, Act.put, mz4, mz5, mz6]
       obtain ⟨cur, hBg, hcur, hcs, hct⟩ : ∃ cur : Array Value, w.heap.size ≤ ga ∧ wa.heap[ga]? = some (.cells cur 9 (0, 0)) ∧ cur.size = capa ∧ cur.toList.take (Q.length + 1) = Q.map encStr ++ [.string ⟨#[]⟩] := by
        rcases HOa.out.2 with ⟨e, _⟩ | ⟨g, cap, cur, e, h1, h2, _, _, h5, h6⟩
        ·cases e
        ·cases e; exact ⟨cur, h1, h2, by rw [h5, Nat.mul_one], by rw [Nat.mul_one] at h6; exact h6⟩
       have hcl : cur.toList.length = capa := (Array.length_toList (xs := cur)).trans hcs
       have hmq : (Q.map encStr).length = Q.length := List.length_map ..
       have hwd : wd.heap[ga]? = some (.cells cur.toList.toArray 9 (0, 0)) := by rw [hbd.block ga (lt_of_block hcur), hcur, Array.toArray_toList]
       have Hsrc : Hid (∀ j v, ((Q.map encStr).drop q)[j]? = some v → wd.cell? ((⟨ga, q, none⟩ : Addr).add j) = some v) := fun j v hv => by
        rw [List.getElem?_drop] at hv
        rw [Addr.add_mid, cell_of_row _ _ _ _ _ _ hwd]
        have hlj : q + j < Q.length := by have := (List.getElem?_eq_some_iff.1 hv).1; omega
        have h := congrArg (fun l => l[q + j]?) hct
        rw [List.getElem?_take, if_pos (by omega), List.getElem?_append_left (by omega), hv] at h
        rw [List.getElem?_toArray]
        exact h
       refine wpAnyH_ready (rs := [7]) (by kernel_rfl) (by simp) ?_
       refine AllReadyH.cons rfl (fun KK hKK => ?_) AllReadyH.nil
       refine qbf rfl _ _ rfl _ _ _ _ _ _ rfl rfl ga (q + 1) cur.toList hwd ((Q.map encStr).drop q) (by rw [List.length_drop, hmq]; exact (Nat.min_eq_right (by omega)).symm) (fun h0 => ⟨if_neg (by rw [List.length_drop, hmq] at h0; omega), ⟨ga, q, none⟩, if_neg (by omega), Hsrc.out⟩) (by rw [List.length_drop, hmq, hcl]; omega) (fun v hv => by obtain ⟨z, _, e⟩ := List.mem_map.1 (List.mem_of_mem_drop hv); rw [← e]; rfl) ?_
       intro wc hvc hgc
       have HVc := qa0 hvc
       have hbc : Below w.heap.size w wc := (jtwo HBa.out hbd).trans (jbelow hgc (jtwo HBa.out hbd).size (fun g e => by cases e; exact hBg))
       have HBc := qa0 hbc
       have HUc : Hid (Nw wc w.heap.size (.slice (some ⟨gu, 0, none⟩) U.length du) U) := by
        refine World.ownsRow.kept (HUa2.out.later hbd) hgc (.inr (fun e => by cases e; exact HNe.out rfl))
       refine hKK.out _ _ trivial (fun _ => ?_)
       clear hKK KK
       try simp only [mz1, mz2, mz3, Act.put, mz4, mz5, mz6]
       refine wpAnyH_done (by kernel_rfl) ?_ _
       try simp only [mz1, mz2, mz3, Act.put, mz4, mz5, mz6]
       obtain ⟨gu', ex', x0'⟩ := HCu.out _ HUc.out
       cases ex'
       have HFin : Hid (∀ w9 : World, Vn w9 ga 9 ((splice cur.toList (q + 1) ((Q.map encStr).drop q)).toArray.setIfInBounds q (.string un)) → Nw w9 w.heap.size (.slice (some ⟨ga, 0, none⟩) (Q.length + 1) capa) (Q.take q ++ un.data.toList :: Q.drop q)) := fun w9 hv9 => by
        have hln : (Q.take q ++ un.data.toList :: Q.drop q).length = Q.length + 1 := by simp <;> omega
        have hsp : (splice cur.toList (q + 1) ((Q.map encStr).drop q)).length = capa := by rw [length_splice _ _ _ (by rw [List.length_drop, hmq, hcl]; omega), hcl]
        refine ⟨by simp, .inr ⟨ga, capa, _, by rw [hln], hBg, hv9, by rw [hln]; exact hcp, HCm.out, by simp [hsp], ?_⟩⟩
        rw [hln, Nat.mul_one]
        have h := qe5 (v := .string un) hmq (show q ≤ Q.length by omega) (by rw [hcl]; exact hcp) hct
        rw [List.map_append, List.map_cons, List.map_take, List.map_drop]
        have e5 : encStr un.data.toList = .string un := by simp [encStr]
        rw [e5, ← h]
        simp
       have HR2 : Hid (Ris (Q.take q ++ un.data.toList :: Q.drop q) ∧ ∀ x, x ∈ Q.take q ++ un.data.toList :: Q.drop q ↔ ∃ u ∈ U.take (j + 1), u = x) := by
        refine ⟨qe4 HRq.out.1 (by omega) HLe.out HPt.out, fun z => ?_⟩
        rw [HTk.out, put_mem, HRq.out.2 z]
        constructor
        ·rintro (rfl | ⟨v, hv, e⟩)
         ·exact ⟨_, List.mem_append_right _ (List.mem_singleton.2 rfl), rfl⟩
         ·exact ⟨v, List.mem_append_left _ hv, e⟩
        ·rintro ⟨v, hv, e⟩
         rcases List.mem_append.1 hv with hv | hv
         ·exact .inr ⟨v, hv, e⟩
         ·rw [List.mem_singleton.1 hv] at e; exact .inl e.symm
       have hlR : q < (splice cur.toList (q + 1) ((Q.map encStr).drop q)).toArray.size := by rw [List.size_toArray, length_splice _ _ _ (by rw [List.length_drop, hmq, hcl]; omega), hcl]; omega
       generalize hRR : (splice cur.toList (q + 1) ((Q.map encStr).drop q)).toArray = RR at *
       obtain ⟨Q2, HQ2⟩ : ∃ Q2, Hid (Q.take q ++ un.data.toList :: Q.drop q = Q2) := ⟨_, rfl⟩
       have HL2 : Hid (Q2.length = Q.length + 1) := by show _ = _; rw [← HQ2.out]; simp <;> omega
       rw [HQ2.out] at HFin HR2
       have hgu := HNe.out
       clear hcur hwd hct hRR hbc hvc hgc hbd Hsrc HPt HLe hmq
       go_wp2_with (refine wpList_store_one rfl 9 _ _ rfl ga q 9 RR (.string un) rfl rfl qat rfl rfl HVc.out hlR ?_; go_loud (intro w9 HV9 hg9; have HN9 := qa0 (HFin.out w9 HV9.out); have HB9 := qa0 (HBc.out.trans (jbelow hg9.out HBc.out.size (fun g e => by cases e; exact hBg))); have HU9 : Hid (Nw w9 w.heap.size (.slice (some ⟨gu, 0, none⟩) U.length du) U) := World.ownsRow.kept HUc.out hg9.out (.inr (fun e => by cases e; exact hgu rfl)); clear hg9))
       have HSp9 : Hid (∀ g, (Value.slice (some ⟨ga, 0, none⟩) (Q.length + 1) capa).ownBlock = some g → (Value.slice (some ⟨gu, 0, none⟩) U.length du).ownBlock ≠ some g) := fun g h1 h2 => by cases h1; cases h2; exact hgu rfl
       exact ⟨⟨j + 1, Q2, by omega, (by have := HL2.out; omega), by go_num, HR2, ⟨_, _, by rw [HL2.out]⟩, HN9, HU9, HB9, HSp9⟩, by simp [intOf]; omega⟩
    ·obtain rfl : q = Q.length := by omega
     have HPt : Hid (∀ z, Q[Q.length]? = some z → ¬ z < un.data.toList ∧ z ≠ un.data.toList) := fun z hz => by
      rw [List.getElem?_eq_none (Nat.le_refl _)] at hz
      cases hz
     have g1 : decide ((Q.length : Int) < (Q.length : Int)) = false := decide_eq_false (by omega)
     go_wp2
     go_quiet (fail)
     have hbA : Below wr.heap.size wr (wr.drewN nq) := below_drewN (Below.refl _ _) _
     have HNa := qa0 (HNp.out.later hbA)
     have HUa := qa0 (HUp.out.later hbA)
     have HBa := qa0 (jtwo HBp.out hbA)
     have y0 := cell_kept z0 hbA
     clear hbA z0  HNp HUp HBp
     generalize wr.drewN nq = w6 at *
     go_wp2
     go_quiet (fail)
     have hbA : Below w6.heap.size w6 (w6.drewN nq) := below_drewN (Below.refl _ _) _
     have HNb := qa0 (HNa.out.later hbA)
     have HUb := qa0 (HUa.out.later hbA)
     have HBb := qa0 (jtwo HBa.out hbA)
     have x0 := cell_kept y0 hbA
     clear hbA y0  HNa HUa HBa
     generalize w6.drewN nq = w7 at *
     go_wp2_with (at_builtin; go_loud (refine wpList_append_lies _ rfl _ _ 34 rfl w.heap.size 9 i0 (.string ⟨#[]⟩) 1 16 Tryd.underlying34 hi0 hz0 hz1 hz2 rfl (by decide) _ Q.length _ rfl (HNb.out.later (jlow _ _)) ⟨w7.heap.size, 0, none⟩ 1 1 [.string ⟨#[]⟩] rfl rfl (qam _ _ _) (by intro u hu; rw [List.mem_singleton.1 hu]; rfl) (by omega) (by unfold maxLen; omega) (by omega) (by have := HBb.out.size; simp; omega) _ rfl ?_; intro ga capa wa hOa hga hla hlb; have HOa := qa0 hOa; have HCm : Hid (capa ≤ maxLen) := (by rcases hOa.2 with ⟨e, _⟩ | ⟨g, cap, cur, e, _, _, _, h, _⟩ <;> cases e; exact h); have HUa2 : Hid (Nw wa w.heap.size (.slice (some ⟨gu, 0, none⟩) U.length du) U) := World.ownsRow.kept (HUb.out.later (jlow _ _)) hga (.inr (fun e => HSp.out gu e.symm rfl)); have HNe : Hid (ga ≠ gu) := (fun e => by rcases hla with h | h; exact HSp.out gu (h.trans (congrArg some e)) rfl; (have h2 := (HUb.out.base (g := gu) rfl).2; simp at h; omega)); have HBa := qa0 ((HBb.out.trans ((jlow _ _).mono HBb.out.size)).trans (jbelow hga (by have := HBb.out.size; simp; omega) (fun g hg => (HNb.out.base hg).1))); clear hOa hga))
     have hcp : Q.length + 1 ≤ capa := by rcases HOa.out.2 with ⟨e, _⟩ | ⟨g, cap, cur, e, _, _, h, _⟩; (cases e); (cases e; exact h)
     have w1' : IntKind.i64.wrap ((Q.length : Int) + 1) = (Q.length : Int) + 1 := by rw [IntKind.wrap_i64]; omega
     have w2' : ((Q.length : Int) + 1).toNat = Q.length + 1 := by omega
     have w3' : (0 : Int) ≤ (Q.length : Int) + 1 := by omega
     have w4' : (Q.length : Int) + 1 ≤ (Q.length : Int) + 1 := by omega
     have w5' : (Q.length : Int) ≤ (Q.length : Int) + 1 := by omega
     have w6' : (0 : Int) ≤ (Q.length : Int) := by omega
     refine wp_region_held (S := fun _ => True) (by kernel_rfl) ?_
     change wpAnyH _ _ _ _ _ _ _ _ (World.drew _)
     obtain ⟨wd, HWd⟩ : ∃ wd, Hid (wa.drew = wd) := ⟨_, rfl⟩
     have hbd : Below wa.heap.size wa wd := by rw [← HWd.out]; exact (Below.refl _ _).drew
     rw [HWd.out]
     clear HWd
     refine wtkq 0 ?vi140 rfl (by kernel_rfl) (fun _ _ _ h => h) (by rfl) ?yi140 trivial ?zi140
     case yi140 => (intro wq hSw; go_simp; try with_reducible rfl)
     try simp only [mz1, mz3, Act.put, mz4, mz5, mz6]
     refine wtkq 1 ?vi141 rfl (by kernel_rfl) (fun _ _ _ h => h) (by rfl) ?yi141 trivial ?zi141
     case yi141 => (intro wq hSw; go_simp; try with_reducible rfl)
     try simp only [mz1, mz2, mz3, Act.put, mz4, mz5, mz6]
     refine wtkq 2 ?vi142 rfl (by kernel_rfl) (fun _ _ _ h => h) (by rfl) ?yi142 trivial ?zi142
     case yi142 => (intro wq hSw; go_simp; try with_reducible rfl)
     try simp only [mz1, mz2, mz3, Act.put, mz4, mz5, mz6]
     refine wtkq 3 ?vi143 rfl (by kernel_rfl) (fun _ _ _ h => h) (by rfl) ?yi143 trivial ?zi143
     case yi143 => (intro wq hSw; go_simp; try with_reducible rfl)
     try simp only [mz1, mz2, mz3, Act.put, mz4, mz5, mz6]
     refine wtkq 4 ?vi144 rfl (by kernel_rfl) (fun _ _ _ h => h) (by rfl) ?yi144 trivial ?zi144
     case yi144 => (intro wq hSw; go_simp; try with_reducible rfl)
     try simp only [mz1, mz2, mz3, Act.put, mz4, mz5, mz6]
     refine wtkq 5 ?vi145 rfl (by kernel_rfl) (fun _ _ _ h => h) (by rfl) ?yi145 trivial ?zi145
     case yi145 => (intro wq hSw; go_simp; try with_reducible rfl)
     try simp only [mz1, mz2, mz3, Act.put, mz4, mz5, mz6]
     refine wtkq 6 ?vi146 rfl (by kernel_rfl) (fun _ _ _ h => h) (by rfl) ?yi146 trivial ?zi146
     case yi146 => (intro wq hSw; go_simp; try with_reducible rfl)
     try simp only [mz1, mz2, mz3, Act.put, mz4, mz5, mz6]
     obtain ⟨cur, hBg, hcur, hcs, hct⟩ : ∃ cur : Array Value, w.heap.size ≤ ga ∧ wa.heap[ga]? = some (.cells cur 9 (0, 0)) ∧ cur.size = capa ∧ cur.toList.take (Q.length + 1) = Q.map encStr ++ [.string ⟨#[]⟩] := by
      rcases HOa.out.2 with ⟨e, _⟩ | ⟨g, cap, cur, e, h1, h2, _, _, h5, h6⟩
      ·cases e
      ·cases e; exact ⟨cur, h1, h2, by rw [h5, Nat.mul_one], by rw [Nat.mul_one] at h6; exact h6⟩
     have hcl : cur.toList.length = capa := (Array.length_toList (xs := cur)).trans hcs
     have hmq : (Q.map encStr).length = Q.length := List.length_map ..
     have hwd : wd.heap[ga]? = some (.cells cur.toList.toArray 9 (0, 0)) := by rw [hbd.block ga (lt_of_block hcur), hcur, Array.toArray_toList]
     have Hsrc : Hid (∀ j v, ((Q.map encStr).drop Q.length)[j]? = some v → wd.cell? ((⟨ga, Q.length, none⟩ : Addr).add j) = some v) := fun j v hv => by
      rw [List.getElem?_drop] at hv
      rw [Addr.add_mid, cell_of_row _ _ _ _ _ _ hwd]
      have hlj : Q.length + j < Q.length := by have := (List.getElem?_eq_some_iff.1 hv).1; omega
      have h := congrArg (fun l => l[Q.length + j]?) hct
      rw [List.getElem?_take, if_pos (by omega), List.getElem?_append_left (by omega), hv] at h
      rw [List.getElem?_toArray]
      exact h
     refine wpAnyH_ready (rs := [7]) (by kernel_rfl) (by simp) ?_
     refine AllReadyH.cons rfl (fun KK hKK => ?_) AllReadyH.nil
     refine qbf rfl _ _ rfl _ _ _ _ _ _ rfl rfl ga (Q.length + 1) cur.toList hwd ((Q.map encStr).drop Q.length) (by rw [List.length_drop, hmq]; simp) (fun h0 => ⟨if_neg (by rw [List.length_drop, hmq] at h0; omega), ⟨ga, Q.length, none⟩, if_neg (by omega), Hsrc.out⟩) (by rw [List.length_drop, hmq, hcl]; omega) (fun v hv => by obtain ⟨z, _, e⟩ := List.mem_map.1 (List.mem_of_mem_drop hv); rw [← e]; rfl) ?_
     intro wc hvc hgc
     have HVc := qa0 hvc
     have hbc : Below w.heap.size w wc := (jtwo HBa.out hbd).trans (jbelow hgc (jtwo HBa.out hbd).size (fun g e => by cases e; exact hBg))
     have HBc := qa0 hbc
     have HUc : Hid (Nw wc w.heap.size (.slice (some ⟨gu, 0, none⟩) U.length du) U) := by
      refine World.ownsRow.kept (HUa2.out.later hbd) hgc (.inr (fun e => by cases e; exact HNe.out rfl))
     refine hKK.out _ _ trivial (fun _ => ?_)
     clear hKK KK
     try simp only [mz1, mz2, mz3, Act.put, mz4, mz5, mz6]
     refine wpAnyH_done (by kernel_rfl) ?_ _
     try simp only [mz1, mz2, mz3, Act.put, mz4, mz5, mz6]
     obtain ⟨gu', ex', x0'⟩ := HCu.out _ HUc.out
     cases ex'
     have HFin : Hid (∀ w9 : World, Vn w9 ga 9 ((splice cur.toList (Q.length + 1) ((Q.map encStr).drop Q.length)).toArray.setIfInBounds Q.length (.string un)) → Nw w9 w.heap.size (.slice (some ⟨ga, 0, none⟩) (Q.length + 1) capa) (Q.take Q.length ++ un.data.toList :: Q.drop Q.length)) := fun w9 hv9 => by
      have hln : (Q.take Q.length ++ un.data.toList :: Q.drop Q.length).length = Q.length + 1 := by simp <;> omega
      have hsp : (splice cur.toList (Q.length + 1) ((Q.map encStr).drop Q.length)).length = capa := by rw [length_splice _ _ _ (by rw [List.length_drop, hmq, hcl]; omega), hcl]
      refine ⟨by simp, .inr ⟨ga, capa, _, by rw [hln], hBg, hv9, by rw [hln]; exact hcp, HCm.out, by simp [hsp], ?_⟩⟩
      rw [hln, Nat.mul_one]
      have h := qe5 (v := .string un) hmq (show Q.length ≤ Q.length by omega) (by rw [hcl]; exact hcp) hct
      rw [List.map_append, List.map_cons, List.map_take, List.map_drop]
      have e5 : encStr un.data.toList = .string un := by simp [encStr]
      rw [e5, ← h]
      simp
     have HR2 : Hid (Ris (Q.take Q.length ++ un.data.toList :: Q.drop Q.length) ∧ ∀ x, x ∈ Q.take Q.length ++ un.data.toList :: Q.drop Q.length ↔ ∃ u ∈ U.take (j + 1), u = x) := by
      refine ⟨qe4 HRq.out.1 (by omega) HLe.out HPt.out, fun z => ?_⟩
      rw [HTk.out, put_mem, HRq.out.2 z]
      constructor
      ·rintro (rfl | ⟨v, hv, e⟩)
       ·exact ⟨_, List.mem_append_right _ (List.mem_singleton.2 rfl), rfl⟩
       ·exact ⟨v, List.mem_append_left _ hv, e⟩
      ·rintro ⟨v, hv, e⟩
       rcases List.mem_append.1 hv with hv | hv
       ·exact .inr ⟨v, hv, e⟩
       ·rw [List.mem_singleton.1 hv] at e; exact .inl e.symm
     have hlR : Q.length < (splice cur.toList (Q.length + 1) ((Q.map encStr).drop Q.length)).toArray.size := by rw [List.size_toArray, length_splice _ _ _ (by rw [List.length_drop, hmq, hcl]; omega), hcl]; omega
     generalize hRR : (splice cur.toList (Q.length + 1) ((Q.map encStr).drop Q.length)).toArray = RR at *
     obtain ⟨Q2, HQ2⟩ : ∃ Q2, Hid (Q.take Q.length ++ un.data.toList :: Q.drop Q.length = Q2) := ⟨_, rfl⟩
     have HL2 : Hid (Q2.length = Q.length + 1) := by show _ = _; rw [← HQ2.out]; simp <;> omega
     rw [HQ2.out] at HFin HR2
     have hgu := HNe.out
     clear hcur hwd hct hRR hbc hvc hgc hbd Hsrc HPt HLe hmq
     go_wp2_with (refine wpList_store_one rfl 9 _ _ rfl ga Q.length 9 RR (.string un) rfl rfl qat rfl rfl HVc.out hlR ?_; go_loud (intro w9 HV9 hg9; have HN9 := qa0 (HFin.out w9 HV9.out); have HB9 := qa0 (HBc.out.trans (jbelow hg9.out HBc.out.size (fun g e => by cases e; exact hBg))); have HU9 : Hid (Nw w9 w.heap.size (.slice (some ⟨gu, 0, none⟩) U.length du) U) := World.ownsRow.kept HUc.out hg9.out (.inr (fun e => by cases e; exact hgu rfl)); clear hg9))
     have HSp9 : Hid (∀ g, (Value.slice (some ⟨ga, 0, none⟩) (Q.length + 1) capa).ownBlock = some g → (Value.slice (some ⟨gu, 0, none⟩) U.length du).ownBlock ≠ some g) := fun g h1 h2 => by cases h1; cases h2; exact hgu rfl
     exact ⟨⟨j + 1, Q2, by omega, (by have := HL2.out; omega), by go_num, HR2, ⟨_, _, by rw [HL2.out]⟩, HN9, HU9, HB9, HSp9⟩, by simp [intOf]; omega⟩
  ·obtain rfl : j = U.length := by omega
   have h := HRq.out
   rw [List.take_length] at h
   have HF : Hid (Ris Q ∧ ∀ x, x ∈ Q ↔ x ∈ nmx 16 T) := ⟨h.1, fun x => by rw [h.2 x, HU.out]; exact ⟨fun ⟨u, hu, e⟩ => e ▸ hu, fun hu => ⟨x, hu, rfl⟩⟩⟩
   clear h HRq
   go_wp2
   go_ret2
   exact ⟨⟨_, Q, rfl, HNq.out, HF.out.1, HF.out.2, by omega⟩, HBq.out⟩
end Go.Proofs.YtgmndjbicandfaaDoor
