/-
  Contracts of the program's tree: items that are the same; Same.
-/
import Derived.Test.YtdimkfcanegahaaDoorDv
namespace Go.Proofs.YtdimkfcanegahaaDoor
open Go.RowKit
set_option maxRecDepth 20000 in
set_option maxHeartbeats 8000000 in
theorem tsi_one (w : World) (k pl nl vk vl vc sk na ca np cp nr cr lc : Nat) (nm vm sm : ByteArray) (vn vln vcl sln scl ln cl : Int) (va aa pa ra la : Option Addr) (k2 pl2 nl2 vk2 vl2 vc2 sk2 na2 ca2 np2 cp2 nr2 cr2 lc2 : Nat) (nm2 vm2 sm2 : ByteArray) (vn2 vln2 vcl2 sln2 scl2 ln2 cl2 : Int) (va2 aa2 pa2 ra2 la2 : Option Addr) (r1 r2 r3 : Bool)
    (HC1 : Hid (∀ w' : World, Below w.heap.size w w' → Calls Tryd.prog 73 #[.agg #[.int .u8 (vk : Int), .int .i64 vn, .string vm, .slice va vl vc, .int .i64 vln, .int .i64 vcl], .agg #[.int .u8 (vk2 : Int), .int .i64 vn2, .string vm2, .slice va2 vl2 vc2, .int .i64 vln2, .int .i64 vcl2]] w' fun e w'' => e = .returned (.bool r1) ∧ Below w'.heap.size w' w''))
    (HC2 : Hid (∀ w' : World, Below w.heap.size w w' → Calls Tryd.prog 74 #[.agg #[.int .u8 (sk : Int), .string sm, .slice aa na ca, .slice pa np cp, .slice ra nr cr, .int .i64 sln, .int .i64 scl], .agg #[.int .u8 (sk2 : Int), .string sm2, .slice aa2 na2 ca2, .slice pa2 np2 cp2, .slice ra2 nr2 cr2, .int .i64 sln2, .int .i64 scl2]] w' fun e w'' => e = .returned (.bool r2) ∧ Below w'.heap.size w' w''))
    (HC3 : Hid (∀ w' : World, Below w.heap.size w w' → Calls Tryd.prog 75 #[.slice la nl lc, .slice la2 nl2 lc2] w' fun e w'' => e = .returned (.bool r3) ∧ Below w'.heap.size w' w'')) :
    Calls Tryd.prog 44 #[.agg #[.int .u8 (k : Int), .string nm, .int .u8 (vk : Int), .int .i64 vn, .string vm, .slice va vl vc, .int .i64 vln, .int .i64 vcl, .int .u8 (sk : Int), .string sm, .slice aa na ca, .slice pa np cp, .slice ra nr cr, .int .i64 sln, .int .i64 scl, .int .u8 (pl : Int), .slice la nl lc, .int .i64 ln, .int .i64 cl], .agg #[.int .u8 (k2 : Int), .string nm2, .int .u8 (vk2 : Int), .int .i64 vn2, .string vm2, .slice va2 vl2 vc2, .int .i64 vln2, .int .i64 vcl2, .int .u8 (sk2 : Int), .string sm2, .slice aa2 na2 ca2, .slice pa2 np2 cp2, .slice ra2 nr2 cr2, .int .i64 sln2, .int .i64 scl2, .int .u8 (pl2 : Int), .slice la2 nl2 lc2, .int .i64 ln2, .int .i64 cl2]] w fun e w' => e = .returned (.bool (decide (k = k2) && (decide (nm = nm2) && (decide (pl = pl2) && (r1 && (r2 && r3)))))) ∧ Below w.heap.size w w' := by
  have e3 := tl_eq (x := nm) (y := nm2)
  have e1 : ((k : Int) == (k2 : Int)) = decide (k = k2) := by by_cases h : k = k2 <;> simp [h]; omega
  have e2 : ((pl : Int) == (pl2 : Int)) = decide (pl = pl2) := by by_cases h : pl = pl2 <;> simp [h]; omega
  generalize decide (k = k2) = b1 at *
  generalize decide (nm = nm2) = b3 at *
  generalize decide (pl = pl2) = b4 at *
  have Vp := jhid9 ((Vn.new w 36 #[.int .u8 (k : Int), .string nm, .int .u8 (vk : Int), .int .i64 vn, .string vm, .slice va vl vc, .int .i64 vln, .int .i64 vcl, .int .u8 (sk : Int), .string sm, .slice aa na ca, .slice pa np cp, .slice ra nr cr, .int .i64 sln, .int .i64 scl, .int .u8 (pl : Int), .slice la nl lc, .int .i64 ln, .int .i64 cl]).later (jlow _ (.cells #[.int .u8 (k2 : Int), .string nm2, .int .u8 (vk2 : Int), .int .i64 vn2, .string vm2, .slice va2 vl2 vc2, .int .i64 vln2, .int .i64 vcl2, .int .u8 (sk2 : Int), .string sm2, .slice aa2 na2 ca2, .slice pa2 np2 cp2, .slice ra2 nr2 cr2, .int .i64 sln2, .int .i64 scl2, .int .u8 (pl2 : Int), .slice la2 nl2 lc2, .int .i64 ln2, .int .i64 cl2] 36)))
  have Vq := jhid9 (Vn.new (w.alloc (.cells #[.int .u8 (k : Int), .string nm, .int .u8 (vk : Int), .int .i64 vn, .string vm, .slice va vl vc, .int .i64 vln, .int .i64 vcl, .int .u8 (sk : Int), .string sm, .slice aa na ca, .slice pa np cp, .slice ra nr cr, .int .i64 sln, .int .i64 scl, .int .u8 (pl : Int), .slice la nl lc, .int .i64 ln, .int .i64 cl] 36)) 36 #[.int .u8 (k2 : Int), .string nm2, .int .u8 (vk2 : Int), .int .i64 vn2, .string vm2, .slice va2 vl2 vc2, .int .i64 vln2, .int .i64 vcl2, .int .u8 (sk2 : Int), .string sm2, .slice aa2 na2 ca2, .slice pa2 np2 cp2, .slice ra2 nr2 cr2, .int .i64 sln2, .int .i64 scl2, .int .u8 (pl2 : Int), .slice la2 nl2 lc2, .int .i64 ln2, .int .i64 cl2])
  rw [alloc_size] at Vq
  have HB := jhid9 (jtwo (jlow w (.cells #[.int .u8 (k : Int), .string nm, .int .u8 (vk : Int), .int .i64 vn, .string vm, .slice va vl vc, .int .i64 vln, .int .i64 vcl, .int .u8 (sk : Int), .string sm, .slice aa na ca, .slice pa np cp, .slice ra nr cr, .int .i64 sln, .int .i64 scl, .int .u8 (pl : Int), .slice la nl lc, .int .i64 ln, .int .i64 cl] 36)) (jlow _ (.cells #[.int .u8 (k2 : Int), .string nm2, .int .u8 (vk2 : Int), .int .i64 vn2, .string vm2, .slice va2 vl2 vc2, .int .i64 vln2, .int .i64 vcl2, .int .u8 (sk2 : Int), .string sm2, .slice aa2 na2 ca2, .slice pa2 np2 cp2, .slice ra2 nr2 cr2, .int .i64 sln2, .int .i64 scl2, .int .u8 (pl2 : Int), .slice la2 nl2 lc2, .int .i64 ln2, .int .i64 cl2] 36)))
  have c0 := Vp.out.cell 0 _ rfl
  have d0 := Vq.out.cell 0 _ rfl
  have c1 := Vp.out.cell 1 _ rfl
  have d1 := Vq.out.cell 1 _ rfl
  have c2 := Vp.out.cell 2 _ rfl
  have d2 := Vq.out.cell 2 _ rfl
  have c3 := Vp.out.cell 3 _ rfl
  have d3 := Vq.out.cell 3 _ rfl
  have c4 := Vp.out.cell 4 _ rfl
  have d4 := Vq.out.cell 4 _ rfl
  have c5 := Vp.out.cell 5 _ rfl
  have d5 := Vq.out.cell 5 _ rfl
  have c6 := Vp.out.cell 6 _ rfl
  have d6 := Vq.out.cell 6 _ rfl
  have c7 := Vp.out.cell 7 _ rfl
  have d7 := Vq.out.cell 7 _ rfl
  have c8 := Vp.out.cell 8 _ rfl
  have d8 := Vq.out.cell 8 _ rfl
  have c9 := Vp.out.cell 9 _ rfl
  have d9 := Vq.out.cell 9 _ rfl
  have c10 := Vp.out.cell 10 _ rfl
  have d10 := Vq.out.cell 10 _ rfl
  have c11 := Vp.out.cell 11 _ rfl
  have d11 := Vq.out.cell 11 _ rfl
  have c12 := Vp.out.cell 12 _ rfl
  have d12 := Vq.out.cell 12 _ rfl
  have c13 := Vp.out.cell 13 _ rfl
  have d13 := Vq.out.cell 13 _ rfl
  have c14 := Vp.out.cell 14 _ rfl
  have d14 := Vq.out.cell 14 _ rfl
  have c15 := Vp.out.cell 15 _ rfl
  have d15 := Vq.out.cell 15 _ rfl
  have c16 := Vp.out.cell 16 _ rfl
  have d16 := Vq.out.cell 16 _ rfl
  have c17 := Vp.out.cell 17 _ rfl
  have d17 := Vq.out.cell 17 _ rfl
  have c18 := Vp.out.cell 18 _ rfl
  have d18 := Vq.out.cell 18 _ rfl
  cases b1 with
  | false =>
    show Calls _ _ _ _ fun e w' => e = .returned (.bool false) ∧ _
    go_enter Tryd.func44, Tryd.ntmps44
    go_wp2
    go_ret
    exact ⟨rfl, HB.out⟩
  | true =>
   cases b3 with
   | false =>
     show Calls _ _ _ _ fun e w' => e = .returned (.bool false) ∧ _
     go_enter Tryd.func44, Tryd.ntmps44
     go_wp2
     go_ret
     exact ⟨rfl, HB.out⟩
   | true =>
    cases b4 with
    | false =>
      show Calls _ _ _ _ fun e w' => e = .returned (.bool false) ∧ _
      go_enter Tryd.func44, Tryd.ntmps44
      go_wp2
      go_ret
      exact ⟨rfl, HB.out⟩
    | true =>
     cases r1 with
     | false =>
       show Calls _ _ _ _ fun e w' => e = .returned (.bool false) ∧ _
       go_enter Tryd.func44, Tryd.ntmps44
       go_wp2_with (first
         | (go_at_call 73; refine (HC1.out _ HB.out).mono ?_; rintro e w1 ⟨rfl, hb1⟩; have HB1 := jhid9 (jtwo HB.out hb1); have Vap := jhid9 (Vp.out.later hb1); have Vaq := jhid9 (Vq.out.later hb1); clear hb1; have vac8 := Vap.out.cell 8 _ rfl; have vad8 := Vaq.out.cell 8 _ rfl; have vac9 := Vap.out.cell 9 _ rfl; have vad9 := Vaq.out.cell 9 _ rfl; have vac10 := Vap.out.cell 10 _ rfl; have vad10 := Vaq.out.cell 10 _ rfl; have vac11 := Vap.out.cell 11 _ rfl; have vad11 := Vaq.out.cell 11 _ rfl; have vac12 := Vap.out.cell 12 _ rfl; have vad12 := Vaq.out.cell 12 _ rfl; have vac13 := Vap.out.cell 13 _ rfl; have vad13 := Vaq.out.cell 13 _ rfl; have vac14 := Vap.out.cell 14 _ rfl; have vad14 := Vaq.out.cell 14 _ rfl; have vac16 := Vap.out.cell 16 _ rfl; have vad16 := Vaq.out.cell 16 _ rfl))
       go_ret
       exact ⟨rfl, HB1.out⟩
     | true =>
      cases r2 with
      | false =>
        show Calls _ _ _ _ fun e w' => e = .returned (.bool false) ∧ _
        go_enter Tryd.func44, Tryd.ntmps44
        go_wp2_with (first
          | (go_at_call 73; refine (HC1.out _ HB.out).mono ?_; rintro e w1 ⟨rfl, hb1⟩; have HB1 := jhid9 (jtwo HB.out hb1); have Vap := jhid9 (Vp.out.later hb1); have Vaq := jhid9 (Vq.out.later hb1); clear hb1; have vac8 := Vap.out.cell 8 _ rfl; have vad8 := Vaq.out.cell 8 _ rfl; have vac9 := Vap.out.cell 9 _ rfl; have vad9 := Vaq.out.cell 9 _ rfl; have vac10 := Vap.out.cell 10 _ rfl; have vad10 := Vaq.out.cell 10 _ rfl; have vac11 := Vap.out.cell 11 _ rfl; have vad11 := Vaq.out.cell 11 _ rfl; have vac12 := Vap.out.cell 12 _ rfl; have vad12 := Vaq.out.cell 12 _ rfl; have vac13 := Vap.out.cell 13 _ rfl; have vad13 := Vaq.out.cell 13 _ rfl; have vac14 := Vap.out.cell 14 _ rfl; have vad14 := Vaq.out.cell 14 _ rfl; have vac16 := Vap.out.cell 16 _ rfl; have vad16 := Vaq.out.cell 16 _ rfl)
          | (go_at_call 74; refine (HC2.out _ HB1.out).mono ?_; rintro e w2 ⟨rfl, hb2⟩; have HB2 := jhid9 (jtwo HB1.out hb2); have Vbp := jhid9 (Vap.out.later hb2); have Vbq := jhid9 (Vaq.out.later hb2); clear hb2; have vbc16 := Vbp.out.cell 16 _ rfl; have vbd16 := Vbq.out.cell 16 _ rfl))
        go_ret
        exact ⟨rfl, HB2.out⟩
      | true =>
       show Calls _ _ _ _ fun e w' => e = .returned (.bool r3) ∧ _
       go_enter Tryd.func44, Tryd.ntmps44
       go_wp2_with (first
         | (go_at_call 73; refine (HC1.out _ HB.out).mono ?_; rintro e w1 ⟨rfl, hb1⟩; have HB1 := jhid9 (jtwo HB.out hb1); have Vap := jhid9 (Vp.out.later hb1); have Vaq := jhid9 (Vq.out.later hb1); clear hb1; have vac8 := Vap.out.cell 8 _ rfl; have vad8 := Vaq.out.cell 8 _ rfl; have vac9 := Vap.out.cell 9 _ rfl; have vad9 := Vaq.out.cell 9 _ rfl; have vac10 := Vap.out.cell 10 _ rfl; have vad10 := Vaq.out.cell 10 _ rfl; have vac11 := Vap.out.cell 11 _ rfl; have vad11 := Vaq.out.cell 11 _ rfl; have vac12 := Vap.out.cell 12 _ rfl; have vad12 := Vaq.out.cell 12 _ rfl; have vac13 := Vap.out.cell 13 _ rfl; have vad13 := Vaq.out.cell 13 _ rfl; have vac14 := Vap.out.cell 14 _ rfl; have vad14 := Vaq.out.cell 14 _ rfl; have vac16 := Vap.out.cell 16 _ rfl; have vad16 := Vaq.out.cell 16 _ rfl)
         | (go_at_call 74; refine (HC2.out _ HB1.out).mono ?_; rintro e w2 ⟨rfl, hb2⟩; have HB2 := jhid9 (jtwo HB1.out hb2); have Vbp := jhid9 (Vap.out.later hb2); have Vbq := jhid9 (Vaq.out.later hb2); clear hb2; have vbc16 := Vbp.out.cell 16 _ rfl; have vbd16 := Vbq.out.cell 16 _ rfl)
         | (go_at_call 75; refine (HC3.out _ HB2.out).mono ?_; rintro e w3 ⟨rfl, hb3⟩; have HB3 := jhid9 (jtwo HB2.out hb3); clear hb3))
       go_ret
       exact ⟨rfl, HB3.out⟩
/-- The cells of an item. -/
def IVc (w : World) (X : List Value) (I : It) : Prop := ∃ (k pl nl vk vl vc sk na ca np cp nr cr lc : Nat) (nm vm sm : ByteArray) (vn vln vcl sln scl ln cl : Int) (va aa pa ra la : Option Addr) (T : Xt) (S : St) (G : Nat → Xt), X = [.int .u8 (k : Int), .string nm, .int .u8 (vk : Int), .int .i64 vn, .string vm, .slice va vl vc, .int .i64 vln, .int .i64 vcl, .int .u8 (sk : Int), .string sm, .slice aa na ca, .slice pa np cp, .slice ra nr cr, .int .i64 sln, .int .i64 scl, .int .u8 (pl : Int), .slice la nl lc, .int .i64 ln, .int .i64 cl] ∧ I = ⟨k, nm, T, S, pl, nl, G, ln, cl⟩ ∧ XV w (.agg #[.int .u8 (vk : Int), .int .i64 vn, .string vm, .slice va vl vc, .int .i64 vln, .int .i64 vcl]) T ∧ SV w (.agg #[.int .u8 (sk : Int), .string sm, .slice aa na ca, .slice pa np cp, .slice ra nr cr, .int .i64 sln, .int .i64 scl]) S ∧ (∀ d, XL d w la nl G) ∧ nl ≤ 140737488351232
theorem Its.cells {w : World} {a : Option Addr} {n : Nat} {F : Nat → It} (h : Its w a n F) : ∃ C : Nat → List Value, ∀ i, i < n → (∃ b o, a = some ⟨b, o, none⟩ ∧ (C i).length = 19 ∧ (C i).toArray.all (·.oneCell') = true ∧ ∀ w', Below w.heap.size w w' → w'.rangeAt b (o + i * 19) (C i)) ∧ IVc w (C i) (F i) := by
  refine pickc (P := fun i X => (∃ b o, a = some ⟨b, o, none⟩ ∧ X.length = 19 ∧ X.toArray.all (·.oneCell') = true ∧ ∀ w', Below w.heap.size w w' → w'.rangeAt b (o + i * 19) X) ∧ IVc w X (F i)) [] (fun i hi => ?_)
  obtain ⟨b, o, k, pl, nl, vk, vl, vc, sk, na, ca, np, cp, nr, cr, lc, nm, vm, sm, vn, vln, vcl, sln, scl, ln, cl, va, aa, pa, ra, la, T, S, G, rfl, hF, hT, hS, hG, k8, p8, hnm, hnl, hcl⟩ := h.at_ hi
  exact ⟨[.int .u8 (k : Int), .string nm, .int .u8 (vk : Int), .int .i64 vn, .string vm, .slice va vl vc, .int .i64 vln, .int .i64 vcl, .int .u8 (sk : Int), .string sm, .slice aa na ca, .slice pa np cp, .slice ra nr cr, .int .i64 sln, .int .i64 scl, .int .u8 (pl : Int), .slice la nl lc, .int .i64 ln, .int .i64 cl], ⟨b, o, rfl, rfl, all19 rfl rfl rfl rfl rfl rfl rfl rfl rfl rfl rfl rfl rfl rfl rfl rfl rfl rfl rfl, hcl⟩, k, pl, nl, vk, vl, vc, sk, na, ca, np, cp, nr, cr, lc, nm, vm, sm, vn, vln, vcl, sln, scl, ln, cl, va, aa, pa, ra, la, T, S, G, rfl, hF, hT, hS, hG, hnl⟩
/-- The same item but for places? -/
def liB (I J : It) : Bool := decide (I.k = J.k) && (decide (I.nm = J.nm) && (decide (I.pl = J.pl) && (lkB 16 I.val J.val && (lsB 16 I.shp J.shp && llB I.list J.list 16 I.nl J.nl))))
theorem li_iff {I J : It} : liB I J = true ↔ ilk I J := by
  unfold liB ilk
  simp only [Bool.and_eq_true, decide_eq_true_eq, lk_iff, ls_iff, ll_iff]
  exact ⟨fun ⟨h1, h2, h3, h4, h5, h6, h7⟩ => ⟨h1, h3, h2, h4, h5, h6, h7⟩, fun ⟨h1, h3, h2, h4, h5, h6, h7⟩ => ⟨h1, h2, h3, h4, h5, h6, h7⟩⟩
theorem MI.fin {I : It} (h : MI I) : FinX 16 I.val ∧ FinS 16 I.shp ∧ ∀ i, i < I.nl → FinX 16 (I.list i) := by
  rcases h with ⟨k1, p1, n1, v1, s1, l1⟩ | ⟨k1, p1, n1, v1, s1, l1⟩ | ⟨k1, p1, n1, v1, s1, l1⟩ | ⟨k1, p1, n1, v1, s1, l1⟩ | ⟨k1, p1, n1, v1, s1, l1⟩ | ⟨k1, p1, n1, v1, s1, l1⟩ | ⟨k1, p1, n1, v1, s1, l1⟩ | ⟨k1, p1, n1, v1, s1, l1⟩ | ⟨k1, p1, n1, v1, s1, l1, l2⟩
  · exact ⟨v1.fin, s1.fin, fun i hi => by omega⟩
  · exact ⟨v1.fin, s1.fin, fun i hi => by omega⟩
  · exact ⟨v1.fin, s1.fin, fun i hi => by omega⟩
  · exact ⟨v1.fin, s1.fin, fun i hi => by omega⟩
  · exact ⟨v1.fin, s1.fin, fun i hi => by omega⟩
  · exact ⟨v1.fin, s1.fin, fun i hi => by omega⟩
  · exact ⟨v1.fin, s1.fin, fun i hi => by omega⟩
  · exact ⟨v1.fin, s1.fin, fun i hi => by omega⟩
  · exact ⟨v1.fin, s1.fin, fun i hi => (l2 i hi).fin⟩
theorem tsamei (w w' : World) (X Y : List Value) (I J : It) (hb : Below w.heap.size w w') (h1 : IVc w X I) (h2 : IVc w Y J) (hM : MI I) : Calls Tryd.prog 44 #[.agg X.toArray, .agg Y.toArray] w' fun e w'' => e = .returned (.bool (liB I J)) ∧ Below w'.heap.size w' w'' := by
  obtain ⟨k, pl, nl, vk, vl, vc, sk, na, ca, np, cp, nr, cr, lc, nm, vm, sm, vn, vln, vcl, sln, scl, ln, cl, va, aa, pa, ra, la, T, S, G, rfl, rfl, hT, hS, hG, hnl⟩ := h1
  obtain ⟨k2, pl2, nl2, vk2, vl2, vc2, sk2, na2, ca2, np2, cp2, nr2, cr2, lc2, nm2, vm2, sm2, vn2, vln2, vcl2, sln2, scl2, ln2, cl2, va2, aa2, pa2, ra2, la2, T2, S2, G2, rfl, rfl, hT2, hS2, hG2, hnl2⟩ := h2
  have hf := hM.fin
  have h := tsi_one w' k pl nl vk vl vc sk na ca np cp nr cr lc nm vm sm vn vln vcl sln scl ln cl va aa pa ra la k2 pl2 nl2 vk2 vl2 vc2 sk2 na2 ca2 np2 cp2 nr2 cr2 lc2 nm2 vm2 sm2 vn2 vln2 vcl2 sln2 scl2 ln2 cl2 va2 aa2 pa2 ra2 la2 (lkB 16 T T2) (lsB 16 S S2) (llB G G2 16 nl nl2)
    (fun w2 hb2 => tsamex 16 w2 T T2 _ _ hf.1 (hT.later (jtwo hb hb2)) (hT2.later (jtwo hb hb2)))
    (fun w2 hb2 => tsames 16 w2 S S2 _ _ hf.2.1 (hS.later (jtwo hb hb2)) (hS2.later (jtwo hb hb2)))
    (fun w2 hb2 => tsamexs 16 (tsamex 16) w2 la la2 nl nl2 lc lc2 G G2 hf.2.2 (fun d => (hG d).later (jtwo hb hb2)) (fun d => (hG2 d).later (jtwo hb hb2)) hnl hnl2)
  exact h
/-- Are two descriptions the same? -/
def sdB (F G : Nat → It) (n m : Nat) : Bool := mayD F n && (mayD G m && (decide (n = m) && alB (fun i => liB (F i) (G i)) n))
set_option maxRecDepth 20000 in
set_option maxHeartbeats 4000000 in
theorem tsame10 (w : World) (a a' : Option Addr) (n m c c' : Nat) (F G : Nat → It) (hF : Its w a n F) (hG : Its w a' m G) (hn : n ≤ 549755813888) (hm : m ≤ 549755813888) (hw : Wt9 w) :
    Calls Tryd.prog 23 #[.slice a n c, .slice a' m c'] w fun e w' => e = .returned (.bool (sdB F G n m)) ∧ Below w.heap.size w w' := by
  have HS : Hid (sdB F G n m = (mayD F n && (mayD G m && (decide (n = m) && alB (fun i => liB (F i) (G i)) n)))) := rfl
  rw [HS.out]
  clear HS
  have H1 := jhid9 (fun w' (hb : Below w.heap.size w w') => tmay10 w' a n c F (hF.later hb) hn (hw.later hb))
  have H2 := jhid9 (fun w' (hb : Below w.heap.size w w') => tmay10 w' a' m c' G (hG.later hb) hm (hw.later hb))
  obtain ⟨C1, h1⟩ := hF.cells
  obtain ⟨C2, h2⟩ := hG.cells
  have H3 : Hid (mayD F n = true → ∀ w' : World, Below w.heap.size w w' → Calls Tryd.prog 43 #[.slice a n c, .slice a' m c', .func (.func 44) #[] #[]] w' fun e w'' => e = .returned (.bool (decide (n = m) && alB (fun i => liB (F i) (G i)) n)) ∧ Below w'.heap.size w' w'') := fun hM w' hb =>
    teq_i w' a a' n m c c' C1 C2 (fun i => liB (F i) (G i)) (by omega) (by omega) (fun i hi => by obtain ⟨b, o, e, l, al, rg⟩ := (h1 i hi).1; exact ⟨b, o, e, l, al, fun w2 hb2 => rg w2 (jtwo hb hb2)⟩) (fun i hi => by obtain ⟨b, o, e, l, al, rg⟩ := (h2 i hi).1; exact ⟨b, o, e, l, al, fun w2 hb2 => rg w2 (jtwo hb hb2)⟩) (fun i hi hi' w2 hb2 => tsamei w w2 _ _ _ _ (jtwo hb hb2) (h1 i hi).2 (h2 i hi').2 ((mayD_mi hM).2 i hi))
  clear h1 h2 hF hG hw
  generalize (decide (n = m) && alB (fun i => liB (F i) (G i)) n) = r at *
  cases hf : mayD F n with
  | false =>
    rw [hf] at H1
    clear H3 H2 hf
    show Calls _ _ _ _ fun e w' => e = .returned (.bool false) ∧ _
    go_enter Tryd.func23, Tryd.ntmps23
    go_wp2_with (go_at_call 16; refine (H1.out _ (Below.refl _ _)).mono ?_; rintro e w1 ⟨rfl, hb1⟩; have HB1 := jhid9 hb1; clear hb1)
    go_ret
    exact ⟨rfl, HB1.out⟩
  | true =>
    rw [hf] at H1
    have H4 := jhid9 (H3.out hf)
    clear H3 hf
    have M1 : True := trivial
    cases hg : mayD G m with
    | false =>
      rw [hg] at H2
      clear hg
      show Calls _ _ _ _ fun e w' => e = .returned (.bool false) ∧ _
      go_enter Tryd.func23, Tryd.ntmps23
      go_wp2_with (first
        | (go_at_call 16; clear M1; refine (H1.out _ (Below.refl _ _)).mono ?_; rintro e w1 ⟨rfl, hb1⟩; have HB1 := jhid9 hb1; clear hb1)
        | (go_at_call 16; refine (H2.out _ HB1.out).mono ?_; rintro e w2 ⟨rfl, hb2⟩; have HB2 := jhid9 (jtwo HB1.out hb2); clear hb2))
      go_ret
      exact ⟨rfl, HB2.out⟩
    | true =>
      rw [hg] at H2
      clear hg
      show Calls _ _ _ _ fun e w' => e = .returned (.bool r) ∧ _
      go_enter Tryd.func23, Tryd.ntmps23
      go_wp2_with (first
        | (go_at_call 16; clear M1; refine (H1.out _ (Below.refl _ _)).mono ?_; rintro e w1 ⟨rfl, hb1⟩; have HB1 := jhid9 hb1; clear hb1)
        | (go_at_call 16; refine (H2.out _ HB1.out).mono ?_; rintro e w2 ⟨rfl, hb2⟩; have HB2 := jhid9 (jtwo HB1.out hb2); clear hb2)
        | (go_at_call 43; refine (H4.out _ HB2.out).mono ?_; rintro e w3 ⟨rfl, hb3⟩; have HB3 := jhid9 (jtwo HB2.out hb3); clear hb3))
      go_ret
      exact ⟨rfl, HB3.out⟩
end Go.Proofs.YtdimkfcanegahaaDoor
