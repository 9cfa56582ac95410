/-
  Contracts of the program's tree: each over items, Strip.
-/
import Derived.Test.YtdimkfcanegahaaDoorFp
namespace Go.Proofs.YtdimkfcanegahaaDoor
open Go.RowKit
theorem infI : (Tryd.prog.info? 36).map (fun i => (i.size, i.bytes, i.zero.isSome)) = some (19, 256, true) := by kernel_rfl
/-- What is new in an item's lists. -/
structure INew (s : Nat) (w : World) (ys : List Value) (I : It) : Prop where
  ic : IC w ys I
  new : ∃ va aa ra la, ys[5]? = some (.slice va (I.val []).len (I.val []).len) ∧ Nb s w va (I.val []).len 28 6 ∧ ys[10]? = some (.slice aa (I.shp []).na (I.shp []).na) ∧ Nb s w aa (I.shp []).na 28 6 ∧ ys[12]? = some (.slice ra (I.shp []).nr (I.shp []).nr) ∧ RN s w ra (I.shp []).nr (I.shp []).rl (I.shp []).rows ∧ ys[16]? = some (.slice la I.nl I.nl) ∧ Nb s w la I.nl 28 6
theorem INew.weak {s t : Nat} {w : World} {ys : List Value} {I : It} (h : INew t w ys I) (hst : s ≤ t) : INew s w ys I := by
  obtain ⟨h1, va, aa, ra, la, a1, a2, a3, a4, a5, a6, a7, a8⟩ := h
  exact ⟨h1, va, aa, ra, la, a1, a2.weak hst, a3, a4.weak hst, a5, a6.weak hst, a7, a8.weak hst⟩
/-- Items in new memory. -/
def IN (s : Nat) (w : World) (a : Option Addr) (n : Nat) (F : Nat → It) : Prop := (n = 0 ∧ a = none) ∨ ∃ g cs, a = some ⟨g, 0, none⟩ ∧ s ≤ g ∧ Vn w g 36 cs ∧ cs.size = n * 19 ∧ ∀ j, j < n → ∃ ys : List Value, ys.length = 19 ∧ (∀ q x, ys[q]? = some x → cs[j * 19 + q]? = some x) ∧ INew s w ys (F j)
theorem IN.its {s : Nat} {w : World} {a : Option Addr} {n : Nat} {F : Nat → It} (h : IN s w a n F) : Its w a n F := by
  intro i hi
  rcases h with ⟨h, _⟩ | ⟨g, cs, e, _, hV, hc, hj⟩
  · omega
  · refine ⟨g, 0, e, ?_⟩
    obtain ⟨ys, hl, hq, hx⟩ := hj i hi
    refine IC.at_ hx.ic (fun j hj => ?_)
    have hy : ys[j]? = some ys[j] := List.getElem?_eq_getElem (by omega)
    rw [hy, Nat.zero_add]
    exact hV.cell _ _ (hq j _ hy)
theorem xcell_eq {w : World} {vk vl vc : Nat} {vn vln vcl : Int} {vm : ByteArray} {va : Option Addr} {T : Xt} (h : XV w (.agg #[.int .u8 (vk : Int), .int .i64 vn, .string vm, .slice va vl vc, .int .i64 vln, .int .i64 vcl]) T) : ∃ ln cl : Int, T [] = ⟨vk, vn, vm, vl, ln, cl⟩ := by
  obtain ⟨⟨a, c, e, _⟩, _⟩ := h
  generalize T [] = l at *
  obtain ⟨k, n, nm, len, ln, cl⟩ := l
  simp only [Value.agg.injEq, Array.mk.injEq, List.cons.injEq, Value.int.injEq, Value.string.injEq, Value.slice.injEq, true_and, and_true, Int.natCast_inj] at e
  obtain ⟨rfl, rfl, rfl, ⟨_, rfl, _⟩, _⟩ := e
  exact ⟨_, _, rfl⟩
theorem scell_eq {w : World} {sk na ca np cp nr cr : Nat} {sln scl : Int} {sm : ByteArray} {aa pa ra : Option Addr} {S : St} (h : SV w (.agg #[.int .u8 (sk : Int), .string sm, .slice aa na ca, .slice pa np cp, .slice ra nr cr, .int .i64 sln, .int .i64 scl]) S) : ∃ args rl rows, ∃ ln cl : Int, S [] = ⟨sk, sm, na, args, np, nr, rl, rows, ln, cl⟩ := by
  obtain ⟨⟨_, _, _, _, _, _, e, _⟩, _⟩ := h
  generalize S [] = l at *
  obtain ⟨k, nm, na, args, np, nr, rl, rows, ln, cl⟩ := l
  simp only [Value.agg.injEq, Array.mk.injEq, List.cons.injEq, Value.int.injEq, Value.string.injEq, Value.slice.injEq, true_and, and_true, Int.natCast_inj] at e
  obtain ⟨rfl, rfl, ⟨_, rfl, _⟩, ⟨_, rfl, _⟩, ⟨_, rfl, _⟩, _⟩ := e
  exact ⟨_, _, _, _, _, rfl⟩
theorem ist_new {w u : World} {s : Nat} {k pl nl vk vl vc sk na ca np cp nr cr : Nat} {nm vm sm : ByteArray} {vn vln vcl sln scl ln cl : Int} {va aa pa ra va2 aa2 pa2 ra2 la2 : Option Addr} {T : Xt} {S : St} {F : Nat → Xt} (hT : XV w (.agg #[.int .u8 (vk : Int), .int .i64 vn, .string vm, .slice va vl vc, .int .i64 vln, .int .i64 vcl]) T) (hS : SV w (.agg #[.int .u8 (sk : Int), .string sm, .slice aa na ca, .slice pa np cp, .slice ra nr cr, .int .i64 sln, .int .i64 scl]) S) (k8 : k < 256) (p8 : pl < 256) (hnm : nm.size ≤ 140737488351232) (hnl : nl ≤ 140737488351232)
    (h1 : XN s u va2 vl (kid (xst T))) (h2 : XN s u aa2 na (fun i => xst ((S []).args i))) (h3 : SN s u pa2 np (part (sst S))) (h4 : RN s u ra2 nr (S []).rl (fun i j => xst ((S []).rows i j))) (h5 : XN s u la2 nl (fun i => xst (F i))) :
    INew s u [.int .u8 (k : Int), .string nm, .int .u8 (vk : Int), .int .i64 vn, .string vm, .slice va2 vl vl, .int .i64 0, .int .i64 0, .int .u8 (sk : Int), .string sm, .slice aa2 na na, .slice pa2 np np, .slice ra2 nr nr, .int .i64 0, .int .i64 0, .int .u8 (pl : Int), .slice la2 nl nl, .int .i64 0, .int .i64 0] (ist ⟨k, nm, T, S, pl, nl, F, ln, cl⟩) := by
  have okT := hT.ok
  have okS := hS.ok
  obtain ⟨l1, l2, eT⟩ := xcell_eq hT
  obtain ⟨args, rl, rows, l3, l4, eS⟩ := scell_eq hS
  have e1 : xst T [] = ⟨vk, vn, vm, vl, 0, 0⟩ := by show { T [] with ln := 0, cl := 0 } = _; rw [eT]
  have e2 : sst S [] = ⟨sk, sm, na, fun i => xst (args i), np, nr, rl, fun i j => xst (rows i j), 0, 0⟩ := by show { S [] with args := fun i => xst ((S []).args i), rows := fun i j => xst ((S []).rows i j), ln := 0, cl := 0 } = _; rw [eS]
  rw [eS] at h2 h4
  refine ⟨⟨[.int .u8 (vk : Int), .int .i64 vn, .string vm, .slice va2 vl vl, .int .i64 0, .int .i64 0], [.int .u8 (sk : Int), .string sm, .slice aa2 na na, .slice pa2 np np, .slice ra2 nr nr, .int .i64 0, .int .i64 0], la2, nl, rfl, ?_, ?_, h5.1, k8, hnm, p8, hnl⟩, ⟨va2, aa2, ra2, la2, ?_, ?_, ?_, ?_, ?_, ?_, rfl, h5.2⟩⟩
  · refine ⟨va2, vl, ?_, lx_st okT, ?_⟩
    · show _ = ([.int .u8 ((xst T []).k : Int), .int .i64 (xst T []).n, .string (xst T []).nm, .slice va2 (xst T []).len vl, .int .i64 (xst T []).ln, .int .i64 (xst T []).cl] : List Value)
      rw [e1]
    · show ∀ d, XL d u va2 (xst T []).len (kid (xst T))
      rw [e1]
      exact h1.1
  · refine ⟨aa2, pa2, ra2, na, np, nr, ?_, ls_st okS, ?_, ?_, ?_⟩
    · show _ = ([.int .u8 ((sst S []).k : Int), .string (sst S []).nm, .slice aa2 (sst S []).na na, .slice pa2 (sst S []).np np, .slice ra2 (sst S []).nr nr, .int .i64 (sst S []).ln, .int .i64 (sst S []).cl] : List Value)
      rw [e2]
    · show ∀ d, XL d u aa2 (sst S []).na (sst S []).args
      rw [e2]
      exact h2.1
    · show XR u ra2 (sst S []).nr (sst S []).rl (sst S []).rows
      rw [e2]
      exact h4.rows
    · show ∀ d, SL d u pa2 (sst S []).np (part (sst S))
      rw [e2]
      exact h3.1
  · show some (Value.slice va2 vl vl) = some (.slice va2 (xst T []).len (xst T []).len)
    rw [e1]
  · show Nb s u va2 (xst T []).len _ _
    rw [e1]
    exact h1.2
  · show some (Value.slice aa2 na na) = some (.slice aa2 (sst S []).na (sst S []).na)
    rw [e2]
  · show Nb s u aa2 (sst S []).na _ _
    rw [e2]
    exact h2.2
  · show some (Value.slice ra2 nr nr) = some (.slice ra2 (sst S []).nr (sst S []).nr)
    rw [e2]
  · show RN s u ra2 (sst S []).nr (sst S []).rl (sst S []).rows
    rw [e2]
    exact h4
set_option maxRecDepth 20000 in
set_option maxHeartbeats 16000000 in
theorem teach_i (w : World) (a : Option Addr) (n c : Nat) (F : Nat → It) (hX : Its w a n F) (hs : ∀ i, i < n → SmX 16 (F i).val ∧ SmS 16 (F i).shp ∧ (F i).nl ≤ 64 ∧ ∀ q, q < (F i).nl → SmX 16 ((F i).list q)) (hn : n ≤ 64) :
    Calls Tryd.prog 41 #[.slice a n c, .func (.func 42) #[] #[]] w fun e w' => ∃ a', e = .returned (.slice a' n n) ∧ Fr w.heap.size w' (fun u => IN w.heap.size u a' n (fun i => ist (F i))) ∧ Below w.heap.size w w' := by
  have HX := jhid9 hX
  have HS := jhid9 hs
  clear hX hs
  by_cases h0 : n = 0
  · subst h0
    show Calls _ _ #[.slice a 0 c, _] _ _
    go_enter Tryd.func41, Tryd.ntmps41
    go_wp2
    go_ret
    exact ⟨none, rfl, fun u _ => .inl ⟨rfl, rfl⟩, Below.refl _ _⟩
  have q0 : ((n : Int) == 0) = false := by simp; omega
  have M1 : True := trivial
  go_enter Tryd.func41, Tryd.ntmps41
  go_wp2_with (clear M1; refine wpList_make_new rfl 23 36 _ rfl n 19 256 rfl Tryd.underlying23 infI (by omega) hn ?_; intro w1 cs1 HV1 HC1 HB1)
  go_loopw [16] (fun vi wr => ∃ (i : Nat) (cs : Array Value), i ≤ n ∧ vi = .int .i64 (i : Int) ∧ Hid (Vn wr w.heap.size 36 cs) ∧ Hid (cs.size = n * 19) ∧ Hid (∀ j, j < i → ∃ ys : List Value, ys.length = 19 ∧ (∀ q x, ys[q]? = some x → cs[j * 19 + q]? = some x) ∧ Fr (w.heap.size + 1) wr (fun u => INew w.heap.size u ys (ist (F j)))) ∧ Hid (Below w.heap.size w wr)) (fun vi _ => n - (intOf vi).toNat)
  case atStart => exact ⟨0, cs1, by omega, rfl, HV1, HC1, fun j hj => by omega, HB1⟩
  case round =>
    obtain ⟨i, cs, hi, rfl, HV, HC, HD, HB⟩ := hrel
    by_cases hlt : i < n
    · have p0 : (0 : Int) ≤ (i : Int) := by omega
      have p1 : (i : Int) < (n : Int) := by omega
      obtain ⟨b, o, k, pl, nl, vk, vl, vc, sk, na, ca, np, cp, nr, cr, lc, nm, vm, sm, vn, vln, vcl, sln, scl, ln, cl, va, aa, pa, ra, la, T, S, G, rfl, hF, hT, hS, hG, k8, p8, hnm, hnl, hcl⟩ := HX.out.at_ hlt
      have hsm := HS.out i hlt
      rw [hF] at hsm
      have HC2 : Hid (∀ w0 : World, Below w.heap.size w w0 → Calls Tryd.prog 42 #[.agg #[.int .u8 (k : Int), .string nm, .int .u8 (vk : Int), .int .i64 vn, .string vm, .slice va vl vc, .int .i64 vln, .int .i64 vcl, .int .u8 (sk : Int), .string sm, .slice aa na ca, .slice pa np cp, .slice ra nr cr, .int .i64 sln, .int .i64 scl, .int .u8 (pl : Int), .slice la nl lc, .int .i64 ln, .int .i64 cl]] w0 fun e w' => ∃ va2 aa2 pa2 ra2 la2, e = .returned (.agg #[.int .u8 (k : Int), .string nm, .int .u8 (vk : Int), .int .i64 vn, .string vm, .slice va2 vl vl, .int .i64 0, .int .i64 0, .int .u8 (sk : Int), .string sm, .slice aa2 na na, .slice pa2 np np, .slice ra2 nr nr, .int .i64 0, .int .i64 0, .int .u8 (pl : Int), .slice la2 nl nl, .int .i64 0, .int .i64 0]) ∧ Fr w0.heap.size w' (fun u => XN w0.heap.size u va2 vl (kid (xst T)) ∧ XN w0.heap.size u aa2 na (fun i => xst ((S []).args i)) ∧ SN w0.heap.size u pa2 np (part (sst S)) ∧ RN w0.heap.size u ra2 nr (S []).rl (fun i j => xst ((S []).rows i j)) ∧ XN w0.heap.size u la2 nl (fun i => xst (G i))) ∧ Below w0.heap.size w0 w') := fun w0 hb => tstripi w0 k pl nl vk vl vc sk na ca np cp nr cr lc nm vm sm vn vln vcl sln scl ln cl va aa pa ra la T S G (hT.later hb) (hS.later hb) (fun d => (hG d).later hb) hsm.1 hsm.2.1 hsm.2.2.2 hsm.2.2.1
      have HT := jhid9 hT
      have HSv := jhid9 hS
      have HRg := jhid9 (hcl _ HB.out)
      have hgl := HV.out.lt
      have HFi := jhid9 hF
      clear hT hS hG hcl hsm hF
      have M2 : True := trivial
      have M3 : True := trivial
      have M4 : True := trivial
      have M5 : True := trivial
      go_wp2_with (first
        | (clear M2; refine wpList_load_mid rfl 36 _ rfl b _ rfl [.int .u8 (k : Int), .string nm, .int .u8 (vk : Int), .int .i64 vn, .string vm, .slice va vl vc, .int .i64 vln, .int .i64 vcl, .int .u8 (sk : Int), .string sm, .slice aa na ca, .slice pa np cp, .slice ra nr cr, .int .i64 sln, .int .i64 scl, .int .u8 (pl : Int), .slice la nl lc, .int .i64 ln, .int .i64 cl] _ HRg.out Tryd.underlying36 rfl sizeI ?_)
        | (clear M3; refine wpList_store_vn rfl 36 _ _ rfl wr.heap.size _ #[.int .u8 (k : Int), .string nm, .int .u8 (vk : Int), .int .i64 vn, .string vm, .slice va vl vc, .int .i64 vln, .int .i64 vcl, .int .u8 (sk : Int), .string sm, .slice aa na ca, .slice pa np cp, .slice ra nr cr, .int .i64 sln, .int .i64 scl, .int .u8 (pl : Int), .slice la nl lc, .int .i64 ln, .int .i64 cl] rfl rfl (Vn.new wr _ _) sizeI rfl (all19 rfl rfl rfl rfl rfl rfl rfl rfl rfl rfl rfl rfl rfl rfl rfl rfl rfl rfl rfl) ?_; intro w2 HV2 hg2; have hb2 : Below wr.heap.size wr w2 := (jlow _ _).trans (jbelow hg2.out (jlow _ _).size (fun g e => by cases e; exact Nat.le_refl _)); have HB2 := jhid9 (jtwo HB.out hb2); have HVg2 := jhid9 (HV.out.later hb2); have HA2 : Hid (Ag (w.heap.size + 1) wr w2) := Ag.of hb2; have hsz2 := hb2.size; clear hg2 hb2)
        | (clear M4; refine wpList_load_rowg (by rfl) 36 _ rfl wr.heap.size rfl 36 #[.int .u8 (k : Int), .string nm, .int .u8 (vk : Int), .int .i64 vn, .string vm, .slice va vl vc, .int .i64 vln, .int .i64 vcl, .int .u8 (sk : Int), .string sm, .slice aa na ca, .slice pa np cp, .slice ra nr cr, .int .i64 sln, .int .i64 scl, .int .u8 (pl : Int), .slice la nl lc, .int .i64 ln, .int .i64 cl] (0, 0) _ HV2.out Tryd.underlying36 rfl sizeI ?_)
        | (go_at_call 42; refine (HC2.out _ HB2.out).mono ?_; rintro e w3 ⟨va2, aa2, pa2, ra2, la2, rfl, hfr, hb3⟩; have HF3 := jhid9 hfr; have HB3 := jhid9 (jtwo HB2.out hb3); have HVg3 := jhid9 (HVg2.out.later hb3); have HA3 : Hid (Ag (w.heap.size + 1) w2 w3) := Ag.of hb3; clear hb3 hfr)
        | (clear M5; refine wpList_store_spl rfl 36 _ _ rfl w.heap.size (i * 19) 36 cs #[.int .u8 (k : Int), .string nm, .int .u8 (vk : Int), .int .i64 vn, .string vm, .slice va2 vl vl, .int .i64 0, .int .i64 0, .int .u8 (sk : Int), .string sm, .slice aa2 na na, .slice pa2 np np, .slice ra2 nr nr, .int .i64 0, .int .i64 0, .int .u8 (pl : Int), .slice la2 nl nl, .int .i64 0, .int .i64 0] (by first | rfl | simp) rfl sizeI (all19 rfl rfl rfl rfl rfl rfl rfl rfl rfl rfl rfl rfl rfl rfl rfl rfl rfl rfl rfl) HVg3.out (by rw [HC.out]; show i * 19 + 19 ≤ n * 19; omega) ?_; intro w4 HV4 HA4 HB4))
      refine ⟨⟨i + 1, _, by omega, by go_num, HV4, (spl_size _ _ _).trans HC.out, fun j hj => ?_, jtwo2 HB3.out (HB4.out _ (Nat.le_refl _))⟩, by simp [intOf]; omega⟩
      by_cases hji : j < i
      · obtain ⟨ys, h1, h2, h3⟩ := HD.out j hji
        refine ⟨ys, h1, fun q x hx => ?_, ((h3.step HA2.out).step HA3.out).step (HA4.out _ (by omega))⟩
        have hq : q < ys.length := (List.getElem?_eq_some_iff.1 hx).1
        rw [spl_out _ _ _ _ (by left; omega)]
        exact h2 q x hx
      · obtain rfl : j = i := by omega
        refine ⟨_, rfl, fun q x hx => spl_in _ _ _ _ _ hx (by rw [HC.out]; show j * 19 + 19 ≤ n * 19; omega), fun u hu => ?_⟩
        obtain ⟨y1, y2, y3, y4, y5⟩ := ((HF3.out.weak (s := w.heap.size + 1) (by omega)).step (HA4.out _ (by omega))) u hu
        rw [HFi.out]
        exact ist_new HT.out HSv.out k8 p8 hnm hnl (y1.weak (by omega)) (y2.weak (by omega)) (y3.weak (by omega)) (y4.weak (by omega)) (y5.weak (by omega))
    · obtain rfl : i = n := by omega
      go_wp2
      go_ret
      refine ⟨some ⟨w.heap.size, 0, none⟩, rfl, fun u hu => ?_, HB.out⟩
      refine .inr ⟨w.heap.size, cs, rfl, Nat.le_refl _, HV.out.keptA hu (Nat.le_refl _), HC.out, fun j hj => ?_⟩
      obtain ⟨ys, h1, h2, h3⟩ := HD.out j hj
      exact ⟨ys, h1, h2, h3 u (hu.mono (by omega))⟩
theorem MI.sm {I : It} (h : MI I) : SmX 16 I.val ∧ SmS 16 I.shp ∧ ∀ q, q < I.nl → SmX 16 (I.list q) := by
  rcases h with ⟨k1, p1, n1, v1, s1, l1⟩ | ⟨k1, p1, n1, v1, s1, l1⟩ | ⟨k1, p1, n1, v1, s1, l1⟩ | ⟨k1, p1, n1, v1, s1, l1⟩ | ⟨k1, p1, n1, v1, s1, l1⟩ | ⟨k1, p1, n1, v1, s1, l1⟩ | ⟨k1, p1, n1, v1, s1, l1⟩ | ⟨k1, p1, n1, v1, s1, l1⟩ | ⟨k1, p1, n1, v1, s1, l1⟩
  · exact ⟨v1.sm, s1.sm, fun q hq => by omega⟩
  · exact ⟨v1.sm, s1.sm, fun q hq => by omega⟩
  · exact ⟨v1.sm, s1.sm, fun q hq => by omega⟩
  · exact ⟨v1.sm, s1.sm, fun q hq => by omega⟩
  · exact ⟨v1.sm, s1.sm, fun q hq => by omega⟩
  · exact ⟨v1.sm, s1.sm, fun q hq => by omega⟩
  · exact ⟨v1.sm, s1.sm, fun q hq => by omega⟩
  · exact ⟨v1.sm, s1.sm, fun q hq => by omega⟩
  · exact ⟨v1.sm, s1.sm, fun q hq => (l1.2 q hq).sm⟩
theorem iwant_few {I : It} (h : iwant I = true) : I.nl ≤ 64 := by
  unfold iwant at h
  split at h
  · simp at h; omega
  · split at h
    · simp at h; omega
    · split at h
      · simp at h; omega
      · simp only [Bool.and_eq_true] at h
        obtain ⟨_, _, h⟩ := h
        split at h
        · simp at h; omega
        · split at h
          · split at h
            · simp at h; omega
            · split at h
              · simp at h; omega
              · split at h
                · simp at h; omega
                · cases h
          · cases h
/-- Strip's answer: the items without places in new memory, or the error. -/
theorem tstrip10 (w : World) (a : Option Addr) (n c : Nat) (F : Nat → It) (hI : Its w a n F) (hn : n ≤ 549755813888) (hw : Wt9 w) :
    Calls Tryd.prog 22 #[.slice a n c] w fun e w' => ∃ a' m E, e = .returned (.tuple #[.slice a' m m, .int .i64 (E : Nat)]) ∧ ((mayD F n = false ∧ E = 2 ∧ m = 0 ∧ a' = none) ∨ (mayD F n = true ∧ E = 0 ∧ m = n)) ∧ Fr w.heap.size w' (fun u => IN w.heap.size u a' m (fun i => ist (F i))) ∧ Below w.heap.size w w' := by
  have HI := jhid9 hI
  have HMy : Hid (∀ w' : World, Below w.heap.size w w' → Calls Tryd.prog 16 #[.slice a n c] w' fun e w'' => e = .returned (.bool (mayD F n)) ∧ Below w'.heap.size w' w'') := fun w' hb => tmay10 w' a n c F (HI.out.later hb) hn (hw.later hb)
  clear hI hw
  cases hm : mayD F n with
  | false =>
    rw [hm] at HMy
    clear HI hm
    go_enter Tryd.func22, Tryd.ntmps22
    go_wp2_with (go_at_call 16; refine (HMy.out _ (Below.refl _ _)).mono ?_; rintro e w2 ⟨rfl, hb2⟩; have HB2 := jhid9 hb2; clear hb2)
    go_ret2
    exact ⟨none, 0, 2, rfl, .inl (by simp), fun u _ => .inl ⟨rfl, rfl⟩, HB2.out⟩
  | true =>
    have HE : Hid (∀ w' : World, Below w.heap.size w w' → Calls Tryd.prog 41 #[.slice a n c, .func (.func 42) #[] #[]] w' fun e w'' => ∃ a', e = .returned (.slice a' n n) ∧ Fr w'.heap.size w'' (fun u => IN w'.heap.size u a' n (fun i => ist (F i))) ∧ Below w'.heap.size w' w'') := fun w' hb => teach_i w' a n c F (HI.out.later hb) (fun i hi => ⟨((mayD_mi hm).2 i hi).sm.1, ((mayD_mi hm).2 i hi).sm.2.1, iwant_few (mayD_nl hm i hi), ((mayD_mi hm).2 i hi).sm.2.2⟩) (mayD_mi hm).1
    rw [hm] at HMy
    clear HI hm
    go_enter Tryd.func22, Tryd.ntmps22
    go_wp2_with (first
      | (go_at_call 16; refine (HMy.out _ (Below.refl _ _)).mono ?_; rintro e w2 ⟨rfl, hb2⟩; have HB2 := jhid9 hb2; have hs2 := hb2.size; clear hb2)
      | (go_at_call 41; refine (HE.out _ HB2.out).mono ?_; rintro e w3 ⟨a', rfl, hfr, hb3⟩; have HF3 := jhid9 hfr; have HB3 := jhid9 (jtwo HB2.out hb3); clear hb3 hfr))
    go_ret2
    refine ⟨a', n, 0, rfl, .inr (by simp), fun u hu => ?_, HB3.out⟩
    have := (HF3.out.weak (s := w.heap.size) hs2) u hu
    rcases this with h | ⟨g, cs, e1, e2, e3, e4, e5⟩
    · exact .inl h
    · refine .inr ⟨g, cs, e1, by omega, e3, e4, fun j hj => ?_⟩
      obtain ⟨ys, y1, y2, y3⟩ := e5 j hj
      exact ⟨ys, y1, y2, y3.weak hs2⟩
end Go.Proofs.YtdimkfcanegahaaDoor
