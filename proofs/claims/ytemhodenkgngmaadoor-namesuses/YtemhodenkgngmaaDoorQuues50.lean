/-
  Stage 13: Used.
  Stage 13: all names that are used are known.
-/
import Derived.Test.YtemhodenkgngmaaDoorQuues00
import Derived.Test.YtemhodenkgngmaaDoorQuues48
import Derived.Test.YtemhodenkgngmaaDoorQuues49
import Derived.Deep.QuietTactic
import Derived.BigQuiet
set_option maxRecDepth 100000
set_option maxHeartbeats 16000000
namespace Go.Proofs.YtemhodenkgngmaaDoor
open Go.RowKit Go.Shelf Go.Maps Go.Sort
attribute [local go_sem] Oper.semAt_some
/-- The marks that loops over functions have left: blocks from B on and below E. -/
def qbo (W : World) (B : Nat) : Nat → List Deferred → Prop
 | _, [] => True
 | E, d :: ds => ∃ D, d = { target := .collected D, args := #[] } ∧ B ≤ D ∧ D < E ∧ W.heap[D]? = some (.deferred (some [])) ∧ qbo W B D ds
theorem qbo.mono {W : World} {B E E' : Nat} {ds : List Deferred} (h : qbo W B E ds) (hE : E ≤ E') : qbo W B E' ds := by
 cases ds with
 | nil => trivial
 | cons d ds =>
  obtain ⟨D, h1, h2, h3, h4, h5⟩ := h
  exact ⟨D, h1, h2, by omega, h4, h5⟩
theorem qbo.kept {W W' : World} {B : Nat} : ∀ {E : Nat} {ds : List Deferred}, qbo W B E ds → (∀ i, B ≤ i → i < E → i < W.heap.size → W'.heap[i]? = W.heap[i]?) → qbo W' B E ds := by
 intro E ds
 induction ds generalizing E with
 | nil => intro _ _; trivial
 | cons d ds ih =>
  rintro ⟨D, h1, h2, h3, h4, h5⟩ hk
  exact ⟨D, h1, h2, h3, by rw [hk D h2 h3 (lt_of_block h4)]; exact h4, ih h5 (fun i a b c => hk i a (by omega) c)⟩
/-- The marks are taken, one by one. -/
theorem qdm {fn : Func} {tm : Array Value} {R : Ending → World → Prop} {k B E0 : Nat} (Inv : World → Prop) (hInv : ∀ W D, Inv W → B ≤ D → D < E0 → W.heap[D]? = some (.deferred (some [])) → Inv (W.putObj D (.deferred none))) (hfin : ∀ W, Inv W → ∃ v, (results fn tm).run Tryd.prog W = .ok v W ∧ R (.returned v) W) : ∀ (ds : List Deferred) (E : Nat) (W : World), E ≤ E0 → qbo W B E ds → Inv W → LeavesInM Fence.wide k Tryd.prog fn tm R ds .returning W := by
 intro ds
 induction ds with
 | nil => intro E W _ _ h; exact hfin W h
 | cons d ds ih =>
  rintro E W hE ⟨D, rfl, h2, h3, h4, h5⟩ h
  refine ⟨by simp, .inl ⟨_, _, rfl, run_takeDeferred h4, ?_⟩⟩
  exact ih D _ (by omega) (h5.kept (fun i a b c => World.putObj_heap_other (by omega))) (hInv W D h h2 (by omega) h4)
/-- What Used answers. -/
def UsA (w : World) (B : Nat) (e : Ending) (F : Nat → It) (n : Nat) : Prop := ∃ v, e = .returned (.tuple #[v, .int .i64 0]) ∧ w.ownsRow B 9 1 v (nam (usl F n)).length (((nam (usl F n)).mergeSort leB).map encStr)
theorem qfv (w : World) (a : Option Addr) (n c : Nat) (F : Nat → It) (hI : Its w a n F) (hn : n ≤ 549755813888) (hw : Wt9 w) (hm : mayD F n = false) :
  Calls Tryd.prog 17 #[.slice a n c] w fun e w' => e = .returned (.tuple #[.slice none 0 0, .int .i64 2]) ∧ Below w.heap.size w w' := by
 have HM : Hid (∀ w' : World, Below w.heap.size w w' → Calls Tryd.prog 21 #[.slice a n c] w' fun e w'' => e = .returned (.bool false) ∧ Below w'.heap.size w' w'') := fun w' hb => by
  have h := qfm w' a n c F (hI.later hb) hn (hw.later hb)
  rw [hm] at h
  exact h
 clear hI hw hm
 go_enter Tryd.func17, Tryd.ntmps17
 go_wp2_with (go_at_call 21; refine (HM.out _ (Below.refl _ _)).mono ?_; rintro e w1 ⟨rfl, hb1⟩; have HB1 := qa0 hb1; clear hb1)
 go_ret2
 exact ⟨rfl, HB1.out⟩
theorem pused_ok (w : World) (a : Option Addr) (n c : Nat) (F : Nat → It) (hI : Its w a n F) (hn : n ≤ 549755813888) (hw : Wt9 w) (hm : mayD F n = true) :
  Calls Tryd.prog 17 #[.slice a n c] w fun e w' => UsA w' w.heap.size e F n ∧ Below w.heap.size w w' := by
 have HI := qa0 hI
 have HMy : Hid (∀ w' : World, Below w.heap.size w w' → Calls Tryd.prog 21 #[.slice a n c] w' fun e w'' => e = .returned (.bool true) ∧ Below w'.heap.size w' w'') := fun w' hb => by
  have h := qfm w' a n c F (hI.later hb) hn (hw.later hb)
  rw [hm] at h
  exact h
 obtain ⟨h64, hmi⟩ := qdg hm
 have HMi := qa0 hmi
 have HFw : Hid (∀ i, i ≤ n → (usl F i).length ≤ 8192) := fun i hi => qdi (qd5 hm hi)
 have hmm := @run_makeMap Tryd.prog
 clear hI hw hm hmi
 refine (callsIn_wide (n := 6)).1 (callsIn_of_wp_marks Tryd.func17 rfl trivial ?_ rfl)
 simp only [Tryd.ntmps17, List.size_toArray, List.length_cons, List.length_nil, Nat.reduceAdd, Nat.reduceSub, Array.replicate_succ, Array.replicate_zero, List.push_toArray, List.append_toArray, List.nil_append, List.cons_append]
 refine wpIn_wide.2 ?_
 go_wp2_with (go_at_call 21; refine (HMy.out _ (Below.refl _ _)).mono ?_; rintro e w1 ⟨rfl, hb1⟩; have HB1 := qa0 hb1; clear hb1)
 refine wp_loop (fun a' W => ∃ (i : Nat) (ds : List Deferred) (u6 u15 u16 u17 u18 u19 u25 : Value), i ≤ n ∧ a' = { tmps := #[Value.slice a n c, undef, Value.slice none 0 0, Value.int IntKind.i64 0, Value.pointer (some { block := w1.heap.size + 1, off := 0 }), undef, u6, undef, Value.slice a n c, Value.bool true, Value.bool false, Value.map (some w1.heap.size), Value.slice a n c, Value.int IntKind.i64 (n : Int), Value.int IntKind.i64 (i : Int), u15, u16, u17, u18, u19, undef, undef, undef, undef, undef, u25, undef, undef, undef], defers := ds } ∧ Hid (Nk W w1.heap.size (usl F i).length (usl F i)) ∧ Hid (Vn W (w1.heap.size + 1) 73 #[.map (some w1.heap.size)]) ∧ Hid (Below w1.heap.size w1 W) ∧ Hid (qbo W (w1.heap.size + 2) W.heap.size ds)) (fun a _ => n - (intOf (a.tmps.getD 14 undef)).toNat) ?hstart ?hround
 case hstart => exact ⟨0, [], _, _, _, _, _, _, _, by omega, rfl, Nk.later ⟨_, World.ownsMap_made _ _ _ _, fun x => ⟨fun h => (by cases h), fun ⟨u, hu, _⟩ => (by cases hu)⟩⟩ (jlow _ _), qdk _ _ _ _, jtwo (jlow _ _) (jlow _ _), trivial⟩
 case hround =>
  rintro a' W ⟨i, ds, u6, u15, u16, u17, u18, u19, u25, hi, rfl, HN, HV, HBW, HD⟩
  have hvl := HV.out.lt
  by_cases hlt : i < n
  ·have p0 : (0 : Int) ≤ (i : Int) := by omega
   have p1 : (i : Int) < (n : Int) := by omega
   obtain ⟨b, o, k, pl, nl, vk, vl, vc, sk, na, ca, np, cp, nr, cr, lc, nm, vm, sm, vn, vln, vcl, sln, scl, ln, cl, va, aa, pa, ra, la, X, S, G, rfl, hF, hX, hSv, hG, k8, p8, hnm, hnl, hcl⟩ := HI.out.at_ hlt
   have hdp := (HMi.out i hlt).dpi
   rw [hF] at hdp
   have HXg := qa0 (And.intro (hX.later HB1.out) (And.intro (hSv.later HB1.out) (fun d => (hG d).later HB1.out)))
   have HUs := qa0 (ius_sz (k := k) (pl := pl) (ln := ln) (cl := cl) hX hSv hG hnm)
   obtain ⟨U, HU⟩ : ∃ U, Hid (ius ⟨k, nm, X, S, pl, nl, G, ln, cl⟩ = U) := ⟨_, rfl⟩
   rw [HU.out] at HUs
   have HSu : Hid (usl F (i + 1) = usl F i ++ U) := by show usl F i ++ ius (F i) = _; rw [hF, HU.out]
   have HBw := qa0 (jtwo HB1.out HBW.out)
   have HRg := qa0 (hcl _ HBw.out)
   have hlen1 := HFw.out (i + 1) (by omega)
   have HL1 : Hid ((usl F i).length + U.length ≤ 8192) := by show _ ≤ _; rw [HSu.out, List.length_append] at hlen1; exact hlen1
   clear hlen1 hX hSv hG hcl hF
   have M1 : True := trivial
   go_wp2_with (first
    | (clear M1; refine wpList_load_mid rfl 61 _ rfl b _ rfl [.int .u8 (k : Int), .string nm, .int .u8 (vk : Int), .int .i64 vn, .string vm, .slice va vl vc, .int .i64 vln, .int .i64 vcl, .int .u8 (sk : Int), .string sm, .slice aa na ca, .slice pa np cp, .slice ra nr cr, .int .i64 sln, .int .i64 scl, .int .u8 (pl : Int), .slice la nl lc, .int .i64 ln, .int .i64 cl] _ HRg.out Tryd.underlying61 rfl qai ?_)
    | (refine qa1 rfl 61 _ _ rfl W.heap.size _ #[.int .u8 (k : Int), .string nm, .int .u8 (vk : Int), .int .i64 vn, .string vm, .slice va vl vc, .int .i64 vln, .int .i64 vcl, .int .u8 (sk : Int), .string sm, .slice aa na ca, .slice pa np cp, .slice ra nr cr, .int .i64 sln, .int .i64 scl, .int .u8 (pl : Int), .slice la nl lc, .int .i64 ln, .int .i64 cl] rfl rfl (Vn.new W _ _) qai rfl (all19 rfl rfl rfl rfl rfl rfl rfl rfl rfl rfl rfl rfl rfl rfl rfl rfl rfl rfl rfl) ?_; go_loud (intro w4 HV4 hg4; have HB4 : Hid (Below W.heap.size W w4) := (jlow _ _).trans (jbelow hg4.out (jlow _ _).size (fun g e => by cases e; exact Nat.le_refl _)); clear hg4))
    | (refine wpList_load_row rfl 61 _ rfl W.heap.size rfl 61 #[.int .u8 (k : Int), .string nm, .int .u8 (vk : Int), .int .i64 vn, .string vm, .slice va vl vc, .int .i64 vln, .int .i64 vcl, .int .u8 (sk : Int), .string sm, .slice aa na ca, .slice pa np cp, .slice ra nr cr, .int .i64 sln, .int .i64 scl, .int .u8 (pl : Int), .slice la nl lc, .int .i64 ln, .int .i64 cl] (0, 0) _ HV4.out Tryd.underlying61 rfl qai ?_)
    | (go_at_call 26; go_loud (refine (pusesof _ _ _ _ _ _ _ _ _ _ _ _ _ _ _ _ _ _ _ _).mono ?_; rintro e w5 ⟨rfl, hv5, hb5⟩; have HV5 := qa0 hv5; have HB5 := qa0 (jtwo HB4.out hb5); clear hv5 hb5)))
   have hx5 := HV5.out.lt
   have hs4 := HB4.out.size
   have hs5 := HB5.out.size
   have Hit : Hid (∀ (Kp : Nat → World → Prop), (∀ j W', Kp j W' → Vn W' w4.heap.size 61 #[.int .u8 (k : Int), .string nm, .int .u8 (vk : Int), .int .i64 vn, .string vm, .slice va vl vc, .int .i64 vln, .int .i64 vcl, .int .u8 (sk : Int), .string sm, .slice aa na ca, .slice pa np cp, .slice ra nr cr, .int .i64 sln, .int .i64 scl, .int .u8 (pl : Int), .slice la nl lc, .int .i64 ln, .int .i64 cl]) → ∀ (l s : Nat) (T : Nat → World → Prop) (Tx : World → Prop) (W1 : World), (∀ j W', T j W' → Kp j W') → Itx l w1 s U T Tx → T 0 W1 → Calls Tryd.prog 35 #[.func (.yield l) #[] #[], .pointer (some ⟨w4.heap.size, 0, none⟩)] W1 fun e W' => (∃ v, e = .returned v) ∧ (T U.length W' ∨ Tx W')) := fun Kp hKp l s T Tx W1 hT h1 h2 => by
    rw [← HU.out] at h1 ⊢
    exact uses_in2 l w1 s T Tx w4.heap.size k pl nl vk vl vc sk na ca np cp nr cr lc nm vm sm vn vln vcl sln scl ln cl va aa pa ra la X S G (fun j W' h => hKp j W' (hT j W' h)) HXg.out.1 HXg.out.2.1 HXg.out.2.2 hnl hdp h1 W1 h2
   have HN5 := qa0 (HN.out.later HB5.out)
   have HF5 := qa0 (HV.out.later HB5.out)
   have HBw5 := qa0 (HBW.out.trans (HB5.out.mono HBW.out.size))
   have HD5 : Hid (qbo w5 (w1.heap.size + 2) W.heap.size ds) := HD.out.kept (fun q _ _ hq => HB5.out.block q hq)
   clear HV4 hdp HXg HRg HU HN HV
   generalize Value.agg #[.int .u8 (k : Int), .string nm, .int .u8 (vk : Int), .int .i64 vn, .string vm, .slice va vl vc, .int .i64 vln, .int .i64 vcl, .int .u8 (sk : Int), .string sm, .slice aa na ca, .slice pa np cp, .slice ra nr cr, .int .i64 sln, .int .i64 scl, .int .u8 (pl : Int), .slice la nl lc, .int .i64 ln, .int .i64 cl] = vI
   refine (wpIn_wide (n := 6)).1 ?_
   refine qdl (w0 := w1) (nn := 6) (bx := w4.heap.size) U (fun j W' => Below w1.heap.size w1 W' ∧ Nk W' w1.heap.size ((usl F i).length + j) (usl F i ++ U.take j) ∧ Vn W' (w1.heap.size + 1) 73 #[.map (some w1.heap.size)] ∧ Vn W' w4.heap.size 61 #[.int .u8 (k : Int), .string nm, .int .u8 (vk : Int), .int .i64 vn, .string vm, .slice va vl vc, .int .i64 vln, .int .i64 vcl, .int .u8 (sk : Int), .string sm, .slice aa na ca, .slice pa np cp, .slice ra nr cr, .int .i64 sln, .int .i64 scl, .int .u8 (pl : Int), .slice la nl lc, .int .i64 ln, .int .i64 cl] ∧ qbo W' (w1.heap.size + 2) W.heap.size ds ∧ w5.heap.size ≤ W'.heap.size) (fun _ => False) (Hit.out _ (fun j W' h => h.2.2.2.1)) rfl (fun j W' h => h.1)
    (fun j W' W'' row h hg hrow => ⟨h.1.grown hg h.1.size (fun g e => by have := hrow g e; omega), h.2.1.kept hg (fun e => by have := hrow _ e.symm; omega), h.2.2.1.keptR hg (fun e => by have := hrow _ e.symm; omega), h.2.2.2.1.keptR hg (fun e => by have := hrow _ e.symm; omega), h.2.2.2.2.1.kept (fun q _ hq hq2 => hg.block q hq2 (fun e => by have := hrow _ e.symm; omega)), by have := hg.size; have := h.2.2.2.2.2; omega⟩)
    (fun _ _ _ h => h.elim) ⟨HBw5.out, by simpa using HN5.out, HF5.out, HV5.out, HD5.out, Nat.le_refl _⟩
    (fun u a' W' => ∃ bu, w5.heap.size + 2 ≤ bu ∧ Vn W' bu 78 #[.string u.nm, .int .u8 (u.k : Int), .int .i64 u.ln, .int .i64 u.cl] ∧ a' = { tmps := #[Value.slice (some { block := b, off := o }) n c, undef, Value.slice none 0 0, Value.int IntKind.i64 0, Value.pointer (some { block := w1.heap.size + 1, off := 0 }), undef, Value.pointer (some { block := W.heap.size, off := 0 }), Value.pointer (some { block := bu, off := 0 }), Value.slice (some { block := b, off := o }) n c, Value.bool true, Value.bool false, Value.map (some w1.heap.size), Value.slice (some { block := b, off := o }) n c, Value.int IntKind.i64 (n : Int), Value.int IntKind.i64 (i : Int), Value.bool true, Value.pointer (some { block := b, off := o + i * 19 }), vI, vI, Value.func (Fn.func 35) #[] #[Value.pointer (some { block := w4.heap.size, off := 0 })], Value.agg #[Value.string u.nm, Value.int IntKind.u8 (u.k : Int), Value.int IntKind.i64 u.ln, Value.int IntKind.i64 u.cl], undef, undef, undef, undef, u25, undef, undef, undef], defers := [] }) ?hAx ?hassign ?hbody ?hdone ?hstop
   case hAx =>
    rintro u a' W1 W2 ⟨bu, h1, h2, rfl⟩ hg
    exact ⟨bu, h1, h2.keptR hg (by simp; omega), rfl⟩
   case hassign =>
    intro l u W1 K hs hK
    unfold usV
    gi_wp2
    exact hK _ _ (jlow _ _) ⟨W1.heap.size, hs, Vn.new _ _ _, rfl⟩
   case hbody =>
    rintro l j u a' W1 hu ⟨hb1, hn1, hf1, hv1, hd1, hz1⟩ ⟨bu, hbu, hv, rfl⟩
    have hsu := HUs.out j u hu
    obtain ⟨D, hO, hDm⟩ := hn1
    have HO := qa0 hO
    have HDm := qa0 hDm
    have HMp : Hid (IsMap D) := by obtain ⟨es, e, _⟩ := hO.keysOf; exact ⟨es, e⟩
    have HK := qa0 (WideMaps.keyOf_string_mk (P := Tryd.prog) (k := 9) Tryd.underlying9 (s := u.nm) (by unfold maxLen; omega))
    have m0 := hf1.cell 0 _ rfl
    have x0 := hv.cell 0 _ rfl
    have HBb := qa0 hb1
    have HFb := qa0 hf1
    have HVb := qa0 hv1
    have HDb := qa0 hd1
    have hjU : j < U.length := by
     rcases Nat.lt_or_ge j U.length with h | h
     ·exact h
     ·rw [List.getElem?_eq_none h] at hu; cases hu
    have hL1 := HL1.out
    have HTk : Hid (usl F i ++ U.take (j + 1) = (usl F i ++ U.take j) ++ [u]) := by show _ = _; rw [List.take_add_one, hu, List.append_assoc]; rfl
    clear hb1 hf1 hv1 hd1 hO hDm hu hv
    gi_wp2_with (gi_at_mapUpdate; go_loud (refine wpListIn_mapUpdate_own _ rfl _ _ _ 73 rfl 9 79 qau Tryd.underlying73 RU w1.heap.size _ D rfl HO.out (by unfold maxLen; omega) _ _ _ rfl rfl HK.out _ [] rfl ?_; intro w9 hO9 hg9; have HO9 := qa0 hO9; have HG9 := qa0 hg9; clear hO9 hg9))
    refine ⟨⟨HBb.out.grown HG9.out HBb.out.size (fun g e => by cases e; exact Nat.le_refl _), ?_, HFb.out.keptR HG9.out (fun e => by injection e with e; omega), HVb.out.keptR HG9.out (fun e => by injection e with e; omega), HDb.out.kept (fun q h1 _ h3 => HG9.out.block q h3 (fun e => by cases e; omega)), by have := HG9.out.size; omega⟩, HG9.out.size, fun q h1 h2 => HG9.out.block q h2 (fun e => by cases e; omega)⟩
    show Nk w9 w1.heap.size ((usl F i).length + (j + 1)) (usl F i ++ U.take (j + 1))
    rw [HTk.out]
    exact ⟨_, HO9.out, has_nam HMp.out HDm.out⟩
   case hdone =>
    rintro D W1 hD ⟨hb1, hn1, hf1, hv1, hd1, hz1⟩ hdf
    have HN1 : Hid (Nk W1 w1.heap.size (usl F (i + 1)).length (usl F (i + 1))) := by show Nk _ _ _ _; rw [HSu.out, List.length_append]; rw [List.take_length] at hn1; exact hn1
    have HF1 := qa0 hf1
    have HBn := qa0 hb1
    have HDn : Hid (qbo W1 (w1.heap.size + 2) W1.heap.size ({ target := .collected D, args := #[] } :: ds)) := ⟨D, rfl, by omega, lt_of_block hdf, hdf, hd1.mono (by omega)⟩
    clear hb1 hn1 hf1 hv1 hd1 hdf
    go_wp2
    refine ⟨⟨i + 1, _, _, _, _, _, _, _, _, by omega, rfl, HN1, HF1, HBn, HDn⟩, ?_⟩
    simp [intOf]
    omega
   case hstop => exact fun _ _ _ h => h.elim
  ·obtain rfl : i = n := by omega
   obtain ⟨D, hO, hDm⟩ := HN.out
   have hsz := Nk.size hO hDm
   have hfw := HFw.out i (Nat.le_refl _)
   have hperm := Nk.perm hO hDm
   have HSo : Hid (Calls Tryd.prog 27 #[.func (.func 41) #[] #[.pointer (some ⟨W.heap.size, 0, none⟩)]] (W.alloc (.cells #[.map (some w1.heap.size)] 73)) _) := callsIn_wide.1 (psortedIt w1.heap.size _ D RU W hO (by unfold maxLen; omega) (by omega))
   have HKe : Hid (Calls Tryd.prog 28 #[.map (some w1.heap.size)] W _) := callsIn_wide.1 (pkeysIt (some w1.heap.size) W)
   have HPe := qa0 hperm
   have m0 := HV.out.cell 0 _ rfl
   clear hO hDm hperm
   go_wp2_with (first
    | (go_at_call 28; go_loud (refine HKe.out.mono ?_; rintro e w2 ⟨rfl, rfl⟩))
    | (go_at_call 27; go_loud (refine HSo.out.mono ?_; rintro e w3 ⟨v, ss, rfl, hS, hrow, _, hb3⟩; have HRw := qa0 hrow; have HS := qa0 hS; have HB3 := qa0 (jtwo (jlow W (.cells #[.map (some w1.heap.size)] 73)) hb3); clear hrow hS hb3)))
   have hs3 := HB3.out.size
   have eS : ss.mergeSort leB = (nam (usl F i)).mergeSort leB := mergeSort_of_perm (HS.out.trans HPe.out.symm)
   have eL : ss.length = (nam (usl F i)).length := (HS.out.trans HPe.out.symm).length_eq
   have hrow : w3.ownsRow (W.heap.size + 1) 9 1 v (nam (usl F i)).length (((nam (usl F i)).mergeSort leB).map encStr) := by
    have h := HRw.out
    rw [World.size_alloc] at h
    rw [← eL, ← eS]
    exact h
   have hbw : Below w.heap.size w w3 := jtwo (jtwo HB1.out HBW.out) HB3.out
   have hown : ∀ g, v.ownBlock = some g → W.heap.size + 1 ≤ g := fun g hg => by
    rcases hrow.2 with ⟨e, _⟩ | ⟨g', cap, cur, e, hB', _⟩
    ·rw [e] at hg; simp [Value.ownBlock] at hg
    ·rw [e] at hg; simp [Value.ownBlock] at hg; subst hg; exact hB'
   have hs1 := HB1.out.size
   have hsW := HBW.out.size
   refine qdm (B := w1.heap.size + 2) (E0 := W.heap.size) (fun W' => w3.heap.size ≤ W'.heap.size ∧ Below w.heap.size w W' ∧ W'.ownsRow (W.heap.size + 1) 9 1 v (nam (usl F i)).length (((nam (usl F i)).mergeSort leB).map encStr)) ?_ ?_ ds W.heap.size w3 (Nat.le_refl _) (HD.out.kept (fun q _ _ h3 => HB3.out.block q h3)) ⟨Nat.le_refl _, hbw, hrow⟩
   ·rintro W' Dd ⟨h1, h2, h3⟩ h4 h5 _
    have hg := grownBy_putObj' W' Dd (.deferred none)
    exact ⟨by have := hg.size; omega, h2.grown hg h2.size (fun g e => by cases e; omega), World.ownsRow.kept h3 hg (by
     cases hv : v.ownBlock with
     | none => exact .inl rfl
     | some g => exact .inr (fun e => by cases e; have := hown _ hv; omega))⟩
   ·rintro W' ⟨h1, h2, h3⟩
    refine ⟨.tuple #[v, .int .i64 0], by simp [results, Tryd.results17, go_sem], ⟨v, rfl, ?_⟩, h2⟩
    refine ⟨h3.1, ?_⟩
    rcases h3.2 with h | ⟨g, cap, cur, e, hB, hr⟩
    ·exact .inl h
    ·exact .inr ⟨g, cap, cur, e, by omega, hr⟩
open Go.RowKit Go.Shelf Go.Maps Go.Sort
/-- Texts lie at a slice's address. -/
def StL (w : World) (a : Option Addr) (L : List (List UInt8)) : Prop := ∀ i x, L[i]? = some x → ∃ b o, a = some ⟨b, o, none⟩ ∧ w.cell? ⟨b, o + i, none⟩ = some (.string ⟨x.toArray⟩)
theorem StL.later {w w' : World} {a : Option Addr} {L : List (List UInt8)} (h : StL w a L) (hb : Below w.heap.size w w') : StL w' a L := fun i x hx => by
 obtain ⟨b, o, e, h1⟩ := h i x hx
 exact ⟨b, o, e, cell_kept h1 hb⟩
theorem qfw {w : World} {B n : Nat} {v : Value} {L : List (List UInt8)} (h : w.ownsRow B 9 1 v n (L.map encStr)) (hL : L.length = n) : ∃ a d, v = .slice a L.length d ∧ StL w a L := by
 rcases h.2 with ⟨e, h0⟩ | ⟨g, cap, cur, e, hr⟩
 ·refine ⟨none, 0, by rw [e, hL, h0], fun i x hx => ?_⟩
  have := (List.getElem?_eq_some_iff.1 hx).1
  omega
 ·refine ⟨some ⟨g, 0, none⟩, cap, by rw [e, hL], fun i x hx => ⟨g, 0, rfl, ?_⟩⟩
  have hc := World.ownsRow.cells h (g := g) (by rw [e]; rfl) i (encStr x) (by rw [List.getElem?_map, hx]; rfl)
  rw [Addr.add_mid] at hc
  exact hc
end Go.Proofs.YtemhodenkgngmaaDoor
