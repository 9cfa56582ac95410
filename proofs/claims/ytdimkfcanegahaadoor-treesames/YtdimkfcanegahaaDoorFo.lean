/-
  Contracts of the program's tree: each over rows and over shapes, stripShape.
-/
import Derived.Test.YtdimkfcanegahaaDoorFn
import Derived.Test.YtdimkfcanegahaaDoorFl
import Derived.Test.YtdimkfcanegahaaDoorPk
import Derived.Test.YtdimkfcanegahaaDoorFv
namespace Go.Proofs.YtdimkfcanegahaaDoor
open Go.RowKit
def sst (S : St) : St := fun p => { S p with args := fun i => xst ((S p).args i), rows := fun i j => xst ((S p).rows i j), ln := 0, cl := 0 }
theorem part_sst (S : St) (i : Nat) : part (sst S) i = sst (part S i) := rfl
theorem SV.cells2 {w : World} {cs : Array Value} {S : St} (h : SV w (.agg cs) S) : SC w cs.toList S := by
  obtain ⟨⟨aa, pa, ra, ca, cp, cr, e, ha, hr, hp⟩, hok⟩ := h
  cases e
  exact ⟨aa, pa, ra, ca, cp, cr, rfl, hok, ha, hr, hp⟩
/-- Few parts, d deep. -/
def SmS : Nat → St → Prop
  | 0, _ => False
  | d + 1, S => (S []).na ≤ 64 ∧ (∀ i, i < (S []).na → SmX 16 ((S []).args i)) ∧ (S []).nr ≤ 64 ∧ (∀ i, i < (S []).nr → (S []).rl i ≤ 64 ∧ ∀ q, q < (S []).rl i → SmX 16 ((S []).rows i q)) ∧ (S []).np ≤ 64 ∧ ∀ i, i < (S []).np → SmS d (part S i)
theorem MS.sm : ∀ {d : Nat} {S : St}, MS d S → SmS d S := by
  intro d
  induction d with
  | zero => intro S h; exact h.not0.elim
  | succ d ih =>
    intro S h
    obtain ⟨hs, hA, hR, hP⟩ := h.parts
    obtain ⟨f1, f2⟩ := sw_few hs
    refine ⟨by omega, fun i hi => (hA i hi).sm, f2, fun i hi => ⟨(hR i hi).2.1, fun q hq => ((hR i hi).2.2 q hq).sm⟩, ?_, fun i hi => ih (hP i hi)⟩
    rcases swant_cases hs with ⟨_, _, _, g, _⟩ | ⟨_, _, _, _, g, _⟩ | ⟨_, _, _, _, g, _⟩ | ⟨_, _, _, g, _⟩ <;> omega
theorem ZS.sm {S : St} (h : ZS S) : SmS 16 S := ⟨by have := h.2.2.1; omega, fun i hi => by have := h.2.2.1; omega, by have := h.2.2.2.1; omega, fun i hi => by have := h.2.2.2.1; omega, by have := h.2.2.2.2; omega, fun i hi => by have := h.2.2.2.2; omega⟩
/-- Shapes, rows, in new memory. -/
def SN (s : Nat) (w : World) (a : Option Addr) (n : Nat) (F : Nat → St) : Prop := (∀ d, SL d w a n F) ∧ Nb s w a n 33 7
def RN (s : Nat) (w : World) (a : Option Addr) (n : Nat) (len : Nat → Nat) (F : Nat → Nat → Xt) : Prop := Nb s w a n 26 1 ∧ ∀ i, i < n → ∃ g x, a = some ⟨g, 0, none⟩ ∧ w.cell? ⟨g, i, none⟩ = some (.slice x (len i) (len i)) ∧ XN s w x (len i) (F i)
theorem RN.rows {s : Nat} {w : World} {a : Option Addr} {n : Nat} {len : Nat → Nat} {F : Nat → Nat → Xt} (h : RN s w a n len F) : XR w a n len F := fun i hi => by
  obtain ⟨g, x, e, hc, hx⟩ := h.2 i hi
  exact ⟨g, 0, x, _, e, by rw [Nat.zero_add]; exact hc, hx.1⟩
theorem XN.weak {s t : Nat} {w : World} {a : Option Addr} {n : Nat} {F : Nat → Xt} (h : XN t w a n F) (hst : s ≤ t) : XN s w a n F := ⟨h.1, h.2.weak hst⟩
theorem SN.weak {s t : Nat} {w : World} {a : Option Addr} {n : Nat} {F : Nat → St} (h : SN t w a n F) (hst : s ≤ t) : SN s w a n F := ⟨h.1, h.2.weak hst⟩
theorem RN.weak {s t : Nat} {w : World} {a : Option Addr} {n : Nat} {len : Nat → Nat} {F : Nat → Nat → Xt} (h : RN t w a n len F) (hst : s ≤ t) : RN s w a n len F := ⟨h.1.weak hst, fun i hi => by
  obtain ⟨g, x, e, hc, hx⟩ := h.2 i hi
  exact ⟨g, x, e, hc, hx.weak hst⟩⟩
theorem infS : (Tryd.prog.info? 33).map (fun i => (i.size, i.bytes, i.zero.isSome)) = some (7, 112, true) := by kernel_rfl
theorem infL : (Tryd.prog.info? 26).map (fun i => (i.size, i.bytes, i.zero.isSome)) = some (1, 24, true) := by kernel_rfl
theorem ls_st {l : Ls} (h : LsOk l) : LsOk { l with args := fun i => xst (l.args i), rows := fun i j => xst (l.rows i j), ln := 0, cl := 0 } := ⟨h.k8, h.nm47, h.na47, h.np47, h.nr47, h.rl47⟩
theorem sn_of {s : Nat} {w : World} {g n : Nat} {cs : Array Value} {F : Nat → St} (hV : Vn w g 33 cs) (hs : s ≤ g) (hc : cs.size = n * 7) (h : ∀ j, j < n → ∃ ys : List Value, ys.length = 7 ∧ (∀ q x, ys[q]? = some x → cs[j * 7 + q]? = some x) ∧ SV w (.agg ys.toArray) (F j)) : SN s w (some ⟨g, 0, none⟩) n F := by
  refine ⟨fun d i hi => ⟨g, 0, rfl, ?_⟩, .inr ⟨g, cs, rfl, hs, hV, hc⟩⟩
  obtain ⟨ys, hl, hq, hx⟩ := h i hi
  have hx2 := hx.cells2
  refine SC.at_ (cs := ys) (by simpa using hx2) (fun j hj => ?_) d
  have hy : ys[j]? = some ys[j] := List.getElem?_eq_getElem (by omega)
  rw [hy, Nat.zero_add]
  exact hV.cell _ _ (hq j _ hy)
set_option maxRecDepth 20000 in
set_option maxHeartbeats 8000000 in
theorem teach_r (w : World) (a : Option Addr) (n c : Nat) (len : Nat → Nat) (F : Nat → Nat → Xt) (hX : XR w a n len F) (hs : ∀ i, i < n → len i ≤ 64 ∧ ∀ q, q < len i → SmX 16 (F i q)) (hn : n ≤ 64) :
    Calls Tryd.prog 92 #[.slice a n c, .func (.func 72) #[] #[]] w fun e w' => ∃ a', e = .returned (.slice a' n n) ∧ Fr w.heap.size w' (fun u => RN w.heap.size u a' n len (fun i j => xst (F i j))) ∧ Below w.heap.size w w' := by
  have HX := jhid9 hX
  have HS := jhid9 hs
  have HI : Hid (∀ (w' : World) (a : Option Addr) (m c i : Nat), i < n → m = len i → (∀ d, XL d w' a m (F i)) → Calls Tryd.prog 72 #[.slice a m c] w' fun e w'' => ∃ a', e = .returned (.slice a' m m) ∧ Fr w'.heap.size w'' (fun u => XN w'.heap.size u a' m (fun j => xst (F i j))) ∧ Below w'.heap.size w' w'') := fun w' a m c i hi hm hl => tstripxs 16 (tstripx 16) w' a m c (F i) hl (fun q hq => (HS.out i hi).2 q (by omega)) (by have := (HS.out i hi).1; omega)
  clear hX hs
  by_cases h0 : n = 0
  · subst h0
    show Calls _ _ #[.slice a 0 c, _] _ _
    go_enter Tryd.func92, Tryd.ntmps92
    go_wp2
    go_ret
    exact ⟨none, rfl, fun u _ => ⟨.inl ⟨rfl, rfl⟩, fun i hi => by omega⟩, Below.refl _ _⟩
  have q0 : ((n : Int) == 0) = false := by simp; omega
  have M1 : True := trivial
  go_enter Tryd.func92, Tryd.ntmps92
  go_wp2_with (clear M1; refine wpList_make_new rfl 31 26 _ rfl n 1 24 rfl Tryd.underlying31 infL (by omega) hn ?_; intro w1 cs1 HV1 HC1 HB1)
  go_loopw [16] (fun vi wr => ∃ (i : Nat) (cs : Array Value), i ≤ n ∧ vi = .int .i64 (i : Int) ∧ Hid (Vn wr w.heap.size 26 cs) ∧ Hid (cs.size = n) ∧ Hid (∀ j, j < i → ∃ x, cs[j]? = some (.slice x (len j) (len j)) ∧ Fr (w.heap.size + 1) wr (fun u => XN (w.heap.size + 1) u x (len j) (fun q => xst (F j q)))) ∧ Hid (Below w.heap.size w wr)) (fun vi _ => n - (intOf vi).toNat)
  case atStart => exact ⟨0, cs1, by omega, rfl, HV1, HC1.out.trans (Nat.mul_one _), fun j hj => by omega, HB1⟩
  case round =>
    obtain ⟨i, cs, hi, rfl, HV, HC, HD, HB⟩ := hrel
    by_cases hlt : i < n
    · have p0 : (0 : Int) ≤ (i : Int) := by omega
      have p1 : (i : Int) < (n : Int) := by omega
      obtain ⟨b, o, x, xc, rfl, hc, hxl⟩ := HX.out i hlt
      have hcc := cell_kept hc HB.out
      have HXl := jhid9 hxl
      have hgl := HV.out.lt
      obtain ⟨m, Hm⟩ : ∃ m, Hid (len i = m) := ⟨_, rfl⟩
      rw [Hm.out] at hcc HXl
      clear hc hxl
      have M3 : True := trivial
      go_wp2_with (first
        | (go_at_call 72; refine (HI.out _ x m xc i hlt Hm.out.symm (fun d => (HXl.out d).later HB.out)).mono ?_; rintro e w3 ⟨a', rfl, hfr, hb3⟩; have HF3 := jhid9 hfr; have HB3 := jhid9 (jtwo HB.out hb3); have HVg3 := jhid9 (HV.out.later hb3); have HA3 : Hid (Ag (w.heap.size + 1) wr w3) := Ag.of hb3; clear hb3 hfr)
        | (clear M3; refine wpList_store_one rfl 26 _ _ rfl w.heap.size i 26 cs (.slice a' m m) (by first | rfl | simp) rfl sizeL1 rfl rfl HVg3.out (by rw [HC.out]; exact hlt) ?_; intro w4 HV4 hg4))
      refine ⟨⟨i + 1, _, by omega, by go_num, HV4, (Array.size_setIfInBounds ..).trans HC.out, fun j hj => ?_, HB3.out.trans (jbelow hg4.out HB3.out.size (fun g e => by cases e; exact Nat.le_refl _))⟩, by simp [intOf]; omega⟩
      by_cases hji : j < i
      · obtain ⟨x2, h1, h2⟩ := HD.out j hji
        refine ⟨x2, by rw [Array.getElem?_setIfInBounds, if_neg (by omega)]; exact h1, (h2.step HA3.out).step (ag_grown hg4.out (by omega))⟩
      · obtain rfl : j = i := by omega
        refine ⟨a', by rw [Array.getElem?_setIfInBounds, if_pos rfl, if_pos (by rw [HC.out]; exact hlt), Hm.out], fun u hu => ?_⟩
        have hxn := ((HF3.out.weak (s := w.heap.size + 1) (by omega)).step (ag_grown hg4.out (by omega))) u hu
        rw [Hm.out]
        exact hxn.weak (by omega)
    · obtain rfl : i = n := by omega
      go_wp2
      go_ret
      refine ⟨some ⟨w.heap.size, 0, none⟩, rfl, fun u hu => ?_, HB.out⟩
      have hv := HV.out.keptA hu (Nat.le_refl _)
      refine ⟨.inr ⟨w.heap.size, cs, rfl, Nat.le_refl _, hv, HC.out.trans (Nat.mul_one _).symm⟩, fun j hj => ?_⟩
      obtain ⟨x, h1, h2⟩ := HD.out j hj
      exact ⟨w.heap.size, x, rfl, hv.cell _ _ h1, (h2 u (hu.mono (by omega))).weak (by omega)⟩
set_option maxRecDepth 20000 in
set_option maxHeartbeats 8000000 in
theorem teach_s (d : Nat) (IH : ∀ (w : World) (S : St) (v : Value), SmS d S → SV w v S → Calls Tryd.prog 71 #[v] w fun e w' => ∃ aa' pa' ra', e = .returned (.agg #[.int .u8 ((S []).k : Int), .string (S []).nm, .slice aa' (S []).na (S []).na, .slice pa' (S []).np (S []).np, .slice ra' (S []).nr (S []).nr, .int .i64 0, .int .i64 0]) ∧ Fr w.heap.size w' (fun u => XN w.heap.size u aa' (S []).na (fun i => xst ((S []).args i)) ∧ SN w.heap.size u pa' (S []).np (part (sst S)) ∧ RN w.heap.size u ra' (S []).nr (S []).rl (fun i j => xst ((S []).rows i j))) ∧ Below w.heap.size w w')
    (w : World) (a : Option Addr) (n c : Nat) (F : Nat → St) (hX : ∀ d, SL d w a n F) (hs : ∀ i, i < n → SmS d (F i)) (hn : n ≤ 64) :
    Calls Tryd.prog 91 #[.slice a n c, .func (.func 71) #[] #[]] w fun e w' => ∃ a', e = .returned (.slice a' n n) ∧ Fr w.heap.size w' (fun u => SN w.heap.size u a' n (fun i => sst (F i))) ∧ Below w.heap.size w w' := by
  have HX := jhid9 hX
  have HS := jhid9 hs
  have HI := jhid9 IH
  clear hX hs IH
  by_cases h0 : n = 0
  · subst h0
    show Calls _ _ #[.slice a 0 c, _] _ _
    go_enter Tryd.func91, Tryd.ntmps91
    go_wp2
    go_ret
    exact ⟨none, rfl, fun u _ => ⟨fun d i hi => by omega, .inl ⟨rfl, rfl⟩⟩, Below.refl _ _⟩
  have q0 : ((n : Int) == 0) = false := by simp; omega
  have M1 : True := trivial
  go_enter Tryd.func91, Tryd.ntmps91
  go_wp2_with (clear M1; refine wpList_make_new rfl 30 33 _ rfl n 7 112 rfl Tryd.underlying30 infS (by omega) hn ?_; intro w1 cs1 HV1 HC1 HB1)
  go_loopw [16] (fun vi wr => ∃ (i : Nat) (cs : Array Value), i ≤ n ∧ vi = .int .i64 (i : Int) ∧ Hid (Vn wr w.heap.size 33 cs) ∧ Hid (cs.size = n * 7) ∧ Hid (∀ j, j < i → ∃ ys : List Value, ys.length = 7 ∧ (∀ q x, ys[q]? = some x → cs[j * 7 + q]? = some x) ∧ Fr (w.heap.size + 1) wr (fun u => SV u (.agg ys.toArray) (sst (F j)))) ∧ Hid (Below w.heap.size w wr)) (fun vi _ => n - (intOf vi).toNat)
  case atStart => exact ⟨0, cs1, by omega, rfl, HV1, HC1, fun j hj => by omega, HB1⟩
  case round =>
    obtain ⟨i, cs, hi, rfl, HV, HC, HD, HB⟩ := hrel
    by_cases hlt : i < n
    · have p0 : (0 : Int) ≤ (i : Int) := by omega
      have p1 : (i : Int) < (n : Int) := by omega
      obtain ⟨b, o, k, na, np, nr, ln, cl, nm, aa, pa, ra, ca, cp, cr, rfl, hkid, hcl⟩ := SL.at_ HX.out (i := i) hlt
      obtain ⟨k0, k1, k2, k3, k4, k5, k6⟩ := hcl _ HB.out
      have HKid := jhid9 hkid
      have hgl := HV.out.lt
      clear hkid hcl
      have M2 : True := trivial
      have M3 : True := trivial
      go_wp2_with (first
        | (clear M2; refine wpList_store_vn rfl 33 _ _ rfl wr.heap.size _ #[.int .u8 (k : Int), .string nm, .slice aa na ca, .slice pa np cp, .slice ra nr cr, .int .i64 ln, .int .i64 cl] rfl rfl (Vn.new wr _ _) sizeS rfl (all7 rfl rfl rfl rfl rfl rfl rfl) ?_; intro w2 HV2 hg2; have hb2 : Below wr.heap.size wr w2 := (jlow _ _).trans (jbelow hg2.out (jlow _ _).size (fun g e => by cases e; exact Nat.le_refl _)); have HB2 := jhid9 (jtwo HB.out hb2); have HVg2 := jhid9 (HV.out.later hb2); have HA2 : Hid (Ag (w.heap.size + 1) wr w2) := Ag.of hb2; have hsz2 := hb2.size; clear hg2 hb2; have m0 := HV2.out.cell 0 _ rfl; have m1 := HV2.out.cell 1 _ rfl; have m2 := HV2.out.cell 2 _ rfl; have m3 := HV2.out.cell 3 _ rfl; have m4 := HV2.out.cell 4 _ rfl; have m5 := HV2.out.cell 5 _ rfl; have m6 := HV2.out.cell 6 _ rfl)
        | (go_at_call 71; refine (HI.out _ (F i) _ (HS.out i hlt) (HKid.out.later HB2.out)).mono ?_; rintro e w3 ⟨aa', pa', ra', rfl, hfr, hb3⟩; have HF3 := jhid9 hfr; have HB3 := jhid9 (jtwo HB2.out hb3); have HVg3 := jhid9 (HVg2.out.later hb3); have HA3 : Hid (Ag (w.heap.size + 1) w2 w3) := Ag.of hb3; clear hb3 hfr)
        | (clear M3; refine wpList_store_spl rfl 33 _ _ rfl w.heap.size (i * 7) 33 cs #[.int .u8 ((F i []).k : Int), .string (F i []).nm, .slice aa' (F i []).na (F i []).na, .slice pa' (F i []).np (F i []).np, .slice ra' (F i []).nr (F i []).nr, .int .i64 0, .int .i64 0] (by first | rfl | simp) rfl sizeS (all7 rfl rfl rfl rfl rfl rfl rfl) HVg3.out (by rw [HC.out]; show i * 7 + 7 ≤ n * 7; omega) ?_; intro w4 HV4 HA4 HB4))
      refine ⟨⟨i + 1, _, by omega, by go_num, HV4, (spl_size _ _ _).trans HC.out, fun j hj => ?_, jtwo2 HB3.out (HB4.out _ (Nat.le_refl _))⟩, by simp [intOf]; omega⟩
      by_cases hji : j < i
      · obtain ⟨ys, h1, h2, h3⟩ := HD.out j hji
        refine ⟨ys, h1, fun q x hx => ?_, ((h3.step HA2.out).step HA3.out).step (HA4.out _ (by omega))⟩
        have hq : q < ys.length := (List.getElem?_eq_some_iff.1 hx).1
        rw [spl_out _ _ _ _ (by left; omega)]
        exact h2 q x hx
      · obtain rfl : j = i := by omega
        refine ⟨_, rfl, fun q x hx => spl_in _ _ _ _ _ hx (by rw [HC.out]; show j * 7 + 7 ≤ n * 7; omega), fun u hu => ?_⟩
        obtain ⟨hx1, hx2, hx3⟩ := ((HF3.out.weak (s := w.heap.size + 1) (by omega)).step (HA4.out _ (by omega))) u hu
        exact ⟨⟨aa', pa', ra', _, _, _, rfl, hx1.1, hx3.rows, hx2.1⟩, ls_st HKid.out.ok⟩
    · obtain rfl : i = n := by omega
      go_wp2
      go_ret
      refine ⟨some ⟨w.heap.size, 0, none⟩, rfl, fun u hu => ?_, HB.out⟩
      refine sn_of (HV.out.keptA hu (Nat.le_refl _)) (Nat.le_refl _) HC.out (fun j hj => ?_)
      obtain ⟨ys, h1, h2, h3⟩ := HD.out j hj
      exact ⟨ys, h1, h2, h3 u (hu.mono (by omega))⟩
theorem sizeP1 : (Tryd.prog.info? 30).map (·.size) = some 1 := by kernel_rfl
theorem sizeR1 : (Tryd.prog.info? 31).map (·.size) = some 1 := by kernel_rfl
set_option maxRecDepth 20000 in
set_option maxHeartbeats 16000000 in
theorem tstrips : ∀ (d : Nat) (w : World) (S : St) (v : Value), SmS d S → SV w v S → Calls Tryd.prog 71 #[v] w fun e w' => ∃ aa' pa' ra', e = .returned (.agg #[.int .u8 ((S []).k : Int), .string (S []).nm, .slice aa' (S []).na (S []).na, .slice pa' (S []).np (S []).np, .slice ra' (S []).nr (S []).nr, .int .i64 0, .int .i64 0]) ∧ Fr w.heap.size w' (fun u => XN w.heap.size u aa' (S []).na (fun i => xst ((S []).args i)) ∧ SN w.heap.size u pa' (S []).np (part (sst S)) ∧ RN w.heap.size u ra' (S []).nr (S []).rl (fun i j => xst ((S []).rows i j))) ∧ Below w.heap.size w w' := by
  intro d
  induction d with
  | zero => intro w T v h; exact h.elim
  | succ d ih =>
    intro w S v hs hX
    obtain ⟨⟨aa, pa, ra, ca, cp, cr, rfl, hA, hR, hP⟩, hok⟩ := hX
    have HCa : Hid (∀ w' : World, Below w.heap.size w w' → Calls Tryd.prog 72 #[.slice aa (S []).na ca] w' fun e w'' => ∃ a', e = .returned (.slice a' (S []).na (S []).na) ∧ Fr w'.heap.size w'' (fun u => XN w'.heap.size u a' (S []).na (fun i => xst ((S []).args i))) ∧ Below w'.heap.size w' w'') := fun w' hb => tstripxs 16 (tstripx 16) w' aa _ ca _ (fun d => (hA d).later hb) hs.2.1 hs.1
    have HCp : Hid (∀ w' : World, Below w.heap.size w w' → Calls Tryd.prog 91 #[.slice pa (S []).np cp, .func (.func 71) #[] #[]] w' fun e w'' => ∃ a', e = .returned (.slice a' (S []).np (S []).np) ∧ Fr w'.heap.size w'' (fun u => SN w'.heap.size u a' (S []).np (part (sst S))) ∧ Below w'.heap.size w' w'') := fun w' hb => teach_s d ih w' pa _ cp (part S) (fun d => (hP d).later hb) hs.2.2.2.2.2 hs.2.2.2.2.1
    have HCr : Hid (∀ w' : World, Below w.heap.size w w' → Calls Tryd.prog 92 #[.slice ra (S []).nr cr, .func (.func 72) #[] #[]] w' fun e w'' => ∃ a', e = .returned (.slice a' (S []).nr (S []).nr) ∧ Fr w'.heap.size w'' (fun u => RN w'.heap.size u a' (S []).nr (S []).rl (fun i j => xst ((S []).rows i j))) ∧ Below w'.heap.size w' w'') := fun w' hb => teach_r w' ra _ cr _ _ (hR.later hb) hs.2.2.2.1 hs.2.2.1
    clear ih hA hR hP hs hok
    generalize part (sst S) = GP at *
    generalize S [] = l at *
    obtain ⟨k, nm, na, args, np, nr, rl, rows, ln, cl⟩ := l
    replace HCa : Hid (∀ w' : World, Below w.heap.size w w' → Calls Tryd.prog 72 #[.slice aa na ca] w' fun e w'' => ∃ a', e = .returned (.slice a' na na) ∧ Fr w'.heap.size w'' (fun u => XN w'.heap.size u a' na (fun i => xst (args i))) ∧ Below w'.heap.size w' w'') := HCa
    replace HCp : Hid (∀ w' : World, Below w.heap.size w w' → Calls Tryd.prog 91 #[.slice pa np cp, .func (.func 71) #[] #[]] w' fun e w'' => ∃ a', e = .returned (.slice a' np np) ∧ Fr w'.heap.size w'' (fun u => SN w'.heap.size u a' np GP) ∧ Below w'.heap.size w' w'') := HCp
    replace HCr : Hid (∀ w' : World, Below w.heap.size w w' → Calls Tryd.prog 92 #[.slice ra nr cr, .func (.func 72) #[] #[]] w' fun e w'' => ∃ a', e = .returned (.slice a' nr nr) ∧ Fr w'.heap.size w'' (fun u => RN w'.heap.size u a' nr rl (fun i j => xst (rows i j))) ∧ Below w'.heap.size w' w'') := HCr
    show Calls _ _ #[.agg #[.int .u8 (k : Int), .string nm, .slice aa na ca, .slice pa np cp, .slice ra nr cr, .int .i64 ln, .int .i64 cl]] _ _
    have HX := jhid9 (Vn.new w 33 #[.int .u8 (k : Int), .string nm, .slice aa na ca, .slice pa np cp, .slice ra nr cr, .int .i64 ln, .int .i64 cl])
    have HX0 := jhid9 (HX.out.later (jlow _ (.cells #[.int .u8 0, .string ⟨#[]⟩, .slice none 0 0, .slice none 0 0, .slice none 0 0, .int .i64 0, .int .i64 0] 33)))
    have HR0 := jhid9 (Vn.new (w.alloc (.cells #[.int .u8 (k : Int), .string nm, .slice aa na ca, .slice pa np cp, .slice ra nr cr, .int .i64 ln, .int .i64 cl] 33)) 33 #[.int .u8 0, .string ⟨#[]⟩, .slice none 0 0, .slice none 0 0, .slice none 0 0, .int .i64 0, .int .i64 0])
    have HB0 := jhid9 (jtwo (jlow w (.cells #[.int .u8 (k : Int), .string nm, .slice aa na ca, .slice pa np cp, .slice ra nr cr, .int .i64 ln, .int .i64 cl] 33)) (jlow _ (.cells #[.int .u8 0, .string ⟨#[]⟩, .slice none 0 0, .slice none 0 0, .slice none 0 0, .int .i64 0, .int .i64 0] 33)))
    rw [alloc_size] at HR0
    have c0 := HX0.out.cell 0 _ rfl
    clear HX
    go_enter Tryd.func71, Tryd.ntmps71
    go_wp2
    clear c0
    refine wp_region_park (k := 14) (n := 14) (fun w' => w'.cell? ⟨w.heap.size, 4, none⟩ = some (.slice ra nr cr)) (by kernel_rfl) (by kernel_rfl) (by decide) (by rfl) ?_
    obtain ⟨W0, HW0⟩ : ∃ W0, Hid (((w.alloc (.cells #[.int .u8 (k : Int), .string nm, .slice aa na ca, .slice pa np cp, .slice ra nr cr, .int .i64 ln, .int .i64 cl] 33)).alloc (.cells #[.int .u8 0, .string ⟨#[]⟩, .slice none 0 0, .slice none 0 0, .slice none 0 0, .int .i64 0, .int .i64 0] 33)).drew = W0) := ⟨_, rfl⟩
    have HB : Hid (Below w.heap.size w W0) := by show Below _ _ _; rw [← HW0.out]; exact HB0.out.drew
    have HI : Hid (Vn W0 w.heap.size 33 #[.int .u8 (k : Int), .string nm, .slice aa na ca, .slice pa np cp, .slice ra nr cr, .int .i64 ln, .int .i64 cl]) := by show Vn _ _ _ _; rw [← HW0.out]; exact HX0.out.later ((Below.refl _ _).drew)
    have HR : Hid (Vn W0 (w.heap.size + 1) 33 #[.int .u8 0, .string ⟨#[]⟩, .slice none 0 0, .slice none 0 0, .slice none 0 0, .int .i64 0, .int .i64 0]) := by show Vn _ _ _ _; rw [← HW0.out]; exact HR0.out.later ((Below.refl _ _).drew)
    have hsz : w.heap.size + 2 ≤ W0.heap.size := HR.out.lt
    rw [HW0.out]
    clear HW0 HB0 HX0 HR0
    refine wpAnyH_take (i := 0) (v := ?vs0_1) rfl (by kernel_rfl) (by kernel_rfl) (by kernel_rfl) (fun _ _ _ h => h) (Or.inl ⟨by rfl, ?ys0_1⟩) (HI.out.cell 4 _ rfl) ?zs0_1
    case ys0_1 => (intro w hSw; (try dsimp only at hSw); go_simp; try with_reducible rfl)
    try simp only [nz1, nz3, Act.put, nz4, nz5, nz6]
    refine wpAnyH_take (i := 3) (v := ?vs3_2) rfl (by kernel_rfl) (by kernel_rfl) (by kernel_rfl) (fun _ _ _ h => h) (Or.inl ⟨by rfl, ?ys3_2⟩) (HI.out.cell 4 _ rfl) ?zs3_2
    case ys3_2 => (intro w hSw; (try dsimp only at hSw); go_simp; try with_reducible rfl)
    try simp only [nz1, nz2, nz3, Act.put, nz4, nz5, nz6]
    refine wpAnyH_take (i := 6) (v := ?vs6_3) rfl (by kernel_rfl) (by kernel_rfl) (by kernel_rfl) (fun _ _ _ h => h) (Or.inl ⟨by rfl, ?ys6_3⟩) (HI.out.cell 4 _ rfl) ?zs6_3
    case ys6_3 => (intro w hSw; (try dsimp only at hSw); go_simp; try with_reducible rfl)
    try simp only [nz1, nz2, nz3, Act.put, nz4, nz5, nz6]
    refine wpAnyH_take (i := 7) (v := ?vs7_4) rfl (by kernel_rfl) (by kernel_rfl) (by kernel_rfl) (fun _ _ _ h => h) (Or.inl ⟨by rfl, ?ys7_4⟩) (HI.out.cell 4 _ rfl) ?zs7_4
    case ys7_4 => (intro w hSw; (try dsimp only at hSw); go_simp; try with_reducible rfl)
    try simp only [nz1, nz2, nz3, Act.put, nz4, nz5, nz6]
    refine wpAnyH_ready (rs := [1, 4]) (by kernel_rfl) (by simp) ?_
    refine AllReadyH.cons rfl (fun KK hKK => ?pa5) (AllReadyH.cons rfl (fun KK hKK => ?pb5) AllReadyH.nil)
    case pa5 =>
      have cc := HI.out.cell 2 _ rfl
      go_simp
      refine hKK.out _ _ (HI.out.cell 4 _ rfl) (fun _ => ?_)
      clear hKK KK cc
      try simp only [nz1, nz2, nz3, Act.put, nz4, nz5, nz6]
      refine wpAnyH_ready (rs := [2, 4]) (by kernel_rfl) (by simp) ?_
      refine AllReadyH.cons rfl (fun KK hKK => ?pa6) (AllReadyH.cons rfl (fun KK hKK => ?pb6) AllReadyH.nil)
      case pa6 =>
        go_simp
        refine (HCa.out _ HB.out).mono ?_; rintro e WA ⟨aa2, rfl, hfr, hb⟩
        have HFA := jhid9 hfr
        have HBA := jhid9 (jtwo HB.out hb)
        have HIA := jhid9 (HI.out.later hb)
        have HRA := jhid9 (HR.out.later hb)
        have HGA : Hid (Ag (w.heap.size + 2) W0 WA) := Ag.of hb
        have hsA := hb.size
        clear hb hfr
        refine hKK.out _ _ (HIA.out.cell 4 _ rfl) (fun _ => ?_)
        clear hKK KK
        try simp only [nz1, nz2, nz3, Act.put, nz4, nz5, nz6]
        refine wpAnyH_ready (rs := [4]) (by kernel_rfl) (by simp) ?_
        refine AllReadyH.cons rfl (fun KK hKK => ?_) AllReadyH.nil
        have cc := HIA.out.cell 3 _ rfl
        go_simp
        refine hKK.out _ _ (HIA.out.cell 4 _ rfl) (fun _ => ?_)
        clear hKK KK cc
        try simp only [nz1, nz2, nz3, Act.put, nz4, nz5, nz6]
        refine wpAnyH_take (i := 9) (v := ?vs9_8) rfl (by kernel_rfl) (by kernel_rfl) (by kernel_rfl) (fun _ _ _ h => h) (Or.inl ⟨by rfl, ?ys9_8⟩) (HIA.out.cell 4 _ rfl) ?zs9_8
        case ys9_8 => (intro w hSw; (try dsimp only at hSw); go_simp; try with_reducible rfl)
        try simp only [nz1, nz2, nz3, Act.put, nz4, nz5, nz6]
        refine wpAnyH_ready (rs := [5]) (by kernel_rfl) (by simp) ?_
        refine AllReadyH.cons rfl (fun KK hKK => ?_) AllReadyH.nil
        go_simp
        refine (HCp.out _ HBA.out).mono ?_; rintro e WP ⟨pa2, rfl, hfr, hb⟩
        have HFP := jhid9 hfr
        have HBP := jhid9 (jtwo HBA.out hb)
        have HIP := jhid9 (HIA.out.later hb)
        have HRP := jhid9 (HRA.out.later hb)
        have HGP : Hid (Ag (w.heap.size + 2) WA WP) := Ag.of hb
        have hsP := hb.size
        clear hb hfr
        refine hKK.out _ _ (HIP.out.cell 4 _ rfl) (fun _ => ?_)
        clear hKK KK
        try simp only [nz1, nz2, nz3, Act.put, nz4, nz5, nz6]
        refine wpAnyH_ready (rs := [8]) (by kernel_rfl) (by simp) ?_
        refine AllReadyH.cons rfl (fun KK hKK => ?_) AllReadyH.nil
        go_simp
        refine (HCr.out _ HBP.out).mono ?_; rintro e WR ⟨ra2, rfl, hfr, hb⟩
        have HFR := jhid9 hfr
        have HBR := jhid9 (jtwo HBP.out hb)
        have HIR := jhid9 (HIP.out.later hb)
        have HRR := jhid9 (HRP.out.later hb)
        have HGR : Hid (Ag (w.heap.size + 2) WP WR) := Ag.of hb
        have hsR := hb.size
        clear hb hfr
        refine hKK.out _ _ (HIR.out.cell 4 _ rfl) (fun _ => ?_)
        clear hKK KK
        try simp only [nz1, nz2, nz3, Act.put, nz4, nz5, nz6]
        refine wpAnyH_ready (rs := [10]) (by kernel_rfl) (by simp) ?_
        refine AllReadyH.cons rfl (fun KK hKK => ?_) AllReadyH.nil
        refine wp_store_one 26 _ _ rfl w.heap.size 2 33 _ (.slice aa2 na na) rfl rfl sizeL1 rfl rfl HIR.out (by show 2 < 7; omega) ?_
        intro W5 HI5 hg5
        replace HI5 : Hid (Vn W5 w.heap.size 33 #[.int .u8 (k : Int), .string nm, .slice aa2 na na, .slice pa np cp, .slice ra nr cr, .int .i64 ln, .int .i64 cl]) := HI5
        have HR5 := jhid9 (HRR.out.kept hg5.out (by simp))
        refine hKK.out _ _ (HI5.out.cell 4 _ rfl) (fun _ => ?_)
        clear hKK KK
        try simp only [nz1, nz2, nz3, Act.put]
        refine wpAnyH_take (i := 11) (v := ?vs11_11) rfl (by kernel_rfl) (by kernel_rfl) (by kernel_rfl) (fun _ _ _ h => h) (Or.inl ⟨by rfl, ?ys11_11⟩) (HI5.out.cell 4 _ rfl) ?zs11_11
        case ys11_11 => (intro w hSw; (try dsimp only at hSw); go_simp; try with_reducible rfl)
        try simp only [nz1, nz2, nz3, Act.put, nz4, nz5, nz6]
        refine wpAnyH_ready (rs := [12]) (by kernel_rfl) (by simp) ?_
        refine AllReadyH.cons rfl (fun KK hKK => ?_) AllReadyH.nil
        refine wp_store_one 30 _ _ rfl w.heap.size 3 33 _ (.slice pa2 np np) rfl rfl sizeP1 rfl rfl HI5.out (by show 3 < 7; omega) ?_
        intro W6 HI6 hg6
        replace HI6 : Hid (Vn W6 w.heap.size 33 #[.int .u8 (k : Int), .string nm, .slice aa2 na na, .slice pa2 np np, .slice ra nr cr, .int .i64 ln, .int .i64 cl]) := HI6
        have HR6 := jhid9 (HR5.out.kept hg6.out (by simp))
        refine hKK.out _ _ (HI6.out.cell 4 _ rfl) (fun _ => ?_)
        clear hKK KK
        try simp only [nz1, nz2, nz3, Act.put]
        refine wpAnyH_take (i := 13) (v := ?vs13_12) rfl (by kernel_rfl) (by kernel_rfl) (by kernel_rfl) (fun _ _ _ h => h) (Or.inl ⟨by rfl, ?ys13_12⟩) (HI6.out.cell 4 _ rfl) ?zs13_12
        case ys13_12 => (intro w hSw; (try dsimp only at hSw); go_simp; try with_reducible rfl)
        try simp only [nz1, nz2, nz3, Act.put, nz4, nz5, nz6]
        refine wpAnyH_done (by kernel_rfl) ?_ _
        refine park_last rfl (fun KK hKK => ?_)
        refine wp_store_one 31 _ _ rfl w.heap.size 4 33 _ (.slice ra2 nr nr) rfl rfl sizeR1 rfl rfl HI6.out (by show 4 < 7; omega) ?_
        intro W7 HI7 hg7
        replace HI7 : Hid (Vn W7 w.heap.size 33 #[.int .u8 (k : Int), .string nm, .slice aa2 na na, .slice pa2 np np, .slice ra2 nr nr, .int .i64 ln, .int .i64 cl]) := HI7
        have HR7 := jhid9 (HR6.out.kept hg7.out (by simp))
        refine hKK.out _ _ ?_
        clear hKK KK
        try simp only [nz1, nz2, nz3, Act.put]
        have M2 : True := trivial
        have M3 : True := trivial
        have M4 : True := trivial
        go_wp2_with (first
          | (clear M2; refine wpList_store_one rfl 3 _ _ rfl w.heap.size 5 33 _ (.int .i64 0) rfl rfl sizeI1 rfl rfl HI7.out (by show 5 < 7; omega) ?_; intro W8 HI8 hg8; replace HI8 : Hid (Vn W8 w.heap.size 33 #[.int .u8 (k : Int), .string nm, .slice aa2 na na, .slice pa2 np np, .slice ra2 nr nr, .int .i64 0, .int .i64 cl]) := HI8; have HR8 := jhid9 (HR7.out.kept hg8.out (by simp)))
          | (clear M3; refine wpList_store_one rfl 3 _ _ rfl w.heap.size 6 33 _ (.int .i64 0) rfl rfl sizeI1 rfl rfl HI8.out (by show 6 < 7; omega) ?_; intro WY HI9 hg9; replace HI9 : Hid (Vn WY w.heap.size 33 #[.int .u8 (k : Int), .string nm, .slice aa2 na na, .slice pa2 np np, .slice ra2 nr nr, .int .i64 0, .int .i64 0]) := HI9; have HR9 := jhid9 (HR8.out.kept hg9.out (by simp)); have m0 := HI9.out.cell 0 _ rfl; have m1 := HI9.out.cell 1 _ rfl; have m2 := HI9.out.cell 2 _ rfl; have m3 := HI9.out.cell 3 _ rfl; have m4 := HI9.out.cell 4 _ rfl; have m5 := HI9.out.cell 5 _ rfl; have m6 := HI9.out.cell 6 _ rfl)
          | (clear M4; refine wpList_store_vn rfl 33 _ _ rfl (w.heap.size + 1) _ #[.int .u8 (k : Int), .string nm, .slice aa2 na na, .slice pa2 np np, .slice ra2 nr nr, .int .i64 0, .int .i64 0] rfl rfl HR9.out sizeS rfl (all7 rfl rfl rfl rfl rfl rfl rfl) ?_; intro WX HVX hgX))
        have d0 := HVX.out.cell 0 _ rfl
        have d1 := HVX.out.cell 1 _ rfl
        have d2 := HVX.out.cell 2 _ rfl
        have d3 := HVX.out.cell 3 _ rfl
        have d4 := HVX.out.cell 4 _ rfl
        have d5 := HVX.out.cell 5 _ rfl
        have d6 := HVX.out.cell 6 _ rfl
        refine bodyPost_ret (v := .agg #[.int .u8 (k : Int), .string nm, .slice aa2 na na, .slice pa2 np np, .slice ra2 nr nr, .int .i64 0, .int .i64 0]) (by simp [results, Tryd.results71, go_sem, d0, d1, d2, d3, d4, d5, d6]) rfl ?_
        have hT : Ag (w.heap.size + 2) WR WX := (ag_grown hg5.out (by omega)).trans ((ag_grown hg6.out (by omega)).trans ((ag_grown hg7.out (by omega)).trans ((ag_grown hg8.out (by omega)).trans ((ag_grown hg9.out (by omega)).trans (ag_grown hgX.out (by omega))))))
        have z1 := hg5.out.size
        have z2 := hg6.out.size
        have z3 := hg7.out.size
        have z4 := hg8.out.size
        have z5 := hg9.out.size
        refine ⟨aa2, pa2, ra2, rfl, fun u hu => ⟨?_, ?_, ?_⟩, ?_⟩
        · exact (((((HFA.out.weak (s := w.heap.size + 2) (by omega)).step HGP.out).step HGR.out).step hT) u (hu.mono (by omega))).weak (by omega)
        · exact ((((HFP.out.weak (s := w.heap.size + 2) (by omega)).step HGR.out).step hT) u (hu.mono (by omega))).weak (by omega)
        · exact (((HFR.out.weak (s := w.heap.size + 2) (by omega)).step hT) u (hu.mono (by omega))).weak (by omega)
        · exact HBR.out.trans ((jbelow hg5.out (by omega) (fun g e => by cases e; omega)).trans ((jbelow hg6.out (by omega) (fun g e => by cases e; omega)).trans ((jbelow hg7.out (by omega) (fun g e => by cases e; omega)).trans ((jbelow hg8.out (by omega) (fun g e => by cases e; omega)).trans ((jbelow hg9.out (by omega) (fun g e => by cases e; omega)).trans (jbelow hgX.out (by omega) (fun g e => by cases e; omega)))))))
      case pb6 =>
        have cc := HI.out.cell 3 _ rfl
        go_simp
        refine hKK.out _ _ (HI.out.cell 4 _ rfl) (fun _ => ?_)
        clear hKK KK cc
        try simp only [nz1, nz2, nz3, Act.put, nz4, nz5, nz6]
        refine wpAnyH_ready (rs := [2]) (by kernel_rfl) (by simp) ?_
        refine AllReadyH.cons rfl (fun KK hKK => ?_) AllReadyH.nil
        go_simp
        refine (HCa.out _ HB.out).mono ?_; rintro e WA ⟨aa2, rfl, hfr, hb⟩
        have HFA := jhid9 hfr
        have HBA := jhid9 (jtwo HB.out hb)
        have HIA := jhid9 (HI.out.later hb)
        have HRA := jhid9 (HR.out.later hb)
        have HGA : Hid (Ag (w.heap.size + 2) W0 WA) := Ag.of hb
        have hsA := hb.size
        clear hb hfr
        refine hKK.out _ _ (HIA.out.cell 4 _ rfl) (fun _ => ?_)
        clear hKK KK
        try simp only [nz1, nz2, nz3, Act.put, nz4, nz5, nz6]
        refine wpAnyH_take (i := 9) (v := ?vs9_14) rfl (by kernel_rfl) (by kernel_rfl) (by kernel_rfl) (fun _ _ _ h => h) (Or.inl ⟨by rfl, ?ys9_14⟩) (HIA.out.cell 4 _ rfl) ?zs9_14
        case ys9_14 => (intro w hSw; (try dsimp only at hSw); go_simp; try with_reducible rfl)
        try simp only [nz1, nz2, nz3, Act.put, nz4, nz5, nz6]
        refine wpAnyH_ready (rs := [5]) (by kernel_rfl) (by simp) ?_
        refine AllReadyH.cons rfl (fun KK hKK => ?_) AllReadyH.nil
        go_simp
        refine (HCp.out _ HBA.out).mono ?_; rintro e WP ⟨pa2, rfl, hfr, hb⟩
        have HFP := jhid9 hfr
        have HBP := jhid9 (jtwo HBA.out hb)
        have HIP := jhid9 (HIA.out.later hb)
        have HRP := jhid9 (HRA.out.later hb)
        have HGP : Hid (Ag (w.heap.size + 2) WA WP) := Ag.of hb
        have hsP := hb.size
        clear hb hfr
        refine hKK.out _ _ (HIP.out.cell 4 _ rfl) (fun _ => ?_)
        clear hKK KK
        try simp only [nz1, nz2, nz3, Act.put, nz4, nz5, nz6]
        refine wpAnyH_ready (rs := [8]) (by kernel_rfl) (by simp) ?_
        refine AllReadyH.cons rfl (fun KK hKK => ?_) AllReadyH.nil
        go_simp
        refine (HCr.out _ HBP.out).mono ?_; rintro e WR ⟨ra2, rfl, hfr, hb⟩
        have HFR := jhid9 hfr
        have HBR := jhid9 (jtwo HBP.out hb)
        have HIR := jhid9 (HIP.out.later hb)
        have HRR := jhid9 (HRP.out.later hb)
        have HGR : Hid (Ag (w.heap.size + 2) WP WR) := Ag.of hb
        have hsR := hb.size
        clear hb hfr
        refine hKK.out _ _ (HIR.out.cell 4 _ rfl) (fun _ => ?_)
        clear hKK KK
        try simp only [nz1, nz2, nz3, Act.put, nz4, nz5, nz6]
        refine wpAnyH_ready (rs := [10]) (by kernel_rfl) (by simp) ?_
        refine AllReadyH.cons rfl (fun KK hKK => ?_) AllReadyH.nil
        refine wp_store_one 26 _ _ rfl w.heap.size 2 33 _ (.slice aa2 na na) rfl rfl sizeL1 rfl rfl HIR.out (by show 2 < 7; omega) ?_
        intro W5 HI5 hg5
        replace HI5 : Hid (Vn W5 w.heap.size 33 #[.int .u8 (k : Int), .string nm, .slice aa2 na na, .slice pa np cp, .slice ra nr cr, .int .i64 ln, .int .i64 cl]) := HI5
        have HR5 := jhid9 (HRR.out.kept hg5.out (by simp))
        refine hKK.out _ _ (HI5.out.cell 4 _ rfl) (fun _ => ?_)
        clear hKK KK
        try simp only [nz1, nz2, nz3, Act.put]
        refine wpAnyH_take (i := 11) (v := ?vs11_17) rfl (by kernel_rfl) (by kernel_rfl) (by kernel_rfl) (fun _ _ _ h => h) (Or.inl ⟨by rfl, ?ys11_17⟩) (HI5.out.cell 4 _ rfl) ?zs11_17
        case ys11_17 => (intro w hSw; (try dsimp only at hSw); go_simp; try with_reducible rfl)
        try simp only [nz1, nz2, nz3, Act.put, nz4, nz5, nz6]
        refine wpAnyH_ready (rs := [12]) (by kernel_rfl) (by simp) ?_
        refine AllReadyH.cons rfl (fun KK hKK => ?_) AllReadyH.nil
        refine wp_store_one 30 _ _ rfl w.heap.size 3 33 _ (.slice pa2 np np) rfl rfl sizeP1 rfl rfl HI5.out (by show 3 < 7; omega) ?_
        intro W6 HI6 hg6
        replace HI6 : Hid (Vn W6 w.heap.size 33 #[.int .u8 (k : Int), .string nm, .slice aa2 na na, .slice pa2 np np, .slice ra nr cr, .int .i64 ln, .int .i64 cl]) := HI6
        have HR6 := jhid9 (HR5.out.kept hg6.out (by simp))
        refine hKK.out _ _ (HI6.out.cell 4 _ rfl) (fun _ => ?_)
        clear hKK KK
        try simp only [nz1, nz2, nz3, Act.put]
        refine wpAnyH_take (i := 13) (v := ?vs13_18) rfl (by kernel_rfl) (by kernel_rfl) (by kernel_rfl) (fun _ _ _ h => h) (Or.inl ⟨by rfl, ?ys13_18⟩) (HI6.out.cell 4 _ rfl) ?zs13_18
        case ys13_18 => (intro w hSw; (try dsimp only at hSw); go_simp; try with_reducible rfl)
        try simp only [nz1, nz2, nz3, Act.put, nz4, nz5, nz6]
        refine wpAnyH_done (by kernel_rfl) ?_ _
        refine park_last rfl (fun KK hKK => ?_)
        refine wp_store_one 31 _ _ rfl w.heap.size 4 33 _ (.slice ra2 nr nr) rfl rfl sizeR1 rfl rfl HI6.out (by show 4 < 7; omega) ?_
        intro W7 HI7 hg7
        replace HI7 : Hid (Vn W7 w.heap.size 33 #[.int .u8 (k : Int), .string nm, .slice aa2 na na, .slice pa2 np np, .slice ra2 nr nr, .int .i64 ln, .int .i64 cl]) := HI7
        have HR7 := jhid9 (HR6.out.kept hg7.out (by simp))
        refine hKK.out _ _ ?_
        clear hKK KK
        try simp only [nz1, nz2, nz3, Act.put]
        have M2 : True := trivial
        have M3 : True := trivial
        have M4 : True := trivial
        go_wp2_with (first
          | (clear M2; refine wpList_store_one rfl 3 _ _ rfl w.heap.size 5 33 _ (.int .i64 0) rfl rfl sizeI1 rfl rfl HI7.out (by show 5 < 7; omega) ?_; intro W8 HI8 hg8; replace HI8 : Hid (Vn W8 w.heap.size 33 #[.int .u8 (k : Int), .string nm, .slice aa2 na na, .slice pa2 np np, .slice ra2 nr nr, .int .i64 0, .int .i64 cl]) := HI8; have HR8 := jhid9 (HR7.out.kept hg8.out (by simp)))
          | (clear M3; refine wpList_store_one rfl 3 _ _ rfl w.heap.size 6 33 _ (.int .i64 0) rfl rfl sizeI1 rfl rfl HI8.out (by show 6 < 7; omega) ?_; intro WY HI9 hg9; replace HI9 : Hid (Vn WY w.heap.size 33 #[.int .u8 (k : Int), .string nm, .slice aa2 na na, .slice pa2 np np, .slice ra2 nr nr, .int .i64 0, .int .i64 0]) := HI9; have HR9 := jhid9 (HR8.out.kept hg9.out (by simp)); have m0 := HI9.out.cell 0 _ rfl; have m1 := HI9.out.cell 1 _ rfl; have m2 := HI9.out.cell 2 _ rfl; have m3 := HI9.out.cell 3 _ rfl; have m4 := HI9.out.cell 4 _ rfl; have m5 := HI9.out.cell 5 _ rfl; have m6 := HI9.out.cell 6 _ rfl)
          | (clear M4; refine wpList_store_vn rfl 33 _ _ rfl (w.heap.size + 1) _ #[.int .u8 (k : Int), .string nm, .slice aa2 na na, .slice pa2 np np, .slice ra2 nr nr, .int .i64 0, .int .i64 0] rfl rfl HR9.out sizeS rfl (all7 rfl rfl rfl rfl rfl rfl rfl) ?_; intro WX HVX hgX))
        have d0 := HVX.out.cell 0 _ rfl
        have d1 := HVX.out.cell 1 _ rfl
        have d2 := HVX.out.cell 2 _ rfl
        have d3 := HVX.out.cell 3 _ rfl
        have d4 := HVX.out.cell 4 _ rfl
        have d5 := HVX.out.cell 5 _ rfl
        have d6 := HVX.out.cell 6 _ rfl
        refine bodyPost_ret (v := .agg #[.int .u8 (k : Int), .string nm, .slice aa2 na na, .slice pa2 np np, .slice ra2 nr nr, .int .i64 0, .int .i64 0]) (by simp [results, Tryd.results71, go_sem, d0, d1, d2, d3, d4, d5, d6]) rfl ?_
        have hT : Ag (w.heap.size + 2) WR WX := (ag_grown hg5.out (by omega)).trans ((ag_grown hg6.out (by omega)).trans ((ag_grown hg7.out (by omega)).trans ((ag_grown hg8.out (by omega)).trans ((ag_grown hg9.out (by omega)).trans (ag_grown hgX.out (by omega))))))
        have z1 := hg5.out.size
        have z2 := hg6.out.size
        have z3 := hg7.out.size
        have z4 := hg8.out.size
        have z5 := hg9.out.size
        refine ⟨aa2, pa2, ra2, rfl, fun u hu => ⟨?_, ?_, ?_⟩, ?_⟩
        · exact (((((HFA.out.weak (s := w.heap.size + 2) (by omega)).step HGP.out).step HGR.out).step hT) u (hu.mono (by omega))).weak (by omega)
        · exact ((((HFP.out.weak (s := w.heap.size + 2) (by omega)).step HGR.out).step hT) u (hu.mono (by omega))).weak (by omega)
        · exact (((HFR.out.weak (s := w.heap.size + 2) (by omega)).step hT) u (hu.mono (by omega))).weak (by omega)
        · exact HBR.out.trans ((jbelow hg5.out (by omega) (fun g e => by cases e; omega)).trans ((jbelow hg6.out (by omega) (fun g e => by cases e; omega)).trans ((jbelow hg7.out (by omega) (fun g e => by cases e; omega)).trans ((jbelow hg8.out (by omega) (fun g e => by cases e; omega)).trans ((jbelow hg9.out (by omega) (fun g e => by cases e; omega)).trans (jbelow hgX.out (by omega) (fun g e => by cases e; omega)))))))
    case pb5 =>
      have cc := HI.out.cell 3 _ rfl
      go_simp
      refine hKK.out _ _ (HI.out.cell 4 _ rfl) (fun _ => ?_)
      clear hKK KK cc
      try simp only [nz1, nz2, nz3, Act.put, nz4, nz5, nz6]
      refine wpAnyH_ready (rs := [1]) (by kernel_rfl) (by simp) ?_
      refine AllReadyH.cons rfl (fun KK hKK => ?_) AllReadyH.nil
      have cc := HI.out.cell 2 _ rfl
      go_simp
      refine hKK.out _ _ (HI.out.cell 4 _ rfl) (fun _ => ?_)
      clear hKK KK cc
      try simp only [nz1, nz2, nz3, Act.put, nz4, nz5, nz6]
      refine wpAnyH_ready (rs := [2]) (by kernel_rfl) (by simp) ?_
      refine AllReadyH.cons rfl (fun KK hKK => ?_) AllReadyH.nil
      go_simp
      refine (HCa.out _ HB.out).mono ?_; rintro e WA ⟨aa2, rfl, hfr, hb⟩
      have HFA := jhid9 hfr
      have HBA := jhid9 (jtwo HB.out hb)
      have HIA := jhid9 (HI.out.later hb)
      have HRA := jhid9 (HR.out.later hb)
      have HGA : Hid (Ag (w.heap.size + 2) W0 WA) := Ag.of hb
      have hsA := hb.size
      clear hb hfr
      refine hKK.out _ _ (HIA.out.cell 4 _ rfl) (fun _ => ?_)
      clear hKK KK
      try simp only [nz1, nz2, nz3, Act.put, nz4, nz5, nz6]
      refine wpAnyH_take (i := 9) (v := ?vs9_21) rfl (by kernel_rfl) (by kernel_rfl) (by kernel_rfl) (fun _ _ _ h => h) (Or.inl ⟨by rfl, ?ys9_21⟩) (HIA.out.cell 4 _ rfl) ?zs9_21
      case ys9_21 => (intro w hSw; (try dsimp only at hSw); go_simp; try with_reducible rfl)
      try simp only [nz1, nz2, nz3, Act.put, nz4, nz5, nz6]
      refine wpAnyH_ready (rs := [5]) (by kernel_rfl) (by simp) ?_
      refine AllReadyH.cons rfl (fun KK hKK => ?_) AllReadyH.nil
      go_simp
      refine (HCp.out _ HBA.out).mono ?_; rintro e WP ⟨pa2, rfl, hfr, hb⟩
      have HFP := jhid9 hfr
      have HBP := jhid9 (jtwo HBA.out hb)
      have HIP := jhid9 (HIA.out.later hb)
      have HRP := jhid9 (HRA.out.later hb)
      have HGP : Hid (Ag (w.heap.size + 2) WA WP) := Ag.of hb
      have hsP := hb.size
      clear hb hfr
      refine hKK.out _ _ (HIP.out.cell 4 _ rfl) (fun _ => ?_)
      clear hKK KK
      try simp only [nz1, nz2, nz3, Act.put, nz4, nz5, nz6]
      refine wpAnyH_ready (rs := [8]) (by kernel_rfl) (by simp) ?_
      refine AllReadyH.cons rfl (fun KK hKK => ?_) AllReadyH.nil
      go_simp
      refine (HCr.out _ HBP.out).mono ?_; rintro e WR ⟨ra2, rfl, hfr, hb⟩
      have HFR := jhid9 hfr
      have HBR := jhid9 (jtwo HBP.out hb)
      have HIR := jhid9 (HIP.out.later hb)
      have HRR := jhid9 (HRP.out.later hb)
      have HGR : Hid (Ag (w.heap.size + 2) WP WR) := Ag.of hb
      have hsR := hb.size
      clear hb hfr
      refine hKK.out _ _ (HIR.out.cell 4 _ rfl) (fun _ => ?_)
      clear hKK KK
      try simp only [nz1, nz2, nz3, Act.put, nz4, nz5, nz6]
      refine wpAnyH_ready (rs := [10]) (by kernel_rfl) (by simp) ?_
      refine AllReadyH.cons rfl (fun KK hKK => ?_) AllReadyH.nil
      refine wp_store_one 26 _ _ rfl w.heap.size 2 33 _ (.slice aa2 na na) rfl rfl sizeL1 rfl rfl HIR.out (by show 2 < 7; omega) ?_
      intro W5 HI5 hg5
      replace HI5 : Hid (Vn W5 w.heap.size 33 #[.int .u8 (k : Int), .string nm, .slice aa2 na na, .slice pa np cp, .slice ra nr cr, .int .i64 ln, .int .i64 cl]) := HI5
      have HR5 := jhid9 (HRR.out.kept hg5.out (by simp))
      refine hKK.out _ _ (HI5.out.cell 4 _ rfl) (fun _ => ?_)
      clear hKK KK
      try simp only [nz1, nz2, nz3, Act.put]
      refine wpAnyH_take (i := 11) (v := ?vs11_24) rfl (by kernel_rfl) (by kernel_rfl) (by kernel_rfl) (fun _ _ _ h => h) (Or.inl ⟨by rfl, ?ys11_24⟩) (HI5.out.cell 4 _ rfl) ?zs11_24
      case ys11_24 => (intro w hSw; (try dsimp only at hSw); go_simp; try with_reducible rfl)
      try simp only [nz1, nz2, nz3, Act.put, nz4, nz5, nz6]
      refine wpAnyH_ready (rs := [12]) (by kernel_rfl) (by simp) ?_
      refine AllReadyH.cons rfl (fun KK hKK => ?_) AllReadyH.nil
      refine wp_store_one 30 _ _ rfl w.heap.size 3 33 _ (.slice pa2 np np) rfl rfl sizeP1 rfl rfl HI5.out (by show 3 < 7; omega) ?_
      intro W6 HI6 hg6
      replace HI6 : Hid (Vn W6 w.heap.size 33 #[.int .u8 (k : Int), .string nm, .slice aa2 na na, .slice pa2 np np, .slice ra nr cr, .int .i64 ln, .int .i64 cl]) := HI6
      have HR6 := jhid9 (HR5.out.kept hg6.out (by simp))
      refine hKK.out _ _ (HI6.out.cell 4 _ rfl) (fun _ => ?_)
      clear hKK KK
      try simp only [nz1, nz2, nz3, Act.put]
      refine wpAnyH_take (i := 13) (v := ?vs13_25) rfl (by kernel_rfl) (by kernel_rfl) (by kernel_rfl) (fun _ _ _ h => h) (Or.inl ⟨by rfl, ?ys13_25⟩) (HI6.out.cell 4 _ rfl) ?zs13_25
      case ys13_25 => (intro w hSw; (try dsimp only at hSw); go_simp; try with_reducible rfl)
      try simp only [nz1, nz2, nz3, Act.put, nz4, nz5, nz6]
      refine wpAnyH_done (by kernel_rfl) ?_ _
      refine park_last rfl (fun KK hKK => ?_)
      refine wp_store_one 31 _ _ rfl w.heap.size 4 33 _ (.slice ra2 nr nr) rfl rfl sizeR1 rfl rfl HI6.out (by show 4 < 7; omega) ?_
      intro W7 HI7 hg7
      replace HI7 : Hid (Vn W7 w.heap.size 33 #[.int .u8 (k : Int), .string nm, .slice aa2 na na, .slice pa2 np np, .slice ra2 nr nr, .int .i64 ln, .int .i64 cl]) := HI7
      have HR7 := jhid9 (HR6.out.kept hg7.out (by simp))
      refine hKK.out _ _ ?_
      clear hKK KK
      try simp only [nz1, nz2, nz3, Act.put]
      have M2 : True := trivial
      have M3 : True := trivial
      have M4 : True := trivial
      go_wp2_with (first
        | (clear M2; refine wpList_store_one rfl 3 _ _ rfl w.heap.size 5 33 _ (.int .i64 0) rfl rfl sizeI1 rfl rfl HI7.out (by show 5 < 7; omega) ?_; intro W8 HI8 hg8; replace HI8 : Hid (Vn W8 w.heap.size 33 #[.int .u8 (k : Int), .string nm, .slice aa2 na na, .slice pa2 np np, .slice ra2 nr nr, .int .i64 0, .int .i64 cl]) := HI8; have HR8 := jhid9 (HR7.out.kept hg8.out (by simp)))
        | (clear M3; refine wpList_store_one rfl 3 _ _ rfl w.heap.size 6 33 _ (.int .i64 0) rfl rfl sizeI1 rfl rfl HI8.out (by show 6 < 7; omega) ?_; intro WY HI9 hg9; replace HI9 : Hid (Vn WY w.heap.size 33 #[.int .u8 (k : Int), .string nm, .slice aa2 na na, .slice pa2 np np, .slice ra2 nr nr, .int .i64 0, .int .i64 0]) := HI9; have HR9 := jhid9 (HR8.out.kept hg9.out (by simp)); have m0 := HI9.out.cell 0 _ rfl; have m1 := HI9.out.cell 1 _ rfl; have m2 := HI9.out.cell 2 _ rfl; have m3 := HI9.out.cell 3 _ rfl; have m4 := HI9.out.cell 4 _ rfl; have m5 := HI9.out.cell 5 _ rfl; have m6 := HI9.out.cell 6 _ rfl)
        | (clear M4; refine wpList_store_vn rfl 33 _ _ rfl (w.heap.size + 1) _ #[.int .u8 (k : Int), .string nm, .slice aa2 na na, .slice pa2 np np, .slice ra2 nr nr, .int .i64 0, .int .i64 0] rfl rfl HR9.out sizeS rfl (all7 rfl rfl rfl rfl rfl rfl rfl) ?_; intro WX HVX hgX))
      have d0 := HVX.out.cell 0 _ rfl
      have d1 := HVX.out.cell 1 _ rfl
      have d2 := HVX.out.cell 2 _ rfl
      have d3 := HVX.out.cell 3 _ rfl
      have d4 := HVX.out.cell 4 _ rfl
      have d5 := HVX.out.cell 5 _ rfl
      have d6 := HVX.out.cell 6 _ rfl
      refine bodyPost_ret (v := .agg #[.int .u8 (k : Int), .string nm, .slice aa2 na na, .slice pa2 np np, .slice ra2 nr nr, .int .i64 0, .int .i64 0]) (by simp [results, Tryd.results71, go_sem, d0, d1, d2, d3, d4, d5, d6]) rfl ?_
      have hT : Ag (w.heap.size + 2) WR WX := (ag_grown hg5.out (by omega)).trans ((ag_grown hg6.out (by omega)).trans ((ag_grown hg7.out (by omega)).trans ((ag_grown hg8.out (by omega)).trans ((ag_grown hg9.out (by omega)).trans (ag_grown hgX.out (by omega))))))
      have z1 := hg5.out.size
      have z2 := hg6.out.size
      have z3 := hg7.out.size
      have z4 := hg8.out.size
      have z5 := hg9.out.size
      refine ⟨aa2, pa2, ra2, rfl, fun u hu => ⟨?_, ?_, ?_⟩, ?_⟩
      · exact (((((HFA.out.weak (s := w.heap.size + 2) (by omega)).step HGP.out).step HGR.out).step hT) u (hu.mono (by omega))).weak (by omega)
      · exact ((((HFP.out.weak (s := w.heap.size + 2) (by omega)).step HGR.out).step hT) u (hu.mono (by omega))).weak (by omega)
      · exact (((HFR.out.weak (s := w.heap.size + 2) (by omega)).step hT) u (hu.mono (by omega))).weak (by omega)
      · exact HBR.out.trans ((jbelow hg5.out (by omega) (fun g e => by cases e; omega)).trans ((jbelow hg6.out (by omega) (fun g e => by cases e; omega)).trans ((jbelow hg7.out (by omega) (fun g e => by cases e; omega)).trans ((jbelow hg8.out (by omega) (fun g e => by cases e; omega)).trans ((jbelow hg9.out (by omega) (fun g e => by cases e; omega)).trans (jbelow hgX.out (by omega) (fun g e => by cases e; omega)))))))
end Go.Proofs.YtdimkfcanegahaaDoor
