/-
  Stage 13: the fault of an item's names: usesOf, fault, wrongUse.
-/
import Derived.Test.YtemhodenkgngmaaDoorQuues00
import Derived.Test.YtemhodenkgngmaaDoorQuues26
import Derived.Maps.OwnIn
set_option maxRecDepth 100000
set_option maxHeartbeats 16000000
namespace Go.Proofs.YtemhodenkgngmaaDoor
open Go.RowKit Go.Shelf Go.Maps
attribute [local go_sem] Oper.semAt_some
/-- A block is a map of kinds that reads as E. -/
def MkD (D : DataW Unit) (E : ByteArray → Option Nat) : Prop := ∀ s : ByteArray, s.size ≤ 140737488351232 → Maps.has D (.string s.data.toList) = (E s).isSome ∧ ∀ v, E s = some v → D.atKey (.string s.data.toList) (.lit (.int .u8 0)) = .lit (.int .u8 (v : Int))
def Mk (w : World) (b n : Nat) (E : ByteArray → Option Nat) : Prop := ∃ D : DataW Unit, w.ownsMap Tryd.prog 9 (plainElem Tryd.prog 33) b n D ∧ MkD D E
theorem qap {w w' : World} {b n : Nat} {D : DataW Unit} (h : w.ownsMap Tryd.prog 9 (plainElem Tryd.prog 33) b n D) (hb : Below w.heap.size w w') : w'.ownsMap Tryd.prog 9 (plainElem Tryd.prog 33) b n D := h.kept (jgrown.mpr hb) (by simp)
theorem Mk.later {w w' : World} {b n : Nat} {E : ByteArray → Option Nat} (h : Mk w b n E) (hb : Below w.heap.size w w') : Mk w' b n E := by
 obtain ⟨D, h1, h2⟩ := h
 exact ⟨D, qap h1 hb, h2⟩
theorem qcp (w : World) : (zeroValue 33).run Tryd.prog w = .ok (.int .u8 0) w := by kernel_rfl
theorem lit_u8 {a b : Int} (h : (DataW.lit (.int .u8 a) : DataW Unit) = .lit (.int .u8 b)) : a = b := by
 injection h with h
 injection h
theorem Vn.keptR {w w' : World} {b : Nat} {T : TypeId} {xs : Array Value} {row : Option Nat} (h : Vn w b T xs) (hg : w.grownBy w' row) (hne : some b ≠ row) : Vn w' b T xs := by
 have hl := h.lt
 unfold Vn at *
 rw [hg.block b hl hne]
 exact h
theorem qe8 {W w6 : World} {B b : Nat} {x y z : Value} (h : Below W.heap.size W w6) (hb : b < B) : W.heap.size ≤ (((w6.setCell ⟨b, 0, none⟩ x).setCell ⟨b, 1, none⟩ y).setCell ⟨b, 2, none⟩ z).heap.size ∧ ∀ i, B ≤ i → i < W.heap.size → (((w6.setCell ⟨b, 0, none⟩ x).setCell ⟨b, 1, none⟩ y).setCell ⟨b, 2, none⟩ z).heap[i]? = W.heap[i]? := by
 refine ⟨by have := h.size; simp; omega, fun i hi hl => ?_⟩
 rw [Below.heap_setCell _ _ _ _ (by show i ≠ b; omega), Below.heap_setCell _ _ _ _ (by show i ≠ b; omega), Below.heap_setCell _ _ _ _ (by show i ≠ b; omega)]
 exact h.block i hl
theorem qe9 {w w6 : World} {b : Nat} {x y z : Value} (h : Below w.heap.size w w6) (hb : w.heap.size ≤ b) : Below w.heap.size w (((w6.setCell ⟨b, 0, none⟩ x).setCell ⟨b, 1, none⟩ y).setCell ⟨b, 2, none⟩ z) := ((h.setCell (by show w.heap.size ≤ b; omega) _).setCell (by show w.heap.size ≤ b; omega) _).setCell (by show w.heap.size ≤ b; omega) _
theorem Vn.set3 {w : World} {b : Nat} {T : TypeId} {a0 a1 a2 x y z : Value} (h : Vn w b T #[a0, a1, a2]) : Vn (((w.setCell ⟨b, 0, none⟩ x).setCell ⟨b, 1, none⟩ y).setCell ⟨b, 2, none⟩ z) b T #[x, y, z] := ((h.set 0 x).set 1 y).set 2 z
theorem qam : (Tryd.prog.info? 26).map (·.size) = some 3 := by kernel_rfl
theorem qai : (Tryd.prog.info? 61).map (·.size) = some 19 := by kernel_rfl
theorem pfault (w : World) (nm : ByteArray) (k ln cl e : Int) : Calls Tryd.prog 32 #[.agg #[.string nm, .int .u8 k, .int .i64 ln, .int .i64 cl], .int .i64 e] w fun r w' => r = .returned (.agg #[.int .i64 e, .int .i64 ln, .int .i64 cl]) ∧ Below w.heap.size w w' := by
 have HB := qa0 (jtwo (jlow w (.cells #[.string nm, .int .u8 k, .int .i64 ln, .int .i64 cl] 78)) (jlow _ (.cells #[.int .i64 0, .int .i64 0, .int .i64 0] 26)))
 have hz : (w.alloc (.cells #[.string nm, .int .u8 k, .int .i64 ln, .int .i64 cl] 78)).heap.size = w.heap.size + 1 := Array.size_push _
 have HV := qa0 (Vn.new (w.alloc (.cells #[.string nm, .int .u8 k, .int .i64 ln, .int .i64 cl] 78)) 26 #[.int .i64 0, .int .i64 0, .int .i64 0])
 rw [hz] at HV
 go_enter Tryd.func32, Tryd.ntmps32
 go_wp2_with (refine qa1 rfl 26 _ _ rfl (w.heap.size + 1) _ #[.int .i64 e, .int .i64 ln, .int .i64 cl] rfl rfl HV.out qam rfl (all3 rfl rfl rfl) ?_; intro w8 HV8 hg8)
 have d0 := HV8.out.cell 0 _ rfl
 have d1 := HV8.out.cell 1 _ rfl
 have d2 := HV8.out.cell 2 _ rfl
 refine bodyPost_ret (v := .agg #[.int .i64 e, .int .i64 ln, .int .i64 cl]) (by simp [results, Tryd.results32, go_sem, d0, d1, d2]) rfl ?_
 exact ⟨rfl, HB.out.trans (jbelow hg8.out HB.out.size (fun g e => by cases e; omega))⟩
theorem pusesof (w : World) (c0 c1 c2 c3 c4 c5 c6 c7 c8 c9 c10 c11 c12 c13 c14 c15 c16 c17 c18 : Value) : Calls Tryd.prog 26 #[.agg #[c0, c1, c2, c3, c4, c5, c6, c7, c8, c9, c10, c11, c12, c13, c14, c15, c16, c17, c18]] w fun r w' => r = .returned (.func (.func 35) #[] #[.pointer (some ⟨w.heap.size, 0, none⟩)]) ∧ Vn w' w.heap.size 61 #[c0, c1, c2, c3, c4, c5, c6, c7, c8, c9, c10, c11, c12, c13, c14, c15, c16, c17, c18] ∧ Below w.heap.size w w' := by
 go_enter Tryd.func26, Tryd.ntmps26
 go_wp2
 go_ret
 exact ⟨rfl, Vn.new _ _ _, jlow _ _⟩
/-- The fault of some uses. -/
def wfl (E : ByteArray → Option Nat) : List Us → Int × Int × Int
 | [] => (0, 0, 0)
 | u :: r => match E u.nm with
  | none => (121, u.ln, u.cl)
  | some k => if k = u.k then wfl E r else (131, u.ln, u.cl)
theorem wfl_good {E : ByteArray → Option Nat} : ∀ {U : List Us}, (∀ (j : Nat) (u : Us), U[j]? = some u → E u.nm = some u.k) → wfl E U = (0, 0, 0) := by
 intro U
 induction U with
 | nil => intro _; rfl
 | cons u r ih =>
  intro h
  have h0 := h 0 u rfl
  show (match E u.nm with | none => _ | some k => if k = u.k then wfl E r else _) = _
  rw [h0]
  show (if u.k = u.k then wfl E r else _) = _
  rw [if_pos rfl]
  exact ih (fun j v hv => h (j + 1) v hv)
theorem wfl_bad {E : ByteArray → Option Nat} : ∀ {U : List Us} {j : Nat} {u : Us}, U[j]? = some u → (∀ (i : Nat) (v : Us), i < j → U[i]? = some v → E v.nm = some v.k) → (E u.nm = none → wfl E U = (121, u.ln, u.cl)) ∧ (∀ k, E u.nm = some k → k ≠ u.k → wfl E U = (131, u.ln, u.cl)) := by
 intro U
 induction U with
 | nil => intro j u h; cases h
 | cons x r ih =>
  intro j u h hg
  cases j with
  | zero =>
   cases h
   refine ⟨fun e => ?_, fun k e hk => ?_⟩
   ·show (match E x.nm with | none => _ | some k => if k = x.k then wfl E r else _) = _
    rw [e]
   ·show (match E x.nm with | none => _ | some k => if k = x.k then wfl E r else _) = _
    rw [e]
    show (if k = x.k then wfl E r else _) = _
    rw [if_neg hk]
  | succ j =>
   have h0 := hg 0 x (by omega) rfl
   have e : wfl E (x :: r) = wfl E r := by
    show (match E x.nm with | none => _ | some k => if k = x.k then wfl E r else _) = _
    rw [h0]
    show (if x.k = x.k then wfl E r else _) = _
    rw [if_pos rfl]
   rw [e]
   exact ih h (fun i v hi hv => hg (i + 1) v (by omega) hv)
/-- wrongUse. -/
theorem pwrong (w : World) (bm m k pl nl vk vl vc sk na ca np cp nr cr lc : Nat) (nm vm sm : ByteArray) (vn vln vcl sln scl ln cl : Int) (va aa pa ra la : Option Addr) (X : Xt) (S : St) (G : Nat → Xt) (E : ByteArray → Option Nat) (U : List Us)
  (hX : XV w (.agg #[.int .u8 (vk : Int), .int .i64 vn, .string vm, .slice va vl vc, .int .i64 vln, .int .i64 vcl]) X) (hSv : SV w (.agg #[.int .u8 (sk : Int), .string sm, .slice aa na ca, .slice pa np cp, .slice ra nr cr, .int .i64 sln, .int .i64 scl]) S) (hG : ∀ d, XL d w la nl G) (hnl : nl ≤ 140737488351232) (hd : dpi ⟨k, nm, X, S, pl, nl, G, ln, cl⟩)
  (hU : ius ⟨k, nm, X, S, pl, nl, G, ln, cl⟩ = U) (hUs : ∀ (j : Nat) (u : Us), U[j]? = some u → u.nm.size ≤ 140737488351232) (hM : Mk w bm m E) :
  Calls Tryd.prog 22 #[.agg #[.int .u8 (k : Int), .string nm, .int .u8 (vk : Int), .int .i64 vn, .string vm, .slice va vl vc, .int .i64 vln, .int .i64 vcl, .int .u8 (sk : Int), .string sm, .slice aa na ca, .slice pa np cp, .slice ra nr cr, .int .i64 sln, .int .i64 scl, .int .u8 (pl : Int), .slice la nl lc, .int .i64 ln, .int .i64 cl], .map (some bm)] w fun e w' => e = .returned (.agg #[.int .i64 (wfl E U).1, .int .i64 (wfl E U).2.1, .int .i64 (wfl E U).2.2]) ∧ Below w.heap.size w w' := by
 obtain ⟨wa, HWa⟩ : ∃ wa, Hid (wa = ((w.alloc (.cells #[.int .u8 (k : Int), .string nm, .int .u8 (vk : Int), .int .i64 vn, .string vm, .slice va vl vc, .int .i64 vln, .int .i64 vcl, .int .u8 (sk : Int), .string sm, .slice aa na ca, .slice pa np cp, .slice ra nr cr, .int .i64 sln, .int .i64 scl, .int .u8 (pl : Int), .slice la nl lc, .int .i64 ln, .int .i64 cl] 61)).alloc (.cells #[.map (some bm)] 65)).alloc (.cells #[.int .i64 0, .int .i64 0, .int .i64 0] 26)) := ⟨_, rfl⟩
 have HBa : Hid (Below w.heap.size w wa) := by show Below _ _ _; rw [HWa.out]; exact jtwo (jtwo (jlow _ _) (jlow _ _)) (jlow _ _)
 have hsz : wa.heap.size = w.heap.size + 3 := by rw [HWa.out]; simp
 have HV1 : Hid (Vn wa w.heap.size 61 #[.int .u8 (k : Int), .string nm, .int .u8 (vk : Int), .int .i64 vn, .string vm, .slice va vl vc, .int .i64 vln, .int .i64 vcl, .int .u8 (sk : Int), .string sm, .slice aa na ca, .slice pa np cp, .slice ra nr cr, .int .i64 sln, .int .i64 scl, .int .u8 (pl : Int), .slice la nl lc, .int .i64 ln, .int .i64 cl]) := by show Vn _ _ _ _; rw [HWa.out]; exact ((Vn.new _ _ _).later (jlow _ _)).later (jlow _ _)
 have HV2 : Hid (Vn wa (w.heap.size + 1) 65 #[.map (some bm)]) := by
  have h := (Vn.new (w.alloc (.cells #[.int .u8 (k : Int), .string nm, .int .u8 (vk : Int), .int .i64 vn, .string vm, .slice va vl vc, .int .i64 vln, .int .i64 vcl, .int .u8 (sk : Int), .string sm, .slice aa na ca, .slice pa np cp, .slice ra nr cr, .int .i64 sln, .int .i64 scl, .int .u8 (pl : Int), .slice la nl lc, .int .i64 ln, .int .i64 cl] 61)) 65 #[.map (some bm)]).later (jlow _ (.cells #[.int .i64 0, .int .i64 0, .int .i64 0] 26))
  rw [World.size_alloc] at h
  show Vn _ _ _ _
  rw [HWa.out]
  exact h
 have HV3 : Hid (Vn wa (w.heap.size + 2) 26 #[.int .i64 0, .int .i64 0, .int .i64 0]) := by
  have h := Vn.new ((w.alloc (.cells #[.int .u8 (k : Int), .string nm, .int .u8 (vk : Int), .int .i64 vn, .string vm, .slice va vl vc, .int .i64 vln, .int .i64 vcl, .int .u8 (sk : Int), .string sm, .slice aa na ca, .slice pa np cp, .slice ra nr cr, .int .i64 sln, .int .i64 scl, .int .u8 (pl : Int), .slice la nl lc, .int .i64 ln, .int .i64 cl] 61)).alloc (.cells #[.map (some bm)] 65)) 26 #[.int .i64 0, .int .i64 0, .int .i64 0]
  rw [World.size_alloc, World.size_alloc] at h
  show Vn _ _ _ _
  rw [HWa.out]
  exact h
 refine (callsIn_wide (n := 4)).1 (callsIn_of_wp_marks Tryd.func22 rfl trivial ?_ rfl)
 simp only [Tryd.ntmps22, List.size_toArray, List.length_cons, List.length_nil, Nat.reduceAdd, Nat.reduceSub, Array.replicate_succ, Array.replicate_zero, List.push_toArray, List.append_toArray, List.nil_append, List.cons_append]
 refine wpIn_wide.2 ?_
 have M1 : True := trivial
 go_wp2_with (first
  | (clear M1; rw [← HWa.out]; refine wpList_load_row rfl 61 _ rfl w.heap.size rfl 61 #[.int .u8 (k : Int), .string nm, .int .u8 (vk : Int), .int .i64 vn, .string vm, .slice va vl vc, .int .i64 vln, .int .i64 vcl, .int .u8 (sk : Int), .string sm, .slice aa na ca, .slice pa np cp, .slice ra nr cr, .int .i64 sln, .int .i64 scl, .int .u8 (pl : Int), .slice la nl lc, .int .i64 ln, .int .i64 cl] (0, 0) _ HV1.out Tryd.underlying61 rfl qai ?_)
  | (go_at_call 26; refine (pusesof _ _ _ _ _ _ _ _ _ _ _ _ _ _ _ _ _ _ _ _).mono ?_; rintro e w5 ⟨rfl, hv5, hb5⟩; have HV5 := qa0 hv5; have HB5 := qa0 hb5; clear hv5 hb5))
 have HB6 := qa0 (jtwo HBa.out HB5.out)
 have HF5 : Hid (Vn w5 (w.heap.size + 1 + 1) 26 #[.int .i64 0, .int .i64 0, .int .i64 0]) := HV3.out.later HB5.out
 have HM5 := qa0 (HV2.out.later HB5.out)
 have hs5 : w.heap.size + 3 < w5.heap.size := by have := HV5.out.lt; omega
 have HMk := qa0 (hM.later HB6.out)
 rw [hsz] at HV5
 have HUs := qa0 hUs
 have Hit : Hid (∀ (l s : Nat) (T : Nat → World → Prop) (Tx : World → Prop) (W1 : World), Itx l w5 s U T Tx → T 0 W1 → Calls Tryd.prog 35 #[.func (.yield l) #[] #[], .pointer (some ⟨w.heap.size + 3, 0, none⟩)] W1 fun e W' => (∃ v, e = .returned v) ∧ (T U.length W' ∨ Tx W')) := fun l s T Tx W1 h1 h2 => by
  rw [← hU] at h1 ⊢
  exact uses_in l w5 s T Tx (w.heap.size + 3) k pl nl vk vl vc sk na ca np cp nr cr lc nm vm sm vn vln vcl sln scl ln cl va aa pa ra la X S G HV5.out (hX.later HB6.out) (hSv.later HB6.out) (fun d => (hG d).later HB6.out) hnl hd h1 W1 h2
 clear HV1 HV2 HV3 HV5 hX hSv hG hd hU hM hUs HBa HWa hsz HB5
 generalize Value.agg #[.int .u8 (k : Int), .string nm, .int .u8 (vk : Int), .int .i64 vn, .string vm, .slice va vl vc, .int .i64 vln, .int .i64 vcl, .int .u8 (sk : Int), .string sm, .slice aa na ca, .slice pa np cp, .slice ra nr cr, .int .i64 sln, .int .i64 scl, .int .u8 (pl : Int), .slice la nl lc, .int .i64 ln, .int .i64 cl] = vI
 refine (wpIn_wide (n := 4)).1 ?_
 refine qel (nn := 4) (bx := w.heap.size + 3) U (fun j W => Below w5.heap.size w5 W ∧ ∀ (i : Nat) (v : Us), i < j → U[i]? = some v → E v.nm = some v.k) (fun W => Vn W (w.heap.size + 1 + 1) 26 #[.int .i64 (wfl E U).1, .int .i64 (wfl E U).2.1, .int .i64 (wfl E U).2.2] ∧ Below w.heap.size w W) Hit.out rfl (fun j W h => h.1) (fun j W W' row h hg hrow => ⟨h.1.grown hg h.1.size hrow, h.2⟩)
  (fun W W' row h hg hrow => ⟨h.1.keptR hg (fun e => by have := hrow _ e.symm; omega), h.2.grown hg h.2.size (fun g e => by have := hrow g e; have := HB6.out.size; omega)⟩) ⟨Below.refl _ _, fun i v hi => by omega⟩
  (fun u a' W => ∃ b, w5.heap.size + 2 ≤ b ∧ Vn W b 78 #[.string u.nm, .int .u8 (u.k : Int), .int .i64 u.ln, .int .i64 u.cl] ∧ a' = { tmps := #[vI, .map (some bm), .pointer (some ⟨w.heap.size, 0, none⟩), .pointer (some ⟨w.heap.size + 1, 0, none⟩), .pointer (some ⟨w.heap.size + 1 + 1, 0, none⟩), .pointer (some ⟨b, 0, none⟩), undef, undef, vI, .func (.func 35) #[] #[.pointer (some ⟨w.heap.size + 3, 0, none⟩)], .agg #[.string u.nm, .int .u8 (u.k : Int), .int .i64 u.ln, .int .i64 u.cl], undef, undef, undef, undef, undef, undef, undef, undef, undef, undef, undef, undef, undef, undef, undef, undef, undef, undef], defers := [] }) ?hAx ?hassign ?hbody ?hdone ?hstop
 case hAx =>
  rintro u a' W W' ⟨b, h1, h2, rfl⟩ hg
  exact ⟨b, h1, h2.keptR hg (by simp; omega), rfl⟩
 case hassign =>
  intro l u W K hs hK
  unfold usV
  gi_wp2
  exact hK _ _ (jlow _ _) ⟨W.heap.size, hs, Vn.new _ _ _, rfl⟩
 case hbody =>
  rintro l j u a' W hu ⟨hbW, hok⟩ ⟨b, hb1, hv, rfl⟩
  have hsu := HUs.out j u hu
  have hbad := wfl_bad hu hok
  obtain ⟨Dm, hO, hDm⟩ := HMk.out.later hbW
  have HO := qa0 hO
  have HK := qa0 (WideMaps.keyOf_string_mk (P := Tryd.prog) (k := 9) Tryd.underlying9 (s := u.nm) (by unfold maxLen; omega))
  obtain ⟨hh, hvv⟩ := hDm u.nm hsu
  have HFW := qa0 (HF5.out.later hbW)
  have HMW := qa0 (HM5.out.later hbW)
  have HBW := qa0 hbW
  have HBw := qa0 (jtwo HB6.out hbW)
  have m0 := HMW.out.cell 0 _ rfl
  have hlt := hbW.size
  have HOk := qa0 hok
  have Hu := qa0 hu
  obtain ⟨⟨wc, wl, wk⟩, HWf⟩ : ∃ q, Hid (wfl E U = q) := ⟨_, rfl⟩
  rw [HWf.out] at hbad ⊢
  obtain ⟨unm, uk, uln, ucl⟩ := u
  dsimp only at *
  have x0 := hv.cell 0 _ rfl
  have x1 := hv.cell 1 _ rfl
  have x2 := hv.cell 2 _ rfl
  have x3 := hv.cell 3 _ rfl
  cases hE : E unm with
  | none =>
   have e1 := hbad.1 hE
   rw [hE] at hh
   have hh : Maps.has Dm (.string unm.data.toList) = false := hh
   cases e1
   clear hbad hvv hE hO hDm hbW hok hu hsu
   gi_wp2_with (first
    | (gi_at_lookup; refine wpListIn_lookup_own_ok_int _ rfl _ _ 65 rfl 9 33 .u8 qau Tryd.underlying65 Tryd.underlying33 (qcp _) bm m Dm rfl HO.out _ _ rfl HK.out ?_; intro c hat hwc; clear hat hwc)
    | (refine ⟨trivial, ?_⟩; gi_at_call 32; refine (CallsIn.inRound l (callsIn_wide.2 (pfault _ _ _ _ _ _))).mono ?_; rintro e w6 ⟨rfl, hb6⟩; have HF6 := qa0 (HFW.out.later hb6); have HB7 := qa0 hb6; have y0 := HF6.out.cell 0 _ rfl; have y1 := HF6.out.cell 1 _ rfl; have y2 := HF6.out.cell 2 _ rfl; have f0 := HF6.out.free 0; have f1 := HF6.out.free 1; have f2 := HF6.out.free 2; clear hb6))
   exact ⟨⟨HF6.out.set3, qe9 (jtwo HBw.out HB7.out) (by omega)⟩, qe8 HB7.out (by omega)⟩
  | some kk =>
   rw [hE] at hh
   have hh : Maps.has Dm (.string unm.data.toList) = true := hh
   have HA := qa0 (hvv kk hE)
   by_cases hkk : kk = uk
   ·have q1 : ((kk : Int) != (uk : Int)) = false := by simp; omega
    have HE := qa0 hE
    clear hbad hvv hE hO hDm hbW hok hu hsu
    gi_wp2_with (first
     | (gi_at_lookup; refine wpListIn_lookup_own_ok_int _ rfl _ _ 65 rfl 9 33 .u8 qau Tryd.underlying65 Tryd.underlying33 (qcp _) bm m Dm rfl HO.out _ _ rfl HK.out ?_; intro c hat hwc; have hcx : c = (kk : Int) := lit_u8 (hat.symm.trans HA.out); clear hat hwc; subst hcx)
     | (refine ⟨trivial, ?_⟩; gi_at_call 32; refine (CallsIn.inRound l (callsIn_wide.2 (pfault _ _ _ _ _ _))).mono ?_; rintro e w6 ⟨rfl, hb6⟩; have HF6 := qa0 (HFW.out.later hb6); have HB7 := qa0 hb6; have y0 := HF6.out.cell 0 _ rfl; have y1 := HF6.out.cell 1 _ rfl; have y2 := HF6.out.cell 2 _ rfl; have f0 := HF6.out.free 0; have f1 := HF6.out.free 1; have f2 := HF6.out.free 2; clear hb6))
    refine ⟨⟨HBW.out, fun i v hi hv => ?_⟩, Nat.le_refl _, fun i _ _ => rfl⟩
    by_cases e : i = j
    ·subst e
     rw [Hu.out] at hv
     cases hv
     rw [HE.out, hkk]
    ·exact HOk.out i v (by omega) hv
   ·have e1 := hbad.2 kk hE hkk
    have q1 : ((kk : Int) != (uk : Int)) = true := by simp; omega
    cases e1
    clear hbad hvv hE hO hDm hbW hok hu hsu
    gi_wp2_with (first
     | (gi_at_lookup; refine wpListIn_lookup_own_ok_int _ rfl _ _ 65 rfl 9 33 .u8 qau Tryd.underlying65 Tryd.underlying33 (qcp _) bm m Dm rfl HO.out _ _ rfl HK.out ?_; intro c hat hwc; have hcx : c = (kk : Int) := lit_u8 (hat.symm.trans HA.out); clear hat hwc; subst hcx)
     | (refine ⟨trivial, ?_⟩; gi_at_call 32; refine (CallsIn.inRound l (callsIn_wide.2 (pfault _ _ _ _ _ _))).mono ?_; rintro e w6 ⟨rfl, hb6⟩; have HF6 := qa0 (HFW.out.later hb6); have HB7 := qa0 hb6; have y0 := HF6.out.cell 0 _ rfl; have y1 := HF6.out.cell 1 _ rfl; have y2 := HF6.out.cell 2 _ rfl; have f0 := HF6.out.free 0; have f1 := HF6.out.free 1; have f2 := HF6.out.free 2; clear hb6))
    exact ⟨⟨HF6.out.set3, qe9 (jtwo HBw.out HB7.out) (by omega)⟩, qe8 HB7.out (by omega)⟩
 case hdone =>
  rintro D W hD ⟨hbW, hok⟩ hdf
  have hz := wfl_good (E := E) (U := U) (fun j u hu => hok j u (by
   rcases Nat.lt_or_ge j U.length with h | h
   ·exact h
   ·rw [List.getElem?_eq_none h] at hu; cases hu) hu)
  have HZ := qa0 hz
  have HFW := qa0 (HF5.out.later hbW)
  have HBw := qa0 (jtwo HB6.out hbW)
  have HDf := qa0 hdf
  clear hbW hok hdf hz Hit HMk HUs HM5
  go_wp2_with (refine qa1 rfl 26 _ _ rfl (w.heap.size + 1 + 1) _ #[.int .i64 0, .int .i64 0, .int .i64 0] rfl rfl HFW.out qam rfl (all3 rfl rfl rfl) ?_; intro w8 HV8 hg8)
  have hd8 : w8.heap[D]? = some (.deferred (some [])) := by rw [hg8.out.block D (lt_of_block HDf.out) (by simp; omega)]; exact HDf.out
  have hV9 := HV8.out.keptR (grownBy_putObj' w8 D (.deferred none)) (by simp; omega)
  have hB8 : Below w.heap.size w w8 := HBw.out.trans (jbelow hg8.out HBw.out.size (fun g e => by cases e; omega))
  have hB9 := hB8.grown (grownBy_putObj' w8 D (.deferred none)) hB8.size (fun g e => by cases e; omega)
  have d0 := hV9.cell 0 _ rfl
  have d1 := hV9.cell 1 _ rfl
  have d2 := hV9.cell 2 _ rfl
  refine ⟨by simp, .inl ⟨_, _, rfl, run_takeDeferred hd8, ?_⟩⟩
  refine ⟨.agg #[.int .i64 0, .int .i64 0, .int .i64 0], by simp [results, Tryd.results22, go_sem, d0, d1, d2], ?_⟩
  exact ⟨by rw [HZ.out], hB9⟩
 case hstop =>
  rintro D W hD ⟨hV, hB⟩ hdf
  gi_wp2
  have hV9 := hV.keptR (grownBy_putObj' W D (.deferred none)) (by simp; omega)
  have hB9 := hB.grown (grownBy_putObj' W D (.deferred none)) hB.size (fun g e => by cases e; omega)
  have d0 := hV9.cell 0 _ rfl
  have d1 := hV9.cell 1 _ rfl
  have d2 := hV9.cell 2 _ rfl
  refine ⟨by simp, .inl ⟨_, _, rfl, run_takeDeferred hdf, ?_⟩⟩
  refine ⟨.agg #[.int .i64 (wfl E U).1, .int .i64 (wfl E U).2.1, .int .i64 (wfl E U).2.2], by simp [results, Tryd.results22, go_sem, d0, d1, d2], ?_⟩
  exact ⟨rfl, hB9⟩
end Go.Proofs.YtemhodenkgngmaaDoor
