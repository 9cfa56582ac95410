/-
  Stage 13: the names of an item, told one after another.
  Stage 13: the walk through a loop over an item's names, which may be left by a return.
-/
import Derived.Test.YtemhodenkgngmaaDoorQuues00
import Derived.Test.YtemhodenkgngmaaDoorQuues25
import Derived.Test.YtemhodenkgngmaaDoorQuues15
set_option maxRecDepth 100000
set_option maxHeartbeats 16000000
namespace Go.Proofs.YtemhodenkgngmaaDoor
open Go.RowKit Go.Shelf
attribute [local go_sem] Oper.semAt_some
/-- inShape. -/
theorem ins (l : Nat) (w0 : World) (s : Nat) (U : List Us) (T : Nat → World → Prop) (Tx : World → Prop) (hI : Itx l w0 s U T Tx) : ∀ (d : Nat) (S : St), dps d S → ∀ (j : Nat) (W : World) (v : Value), T j W → Sg U j (sus d S) → SV w0 v S → Calls Tryd.prog 37 #[v, .func (.yield l) #[] #[]] W (TlA s W T Tx (j + (sus d S).length)) := by
 have hxs : ∀ (F : Nat → Xt) (n c j : Nat) (a : Option Addr) (W : World), (∀ i, i < n → dpx 16 (F i)) → n ≤ 140737488351232 → (∀ d, XL d w0 a n F) → T j W → Sg U j (xcat (xus 16) F n) → Calls Tryd.prog 38 #[.slice a n c, .func (.yield l) #[] #[]] W (TlA s W T Tx (j + (xcat (xus 16) F n).length)) := fun F n c j a W h1 h2 h3 h4 h5 => inxs l w0 s U T Tx hI (xus 16) F a n c h3 h2 (fun i hi j W v g1 g2 g3 => inx l w0 s U T Tx hI 16 (F i) (h1 i hi) j W v g1 g2 g3) j W h4 h5
 have core : ∀ (f : St → List Us) (S : St), (S []).k ≠ 1 → (∀ i, i < (S []).na → dpx 16 ((S []).args i)) → (∀ i, i < (S []).nr → ∀ q, q < (S []).rl i → dpx 16 ((S []).rows i q)) →
   (∀ i, i < (S []).np → ∀ j W v, T j W → Sg U j (f (part S i)) → SV w0 v (part S i) → Calls Tryd.prog 37 #[v, .func (.yield l) #[] #[]] W (TlA s W T Tx (j + (f (part S i)).length))) →
   ∀ (j : Nat) (W : World) (v : Value), T j W → Sg U j (scat f (part S) (S []).np ++ (rcat (S []).rl (S []).rows (S []).nr ++ xcat (xus 16) (S []).args (S []).na)) → SV w0 v S → Calls Tryd.prog 37 #[v, .func (.yield l) #[] #[]] W (TlA s W T Tx (j + (scat f (part S) (S []).np ++ (rcat (S []).rl (S []).rows (S []).nr ++ xcat (xus 16) (S []).args (S []).na)).length)) := by
  intro f S hk ha hr hp j W v h0 hS hX
  obtain ⟨⟨aa, pa, ra, ca, cp, cr, rfl, xa, xr, xp⟩, ok⟩ := hX
  obtain ⟨s1, s2⟩ := hS.app
  obtain ⟨s3, s4⟩ := s2.app
  rw [List.length_append, List.length_append]
  refine qfg l w0 s U T Tx hI f (part S) _ _ _ _ ca cp cr _ _ _ aa pa ra _ _ hk xp xr ok.np47 ok.nr47 hp (fun i hi j W a c g1 g2 g3 => hxs _ _ c j a W (hr i hi) (ok.rl47 i hi) g3 g1 g2) j (j + (scat f (part S) (S []).np).length) (j + (scat f (part S) (S []).np).length + (rcat (S []).rl (S []).rows (S []).nr).length) _ rfl rfl (fun W g => ?_) s1 s3 W h0
  have := hxs _ _ ca _ aa W ha ok.na47 xa g s4
  rw [Nat.add_assoc, Nat.add_assoc] at this
  exact this
 intro d
 induction d with
 | zero =>
  intro S hd j W v h0 hS hX
  by_cases hk : (S []).k = 1
  ·have e : sus 0 S = [su S] := by show (if _ then _ else _) = _; rw [if_pos hk]
   rw [e] at hS ⊢
   exact qe7 l w0 s U T Tx hI S hk j W v h0 hS.one hX
  ·have e : sus 0 S = scat (fun _ => []) (part S) (S []).np ++ (rcat (S []).rl (S []).rows (S []).nr ++ xcat (xus 16) (S []).args (S []).na) := by
    show (if _ then _ else _) = _
    rw [if_neg hk, hd.1]
    rfl
   rw [e] at hS ⊢
   exact core (fun _ => []) S hk hd.2.1 hd.2.2 (fun i hi => by have := hd.1; omega) j W v h0 hS hX
 | succ d ih =>
  intro S hd j W v h0 hS hX
  by_cases hk : (S []).k = 1
  ·have e : sus (d + 1) S = [su S] := by show (if _ then _ else _) = _; rw [if_pos hk]
   rw [e] at hS ⊢
   exact qe7 l w0 s U T Tx hI S hk j W v h0 hS.one hX
  ·have e : sus (d + 1) S = scat (sus d) (part S) (S []).np ++ (rcat (S []).rl (S []).rows (S []).nr ++ xcat (xus 16) (S []).args (S []).na) := by
    show (if _ then _ else _) = _
    rw [if_neg hk]
   rw [e] at hS ⊢
   exact core (sus d) S hk hd.2.1 hd.2.2 (fun i hi j W v g1 g2 g3 => ih (part S i) (hd.1 i hi) j W v g1 g2 g3) j W v h0 hS hX
/-- The names of an item. -/
def ius (I : It) : List Us := if I.k = 3 then [⟨I.nm, 2, I.ln, I.cl⟩] else xus 16 I.val ++ (sus 16 I.shp ++ xcat (xus 16) I.list I.nl)
structure dpi (I : It) : Prop where
 v : dpx 16 I.val
 s : dps 16 I.shp
 l : ∀ i, i < I.nl → dpx 16 (I.list i)
/-- usesOf's function. -/
theorem uses_in (l : Nat) (w0 : World) (s : Nat) (T : Nat → World → Prop) (Tx : World → Prop) (bx k pl nl vk vl vc sk na ca np cp nr cr lc : Nat) (nm vm sm : ByteArray) (vn vln vcl sln scl ln cl : Int) (va aa pa ra la : Option Addr) (X : Xt) (S : St) (G : Nat → Xt)
  (hV : Vn w0 bx 61 #[.int .u8 (k : Int), .string nm, .int .u8 (vk : Int), .int .i64 vn, .string vm, .slice va vl vc, .int .i64 vln, .int .i64 vcl, .int .u8 (sk : Int), .string sm, .slice aa na ca, .slice pa np cp, .slice ra nr cr, .int .i64 sln, .int .i64 scl, .int .u8 (pl : Int), .slice la nl lc, .int .i64 ln, .int .i64 cl])
  (hX : XV w0 (.agg #[.int .u8 (vk : Int), .int .i64 vn, .string vm, .slice va vl vc, .int .i64 vln, .int .i64 vcl]) X) (hSv : SV w0 (.agg #[.int .u8 (sk : Int), .string sm, .slice aa na ca, .slice pa np cp, .slice ra nr cr, .int .i64 sln, .int .i64 scl]) S) (hG : ∀ d, XL d w0 la nl G) (hnl : nl ≤ 140737488351232) (hd : dpi ⟨k, nm, X, S, pl, nl, G, ln, cl⟩)
  (hI : Itx l w0 s (ius ⟨k, nm, X, S, pl, nl, G, ln, cl⟩) T Tx) (W0 : World) (h0 : T 0 W0) :
  Calls Tryd.prog 35 #[.func (.yield l) #[] #[], .pointer (some ⟨bx, 0, none⟩)] W0 fun e W' => (∃ v, e = .returned v) ∧ (T (ius ⟨k, nm, X, S, pl, nl, G, ln, cl⟩).length W' ∨ Tx W') := by
 have hV0 := hV.later (hI.low _ _ h0)
 have c0 := hV0.cell 0 (.int .u8 (k : Int)) rfl
 by_cases hk : k = 3
 ·have e : ius ⟨k, nm, X, S, pl, nl, G, ln, cl⟩ = [⟨nm, 2, ln, cl⟩] := by unfold ius; rw [if_pos hk]
  rw [e] at hI ⊢
  obtain ⟨fn, tmps, assign, body, hy, hR⟩ := hI.yld 0 _ _ rfl h0
  have hy2 : (Instr.yield l #[.agg #[.string nm, .int .u8 2, .int .i64 ln, .int .i64 cl]]).run Tryd.prog W0 = .ok (.round l fn tmps assign body) W0 := hy
  have q : ((k : Int) == 3) = true := by simp; omega
  have c1 := hV0.cell 1 (.string nm) rfl
  have c17 := hV0.cell 17 (.int .i64 ln) rfl
  have c18 := hV0.cell 18 (.int .i64 cl) rfl
  have HRd := qa0 (hR 2)
  clear hy hR hI h0 hV hV0 hX hSv hG hd e hk
  refine (callsIn_wide (n := 3)).1 ?_
  refine callsIn_of_wp Tryd.func35 rfl trivial ?_ rfl
  simp only [Tryd.ntmps35, List.size_toArray, List.length_cons, List.length_nil, Nat.reduceAdd, Nat.reduceSub, Array.replicate_succ, Array.replicate_zero, List.push_toArray, List.append_toArray, List.nil_append, List.cons_append]
  gi_wp2
  refine HRd.out.mono ?_
  rintro e W3 (⟨rfl, ht3, hk3⟩ | ⟨rfl, htx⟩)
  ·gi_wp2
   refine bodyPost_ret (results_none rfl _ _ _) rfl ?_
   exact ⟨⟨_, rfl⟩, .inl ht3⟩
  ·gi_wp2
   refine bodyPost_ret (results_none rfl _ _ _) rfl ?_
   exact ⟨⟨_, rfl⟩, .inr htx⟩
 ·have e : ius ⟨k, nm, X, S, pl, nl, G, ln, cl⟩ = xus 16 X ++ (sus 16 S ++ xcat (xus 16) G nl) := by unfold ius; rw [if_neg hk]
  rw [e] at hI ⊢
  have hU : Sg (xus 16 X ++ (sus 16 S ++ xcat (xus 16) G nl)) 0 (xus 16 X ++ (sus 16 S ++ xcat (xus 16) G nl)) := ⟨[], by simp⟩
  obtain ⟨s1, s2⟩ := hU.app
  obtain ⟨s3, s4⟩ := s2.app
  have C1 := inx l w0 s _ T Tx hI 16 X hd.v 0 W0 _ h0 s1 hX
  have C2 : ∀ W, T (0 + (xus 16 X).length) W → _ := fun W g => ins l w0 s _ T Tx hI 16 S hd.s _ W _ g s3 hSv
  have C3 : ∀ W, T (0 + (xus 16 X).length + (sus 16 S).length) W → _ := fun W g => inxs l w0 s _ T Tx hI (xus 16) G la nl lc hG hnl (fun i hi j W v g1 g2 g3 => inx l w0 s _ T Tx hI 16 (G i) (hd.l i hi) j W v g1 g2 g3) _ W g s4
  rw [List.length_append, List.length_append]
  have hl : 0 + (xus 16 X).length + (sus 16 S).length + (xcat (xus 16) G nl).length = (xus 16 X).length + ((sus 16 S).length + (xcat (xus 16) G nl).length) := by omega
  rw [hl] at C3
  have HC1 := qa0 C1
  have HC2 := qa0 C2
  have HC3 := qa0 C3
  have HL : Hid (∀ j W, T j W → Below w0.heap.size w0 W) := hI.low
  have HV := qa0 hV
  have q : ((k : Int) == 3) = false := by simp; omega
  have c2 := hV0.cell 2 (.int .u8 (vk : Int)) rfl
  have c3 := hV0.cell 3 (.int .i64 vn) rfl
  have c4 := hV0.cell 4 (.string vm) rfl
  have c5 := hV0.cell 5 (.slice va vl vc) rfl
  have c6 := hV0.cell 6 (.int .i64 vln) rfl
  have c7 := hV0.cell 7 (.int .i64 vcl) rfl
  generalize 0 + (xus 16 X).length = n1 at *
  generalize n1 + (sus 16 S).length = n2 at *
  generalize (xus 16 X).length + ((sus 16 S).length + (xcat (xus 16) G nl).length) = n3 at *
  clear hI h0 hV hV0 hX hSv hG hd e hk hU s1 s2 s3 s4 C1 C2 C3 hl
  refine (callsIn_wide (n := 3)).1 ?_
  refine callsIn_of_wp Tryd.func35 rfl trivial ?_ rfl
  simp only [Tryd.ntmps35, List.size_toArray, List.length_cons, List.length_nil, Nat.reduceAdd, Nat.reduceSub, Array.replicate_succ, Array.replicate_zero, List.push_toArray, List.append_toArray, List.nil_append, List.cons_append]
  gi_wp2_with (first
   | (refine ⟨trivial, ?_⟩; gi_at_call 36; refine (callsIn_wide.2 HC1.out).mono ?_; rintro e w1 (⟨rfl, ht1, hk1⟩ | ⟨rfl, hx1⟩); have HV1 := qa0 (HV.out.later (HL.out _ _ ht1)); have d8 := HV1.out.cell 8 _ rfl; have d9 := HV1.out.cell 9 _ rfl; have d10 := HV1.out.cell 10 _ rfl; have d11 := HV1.out.cell 11 _ rfl; have d12 := HV1.out.cell 12 _ rfl; have d13 := HV1.out.cell 13 _ rfl; have d14 := HV1.out.cell 14 _ rfl)
   | (refine ⟨trivial, ?_⟩; gi_at_call 37; refine (callsIn_wide.2 (HC2.out _ ht1)).mono ?_; rintro e w2 (⟨rfl, ht2, hk2⟩ | ⟨rfl, hx2⟩); have HV2 := qa0 (HV.out.later (HL.out _ _ ht2)); have e16 := HV2.out.cell 16 _ rfl)
   | (refine ⟨trivial, ?_⟩; gi_at_call 38; refine (callsIn_wide.2 (HC3.out _ ht2)).mono ?_; rintro e w3 (⟨rfl, ht3, hk3⟩ | ⟨rfl, hx3⟩)))
  ·go_end0
   exact ⟨⟨_, rfl⟩, .inl ht3⟩
  ·go_end0
   exact ⟨⟨_, rfl⟩, .inr hx3⟩
  ·refine ⟨trivial, ?_⟩
   gi_wp2
   go_end0
   exact ⟨⟨_, rfl⟩, .inr hx2⟩
  ·refine ⟨trivial, ?_⟩
   gi_wp2
   refine ⟨trivial, ?_⟩
   gi_wp2
   go_end0
   exact ⟨⟨_, rfl⟩, .inr hx1⟩
open Go.RowKit Go.Shelf
attribute [local go_sem] Oper.semAt_some
/-- How a round's body may be left: it goes on, or it returns. -/
def rndU (Kp : Nat → World → Prop) (Kx : World → Prop) (j B : Nat) (W : World) : Exit → Act → World → Prop
 | .normal, _, W' => Kp (j + 1) W' ∧ W.heap.size ≤ W'.heap.size ∧ ∀ i, B ≤ i → i < W.heap.size → W'.heap[i]? = W.heap[i]?
 | .ret, _, W' => Kx W' ∧ W.heap.size ≤ W'.heap.size ∧ ∀ i, B ≤ i → i < W.heap.size → W'.heap[i]? = W.heap[i]?
 | _, _, _ => False
theorem qb8 {a b : World} {g s : Nat} (h : a.grownBy b (some g)) (hg : g < s) : Ak s a b := ⟨h.size, fun c hc hl => h.block c hl (fun e => by cases e; omega)⟩
theorem qel {gop : Operand} {p : Tmp} {assign body : Code} {Q : Exit → Act → World → Prop} {a : Act} {w : World} {nn bx : Nat} (U : List Us) (Kp : Nat → World → Prop) (Kx : World → Prop)
  (hit : ∀ (l s : Nat) (T : Nat → World → Prop) (Tx : World → Prop) (W1 : World), Itx l w s U T Tx → T 0 W1 → Calls Tryd.prog 35 #[.func (.yield l) #[] #[], .pointer (some ⟨bx, 0, none⟩)] W1 fun e W' => (∃ v, e = .returned v) ∧ (T U.length W' ∨ Tx W'))
  (hg : a.eval gop = .func (.func 35) #[] #[.pointer (some ⟨bx, 0, none⟩)])
  (hKl : ∀ j W, Kp j W → Below w.heap.size w W)
  (hKp : ∀ j W W' row, Kp j W → W.grownBy W' row → (∀ g, row = some g → w.heap.size ≤ g) → Kp j W')
  (hKx : ∀ W W' row, Kx W → W.grownBy W' row → (∀ g, row = some g → w.heap.size ≤ g) → Kx W')
  (h0 : Kp 0 w) (Ax : Us → Act → World → Prop)
  (hAx : ∀ u a' W W', Ax u a' W → W.grownBy W' (some (w.heap.size + 1)) → Ax u a' W')
  (hassign : ∀ (l : Nat) (u : Us) (W : World) (K : Act → World → Prop), w.heap.size + 2 ≤ W.heap.size → (∀ a' Wa, Below W.heap.size W Wa → Ax u a' Wa → K a' Wa) → assign.wpIn (Fence.wide.inRound l) (nn - 1 - 1) Tryd.prog (Exit.then K (fun _ _ _ => False)) { tmps := a.tmps.setIfInBounds p (usV u), defers := [] } W)
  (hbody : ∀ (l j : Nat) (u : Us) (a' : Act) (W : World), U[j]? = some u → Kp j W → Ax u a' W → body.wpIn (Fence.wide.inRound l) (nn - 1 - 1) Tryd.prog (rndU Kp Kx j w.heap.size W) a' W)
  (hdone : ∀ (D : Nat) (W : World), w.heap.size ≤ D → Kp U.length W → W.heap[D]? = some (.deferred (some [])) → Q .normal { a with defers := { target := .collected D, args := #[] } :: a.defers } W)
  (hstop : ∀ (D : Nat) (W : World), w.heap.size ≤ D → Kx W → W.heap[D]? = some (.deferred (some [])) → Code.ret.wpIn Fence.wide nn Tryd.prog Q { a with defers := { target := .collected D, args := #[] } :: a.defers } W) :
  (Code.rangeFunc gop #[p] assign body).wpIn Fence.wide nn Tryd.prog Q a w := by
 refine wpIn_rangeFunc ?_
 intro fn hfn
 obtain ⟨rc, hrc⟩ : ∃ rc : LoopState → Option Code → Loop, rc = fun st pe => { state := st, pending := pe, fn, tmps := a.tmps, params := #[p], assign, body, defers := w.heap.size } := ⟨_, rfl⟩
 obtain ⟨W1, hW1⟩ : ∃ W1, (w.alloc (.deferred (some []))).alloc (.loop (rc .ready none)) = W1 := ⟨_, rfl⟩
 have hs1 : W1.heap.size = w.heap.size + 2 := by rw [← hW1]; simp
 have hL1 : W1.heap[w.heap.size + 1]? = some (.loop (rc .ready none)) := by rw [← hW1]; exact heap_alloc2_new _ _ _
 have hD1 : W1.heap[w.heap.size]? = some (.deferred (some [])) := by rw [← hW1]; exact heap_alloc2_old _ _ _
 have hb1 : Below w.heap.size w W1 := by rw [← hW1]; exact jtwo (jlow _ _) (jlow _ _)
 have hK1 : Kp 0 W1 := hKp 0 w W1 none h0 (jgrown.mpr hb1) (fun g e => by cases e)
 have put : ∀ (W : World) (o : Obj), W.grownBy (W.putObj (w.heap.size + 1) o) (some (w.heap.size + 1)) := fun W o => grownBy_putObj' W (w.heap.size + 1) o
 refine ⟨w.heap.size + 1, [{ target := .collected w.heap.size, args := #[] }], W1, { target := .fn (.func 35) #[.pointer (some ⟨bx, 0, none⟩)], args := #[.func (.yield (w.heap.size + 1)) #[] #[]] }, W1, 35,
  #[.func (.yield (w.heap.size + 1)) #[] #[]] ++ #[.pointer (some ⟨bx, 0, none⟩)], W1, ?_, ?_, ?_, ?_, fun h => (by cases h), ?_⟩
 ·rw [← hW1, hrc]; exact run_enterLoop_outer _ _ _ _ _
 ·simp only [resolve, hg]
  simp [go_sem]
 ·intro f' _; trivial
 ·simp [invoke, go_sem]
 ·refine (callsIn_wide.2 (hit (w.heap.size + 1) (w.heap.size + 2)
   (fun j W => Kp j W ∧ W.heap[w.heap.size + 1]? = some (.loop (rc .ready none)) ∧ W.heap[w.heap.size]? = some (.deferred (some [])) ∧ w.heap.size + 2 ≤ W.heap.size)
   (fun W => Kx W ∧ W.heap[w.heap.size + 1]? = some (.loop (rc .done (some .ret))) ∧ W.heap[w.heap.size]? = some (.deferred (some []))) W1 ?_ ⟨hK1, hL1, hD1, by omega⟩)).mono ?_
  ·refine ⟨fun j W h => hKl j W h.1, fun j W h => h.2.2.2, ?_, ?_⟩
   ·rintro j W W' ⟨h1, h2, h3, h4⟩ hbw
    exact ⟨hKp j W W' none h1 (jgrown.mpr hbw) (fun g e => by cases e), by rw [hbw.block _ (lt_of_block h2)]; exact h2, by rw [hbw.block _ (lt_of_block h3)]; exact h3, by have := hbw.size; omega⟩
   ·rintro j u W hu ⟨h1, h2, h3, h4⟩
    have l2 := lt_of_block h2
    have hy := run_yield (P := Tryd.prog) (args := #[usV u]) h2 (by rw [hrc]; rfl)
    rw [hrc] at hy
    refine ⟨fn, _, assign, body, hy, fun m => qd0 (m := nn - 1 - 1) (roundIn_of_wpIn hfn ?_)⟩
    have htm : ((#[p] : Array Tmp).zip #[usV u]).foldl (fun tmps (t, a) => tmps.setIfInBounds t a) a.tmps = a.tmps.setIfInBounds p (usV u) := by simp
    rw [htm]
    refine hassign _ u W _ h4 ?_
    intro a' Wa hba hax
    have h2a : Wa.heap[w.heap.size + 1]? = some (.loop (rc .ready none)) := by rw [hba.block _ l2]; exact h2
    have h3a : Wa.heap[w.heap.size]? = some (.deferred (some [])) := by rw [hba.block _ (lt_of_block h3)]; exact h3
    have k1a : Kp j Wa := hKp j W Wa none h1 (jgrown.mpr hba) (fun g e => by cases e)
    have l2a := lt_of_block h2a
    refine ⟨_, run_beginRound h2a (by rw [hrc]), ?_⟩
    obtain ⟨W2, hW2⟩ : ∃ W2, Wa.putObj (w.heap.size + 1) (.loop { rc .ready none with state := .busy }) = W2 := ⟨_, rfl⟩
    have hg2 : Wa.grownBy W2 (some (w.heap.size + 1)) := by rw [← hW2]; exact put _ _
    have k2 : Kp j W2 := hKp j Wa W2 _ k1a hg2 (fun g e => by cases e; omega)
    have h22 : W2.heap[w.heap.size + 1]? = some (.loop { rc .ready none with state := .busy }) := by rw [← hW2]; exact World.putObj_heap_same l2a
    have h32 : W2.heap[w.heap.size]? = some (.deferred (some [])) := by rw [hg2.block _ (lt_of_block h3a) (fun e => by simp at e)]; exact h3a
    rw [hW2]
    have hk2 : Ak (w.heap.size + 2) W W2 := (Ak.of hba).trans (qb8 hg2 (by omega))
    refine wpIn_mono (hbody _ j u a' W2 hu k2 (hAx u a' Wa W2 hax hg2)) ?_
    rintro e a3 W3 hp
    cases e with
    | normal =>
     obtain ⟨hk3, hs3, hbl⟩ := hp
     have hl3 : W3.heap[w.heap.size + 1]? = some (.loop { rc .ready none with state := .busy }) := by rw [hbl _ (by omega) (lt_of_block h22)]; exact h22
     have hd3 : W3.heap[w.heap.size]? = some (.deferred (some [])) := by rw [hbl _ (by omega) (lt_of_block h32)]; exact h32
     have hend := run_endRound (P := Tryd.prog) none hl3
     have hs4 : w.heap.size + 2 ≤ W3.heap.size := by have := hk2.size; omega
     refine ⟨_, _, hend, .inl ⟨rfl, ⟨hKp (j + 1) W3 _ _ hk3 (put _ _) (fun g e => by cases e; omega), ?_, ?_, ?_⟩, ?_⟩⟩
     ·rw [World.putObj_heap_same (lt_of_block hl3), hrc]; rfl
     ·exact (World.putObj_heap_other (by omega)).trans hd3
     ·exact Nat.le_trans hs4 (put W3 _).size
     ·exact (hk2.trans ⟨hs3, fun b hb hl => hbl b (by omega) hl⟩).trans (qb8 (put W3 _) (by omega))
    | ret =>
     obtain ⟨hk3, hs3, hbl⟩ := hp
     have hl3 : W3.heap[w.heap.size + 1]? = some (.loop { rc .ready none with state := .busy }) := by rw [hbl _ (by omega) (lt_of_block h22)]; exact h22
     have hd3 : W3.heap[w.heap.size]? = some (.deferred (some [])) := by rw [hbl _ (by omega) (lt_of_block h32)]; exact h32
     have hend := run_endRound (P := Tryd.prog) (some .ret) hl3
     refine ⟨_, _, hend, .inr ⟨rfl, hKx W3 _ _ hk3 (put _ _) (fun g e => by cases e; omega), ?_, ?_⟩⟩
     ·rw [World.putObj_heap_same (lt_of_block hl3), hrc]; rfl
     ·exact (World.putObj_heap_other (by omega)).trans hd3
    | exit id => exact hp.elim
    | goto t => exact hp.elim
    | panic ch => exact hp.elim
    | outgrown => exact hp.elim
  ·rintro e W2 ⟨⟨v, rfl⟩, (⟨h1, h2, h3, _⟩ | ⟨h1, h2, h3⟩)⟩
   ·refine ⟨none, _, by have := run_endLoop (P := Tryd.prog) h2 (by rw [hrc]; simp); rw [hrc] at this; exact this, ?_⟩
    exact hdone _ _ (Nat.le_refl _) (hKp U.length W2 _ _ h1 (put _ _) (fun g e => by cases e; omega)) ((World.putObj_heap_other (by omega)).trans h3)
   ·refine ⟨some .ret, _, by have := run_endLoop (P := Tryd.prog) h2 (by rw [hrc]; simp); rw [hrc] at this; exact this, ?_⟩
    exact hstop _ _ (Nat.le_refl _) (hKx W2 _ _ h1 (put _ _) (fun g e => by cases e; omega)) ((World.putObj_heap_other (by omega)).trans h3)
end Go.Proofs.YtemhodenkgngmaaDoor
