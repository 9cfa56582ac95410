/-
  Stage 13: the names of a shape, told one after another.
-/
import Derived.Test.YtemhodenkgngmaaDoorQuues00
import Derived.Test.YtemhodenkgngmaaDoorQuues24
set_option maxRecDepth 100000
set_option maxHeartbeats 16000000
namespace Go.Proofs.YtemhodenkgngmaaDoor
open Go.RowKit Go.Shelf
attribute [local go_sem] Oper.semAt_some
def su (S : St) : Us := ⟨(S []).nm, 2, (S []).ln, (S []).cl⟩
def scat (f : St → List Us) (F : Nat → St) : Nat → List Us
 | 0 => []
 | n + 1 => scat f F n ++ f (F n)
/-- The names of rows. -/
def rcat (len : Nat → Nat) (F : Nat → Nat → Xt) : Nat → List Us
 | 0 => []
 | n + 1 => rcat len F n ++ xcat (xus 16) (F n) (len n)
/-- The names of a shape. -/
def sus : Nat → St → List Us
 | 0, S => if (S []).k = 1 then [su S] else rcat (S []).rl (S []).rows (S []).nr ++ xcat (xus 16) (S []).args (S []).na
 | d + 1, S => if (S []).k = 1 then [su S] else scat (sus d) (part S) (S []).np ++ (rcat (S []).rl (S []).rows (S []).nr ++ xcat (xus 16) (S []).args (S []).na)
/-- A shape is at most d deep. -/
def dps : Nat → St → Prop
 | 0, S => (S []).np = 0 ∧ (∀ i, i < (S []).na → dpx 16 ((S []).args i)) ∧ ∀ i, i < (S []).nr → ∀ q, q < (S []).rl i → dpx 16 ((S []).rows i q)
 | d + 1, S => (∀ i, i < (S []).np → dps d (part S i)) ∧ (∀ i, i < (S []).na → dpx 16 ((S []).args i)) ∧ ∀ i, i < (S []).nr → ∀ q, q < (S []).rl i → dpx 16 ((S []).rows i q)
theorem scat_sg {f : St → List Us} {F : Nat → St} {U : List Us} {j : Nat} : ∀ {n : Nat}, Sg U j (scat f F n) → ∀ i, i < n → Sg U (j + (scat f F i).length) (f (F i)) := by
 intro n
 induction n with
 | zero => intro _ i hi; omega
 | succ n ih =>
  intro h i hi
  have h2 := Sg.app (show Sg U j (scat f F n ++ f (F n)) from h)
  by_cases e : i = n
  ·subst e; exact h2.2
  ·exact ih h2.1 i (by omega)
theorem rcat_sg {len : Nat → Nat} {F : Nat → Nat → Xt} {U : List Us} {j : Nat} : ∀ {n : Nat}, Sg U j (rcat len F n) → ∀ i, i < n → Sg U (j + (rcat len F i).length) (xcat (xus 16) (F i) (len i)) := by
 intro n
 induction n with
 | zero => intro _ i hi; omega
 | succ n ih =>
  intro h i hi
  have h2 := Sg.app (show Sg U j (rcat len F n ++ xcat (xus 16) (F n) (len n)) from h)
  by_cases e : i = n
  ·subst e; exact h2.2
  ·exact ih h2.1 i (by omega)
theorem qe5 (f : St → List Us) (F : Nat → St) (n : Nat) : (scat f F (n + 1)).length = (scat f F n).length + (f (F n)).length := List.length_append
theorem qe6 (len : Nat → Nat) (F : Nat → Nat → Xt) (n : Nat) : (rcat len F (n + 1)).length = (rcat len F n).length + (xcat (xus 16) (F n) (len n)).length := List.length_append
/-- inShape at a name. -/
theorem qe7 (l : Nat) (w0 : World) (s : Nat) (U : List Us) (T : Nat → World → Prop) (Tx : World → Prop) (hI : Itx l w0 s U T Tx) (S : St) (hk : (S []).k = 1) (j : Nat) (W : World) (v : Value) (h0 : T j W) (hu : U[j]? = some (su S)) (hX : SV w0 v S) :
  Calls Tryd.prog 37 #[v, .func (.yield l) #[] #[]] W (TlA s W T Tx (j + 1)) := by
 obtain ⟨⟨aa, pa, ra, ca, cp, cr, rfl, _⟩, _⟩ := hX
 unfold su at hu
 generalize S [] = q at *
 obtain ⟨k, nm, na, args, np, nr, rl, rows, ln, cl⟩ := q
 dsimp only at *
 have q : ((k : Int) == 1) = true := by simp; omega
 clear hk
 have hT := hI.step _ _ _ h0 (jlow W (.cells #[.int .u8 (k : Int), .string nm, .slice aa na ca, .slice pa np cp, .slice ra nr cr, .int .i64 ln, .int .i64 cl] 58))
 obtain ⟨fn, tmps, assign, body, hy, hR⟩ := hI.yld j _ _ hu hT
 have hy2 : (Instr.yield l #[.agg #[.string nm, .int .u8 2, .int .i64 ln, .int .i64 cl]]).run Tryd.prog (W.alloc (.cells #[.int .u8 (k : Int), .string nm, .slice aa na ca, .slice pa np cp, .slice ra nr cr, .int .i64 ln, .int .i64 cl] 58)) = .ok (.round l fn tmps assign body) (W.alloc (.cells #[.int .u8 (k : Int), .string nm, .slice aa na ca, .slice pa np cp, .slice ra nr cr, .int .i64 ln, .int .i64 cl] 58)) := hy
 clear hy
 have HRd := qa0 (hR 2)
 clear hR hI hT h0
 refine (callsIn_wide (n := 3)).1 ?_
 refine callsIn_of_wp Tryd.func37 rfl trivial ?_ rfl
 simp only [Tryd.ntmps37, List.size_toArray, List.length_cons, List.length_nil, Nat.reduceAdd, Nat.reduceSub, Array.replicate_succ, Array.replicate_zero, List.push_toArray, List.append_toArray, List.nil_append, List.cons_append]
 gi_wp2
 refine HRd.out.mono ?_
 rintro e W3 (⟨rfl, ht3, hk3⟩ | ⟨rfl, htx⟩)
 ·gi_wp2
  go_ret
  exact .inl ⟨rfl, ht3, (Ak.of (jlow _ _)).trans hk3⟩
 ·gi_wp2
  go_ret
  exact .inr ⟨rfl, htx⟩
/-- inShape elsewhere. -/
theorem qfg (l : Nat) (w0 : World) (s : Nat) (U : List Us) (T : Nat → World → Prop) (Tx : World → Prop) (hI : Itx l w0 s U T Tx) (f : St → List Us) (P : Nat → St) (k na np nr ca cp cr : Nat) (nm : ByteArray) (ln cl : Int) (aa pa ra : Option Addr) (rl : Nat → Nat) (rows : Nat → Nat → Xt)
  (hk : k ≠ 1) (hP : ∀ d, SL d w0 pa np P) (hR : XR w0 ra nr rl rows) (hnp : np ≤ 140737488351232) (hnr : nr ≤ 140737488351232)
  (IHp : ∀ i, i < np → ∀ j W v, T j W → Sg U j (f (P i)) → SV w0 v (P i) → Calls Tryd.prog 37 #[v, .func (.yield l) #[] #[]] W (TlA s W T Tx (j + (f (P i)).length)))
  (IHr : ∀ i, i < nr → ∀ j W a c, T j W → Sg U j (xcat (xus 16) (rows i) (rl i)) → (∀ d, XL d w0 a (rl i) (rows i)) → Calls Tryd.prog 38 #[.slice a (rl i) c, .func (.yield l) #[] #[]] W (TlA s W T Tx (j + (xcat (xus 16) (rows i) (rl i)).length)))
  (j j1 j2 j3 : Nat) (hj1 : j1 = j + (scat f P np).length) (hj2 : j2 = j1 + (rcat rl rows nr).length)
  (IHa : ∀ W, T j2 W → Calls Tryd.prog 38 #[.slice aa na ca, .func (.yield l) #[] #[]] W (TlA s W T Tx j3))
  (hS1 : Sg U j (scat f P np)) (hS2 : Sg U j1 (rcat rl rows nr)) (W0 : World) (h0 : T j W0) :
  Calls Tryd.prog 37 #[.agg #[.int .u8 (k : Int), .string nm, .slice aa na ca, .slice pa np cp, .slice ra nr cr, .int .i64 ln, .int .i64 cl], .func (.yield l) #[] #[]] W0 (TlA s W0 T Tx j3) := by
 have q : ((k : Int) == 1) = false := by simp; omega
 have HI := qa0 hI
 have HP := qa0 hP
 have HR := qa0 hR
 have HIp := qa0 IHp
 have HIr := qa0 IHr
 have HIa := qa0 IHa
 have HS1 := qa0 hS1
 have HS2 := qa0 hS2
 have Hj1 := qa0 hj1
 have Hj2 := qa0 hj2
 have hbig := hI.big _ _ h0
 have HK0 : Hid (Ak s W0 (W0.alloc (.cells #[.int .u8 (k : Int), .string nm, .slice aa na ca, .slice pa np cp, .slice ra nr cr, .int .i64 ln, .int .i64 cl] 58))) := Ak.of (jlow _ _)
 have HV0 := qa0 (Vn.new W0 58 #[.int .u8 (k : Int), .string nm, .slice aa na ca, .slice pa np cp, .slice ra nr cr, .int .i64 ln, .int .i64 cl])
 have HT0 := qa0 (hI.step _ _ _ h0 (jlow W0 (.cells #[.int .u8 (k : Int), .string nm, .slice aa na ca, .slice pa np cp, .slice ra nr cr, .int .i64 ln, .int .i64 cl] 58)))
 clear hI hP hR IHp IHr IHa hS1 hS2 hj1 hj2 h0 hk
 refine (callsIn_wide (n := 3)).1 ?_
 refine callsIn_of_wp Tryd.func37 rfl trivial ?_ rfl
 simp only [Tryd.ntmps37, List.size_toArray, List.length_cons, List.length_nil, Nat.reduceAdd, Nat.reduceSub, Array.replicate_succ, Array.replicate_zero, List.push_toArray, List.append_toArray, List.nil_append, List.cons_append]
 gi_wp2
 gi_loopw [24] (fun vi wr => ∃ i : Nat, i ≤ np ∧ vi = .int .i64 (i : Int) ∧ T (j + (scat f P i).length) wr ∧ Ak s W0 wr ∧ Vn wr W0.heap.size 58 #[.int .u8 (k : Int), .string nm, .slice aa na ca, .slice pa np cp, .slice ra nr cr, .int .i64 ln, .int .i64 cl]) (fun vi _ => np - (intOf vi).toNat)
 case atStart => exact ⟨0, by omega, rfl, HT0.out, HK0.out, HV0.out⟩
 case round =>
  obtain ⟨i, hi, rfl, ht, hk, hv⟩ := hrel
  have HT := qa0 ht
  have HK := qa0 hk
  have HV := qa0 hv
  clear hk hv HT0 HK0 HV0
  by_cases hlt : i < np
  ·have p0 : (0 : Int) ≤ (i : Int) := by omega
   have p1 : (i : Int) < (np : Int) := by omega
   have hlow := HI.out.low _ _ ht
   obtain ⟨b, o, k2, na2, np2, nr2, ll, cc, nm2, aa2, pa2, ra2, ca2, cp2, cr2, rfl, hkid, hcl⟩ := SL.at_ HP.out hlt
   obtain ⟨t0, t1, t2, t3, t4, t5, t6⟩ := hcl _ hlow
   have HSi := qa0 (scat_sg HS1.out i hlt)
   have HC : Hid (∀ W', T (j + (scat f P i).length) W' → Calls Tryd.prog 37 #[.agg #[.int .u8 (k2 : Int), .string nm2, .slice aa2 na2 ca2, .slice pa2 np2 cp2, .slice ra2 nr2 cr2, .int .i64 ll, .int .i64 cc], .func (.yield l) #[] #[]] W' (TlA s W' T Tx (j + (scat f P (i + 1)).length))) := fun W' h1 => by
    have h3 := HIp.out i hlt _ W' _ h1 HSi.out hkid
    rw [Nat.add_assoc, ← qe5] at h3
    exact h3
   clear ht hlow hcl hkid HIp HSi HS1 HP
   gi_wp2_with (refine ⟨trivial, ?_⟩; gi_at_call 37; refine (callsIn_wide.2 (HC.out _ (HI.out.step _ _ _ HT.out (jlow _ _)))).mono ?_; rintro e w3 (⟨rfl, ht3, hk3⟩ | ⟨rfl, hx3⟩))
   ·exact ⟨⟨i + 1, by omega, by go_num, ht3, (HK.out.trans (Ak.of (jlow _ _))).trans hk3, (HV.out.later (jlow _ _)).keptK hk3 hbig⟩, by simp [intOf]; omega⟩
   ·gi_wp2
    go_ret
    exact .inr ⟨rfl, hx3⟩
  ·obtain rfl : np = i := by omega
   rw [← Hj1.out] at HT
   clear ht HIp HS1 HP Hj1
   have v0 := HV.out.cell 4 _ rfl
   gi_wp2
   gi_loopw [36] (fun vi wr => ∃ i : Nat, i ≤ nr ∧ vi = .int .i64 (i : Int) ∧ T (j1 + (rcat rl rows i).length) wr ∧ Ak s W0 wr ∧ Vn wr W0.heap.size 58 #[.int .u8 (k : Int), .string nm, .slice aa na ca, .slice pa np cp, .slice ra nr cr, .int .i64 ln, .int .i64 cl]) (fun vi _ => nr - (intOf vi).toNat)
   case atStart => exact ⟨0, by omega, rfl, HT.out, HK.out, HV.out⟩
   case round =>
    obtain ⟨i, hi, rfl, ht, hk, hv⟩ := hrel
    have HT1 := qa0 ht
    have HK1 := qa0 hk
    have HV1 := qa0 hv
    clear hk hv HT HK HV v0
    by_cases hlt : i < nr
    ·have p0 : (0 : Int) ≤ (i : Int) := by omega
     have p1 : (i : Int) < (nr : Int) := by omega
     have hlow := HI.out.low _ _ ht
     obtain ⟨b, o, a', c', rfl, z0, hxl⟩ := HR.out i hlt
     have t0 := cell_kept z0 hlow
     have HSi := qa0 (rcat_sg HS2.out i hlt)
     have HC : Hid (∀ W', T (j1 + (rcat rl rows i).length) W' → Calls Tryd.prog 38 #[.slice a' (rl i) c', .func (.yield l) #[] #[]] W' (TlA s W' T Tx (j1 + (rcat rl rows (i + 1)).length))) := fun W' h1 => by
      have h3 := HIr.out i hlt _ W' a' c' h1 HSi.out hxl
      rw [Nat.add_assoc, ← qe6] at h3
      exact h3
     generalize rl i = ri at *
     clear ht hlow hxl HIr HSi HS2 HR z0
     gi_wp2_with (refine ⟨trivial, ?_⟩; gi_at_call 38; refine (callsIn_wide.2 (HC.out _ HT1.out)).mono ?_; rintro e w3 (⟨rfl, ht3, hk3⟩ | ⟨rfl, hx3⟩))
     ·exact ⟨⟨i + 1, by omega, by go_num, ht3, HK1.out.trans hk3, HV1.out.keptK hk3 hbig⟩, by simp [intOf]; omega⟩
     ·gi_wp2
      go_ret
      exact .inr ⟨rfl, hx3⟩
    ·obtain rfl : nr = i := by omega
     rw [← Hj2.out] at HT1
     have v0 := HV1.out.cell 2 _ rfl
     clear ht HIr HS2 HR Hj2
     gi_wp2_with (refine ⟨trivial, ?_⟩; gi_at_call 38; refine (callsIn_wide.2 (HIa.out _ HT1.out)).mono ?_; rintro e w3 (⟨rfl, ht3, hk3⟩ | ⟨rfl, hx3⟩))
     ·go_ret
      exact .inl ⟨rfl, ht3, HK1.out.trans hk3⟩
     ·go_ret
      exact .inr ⟨rfl, hx3⟩
end Go.Proofs.YtemhodenkgngmaaDoor
