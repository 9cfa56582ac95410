/-
  Stage 12: worth, of an expression of parts.
-/
import Derived.Test.YtgmndjbicandfaaDoorQnnes00
import Derived.Test.YtgmndjbicandfaaDoorQnnes21
set_option maxRecDepth 100000
set_option maxHeartbeats 16000000
namespace Go.Proofs.YtgmndjbicandfaaDoor
open Go.RowKit Go.Maps
theorem qdd (w : World) : Below w.heap.size w w.drew := ⟨rfl, rfl, rfl, Nat.le_refl _, fun _ _ => rfl⟩
theorem sizeIn12 : (Tryd.prog.info? 3).map (·.size) = some 1 := by kernel_rfl
theorem xprt_set (R : Nat → Vt) (i : Nat) (v : Int) (hi : i < 2) (hv : (R i).v = v) : (#[.int .i64 (xprt R i 0), .int .i64 (xprt R i 1)] : Array Value).setIfInBounds i (.int .i64 v) = #[.int .i64 (xprt R (i + 1) 0), .int .i64 (xprt R (i + 1) 1)] := by
 subst hv
 obtain rfl | rfl : i = 0 ∨ i = 1 := by omega
 ·rfl
 ·rfl
theorem worth_3 (d : Nat) (IH : WorthC d) (w : World) (T : Xt) (v : Value) (b m : Nat) (E : ByteArray → Option Int) (hX : XV w v T) (hM : MX (d + 1) T) (hm : Mp w b m E) (h1 : (T []).k ≠ 1) (h2 : (T []).k ≠ 2) :
  Calls Tryd.prog 24 #[v, .map (some b)] w fun e w' => e = .returned (.tuple #[.int .i64 (xval E (d + 1) T).v, .agg #[.int .i64 ((xval E (d + 1) T).c : Int), .int .i64 (xval E (d + 1) T).ln, .int .i64 (xval E (d + 1) T).cl]]) ∧ Below w.heap.size w w' := by
 have HFa : Hid (∀ (w' : World) (e : Nat), Below w.heap.size w w' → Calls Tryd.prog 42 #[v, .int .i64 (e : Int)] w' fun r w'' => r = .returned (.agg #[.int .i64 (e : Int), .int .i64 (T []).ln, .int .i64 (T []).cl]) ∧ Below w'.heap.size w' w'') := fun w' e hb => qbe w' T v e (hX.later hb)
 obtain ⟨⟨a, cap, rfl, hXl⟩, hok⟩ := hX
 have hlen := hM.len
 have hk8 := mx_kind hM
 obtain ⟨R, HR⟩ : ∃ R : Nat → Vt, Hid (R = fun i => xval E d (kid T i)) := ⟨_, rfl⟩
 have HF1 : Hid (∀ r, xflt R (T []).len = some r → xval E (d + 1) T = ⟨0, r.c, r.ln, r.cl⟩) := fun r hr => xval3 h1 h2 (by rw [HR.out] at hr; exact hr)
 have HF0 : Hid (xflt R (T []).len = none → xval E (d + 1) T = xfin (T []) (xprt R (T []).len 0) (xprt R (T []).len 1)) := fun hr => by
  rw [HR.out] at hr ⊢
  exact xval4 h1 h2 hr
 have HIH : Hid (∀ i, i < (T []).len → ∀ (w' : World) (v' : Value), XV w' v' (kid T i) → Below w.heap.size w w' → Calls Tryd.prog 24 #[v', .map (some b)] w' fun e w'' => e = .returned (.tuple #[.int .i64 (R i).v, .agg #[.int .i64 ((R i).c : Int), .int .i64 (R i).ln, .int .i64 (R i).cl]]) ∧ Below w'.heap.size w' w'') := fun i hi w' v' hv' hb => by
  rw [HR.out]
  exact IH w' (kid T i) v' b m E hv' (hM.kid hi) (hm.later hb)
 have HZ : Hid (∀ i, (R i).c = 0 → (R i).ln = 0 ∧ (R i).cl = 0) := fun i h => by
  rw [HR.out] at h ⊢
  exact qe0 h
 have HXl := qa0 hXl
 clear hXl hM hm IH HR
 generalize xval E (d + 1) T = V at *
 generalize T [] = l at *
 obtain ⟨k, n, nm, len, ln, cl⟩ := l
 have hlen : len ≤ 2 := hlen
 have h1 : k ≠ 1 := h1
 have h2 : k ≠ 2 := h2
 have hk8 : 1 ≤ k ∧ k ≤ 8 := hk8
 have hk256 : k < 256 := by omega
 have q1 : ((k : Int) == 1) = false := by simp; omega
 have q2 : ((k : Int) == 2) = false := by simp; omega
 have HFa : Hid (∀ (w' : World) (e : Nat), Below w.heap.size w w' → Calls Tryd.prog 42 #[.agg #[.int .u8 (k : Int), .int .i64 n, .string nm, .slice a len cap, .int .i64 ln, .int .i64 cl], .int .i64 (e : Int)] w' fun r w'' => r = .returned (.agg #[.int .i64 (e : Int), .int .i64 ln, .int .i64 cl]) ∧ Below w'.heap.size w' w'') := HFa
 have HXl : Hid (∀ d, XL d w a len (kid T)) := HXl
 have HIH : Hid (∀ i, i < len → ∀ (w' : World) (v' : Value), XV w' v' (kid T i) → Below w.heap.size w w' → Calls Tryd.prog 24 #[v', .map (some b)] w' fun e w'' => e = .returned (.tuple #[.int .i64 (R i).v, .agg #[.int .i64 ((R i).c : Int), .int .i64 (R i).ln, .int .i64 (R i).cl]]) ∧ Below w'.heap.size w' w'') := HIH
 have HF1 : Hid (∀ r, xflt R len = some r → V = ⟨0, r.c, r.ln, r.cl⟩) := HF1
 have HF0 : Hid (xflt R len = none → V = xfin ⟨k, n, nm, len, ln, cl⟩ (xprt R len 0) (xprt R len 1)) := HF0
 clear hok h1 h2 hk8
 show Calls Tryd.prog 24 #[.agg #[.int .u8 (k : Int), .int .i64 n, .string nm, .slice a len cap, .int .i64 ln, .int .i64 cl], .map (some b)] w _
 have HX := qa0 (Vn.new w 25 #[.int .u8 (k : Int), .int .i64 n, .string nm, .slice a len cap, .int .i64 ln, .int .i64 cl])
 have HX2 := qa0 (HX.out.later (jlow _ (.cells #[.int .i64 0, .int .i64 0, .int .i64 0] 29)))
 have HVt := qa0 (Vn.new (w.alloc (.cells #[.int .u8 (k : Int), .int .i64 n, .string nm, .slice a len cap, .int .i64 ln, .int .i64 cl] 25)) 29 #[.int .i64 0, .int .i64 0, .int .i64 0])
 have HB := qa0 (jtwo (jlow w (.cells #[.int .u8 (k : Int), .int .i64 n, .string nm, .slice a len cap, .int .i64 ln, .int .i64 cl] 25)) (jlow _ (.cells #[.int .i64 0, .int .i64 0, .int .i64 0] 29)))
 rw [qa2] at HVt
 have c0 := HX2.out.cell 0 _ rfl
 have c1 := HX2.out.cell 1 _ rfl
 have c2 := HX2.out.cell 2 _ rfl
 have c3 := HX2.out.cell 3 _ rfl
 have c4 := HX2.out.cell 4 _ rfl
 have c5 := HX2.out.cell 5 _ rfl
 have HX3 := qa0 (HX2.out.later (jlow _ (.cells #[.int .i64 0, .int .i64 0] 81)))
 have HVt3 := qa0 (HVt.out.later (jlow _ (.cells #[.int .i64 0, .int .i64 0] 81)))
 have HA3 := qa0 (Vn.new ((w.alloc (.cells #[.int .u8 (k : Int), .int .i64 n, .string nm, .slice a len cap, .int .i64 ln, .int .i64 cl] 25)).alloc (.cells #[.int .i64 0, .int .i64 0, .int .i64 0] 29)) 81 #[.int .i64 0, .int .i64 0])
 rw [qa2, qa2] at HA3
 have HB3 := qa0 (jtwo HB.out (jlow _ (.cells #[.int .i64 0, .int .i64 0] 81)))
 have g3 := HX3.out.cell 3 _ rfl
 clear HX HX2 HVt c1 c2 c3 c4 c5 HB
 have hne := neq_f12
 have hng := qbk
 go_enter Tryd.func24, Tryd.ntmps24
 go_wp2
 go_loopw [40] (fun vi wr => ∃ (i : Nat), i ≤ len ∧ vi = .int .i64 (i : Int) ∧ Hid (xflt R i = none) ∧ Hid (Vn wr w.heap.size 25 #[.int .u8 (k : Int), .int .i64 n, .string nm, .slice a len cap, .int .i64 ln, .int .i64 cl]) ∧ Hid (Vn wr (w.heap.size + 1) 29 #[.int .i64 0, .int .i64 0, .int .i64 0]) ∧ Hid (Vn wr (w.heap.size + 2) 81 #[.int .i64 (xprt R i 0), .int .i64 (xprt R i 1)]) ∧ Below w.heap.size w wr) (fun vi _ => len - (intOf vi).toNat)
 case atStart => exact ⟨0, by omega, rfl, rfl, HX3, HVt3, HA3, HB3.out⟩
 case round =>
  obtain ⟨i, hi, rfl, Hf, HX, HV, HA, hb⟩ := hrel
  have HB := qa0 hb
  clear HX3 HVt3 HA3 HB3 g3 c0
  by_cases hlt : i < len
  ·have p0 : (0 : Int) ≤ (i : Int) := by omega
   have p1 : (i : Int) < (len : Int) := by omega
   have p2 : (i : Int) < 2 := by omega
   obtain ⟨bk, okk, kk, nl, nn, ll, cc, nx, ka, kc, rfl, hkid, hcl⟩ := XL.at_ HXl.out (i := i) hlt
   obtain ⟨k0, k1, k2, k3, k4, k5⟩ := hcl _ hb
   have HC : Hid (∀ w' : World, Below w.heap.size w w' → Calls Tryd.prog 24 #[.agg #[.int .u8 (kk : Int), .int .i64 nn, .string nx, .slice ka nl kc, .int .i64 ll, .int .i64 cc], .map (some b)] w' fun e w'' => e = .returned (.tuple #[.int .i64 (R i).v, .agg #[.int .i64 ((R i).c : Int), .int .i64 (R i).ln, .int .i64 (R i).cl]]) ∧ Below w'.heap.size w' w'') := fun w' hb => HIH.out i hlt w' _ (hkid.later hb) hb
   have HSt := qa0 (xprt_set R i (R i).v (by omega) rfl)
   have HHit := qa0 (fun hc => HF1.out (R i) (qdz (xflt_hit Hf.out hc) len (by omega)))
   have HOn := qa0 (fun hc => xflt_on (R := R) (i := i) Hf.out hc)
   have hz := HZ.out i
   clear hcl hkid
   have hsz := HX.out.lt
   have hsz1 := HV.out.lt
   have hsz2 := HA.out.lt
   generalize R i = r at *
   obtain ⟨rv, rc, rl, rk⟩ := r
   have HC : Hid (∀ w' : World, Below w.heap.size w w' → Calls Tryd.prog 24 #[.agg #[.int .u8 (kk : Int), .int .i64 nn, .string nx, .slice ka nl kc, .int .i64 ll, .int .i64 cc], .map (some b)] w' fun e w'' => e = .returned (.tuple #[.int .i64 rv, .agg #[.int .i64 (rc : Int), .int .i64 rl, .int .i64 rk]]) ∧ Below w'.heap.size w' w'') := HC
   have HHit : Hid (rc ≠ 0 → V = ⟨0, rc, rl, rk⟩) := HHit
   have HOn : Hid (rc = 0 → xflt R (i + 1) = none) := HOn
   have hz : rc = 0 → rl = 0 ∧ rk = 0 := hz
   have HSt : Hid ((#[.int .i64 (xprt R i 0), .int .i64 (xprt R i 1)] : Array Value).setIfInBounds i (.int .i64 rv) = #[.int .i64 (xprt R (i + 1) 0), .int .i64 (xprt R (i + 1) 1)]) := HSt
   have M1 : True := trivial
   have M2 : True := trivial
   by_cases hc : rc = 0
   ·obtain ⟨rfl, rfl⟩ := hz hc
    subst hc
    have HOn2 := qa0 (HOn.out rfl)
    clear hz HHit HOn
    go_wp2_with (first
     | (clear M1; refine qa1 rfl 25 _ _ rfl wr.heap.size _ #[.int .u8 (kk : Int), .int .i64 nn, .string nx, .slice ka nl kc, .int .i64 ll, .int .i64 cc] rfl rfl (Vn.new wr _ _) sizeX rfl (all6 rfl rfl rfl rfl rfl rfl) ?_; intro w1 HV1 hg1; have hb1 : Below wr.heap.size wr w1 := (jlow _ _).trans (jbelow hg1.out (jlow _ _).size (fun g e => by cases e; exact Nat.le_refl _)); have HL1 := qa0 hb1; have HB1 := qa0 (jtwo HB.out hb1); have m0 := HV1.out.cell 0 _ rfl; have m1 := HV1.out.cell 1 _ rfl; have m2 := HV1.out.cell 2 _ rfl; have m3 := HV1.out.cell 3 _ rfl; have m4 := HV1.out.cell 4 _ rfl; have m5 := HV1.out.cell 5 _ rfl; clear hg1 hb1)
     | (clear M2; refine qa1 rfl 29 _ _ rfl w2.heap.size _ #[.int .i64 _, .int .i64 _, .int .i64 _] rfl rfl (Vn.new w2 _ _) sizeFau rfl (all3 rfl rfl rfl) ?_; intro w3 HG3 hg3; have hb3 : Below w2.heap.size w2 w3 := (jlow _ _).trans (jbelow hg3.out (jlow _ _).size (fun g e => by cases e; exact Nat.le_refl _)); have HW3 := qa0 (jtwo HW2.out hb3); have HB3 := qa0 (jtwo HB2.out hb3); have o0 := HG3.out.cell 0 _ rfl; have o1 := HG3.out.cell 1 _ rfl; have o2 := HG3.out.cell 2 _ rfl; clear hg3 hb3)
     | (go_at_call 24; refine (HC.out _ HB1.out).mono ?_; rintro e w2 ⟨rfl, hb2⟩; have HB2 := qa0 (jtwo HB1.out hb2); have HW2 := qa0 (jtwo HL1.out hb2); clear hb2)
     | (refine wpList_store_one rfl 3 _ _ rfl (w.heap.size + 2) i 81 _ (.int .i64 rv) rfl rfl sizeIn12 rfl rfl (HA.out.later HW3.out) (by show i < 2; omega) ?_; intro w4 HA4 hg4))
    have HX4 := qa0 ((HX.out.later HW3.out).kept12 hg4.out (by simp))
    have HV4 := qa0 ((HV.out.later HW3.out).kept12 hg4.out (by simp))
    have hA4 := HA4.out
    rw [HSt.out] at hA4
    exact ⟨⟨i + 1, by omega, by go_num, HOn2, HX4, HV4, hA4, HB3.out.trans (jbelow hg4.out HB3.out.size (fun g e => by cases e; omega))⟩, by simp [intOf]; omega⟩
   ·have qc : ((rc : Int) == 0) = false := by simp; omega
    have hV := HHit.out hc
    subst hV
    clear hz HOn HHit HSt
    go_wp2_with (first
     | (clear M1; refine qa1 rfl 25 _ _ rfl wr.heap.size _ #[.int .u8 (kk : Int), .int .i64 nn, .string nx, .slice ka nl kc, .int .i64 ll, .int .i64 cc] rfl rfl (Vn.new wr _ _) sizeX rfl (all6 rfl rfl rfl rfl rfl rfl) ?_; intro w1 HV1 hg1; have hb1 : Below wr.heap.size wr w1 := (jlow _ _).trans (jbelow hg1.out (jlow _ _).size (fun g e => by cases e; exact Nat.le_refl _)); have HL1 := qa0 hb1; have HB1 := qa0 (jtwo HB.out hb1); have m0 := HV1.out.cell 0 _ rfl; have m1 := HV1.out.cell 1 _ rfl; have m2 := HV1.out.cell 2 _ rfl; have m3 := HV1.out.cell 3 _ rfl; have m4 := HV1.out.cell 4 _ rfl; have m5 := HV1.out.cell 5 _ rfl; clear hg1 hb1)
     | (clear M2; refine qa1 rfl 29 _ _ rfl w2.heap.size _ #[.int .i64 _, .int .i64 _, .int .i64 _] rfl rfl (Vn.new w2 _ _) sizeFau rfl (all3 rfl rfl rfl) ?_; intro w3 HG3 hg3; have hb3 : Below w2.heap.size w2 w3 := (jlow _ _).trans (jbelow hg3.out (jlow _ _).size (fun g e => by cases e; exact Nat.le_refl _)); have HW3 := qa0 (jtwo HW2.out hb3); have HB3 := qa0 (jtwo HB2.out hb3); have o0 := HG3.out.cell 0 _ rfl; have o1 := HG3.out.cell 1 _ rfl; have o2 := HG3.out.cell 2 _ rfl; clear hg3 hb3)
     | (go_at_call 24; refine (HC.out _ HB1.out).mono ?_; rintro e w2 ⟨rfl, hb2⟩; have HB2 := qa0 (jtwo HB1.out hb2); have HW2 := qa0 (jtwo HL1.out hb2); clear hb2))
    have HV3 := qa0 (HV.out.later HW3.out)
    refine wp_region_held (S := fun w' => w'.cell? ⟨w2.heap.size, 0, none⟩ = some (.int .i64 (rc : Int)) ∧ w'.cell? ⟨w2.heap.size, 1, none⟩ = some (.int .i64 rl) ∧ w'.cell? ⟨w2.heap.size, 2, none⟩ = some (.int .i64 rk)) (by kernel_rfl) ?_
    change wpAnyH _ _ _ _ _ _ _ _ w3.drew
    have HV3 : Hid (Vn w3.drew (w.heap.size + 1) 29 #[.int .i64 0, .int .i64 0, .int .i64 0]) := HV3
    have HG3 : Hid (Vn w3.drew w2.heap.size 29 #[.int .i64 (rc : Int), .int .i64 rl, .int .i64 rk]) := HG3
    have HB3 : Hid (Below w.heap.size w w3.drew) := jtwo HB3.out (qdd _)
    generalize w3.drew = w4 at *
    have HSw : Hid (w4.cell? ⟨w2.heap.size, 0, none⟩ = some (.int .i64 (rc : Int)) ∧ w4.cell? ⟨w2.heap.size, 1, none⟩ = some (.int .i64 rl) ∧ w4.cell? ⟨w2.heap.size, 2, none⟩ = some (.int .i64 rk)) := ⟨HG3.out.cell 0 _ rfl, HG3.out.cell 1 _ rfl, HG3.out.cell 2 _ rfl⟩
    have hneq : (some w2.heap.size : Option Nat) ≠ some (w.heap.size + 1) := by have := HW2.out.size; simp; omega
    refine wtkq 0 ?vs0_1 rfl (by kernel_rfl) (fun _ _ _ h => h) (by rfl) ?ys0_1 HSw.out ?zs0_1
    case ys0_1 => (intro w hSw; (try dsimp only at hSw); (try obtain ⟨s0, s1, s2⟩ := hSw); go_simp; try with_reducible rfl)
    try simp only [nz1, nz3, Act.put, nz4, nz5, nz6]
    refine wtkq 1 ?vs1_2 rfl (by kernel_rfl) (fun _ _ _ h => h) (by rfl) ?ys1_2 HSw.out ?zs1_2
    case ys1_2 => (intro w hSw; (try dsimp only at hSw); (try obtain ⟨s0, s1, s2⟩ := hSw); go_simp; try with_reducible rfl)
    try simp only [nz1, nz2, nz3, Act.put, nz4, nz5, nz6]
    refine wpAnyH_ready (rs := [2]) (by kernel_rfl) (by simp) ?_
    refine AllReadyH.cons rfl (fun K hK => ?_) AllReadyH.nil
    refine qbu 29 _ _ rfl (w.heap.size + 1) _ #[.int .i64 (rc : Int), .int .i64 rl, .int .i64 rk] rfl rfl HV3.out sizeFau rfl (all3 rfl rfl rfl) ?_
    intro w8 HV8 hg8
    have HG8 := qa0 (HG3.out.kept12 hg8.out hneq)
    refine hK.out _ _ ⟨HG8.out.cell 0 _ rfl, HG8.out.cell 1 _ rfl, HG8.out.cell 2 _ rfl⟩ (fun _ => ?_)
    clear hK K
    try simp only [nz1, nz2, nz3, Act.put]
    refine wpAnyH_done (by kernel_rfl) ?_ _
    go_wp2
    have d0 := HV8.out.cell 0 _ rfl
    have d1 := HV8.out.cell 1 _ rfl
    have d2 := HV8.out.cell 2 _ rfl
    refine bodyPost_ret (v := .tuple #[.int .i64 0, .agg #[.int .i64 (rc : Int), .int .i64 rl, .int .i64 rk]]) (by simp [results, Tryd.results24, go_sem, d0, d1, d2]) rfl ?_
    exact ⟨rfl, HB3.out.trans (jbelow hg8.out HB3.out.size (fun g e => by cases e; omega))⟩
  ·obtain rfl : i = len := by omega
   have e0 := HX.out.cell 0 _ rfl
   have f0 := HA.out.cell 0 _ rfl
   have f1 := HA.out.cell 1 _ rfl
   have HV0 := HF0.out Hf.out
   have HWk : Hid (∀ w' : World, Calls Tryd.prog 21 #[.int .u8 (k : Int), .int .i64 (xprt R i 0), .int .i64 (xprt R i 1)] w' fun e w'' => e = .returned (.tuple #[.int .i64 (wrv k (xprt R i 0) (xprt R i 1)), .int .i64 (wre k (xprt R i 0) (xprt R i 1) : Nat)]) ∧ Below w'.heap.size w' w'') := fun w' => qc9 w' k _ _ hk256
   unfold xfin at HV0
   have HV0 : V = if wre k (xprt R i 0) (xprt R i 1) = 0 then ⟨wrv k (xprt R i 0) (xprt R i 1), 0, 0, 0⟩ else ⟨0, wre k (xprt R i 0) (xprt R i 1), ln, cl⟩ := HV0
   have hsz1 := HV.out.lt
   generalize wre k (xprt R i 0) (xprt R i 1) = we at *
   generalize wrv k (xprt R i 0) (xprt R i 1) = wv at *
   generalize xprt R i 0 = x0 at *
   generalize xprt R i 1 = x1 at *
   clear HA
   have M3 : True := trivial
   by_cases hw0 : we = 0
   ·subst hw0
    rw [if_pos rfl] at HV0
    subst HV0
    clear HFa
    go_wp2_with (first
     | (go_at_call 21; refine (HWk.out _).mono ?_; rintro e w5 ⟨rfl, hb5⟩; have HB5 := qa0 (jtwo HB.out hb5); have HV5 := qa0 (HV.out.later hb5); clear hb5)
     | (refine qa1 rfl 29 _ _ rfl (w.heap.size + 1) _ #[.int .i64 0, .int .i64 0, .int .i64 0] rfl rfl HV5.out sizeFau rfl (all3 rfl rfl rfl) ?_; intro w8 HV8 hg8))
    have d0 := HV8.out.cell 0 _ rfl
    have d1 := HV8.out.cell 1 _ rfl
    have d2 := HV8.out.cell 2 _ rfl
    refine bodyPost_ret (v := .tuple #[.int .i64 wv, .agg #[.int .i64 0, .int .i64 0, .int .i64 0]]) (by simp [results, Tryd.results24, go_sem, d0, d1, d2]) rfl ?_
    exact ⟨rfl, HB5.out.trans (jbelow hg8.out HB5.out.size (fun g e => by cases e; omega))⟩
   ·have qw : ((we : Int) == 0) = false := by simp; omega
    have qw2 : ((we : Int) != 0) = true := by simp; omega
    rw [if_neg hw0] at HV0
    subst HV0
    have HFe := qa0 (fun (w' : World) (hb : Below w.heap.size w w') => HFa.out w' we hb)
    clear HFa
    go_wp2_with (first
     | (go_at_call 21; refine (HWk.out _).mono ?_; rintro e w5 ⟨rfl, hb5⟩; have HB5 := qa0 (jtwo HB.out hb5); have HV5 := qa0 (HV.out.later hb5); have HX5 := qa0 (HX.out.later hb5); have y0 := HX5.out.cell 0 _ rfl; have y1 := HX5.out.cell 1 _ rfl; have y2 := HX5.out.cell 2 _ rfl; have y3 := HX5.out.cell 3 _ rfl; have y4 := HX5.out.cell 4 _ rfl; have y5 := HX5.out.cell 5 _ rfl; clear hb5)
     | (go_at_call 42; refine (HFe.out _ HB5.out).mono ?_; rintro e w6 ⟨rfl, hb6⟩; have HB6 := qa0 (jtwo HB5.out hb6); have HV6 := qa0 (HV5.out.later hb6); clear hb6)
     | (refine qa1 rfl 29 _ _ rfl (w.heap.size + 1) _ #[.int .i64 (we : Int), .int .i64 ln, .int .i64 cl] rfl rfl HV6.out sizeFau rfl (all3 rfl rfl rfl) ?_; intro w8 HV8 hg8))
    have d0 := HV8.out.cell 0 _ rfl
    have d1 := HV8.out.cell 1 _ rfl
    have d2 := HV8.out.cell 2 _ rfl
    refine bodyPost_ret (v := .tuple #[.int .i64 0, .agg #[.int .i64 (we : Int), .int .i64 ln, .int .i64 cl]]) (by simp [results, Tryd.results24, go_sem, d0, d1, d2]) rfl ?_
    exact ⟨rfl, HB6.out.trans (jbelow hg8.out HB6.out.size (fun g e => by cases e; omega))⟩
theorem qe2 : ∀ d, WorthC d := by
 intro d
 induction d with
 | zero => intro w T v b m E hX hM; exact absurd hM (fun h => h.no)
 | succ d ih =>
  intro w T v b m E hX hM hm
  by_cases h1 : (T []).k = 1
  ·rw [xval1 h1]
   obtain ⟨⟨a, cap, rfl, _⟩, hok⟩ := hX
   exact worth_1 w _ _ cap _ _ _ _ a b h1
  ·by_cases h2 : (T []).k = 2
   ·cases hE : E (T []).nm with
    | some x =>
     rw [xval2 h2 hE]
     obtain ⟨⟨a, cap, rfl, _⟩, hok⟩ := hX
     exact worth_2 w _ _ cap _ _ _ x _ a b m E h2 hok.nm47 hm hE
    | none =>
     rw [xval2n h2 hE]
     have HF := fun (w' : World) (hb : Below w.heap.size w w') => qbe w' T v 121 (hX.later hb)
     obtain ⟨⟨a, cap, rfl, _⟩, hok⟩ := hX
     exact worth_2n w _ _ cap _ _ _ _ a b m E h2 hok.nm47 hm hE HF
   ·exact worth_3 d ih w T v b m E hX hM hm h1 h2
end Go.Proofs.YtgmndjbicandfaaDoor
