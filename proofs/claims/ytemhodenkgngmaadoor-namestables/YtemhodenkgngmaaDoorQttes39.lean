/-
  Stage 12: Value, of the reference.
-/
import Derived.Test.YtemhodenkgngmaaDoorQttes00
import Derived.Test.YtemhodenkgngmaaDoorQttes21
import Derived.Test.YtemhodenkgngmaaDoorQttes38
set_option maxRecDepth 100000
set_option maxHeartbeats 16000000
namespace Go.Proofs.YtemhodenkgngmaaDoor
open Go.RowKit Go.Maps
theorem mx_len0 {d : Nat} {T : Xt} (h : MX (d + 1) T) (hk : (T []).k = 1 ∨ (T []).k = 2) : (T []).len = 0 := by
 obtain ⟨left, _, hl⟩ := h
 have hl : 0 ≤ (if left - 1 < 0 then -1 else match xwant (T []) with | none => -1 | some m => xks (xleft d) (kid T) m (left - 1)) := hl
 split at hl
 ·omega
 ·split at hl
  ·omega
  ·rename_i hw
   unfold xwant at hw
   split at hw
   ·split at hw
    ·rename_i g; exact g.2.2.2
    ·cases hw
   ·split at hw
    ·split at hw
     ·rename_i g; exact g.2.2
     ·cases hw
    ·omega
/-- What Value promises, d deep. -/
def ValueC (d : Nat) : Prop := ∀ (w : World) (T : Xt) (v : Value) (ea : Option Addr) (en ec : Nat) (G : Nat → Cn), XV w v T → MX d T → EL w ea en G → en ≤ 140737488351232 → mayE G en = true → Calls Tryd.prog 25 #[v, .slice ea en ec] w fun e w' => e = .returned (.tuple #[.int .i64 (xval (elk G en) d T).v, .agg #[.int .i64 ((xval (elk G en) d T).c : Int), .int .i64 (xval (elk G en) d T).ln, .int .i64 (xval (elk G en) d T).cl]]) ∧ Below w.heap.size w w'
theorem value_s (d : Nat) (IH : ValueC d) : ValueC (d + 1) := by
 intro w T v ea en ec G hX hM hE hen hmay
 obtain ⟨⟨a, cap, rfl, hXl⟩, hok⟩ := hX
 have hlen := hM.len
 have hk8 := qg2 hM
 have hl0 := mx_len0 hM
 obtain ⟨R, HR⟩ : ∃ R : Nat → Vt, Hid (R = fun i => xval (elk G en) d (kid T i)) := ⟨_, rfl⟩
 have HF1 : Hid ((T []).k ≠ 1 → (T []).k ≠ 2 → ∀ r, xflt R (T []).len = some r → xval (elk G en) (d + 1) T = ⟨0, r.c, r.ln, r.cl⟩) := fun h1 h2 r hr => xval3 h1 h2 (by rw [HR.out] at hr; exact hr)
 have HF0 : Hid ((T []).k ≠ 1 → (T []).k ≠ 2 → xflt R (T []).len = none → xval (elk G en) (d + 1) T = xfin (T []) (xprt R (T []).len 0) (xprt R (T []).len 1)) := fun h1 h2 hr => by
  rw [HR.out] at hr ⊢
  exact xval4 h1 h2 hr
 have HK1 : Hid ((T []).k = 1 → xval (elk G en) (d + 1) T = ⟨(T []).n, 0, 0, 0⟩) := fun h => xval1 h
 have HK2 : Hid ((T []).k = 2 → ∀ j, j < en → (G j).nm = (T []).nm → xval (elk G en) (d + 1) T = ⟨(G j).n, 0, 0, 0⟩) := fun h j hj hs => xval2 h (elk_some hmay hj hs)
 have HK2n : Hid ((T []).k = 2 → (∀ j, j < en → (G j).nm ≠ (T []).nm) → xval (elk G en) (d + 1) T = ⟨0, 121, (T []).ln, (T []).cl⟩) := fun h hs => qeg h (qd0.2 hs)
 have HIH : Hid (∀ i, i < (T []).len → ∀ (w' : World) (v' : Value), XV w' v' (kid T i) → Below w.heap.size w w' → Calls Tryd.prog 25 #[v', .slice ea en ec] w' fun e w'' => e = .returned (.tuple #[.int .i64 (R i).v, .agg #[.int .i64 ((R i).c : Int), .int .i64 (R i).ln, .int .i64 (R i).cl]]) ∧ Below w'.heap.size w' w'') := fun i hi w' v' hv' hb => by
  rw [HR.out]
  exact IH w' (kid T i) v' ea en ec G hv' (hM.kid hi) (hE.later hb) hen hmay
 have HEl := qa0 hE
 have HXl := qa0 hXl
 clear hXl hM hE IH HR hmay
 generalize xval (elk G en) (d + 1) T = V at *
 generalize T [] = l at *
 obtain ⟨k, n, nm, len, ln, cl⟩ := l
 have hlen : len ≤ 2 := hlen
 have hl0 : (k = 1 ∨ k = 2) → len = 0 := hl0
 have hk8 : 1 ≤ k ∧ k ≤ 8 := hk8
 have hk256 : k < 256 := by omega
 have HXl : Hid (∀ d, XL d w a len (kid T)) := HXl
 have HIH : Hid (∀ i, i < len → ∀ (w' : World) (v' : Value), XV w' v' (kid T i) → Below w.heap.size w w' → Calls Tryd.prog 25 #[v', .slice ea en ec] w' fun e w'' => e = .returned (.tuple #[.int .i64 (R i).v, .agg #[.int .i64 ((R i).c : Int), .int .i64 (R i).ln, .int .i64 (R i).cl]]) ∧ Below w'.heap.size w' w'') := HIH
 have HF1 : Hid (k ≠ 1 → k ≠ 2 → ∀ r, xflt R len = some r → V = ⟨0, r.c, r.ln, r.cl⟩) := HF1
 have HF0 : Hid (k ≠ 1 → k ≠ 2 → xflt R len = none → V = xfin ⟨k, n, nm, len, ln, cl⟩ (xprt R len 0) (xprt R len 1)) := HF0
 have HK1 : Hid (k = 1 → V = ⟨n, 0, 0, 0⟩) := HK1
 have HK2 : Hid (k = 2 → ∀ j, j < en → (G j).nm = nm → V = ⟨(G j).n, 0, 0, 0⟩) := HK2
 have HK2n : Hid (k = 2 → (∀ j, j < en → (G j).nm ≠ nm) → V = ⟨0, 121, ln, cl⟩) := HK2n
 clear hok
 show Calls Tryd.prog 25 #[.agg #[.int .u8 (k : Int), .int .i64 n, .string nm, .slice a len cap, .int .i64 ln, .int .i64 cl], .slice ea en ec] w _
 have HX := qa0 (Vn.new w 53 #[.int .u8 (k : Int), .int .i64 n, .string nm, .slice a len cap, .int .i64 ln, .int .i64 cl])
 have HX2 := qa0 (HX.out.later (jlow _ (.cells #[.int .i64 0, .int .i64 0, .int .i64 0] 26)))
 have HVt := qa0 (Vn.new (w.alloc (.cells #[.int .u8 (k : Int), .int .i64 n, .string nm, .slice a len cap, .int .i64 ln, .int .i64 cl] 53)) 26 #[.int .i64 0, .int .i64 0, .int .i64 0])
 have HB := qa0 (jtwo (jlow w (.cells #[.int .u8 (k : Int), .int .i64 n, .string nm, .slice a len cap, .int .i64 ln, .int .i64 cl] 53)) (jlow _ (.cells #[.int .i64 0, .int .i64 0, .int .i64 0] 26)))
 rw [qaa] at HVt
 have c0 := HX2.out.cell 0 _ rfl
 have c1 := HX2.out.cell 1 _ rfl
 have c2 := HX2.out.cell 2 _ rfl
 have c3 := HX2.out.cell 3 _ rfl
 have c4 := HX2.out.cell 4 _ rfl
 have c5 := HX2.out.cell 5 _ rfl
 have HX3 := qa0 (HX2.out.later (jlow _ (.cells #[.int .i64 0, .int .i64 0] 91)))
 have HVt3 := qa0 (HVt.out.later (jlow _ (.cells #[.int .i64 0, .int .i64 0] 91)))
 have HA3 := qa0 (Vn.new ((w.alloc (.cells #[.int .u8 (k : Int), .int .i64 n, .string nm, .slice a len cap, .int .i64 ln, .int .i64 cl] 53)).alloc (.cells #[.int .i64 0, .int .i64 0, .int .i64 0] 26)) 91 #[.int .i64 0, .int .i64 0])
 rw [qaa, qaa] at HA3
 have HB3 := qa0 (jtwo HB.out (jlow _ (.cells #[.int .i64 0, .int .i64 0] 91)))
 clear HX HX2 HVt c0 c1 c2 c3 c4 c5 HB
 go_enter Tryd.func25, Tryd.ntmps25
 go_wp2
 go_loopw [7] (fun vi wr => ∃ (i : Nat), i ≤ len ∧ vi = .int .i64 (i : Int) ∧ Hid (xflt R i = none) ∧ Hid (Vn wr w.heap.size 53 #[.int .u8 (k : Int), .int .i64 n, .string nm, .slice a len cap, .int .i64 ln, .int .i64 cl]) ∧ Hid (Vn wr (w.heap.size + 1) 26 #[.int .i64 0, .int .i64 0, .int .i64 0]) ∧ Hid (Vn wr (w.heap.size + 2) 91 #[.int .i64 (xprt R i 0), .int .i64 (xprt R i 1)]) ∧ Below w.heap.size w wr) (fun vi _ => len - (intOf vi).toNat)
 case atStart => exact ⟨0, by omega, rfl, rfl, HX3, HVt3, HA3, HB3.out⟩
 case round =>
  obtain ⟨i, hi, rfl, Hf, HX, HV, HA, hb⟩ := hrel
  have HB := qa0 hb
  clear HX3 HVt3 HA3 HB3
  have g0 := HX.out.cell 0 _ rfl
  have g1 := HX.out.cell 1 _ rfl
  have g2 := HX.out.cell 2 _ rfl
  have g3 := HX.out.cell 3 _ rfl
  have hsz := HX.out.lt
  have hsz1 := HV.out.lt
  have hsz2 := HA.out.lt
  by_cases hlt : i < len
  ·have p0 : (0 : Int) ≤ (i : Int) := by omega
   have p1 : (i : Int) < (len : Int) := by omega
   have p2 : (i : Int) < 2 := by omega
   have h1 : k ≠ 1 := fun e => by have := hl0 (.inl e); omega
   have h2 : k ≠ 2 := fun e => by have := hl0 (.inr e); omega
   obtain ⟨bk, okk, kk, nl, nn, ll, cc, nx, ka, kc, rfl, hkid, hcl⟩ := XL.at_ HXl.out (i := i) hlt
   obtain ⟨k0, k1, k2, k3, k4, k5⟩ := hcl _ hb
   have HC : Hid (∀ w' : World, Below w.heap.size w w' → Calls Tryd.prog 25 #[.agg #[.int .u8 (kk : Int), .int .i64 nn, .string nx, .slice ka nl kc, .int .i64 ll, .int .i64 cc], .slice ea en ec] w' fun e w'' => e = .returned (.tuple #[.int .i64 (R i).v, .agg #[.int .i64 ((R i).c : Int), .int .i64 (R i).ln, .int .i64 (R i).cl]]) ∧ Below w'.heap.size w' w'') := fun w' hb => HIH.out i hlt w' _ (hkid.later hb) hb
   have HSt := qa0 (qem R i (R i).v (by omega) rfl)
   have HHit := qa0 (fun hc => HF1.out h1 h2 (R i) (qdf (qef Hf.out hc) len (by omega)))
   have HOn := qa0 (fun hc => qfx (R := R) (i := i) Hf.out hc)
   clear hcl hkid h1 h2 hl0 HK1 HK2 HK2n hb
   generalize R i = r at *
   obtain ⟨rv, rc, rl, rk⟩ := r
   have HCc : Hid (∀ w' : World, Below w.heap.size w w' → Calls Tryd.prog 25 #[.agg #[.int .u8 (kk : Int), .int .i64 nn, .string nx, .slice ka nl kc, .int .i64 ll, .int .i64 cc], .slice ea en ec] w' fun e w'' => e = .returned (.tuple #[.int .i64 rv, .agg #[.int .i64 (rc : Int), .int .i64 rl, .int .i64 rk]]) ∧ Below w'.heap.size w' w'') := HC
   have HHit2 : Hid (rc ≠ 0 → V = ⟨0, rc, rl, rk⟩) := HHit
   have HOn2 : Hid (rc = 0 → xflt R (i + 1) = none) := HOn
   have HSt2 : Hid ((#[.int .i64 (xprt R i 0), .int .i64 (xprt R i 1)] : Array Value).setIfInBounds i (.int .i64 rv) = #[.int .i64 (xprt R (i + 1) 0), .int .i64 (xprt R (i + 1) 1)]) := HSt
   clear HC HHit HOn HSt
   have M2 : True := trivial
   by_cases hc : rc = 0
   ·subst hc
    have HOn3 := qa0 (HOn2.out rfl)
    clear HHit2 HOn2
    go_wp2_with (first
     | (clear M2; refine qa1 rfl 26 _ _ rfl w2.heap.size _ #[.int .i64 _, .int .i64 _, .int .i64 _] rfl rfl (Vn.new w2 _ _) sizeFau rfl (all3 rfl rfl rfl) ?_; intro w3 HG3 hg3; have hb3 : Below w2.heap.size w2 w3 := (jlow _ _).trans (jbelow hg3.out (jlow _ _).size (fun g e => by cases e; exact Nat.le_refl _)); have HW3 := qa0 (jtwo HW2.out hb3); have HB3 := qa0 (jtwo HB2.out hb3); have o0 := HG3.out.cell 0 _ rfl; have o1 := HG3.out.cell 1 _ rfl; have o2 := HG3.out.cell 2 _ rfl; clear hg3 hb3)
     | (go_at_call 25; refine (HCc.out _ HB.out).mono ?_; rintro e w2 ⟨rfl, hb2⟩; have HB2 := qa0 (jtwo HB.out hb2); have HW2 := qa0 hb2; clear hb2)
     | (refine wpList_store_one rfl 3 _ _ rfl (w.heap.size + 2) i 91 _ (.int .i64 rv) rfl rfl qel rfl rfl (HA.out.later HW3.out) (by show i < 2; omega) ?_; intro w4 HA4 hg4))
    have HX4 := qa0 ((HX.out.later HW3.out).kept12 hg4.out (by simp))
    have HV4 := qa0 ((HV.out.later HW3.out).kept12 hg4.out (by simp))
    have hA4 := HA4.out
    rw [HSt2.out] at hA4
    exact ⟨⟨i + 1, by omega, by go_num, HOn3, HX4, HV4, hA4, HB3.out.trans (jbelow hg4.out HB3.out.size (fun g e => by cases e; omega))⟩, by simp [intOf]; omega⟩
   ·have qc : ((rc : Int) == 0) = false := by simp; omega
    have qc2 : ((rc : Int) != 0) = true := by simp; omega
    have hV := HHit2.out hc
    subst hV
    clear HOn2 HHit2 HSt2
    go_wp2_with (first
     | (clear M2; refine qa1 rfl 26 _ _ rfl w2.heap.size _ #[.int .i64 _, .int .i64 _, .int .i64 _] rfl rfl (Vn.new w2 _ _) sizeFau rfl (all3 rfl rfl rfl) ?_; intro w3 HG3 hg3; have hb3 : Below w2.heap.size w2 w3 := (jlow _ _).trans (jbelow hg3.out (jlow _ _).size (fun g e => by cases e; exact Nat.le_refl _)); have HW3 := qa0 (jtwo HW2.out hb3); have HB3 := qa0 (jtwo HB2.out hb3); have o0 := HG3.out.cell 0 _ rfl; have o1 := HG3.out.cell 1 _ rfl; have o2 := HG3.out.cell 2 _ rfl; clear hg3 hb3)
     | (go_at_call 25; refine (HCc.out _ HB.out).mono ?_; rintro e w2 ⟨rfl, hb2⟩; have HB2 := qa0 (jtwo HB.out hb2); have HW2 := qa0 hb2; clear hb2))
    have HV3 := qa0 (HV.out.later HW3.out)
    refine wp_region_held (S := fun w' => w'.cell? ⟨w2.heap.size, 0, none⟩ = some (.int .i64 (rc : Int)) ∧ w'.cell? ⟨w2.heap.size, 1, none⟩ = some (.int .i64 rl) ∧ w'.cell? ⟨w2.heap.size, 2, none⟩ = some (.int .i64 rk)) (by kernel_rfl) ?_
    change wpAnyH _ _ _ _ _ _ _ _ w3.drew
    have HV3d : Hid (Vn w3.drew (w.heap.size + 1) 26 #[.int .i64 0, .int .i64 0, .int .i64 0]) := HV3
    have HG3d : Hid (Vn w3.drew w2.heap.size 26 #[.int .i64 (rc : Int), .int .i64 rl, .int .i64 rk]) := HG3
    have HB3d : Hid (Below w.heap.size w w3.drew) := jtwo HB3.out (qb9 _)
    clear HV3 HG3 HB3
    generalize w3.drew = w4 at *
    have HSw : Hid (w4.cell? ⟨w2.heap.size, 0, none⟩ = some (.int .i64 (rc : Int)) ∧ w4.cell? ⟨w2.heap.size, 1, none⟩ = some (.int .i64 rl) ∧ w4.cell? ⟨w2.heap.size, 2, none⟩ = some (.int .i64 rk)) := ⟨HG3d.out.cell 0 _ rfl, HG3d.out.cell 1 _ rfl, HG3d.out.cell 2 _ rfl⟩
    have hneq : (some w2.heap.size : Option Nat) ≠ some (w.heap.size + 1) := by have := HW2.out.size; simp; omega
    refine wtkq 0 ?vs0_8 rfl (by kernel_rfl) (fun _ _ _ h => h) (by rfl) ?ys0_8 HSw.out ?zs0_8
    case ys0_8 => (intro w hSw; (try dsimp only at hSw); (try obtain ⟨s0, s1, s2⟩ := hSw); go_simp; try with_reducible rfl)
    try simp only [nz1, nz3, Act.put, nz4, nz5, nz6]
    refine wtkq 1 ?vs1_9 rfl (by kernel_rfl) (fun _ _ _ h => h) (by rfl) ?ys1_9 HSw.out ?zs1_9
    case ys1_9 => (intro w hSw; (try dsimp only at hSw); (try obtain ⟨s0, s1, s2⟩ := hSw); go_simp; try with_reducible rfl)
    try simp only [nz1, nz2, nz3, Act.put, nz4, nz5, nz6]
    refine wpAnyH_ready (rs := [2]) (by kernel_rfl) (by simp) ?_
    refine AllReadyH.cons rfl (fun K hK => ?_) AllReadyH.nil
    refine qar 26 _ _ rfl (w.heap.size + 1) _ #[.int .i64 (rc : Int), .int .i64 rl, .int .i64 rk] rfl rfl HV3d.out sizeFau rfl (all3 rfl rfl rfl) ?_
    intro w8 HV8 hg8
    have HG8 := qa0 (HG3d.out.kept12 hg8.out hneq)
    refine hK.out _ _ ⟨HG8.out.cell 0 _ rfl, HG8.out.cell 1 _ rfl, HG8.out.cell 2 _ rfl⟩ (fun _ => ?_)
    clear hK K
    try simp only [nz1, nz2, nz3, Act.put]
    refine wpAnyH_done (by kernel_rfl) ?_ _
    go_wp2
    have d0 := HV8.out.cell 0 _ rfl
    have d1 := HV8.out.cell 1 _ rfl
    have d2 := HV8.out.cell 2 _ rfl
    refine bodyPost_ret (v := .tuple #[.int .i64 0, .agg #[.int .i64 (rc : Int), .int .i64 rl, .int .i64 rk]]) (by simp [results, Tryd.results25, go_sem, d0, d1, d2]) rfl ?_
    exact ⟨rfl, HB3d.out.trans (jbelow hg8.out HB3d.out.size (fun g e => by cases e; omega))⟩
  ·obtain rfl : len = i := by omega
   have f0 := HA.out.cell 0 _ rfl
   have f1 := HA.out.cell 1 _ rfl
   clear hb HXl HIH HF1 hl0
   by_cases h1 : k = 1
   ·have hV := HK1.out h1
    subst hV
    subst h1
    clear HK1 HK2 HK2n HF0 HA f0 f1
    go_wp2_with (refine qa1 rfl 26 _ _ rfl (w.heap.size + 1) _ #[.int .i64 0, .int .i64 0, .int .i64 0] rfl rfl HV.out sizeFau rfl (all3 rfl rfl rfl) ?_; intro w8 HV8 hg8)
    have d0 := HV8.out.cell 0 _ rfl
    have d1 := HV8.out.cell 1 _ rfl
    have d2 := HV8.out.cell 2 _ rfl
    refine bodyPost_ret (v := .tuple #[.int .i64 n, .agg #[.int .i64 0, .int .i64 0, .int .i64 0]]) (by simp [results, Tryd.results25, go_sem, d0, d1, d2]) rfl ?_
    exact ⟨rfl, HB.out.trans (jbelow hg8.out HB.out.size (fun g e => by cases e; omega))⟩
   have q1 : ((k : Int) == 1) = false := by simp; omega
   by_cases h2 : k = 2
   ·have HK2b := qa0 (HK2.out h2)
    have HK2c := qa0 (HK2n.out h2)
    subst h2
    clear HK1 HK2 HK2n HF0 HA f0 f1 h1
    go_wp2
    go_loopw [12] (fun vj ws => ∃ (j : Nat), j ≤ en ∧ vj = .int .i64 (j : Int) ∧ Hid (∀ j', j' < j → (G j').nm ≠ nm) ∧ Hid (Vn ws w.heap.size 53 #[.int .u8 ((2 : Nat) : Int), .int .i64 n, .string nm, .slice a len cap, .int .i64 ln, .int .i64 cl]) ∧ Hid (Vn ws (w.heap.size + 1) 26 #[.int .i64 0, .int .i64 0, .int .i64 0]) ∧ Below w.heap.size w ws) (fun vj _ => en - (intOf vj).toNat)
    case atStart => exact ⟨0, by omega, rfl, fun j' h' => by omega, HX, HV, HB.out⟩
    case round =>
     clear HX HV HB g0 g1 g2 g3 hsz hsz1 hsz2
     obtain ⟨j, hj, rfl, HD, HX, HV, hb2⟩ := hrel
     have HB2 := qa0 hb2
     by_cases hlt2 : j < en
     ·have p2 : (0 : Int) ≤ (j : Int) := by omega
      have p3 : (j : Int) < (en : Int) := by omega
      obtain ⟨_, b, o, rfl, m0, m1⟩ := (HEl.out.later hb2) j hlt2
      have y2 := HX.out.cell 2 _ rfl
      by_cases e : (G j).nm = nm
      ·have hV := HK2b.out j hlt2 e
       subst hV
       have q : ((G j).nm.toList == nm.toList) = true := qca.2 e
       clear HD HK2b HK2c hb2 e
       generalize (G j).nm = s2 at *
       go_wp2
       go_quiet (fail)
       have HVq := qa0 (fun q => HV.out.later (below_drewN (Below.refl _ _) q))
       have HBq := qa0 (fun q => below_drewN HB2.out q)
       go_wp2_with (refine qa1 rfl 26 _ _ rfl (w.heap.size + 1) _ #[.int .i64 0, .int .i64 0, .int .i64 0] rfl rfl (HVq.out _) sizeFau rfl (all3 rfl rfl rfl) ?_; intro w8 HV8 hg8)
       have d0 := HV8.out.cell 0 _ rfl
       have d1 := HV8.out.cell 1 _ rfl
       have d2 := HV8.out.cell 2 _ rfl
       refine bodyPost_ret (v := .tuple #[.int .i64 (G j).n, .agg #[.int .i64 0, .int .i64 0, .int .i64 0]]) (by simp [results, Tryd.results25, go_sem, d0, d1, d2]) rfl ?_
       exact ⟨rfl, (HBq.out _).trans (jbelow hg8.out (HBq.out _).size (fun g e => by cases e; omega))⟩
      ·have q : ((G j).nm.toList == nm.toList) = false := qbt e
       have HD2 : Hid (∀ j', j' < j + 1 → (G j').nm ≠ nm) := fun j' h' => by
        by_cases e2 : j' = j
        ·subst e2; exact e
        ·exact HD.out j' (by omega)
       obtain ⟨s2, Hs2⟩ : ∃ s, Hid ((G j).nm = s) := ⟨_, rfl⟩
       rw [Hs2.out] at q m0
       clear HD HK2b HK2c hb2 e Hs2
       go_wp2
       go_quiet (fail)
       have HVq := qa0 (fun q => HV.out.later (below_drewN (Below.refl _ _) q))
       have HXq := qa0 (fun q => HX.out.later (below_drewN (Below.refl _ _) q))
       have HBq := qa0 (fun q => below_drewN HB2.out q)
       go_wp2
       exact ⟨⟨j + 1, by omega, by go_num, HD2, HXq.out _, HVq.out _, HBq.out _⟩, by simp [intOf]; omega⟩
     ·obtain rfl : j = en := by omega
      have hV := HK2c.out HD.out
      subst hV
      clear HD HK2b HK2c hb2
      go_wp2
      refine wp_region_held (S := fun w' => w'.cell? ⟨w.heap.size, 4, none⟩ = some (.int .i64 ln) ∧ w'.cell? ⟨w.heap.size, 5, none⟩ = some (.int .i64 cl)) (by kernel_rfl) ?_
      change wpAnyH _ _ _ _ _ _ _ _ (World.drew _)
      have HVd : Hid (Vn (World.drew wr) (w.heap.size + 1) 26 #[.int .i64 0, .int .i64 0, .int .i64 0]) := HV
      have HXd : Hid (Vn (World.drew wr) w.heap.size 53 #[.int .u8 ((2 : Nat) : Int), .int .i64 n, .string nm, .slice a len cap, .int .i64 ln, .int .i64 cl]) := HX
      have HBd : Hid (Below w.heap.size w (World.drew wr)) := jtwo HB2.out (qb9 _)
      generalize World.drew wr = wd at *
      have HSw : Hid (wd.cell? ⟨w.heap.size, 4, none⟩ = some (.int .i64 ln) ∧ wd.cell? ⟨w.heap.size, 5, none⟩ = some (.int .i64 cl)) := ⟨HXd.out.cell 4 _ rfl, HXd.out.cell 5 _ rfl⟩
      refine wtkq 0 ?vs0_1 rfl (by kernel_rfl) (fun _ _ _ h => h) (by rfl) ?ys0_1 HSw.out ?zs0_1
      case ys0_1 => (intro w hSw; (try dsimp only at hSw); (try obtain ⟨s0, s1⟩ := hSw); go_simp; try with_reducible rfl)
      try simp only [nz1, nz3, Act.put, nz4, nz5, nz6]
      refine wtkq 1 ?vs1_2 rfl (by kernel_rfl) (fun _ _ _ h => h) (by rfl) ?ys1_2 HSw.out ?zs1_2
      case ys1_2 => (intro w hSw; (try dsimp only at hSw); (try obtain ⟨s0, s1⟩ := hSw); go_simp; try with_reducible rfl)
      try simp only [nz1, nz2, nz3, Act.put, nz4, nz5, nz6]
      refine wtkq 2 ?vs2_3 rfl (by kernel_rfl) (fun _ _ _ h => h) (by rfl) ?ys2_3 HSw.out ?zs2_3
      case ys2_3 => (intro w hSw; (try dsimp only at hSw); (try obtain ⟨s0, s1⟩ := hSw); go_simp; try with_reducible rfl)
      try simp only [nz1, nz2, nz3, Act.put, nz4, nz5, nz6]
      refine wtkq 3 ?vs3_4 rfl (by kernel_rfl) (fun _ _ _ h => h) (by rfl) ?ys3_4 HSw.out ?zs3_4
      case ys3_4 => (intro w hSw; (try dsimp only at hSw); (try obtain ⟨s0, s1⟩ := hSw); go_simp; try with_reducible rfl)
      try simp only [nz1, nz2, nz3, Act.put, nz4, nz5, nz6]
      refine wtkq 4 ?vs4_5 rfl (by kernel_rfl) (fun _ _ _ h => h) (by rfl) ?ys4_5 HSw.out ?zs4_5
      case ys4_5 => (intro w hSw; (try dsimp only at hSw); (try obtain ⟨s0, s1⟩ := hSw); go_simp; try with_reducible rfl)
      try simp only [nz1, nz2, nz3, Act.put, nz4, nz5, nz6]
      refine wtkq 5 ?vs5_6 rfl (by kernel_rfl) (fun _ _ _ h => h) (by rfl) ?ys5_6 HSw.out ?zs5_6
      case ys5_6 => (intro w hSw; (try dsimp only at hSw); (try obtain ⟨s0, s1⟩ := hSw); go_simp; try with_reducible rfl)
      try simp only [nz1, nz2, nz3, Act.put, nz4, nz5, nz6]
      refine wtkq 6 ?vs6_7 rfl (by kernel_rfl) (fun _ _ _ h => h) (by rfl) ?ys6_7 HSw.out ?zs6_7
      case ys6_7 => (intro w hSw; (try dsimp only at hSw); (try obtain ⟨s0, s1⟩ := hSw); go_simp; try with_reducible rfl)
      try simp only [nz1, nz2, nz3, Act.put, nz4, nz5, nz6]
      refine wpAnyH_ready (rs := [7]) (by kernel_rfl) (by simp) ?_
      refine AllReadyH.cons rfl (fun K hK => ?_) AllReadyH.nil
      refine qar 26 _ _ rfl (w.heap.size + 1) _ #[.int .i64 121, .int .i64 ln, .int .i64 cl] rfl rfl HVd.out sizeFau rfl (all3 rfl rfl rfl) ?_
      intro w8 HV8 hg8
      have HX8 := qa0 (HXd.out.kept12 hg8.out (by simp))
      refine hK.out _ _ ⟨HX8.out.cell 4 _ rfl, HX8.out.cell 5 _ rfl⟩ (fun _ => ?_)
      clear hK K
      try simp only [nz1, nz2, nz3, Act.put]
      refine wpAnyH_done (by kernel_rfl) ?_ _
      go_wp2
      have d0 := HV8.out.cell 0 _ rfl
      have d1 := HV8.out.cell 1 _ rfl
      have d2 := HV8.out.cell 2 _ rfl
      refine bodyPost_ret (v := .tuple #[.int .i64 0, .agg #[.int .i64 121, .int .i64 ln, .int .i64 cl]]) (by simp [results, Tryd.results25, go_sem, d0, d1, d2]) rfl ?_
      exact ⟨rfl, HBd.out.trans (jbelow hg8.out HBd.out.size (fun g e => by cases e; omega))⟩
   ·have HV0 := HF0.out h1 h2 Hf.out
    have q2 : ((k : Int) == 2) = false := by simp; omega
    have HWk : Hid (∀ w' : World, Calls Tryd.prog 34 #[.int .u8 (k : Int), .int .i64 (xprt R len 0), .int .i64 (xprt R len 1)] w' fun e w'' => e = .returned (.tuple #[.int .i64 (wrv k (xprt R len 0) (xprt R len 1)), .int .i64 (wre k (xprt R len 0) (xprt R len 1) : Nat)]) ∧ w' = w'') := fun w' => qgl w' k _ _ hk256
    unfold xfin at HV0
    have HV0 : V = if wre k (xprt R len 0) (xprt R len 1) = 0 then ⟨wrv k (xprt R len 0) (xprt R len 1), 0, 0, 0⟩ else ⟨0, wre k (xprt R len 0) (xprt R len 1), ln, cl⟩ := HV0
    clear HK1 HK2 HK2n HF0 h1 h2 Hf
    generalize wre k (xprt R len 0) (xprt R len 1) = we at *
    generalize wrv k (xprt R len 0) (xprt R len 1) = wv at *
    generalize xprt R len 0 = x0 at *
    generalize xprt R len 1 = x1 at *
    clear HA
    by_cases hw0 : we = 0
    ·subst hw0
     rw [if_pos rfl] at HV0
     subst HV0
     go_wp2_with (first
      | (go_at_call 34; refine (HWk.out _).mono ?_; rintro e w5 ⟨rfl, rfl⟩)
      | (refine qa1 rfl 26 _ _ rfl (w.heap.size + 1) _ #[.int .i64 0, .int .i64 0, .int .i64 0] rfl rfl HV.out sizeFau rfl (all3 rfl rfl rfl) ?_; intro w8 HV8 hg8))
     have d0 := HV8.out.cell 0 _ rfl
     have d1 := HV8.out.cell 1 _ rfl
     have d2 := HV8.out.cell 2 _ rfl
     refine bodyPost_ret (v := .tuple #[.int .i64 wv, .agg #[.int .i64 0, .int .i64 0, .int .i64 0]]) (by simp [results, Tryd.results25, go_sem, d0, d1, d2]) rfl ?_
     exact ⟨rfl, HB.out.trans (jbelow hg8.out HB.out.size (fun g e => by cases e; omega))⟩
    ·have qw : ((we : Int) == 0) = false := by simp; omega
     have qw2 : ((we : Int) != 0) = true := by simp; omega
     rw [if_neg hw0] at HV0
     subst HV0
     clear hw0
     go_wp2_with (go_at_call 34; refine (HWk.out _).mono ?_; rintro e w5 ⟨rfl, rfl⟩)
     refine wp_region_held (S := fun w' => w'.cell? ⟨w.heap.size, 4, none⟩ = some (.int .i64 ln) ∧ w'.cell? ⟨w.heap.size, 5, none⟩ = some (.int .i64 cl)) (by kernel_rfl) ?_
     change wpAnyH _ _ _ _ _ _ _ _ (World.drew _)
     have HVd : Hid (Vn (World.drew wr) (w.heap.size + 1) 26 #[.int .i64 0, .int .i64 0, .int .i64 0]) := HV
     have HXd : Hid (Vn (World.drew wr) w.heap.size 53 #[.int .u8 (k : Int), .int .i64 n, .string nm, .slice a len cap, .int .i64 ln, .int .i64 cl]) := HX
     have HBd : Hid (Below w.heap.size w (World.drew wr)) := jtwo HB.out (qb9 _)
     generalize World.drew wr = wd at *
     have HSw : Hid (wd.cell? ⟨w.heap.size, 4, none⟩ = some (.int .i64 ln) ∧ wd.cell? ⟨w.heap.size, 5, none⟩ = some (.int .i64 cl)) := ⟨HXd.out.cell 4 _ rfl, HXd.out.cell 5 _ rfl⟩
     refine wtkq 0 ?vs0_10 rfl (by kernel_rfl) (fun _ _ _ h => h) (by rfl) ?ys0_10 HSw.out ?zs0_10
     case ys0_10 => (intro w hSw; (try dsimp only at hSw); (try obtain ⟨s0, s1⟩ := hSw); go_simp; try with_reducible rfl)
     try simp only [nz1, nz3, Act.put, nz4, nz5, nz6]
     refine wtkq 1 ?vs1_11 rfl (by kernel_rfl) (fun _ _ _ h => h) (by rfl) ?ys1_11 HSw.out ?zs1_11
     case ys1_11 => (intro w hSw; (try dsimp only at hSw); (try obtain ⟨s0, s1⟩ := hSw); go_simp; try with_reducible rfl)
     try simp only [nz1, nz2, nz3, Act.put, nz4, nz5, nz6]
     refine wtkq 2 ?vs2_12 rfl (by kernel_rfl) (fun _ _ _ h => h) (by rfl) ?ys2_12 HSw.out ?zs2_12
     case ys2_12 => (intro w hSw; (try dsimp only at hSw); (try obtain ⟨s0, s1⟩ := hSw); go_simp; try with_reducible rfl)
     try simp only [nz1, nz2, nz3, Act.put, nz4, nz5, nz6]
     refine wtkq 3 ?vs3_13 rfl (by kernel_rfl) (fun _ _ _ h => h) (by rfl) ?ys3_13 HSw.out ?zs3_13
     case ys3_13 => (intro w hSw; (try dsimp only at hSw); (try obtain ⟨s0, s1⟩ := hSw); go_simp; try with_reducible rfl)
     try simp only [nz1, nz2, nz3, Act.put, nz4, nz5, nz6]
     refine wtkq 4 ?vs4_14 rfl (by kernel_rfl) (fun _ _ _ h => h) (by rfl) ?ys4_14 HSw.out ?zs4_14
     case ys4_14 => (intro w hSw; (try dsimp only at hSw); (try obtain ⟨s0, s1⟩ := hSw); go_simp; try with_reducible rfl)
     try simp only [nz1, nz2, nz3, Act.put, nz4, nz5, nz6]
     refine wtkq 5 ?vs5_15 rfl (by kernel_rfl) (fun _ _ _ h => h) (by rfl) ?ys5_15 HSw.out ?zs5_15
     case ys5_15 => (intro w hSw; (try dsimp only at hSw); (try obtain ⟨s0, s1⟩ := hSw); go_simp; try with_reducible rfl)
     try simp only [nz1, nz2, nz3, Act.put, nz4, nz5, nz6]
     refine wtkq 6 ?vs6_16 rfl (by kernel_rfl) (fun _ _ _ h => h) (by rfl) ?ys6_16 HSw.out ?zs6_16
     case ys6_16 => (intro w hSw; (try dsimp only at hSw); (try obtain ⟨s0, s1⟩ := hSw); go_simp; try with_reducible rfl)
     try simp only [nz1, nz2, nz3, Act.put, nz4, nz5, nz6]
     refine wpAnyH_ready (rs := [7]) (by kernel_rfl) (by simp) ?_
     refine AllReadyH.cons rfl (fun K hK => ?_) AllReadyH.nil
     refine qar 26 _ _ rfl (w.heap.size + 1) _ #[.int .i64 (we : Int), .int .i64 ln, .int .i64 cl] rfl rfl HVd.out sizeFau rfl (all3 rfl rfl rfl) ?_
     intro w8 HV8 hg8
     have HX8 := qa0 (HXd.out.kept12 hg8.out (by simp))
     refine hK.out _ _ ⟨HX8.out.cell 4 _ rfl, HX8.out.cell 5 _ rfl⟩ (fun _ => ?_)
     clear hK K
     try simp only [nz1, nz2, nz3, Act.put]
     refine wpAnyH_done (by kernel_rfl) ?_ _
     go_wp2
     have d0 := HV8.out.cell 0 _ rfl
     have d1 := HV8.out.cell 1 _ rfl
     have d2 := HV8.out.cell 2 _ rfl
     refine bodyPost_ret (v := .tuple #[.int .i64 0, .agg #[.int .i64 (we : Int), .int .i64 ln, .int .i64 cl]]) (by simp [results, Tryd.results25, go_sem, d0, d1, d2]) rfl ?_
     exact ⟨rfl, HBd.out.trans (jbelow hg8.out HBd.out.size (fun g e => by cases e; omega))⟩
theorem qgm : ∀ d, ValueC d := by
 intro d
 induction d with
 | zero => intro w T v ea en ec G hX hM; exact absurd hM (fun h => h.no)
 | succ d ih => exact value_s d ih
end Go.Proofs.YtemhodenkgngmaaDoor
