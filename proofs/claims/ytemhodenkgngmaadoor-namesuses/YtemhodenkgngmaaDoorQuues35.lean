/-
  Stage 13: the names of shapes and of items, as the reference gathers them.
-/
import Derived.Test.YtemhodenkgngmaaDoorQuues00
import Derived.Test.YtemhodenkgngmaaDoorQuues34
import Derived.Test.YtemhodenkgngmaaDoorQuues29
set_option maxRecDepth 100000
set_option maxHeartbeats 16000000
namespace Go.Proofs.YtemhodenkgngmaaDoor
open Go.RowKit Go.Shelf Go.Maps
theorem Vn.keptB {w w' : World} {b B : Nat} {T : TypeId} {xs : Array Value} (h : Vn w b T xs) (hb : Below B w w') (hl : b < B) : Vn w' b T xs := by unfold Vn; rw [hb.block b hl]; exact h
theorem qbn {ops : Array Oper} {rest : List Oper} {op : Oper} {a : Act} {w : World} {Q : Exit → Act → World → Prop} (hgd : op.guard = none) (sl x : Operand) (ho : op.op = .call { callee := .builtin .append, args := #[sl, x], argTypes := #[84, 84] })
  (B : Nat) (v : Value) (L : List Us) (c : Us) (hs : a.eval sl = v) (hown : Uw w B v L) (ad : Addr) (hx : a.eval x = .slice (some ad) 1 1) (hc : ∀ j u, [Value.string c.nm, .int .i64 (c.k : Int), .int .i64 c.ln, .int .i64 c.cl][j]? = some u → w.cell? (ad.add j) = some u) (hlim : L.length ≤ 1000000000) (hB : B ≤ w.heap.size)
  (h : ∀ v' w', Uw w' B v' (L ++ [c]) → Below B w w' → wpList Tryd.prog ops Q rest (a.put op.dst v') w') : wpList Tryd.prog ops Q (op :: rest) a w := by
 obtain ⟨i0, hi0, hz0, hz1, hz2⟩ := info_parts juse
 refine wpList_append_own w hgd sl x 84 ho B 87 i0 (.agg #[.string ⟨#[]⟩, .int .i64 0, .int .i64 0, .int .i64 0]) 4 40 Tryd.underlying84 hi0 hz0 hz1 hz2 rfl (by decide) v L.length _ hs hown ad 1 1 [.string c.nm, .int .i64 (c.k : Int), .int .i64 c.ln, .int .i64 c.cl] hx rfl hc (by intro u hu; simp at hu; rcases hu with rfl | rfl | rfl | rfl <;> rfl) (by unfold maxLen; omega) (by omega) hB (fun v' w' h1 h2 _ => h v' w' ?_ (jbelow h2 hB (fun k hk => (hown.base hk).1)))
 unfold Uw
 rw [qcs, List.length_append]
 exact h1
theorem qbq {f : St → List Us} {P : Nat → St} : ∀ {n : Nat}, (∀ i, i < n → (f (P i)).length ≤ 8192) → (scat f P n).length ≤ n * 8192 := by
 intro n
 induction n with
 | zero => intro _; exact Nat.le_refl _
 | succ n ih =>
  intro h
  have h1 := ih (fun i hi => h i (by omega))
  have h2 := h n (by omega)
  rw [qe5]
  omega
theorem qeb {rl : Nat → Nat} {rows : Nat → Nat → Xt} : ∀ {n : Nat}, (∀ i, i < n → rl i ≤ 64 ∧ ∀ q, q < rl i → MX 16 (rows i q)) → (rcat rl rows n).length ≤ n * 524288 := by
 intro n
 induction n with
 | zero => intro _; exact Nat.le_refl _
 | succ n ih =>
  intro h
  have h1 := ih (fun i hi => h i (by omega))
  obtain ⟨h2, h3⟩ := h n (by omega)
  have h4 := qb1 (d := 16) (G := rows n) (n := rl n) h3
  rw [qe6]
  omega
theorem qd7 (w : World) (f : St → List Us) (P : Nat → St) (k na np nr ca cp cr : Nat) (nm : ByteArray) (ln cl : Int) (aa pa ra : Option Addr) (args : Nat → Xt) (rl : Nat → Nat) (rows : Nat → Nat → Xt)
  (hA : ∀ d, XL d w aa na args) (hP : ∀ d, SL d w pa np P) (hR : XR w ra nr rl rows) (hna : na ≤ 64) (hnp : np ≤ 64) (hnr : nr ≤ 64) (hAm : ∀ i, i < na → MX 16 (args i)) (hRm : ∀ i, i < nr → rl i ≤ 64 ∧ ∀ q, q < rl i → MX 16 (rows i q)) (hPl : ∀ i, i < np → (f (P i)).length ≤ 8192)
  (IHp : ∀ i, i < np → ∀ w' v, Below w.heap.size w w' → SV w' v (P i) → Calls Tryd.prog 43 #[v] w' fun e w'' => (∃ v', e = .returned v' ∧ Uw w'' w'.heap.size v' (f (P i))) ∧ Below w'.heap.size w' w'') :
  Calls Tryd.prog 43 #[.agg #[.int .u8 (k : Int), .string nm, .slice aa na ca, .slice pa np cp, .slice ra nr cr, .int .i64 ln, .int .i64 cl]] w fun e w' => (∃ v, e = .returned v ∧ Uw w' w.heap.size v ((if k = 1 then [⟨nm, 2, ln, cl⟩] else []) ++ xcat (xus 16) args na ++ scat f P np ++ rcat rl rows nr)) ∧ Below w.heap.size w w' := by
 have HP : Hid (∀ d, SL d w pa np P) := hP
 have HR := qa0 hR
 have HRm : Hid (∀ i, i < nr → rl i ≤ 64 ∧ ∀ q, q < rl i → MX 16 (rows i q)) := hRm
 have HPl : Hid (∀ i, i < np → (f (P i)).length ≤ 8192) := hPl
 have IHq := qa0 IHp
 have HKa : Hid (∀ w' : World, Below w.heap.size w w' → Calls Tryd.prog 42 #[.slice aa na ca] w' fun e w'' => (∃ v, e = .returned v ∧ Uw w'' w'.heap.size v (xcat (xus 16) args na)) ∧ Below w'.heap.size w' w'') := fun w' hb => qb9 16 w' aa na ca args (fun e => (hA e).later hb) hAm hna
 have hAl := qb1 (d := 16) (G := args) (n := na) hAm
 clear hA hP hR hAm hRm hPl IHp
 by_cases hk : k = 1
 ·skip
  have q0 : ((k : Int) == 1) = true := by simp; omega
  obtain ⟨L0, HL0⟩ : ∃ L0, Hid ([(⟨nm, 2, ln, cl⟩ : Us)] = L0) := ⟨_, rfl⟩
  have h0l : L0.length = 1 := by rw [← HL0.out]; rfl
  obtain ⟨LA, HLA⟩ : ∃ LA, Hid (xcat (xus 16) args na = LA) := ⟨_, rfl⟩
  rw [HLA.out] at HKa hAl
  obtain ⟨L1, HL1⟩ : ∃ L1, Hid (L0 ++ LA = L1) := ⟨_, rfl⟩
  have h1l : L1.length ≤ 600000 := by rw [← HL1.out, List.length_append]; omega
  have Hs1 : Hid (L0.length + LA.length ≤ 1000000000) := by show _ ≤ _; omega
  have Hfin : Hid ((if k = 1 then [(⟨nm, 2, ln, cl⟩ : Us)] else []) ++ LA = L1) := by show _ = _; rw [if_pos hk, HL0.out, HL1.out]
  rw [HLA.out, Hfin.out]
  clear Hfin HLA hAl hk h0l
  go_enter Tryd.func43, Tryd.ntmps43
  have HNw : Hid (∀ j u, [Value.string nm, .int .i64 ((2 : Nat) : Int), .int .i64 ln, .int .i64 cl][j]? = some u → ((w.alloc (.cells #[.int .u8 (k : Int), .string nm, .slice aa na ca, .slice pa np cp, .slice ra nr cr, .int .i64 ln, .int .i64 cl] 58)).alloc (.cells #[.string nm, .int .i64 2, .int .i64 ln, .int .i64 cl] 87)).cell? ((⟨w.heap.size + 1, 0, none⟩ : Addr).add j) = some u) := by
   have h := qb5 (w.alloc (.cells #[.int .u8 (k : Int), .string nm, .slice aa na ca, .slice pa np cp, .slice ra nr cr, .int .i64 ln, .int .i64 cl] 58)) [.string nm, .int .i64 2, .int .i64 ln, .int .i64 cl] 87
   rw [World.size_alloc] at h
   exact h
  have M1 : True := trivial
  go_wp2_with (first
   | (go_at_call 42; go_loud (refine (HKa.out _ HB0.out).mono ?_; rintro e w7 ⟨⟨v7, rfl, h7⟩, hb7⟩; have H7 := qa0 h7; have HB7 := qa0 (jtwo HB0.out hb7); have HV7 := qa0 (HV0.out.later hb7); have HT7 := qa0 (HT0.out.later hb7); clear h7 hb7))
   | (clear M1; at_builtin; go_loud (refine qbn rfl _ _ rfl (w.heap.size + 1) _ [] ⟨nm, 2, ln, cl⟩ rfl (Uw.nil _ _) ⟨w.heap.size + 1, 0, none⟩ rfl HNw.out (by simp) (by simp) ?_; (intro v8 w0 hT8 hb8; rw [List.nil_append, HL0.out] at hT8; have HB0 := qa0 ((jtwo (jlow w (.cells #[.int .u8 (k : Int), .string nm, .slice aa na ca, .slice pa np cp, .slice ra nr cr, .int .i64 ln, .int .i64 cl] 58)) (jlow _ (.cells #[.string nm, .int .i64 2, .int .i64 ln, .int .i64 cl] 87))).trans (hb8.mono (by omega))); have HV0 := qa0 (((Vn.new w 58 #[.int .u8 (k : Int), .string nm, .slice aa na ca, .slice pa np cp, .slice ra nr cr, .int .i64 ln, .int .i64 cl]).later (jlow _ (.cells #[.string nm, .int .i64 2, .int .i64 ln, .int .i64 cl] 87))).keptB hb8 (by omega)); obtain ⟨x8, d8, rfl, -⟩ := hT8.form; have HT0 := qa0 hT8; have v2 := HV0.out.cell 2 _ rfl; clear hT8 hb8)))
   | (refine qa3 rfl _ _ rfl (w.heap.size + 1) _ L0 rfl HT7.out _ _ LA rfl H7.out Hs1.out HV7.out.lt ?_; go_loud (intro v8 w8 hT8 hb8; rw [HL1.out] at hT8; have HB8 := qa0 (HB7.out.trans (hb8.mono (by omega))); have HV8 := qa0 (HV7.out.keptB hb8 (by omega)); obtain ⟨x8, d8, rfl, -⟩ := hT8.form; have HT8 := qa0 hT8; clear hT8 hb8)))
  go_loopw [3, 4] (fun vt vi wr => ∃ (i : Nat) (L : List Us), i ≤ np ∧ vi = .int .i64 (i : Int) ∧ Hid (L1 ++ scat f P i = L) ∧ (∃ x d, vt = .slice x L.length d) ∧ Hid (Uw wr (w.heap.size + 1) vt L) ∧ Hid (Vn wr w.heap.size 58 #[.int .u8 (k : Int), .string nm, .slice aa na ca, .slice pa np cp, .slice ra nr cr, .int .i64 ln, .int .i64 cl]) ∧ Hid (Below w.heap.size w wr)) (fun _ vi _ => np - (intOf vi).toNat)
  case atStart => exact ⟨0, L1, by omega, rfl, List.append_nil _, ⟨_, _, rfl⟩, HT8, HV8, HB8⟩
  case round =>
   obtain ⟨i, L, hi, rfl, HL, ⟨x, dd, rfl⟩, HT9, HV9, HB9⟩ := hrel
   clear HB0 HV0 HT0 HB7 HV7 HT7 H7 HB8 HV8 HT8
   have v3 := HV9.out.cell 3 _ rfl
   by_cases hlt : i < np
   ·have p0 : (0 : Int) ≤ (i : Int) := by omega
    have p1 : (i : Int) < (np : Int) := by omega
    obtain ⟨b, o, k2, na2, np2, nr2, ll, cc, nm2, aa2, pa2, ra2, ca2, cp2, cr2, rfl, hkid, hcl⟩ := SL.at_ HP.out hlt
    obtain ⟨t0, t1, t2, t3, t4, t5, t6⟩ := hcl _ HB9.out
    obtain ⟨M, HM⟩ : ∃ M, Hid (f (P i) = M) := ⟨_, rfl⟩
    have hm := HPl.out i hlt
    rw [HM.out] at hm
    have hsc := qbq (f := f) (P := P) (n := i) (fun q hq => HPl.out q (by omega))
    have HC : Hid (∀ w' : World, Below w.heap.size w w' → Calls Tryd.prog 43 #[.agg #[.int .u8 (k2 : Int), .string nm2, .slice aa2 na2 ca2, .slice pa2 np2 cp2, .slice ra2 nr2 cr2, .int .i64 ll, .int .i64 cc]] w' fun e w'' => (∃ v, e = .returned v ∧ Uw w'' w'.heap.size v M) ∧ Below w'.heap.size w' w'') := fun w' hb => by
     have h := IHq.out i hlt w' _ hb (hkid.later hb)
     rw [HM.out] at h
     exact h
    obtain ⟨L8, HL8⟩ : ∃ L8, Hid (L ++ M = L8) := ⟨_, rfl⟩
    have Hs2 : Hid (L.length + M.length ≤ 1000000000) := by show _ ≤ _; rw [← HL.out, List.length_append]; omega
    have HL2 : Hid (L1 ++ scat f P (i + 1) = L8) := by show L1 ++ (scat f P i ++ f (P i)) = _; rw [HM.out, ← List.append_assoc, HL.out, HL8.out]
    clear hcl hkid hm hsc
    go_wp2_with (first
     | (go_at_call 43; go_loud (refine (HC.out _ HB9.out).mono ?_; rintro e w7 ⟨⟨v7, rfl, h7⟩, hb7⟩; have H7 := qa0 h7; have HB7 := qa0 (jtwo HB9.out hb7); have HV7 := qa0 (HV9.out.later hb7); have HT7 := qa0 (HT9.out.later hb7); clear h7 hb7))
     | (refine qa3 rfl _ _ rfl (w.heap.size + 1) _ L rfl HT7.out _ _ M rfl H7.out Hs2.out HV7.out.lt ?_; go_loud (intro v8 w8 hT8 hb8; rw [HL8.out] at hT8; have HB8 := qa0 (HB7.out.trans (hb8.mono (by omega))); have HV8 := qa0 (HV7.out.keptB hb8 (by omega)); obtain ⟨x8, d8, rfl, -⟩ := hT8.form; have HT8 := qa0 hT8; clear hT8 hb8)))
    exact ⟨⟨i + 1, _, by omega, by go_num, HL2, ⟨x8, d8, rfl⟩, HT8, HV8, HB8⟩, by simp [intOf]; omega⟩
   ·obtain rfl : np = i := by omega
    obtain ⟨L2, HL2⟩ : ∃ L2, Hid (L1 ++ scat f P np = L2) := ⟨_, rfl⟩
    have hsc := qbq (f := f) (P := P) (n := np) (fun q hq => HPl.out q hq)
    have h2l : L2.length ≤ 1200000 := by rw [← HL2.out, List.length_append]; omega
    have e2 : L = L2 := by rw [← HL.out, HL2.out]
    subst e2
    clear hsc
    have v4 := HV9.out.cell 4 _ rfl
    go_wp2
    go_loopw [3, 5] (fun vt vi wr => ∃ (i : Nat) (L3 : List Us), i ≤ nr ∧ vi = .int .i64 (i : Int) ∧ Hid (L ++ rcat rl rows i = L3) ∧ (∃ x d, vt = .slice x L3.length d) ∧ Hid (Uw wr (w.heap.size + 1) vt L3) ∧ Hid (Vn wr w.heap.size 58 #[.int .u8 (k : Int), .string nm, .slice aa na ca, .slice pa np cp, .slice ra nr cr, .int .i64 ln, .int .i64 cl]) ∧ Hid (Below w.heap.size w wr)) (fun _ vi _ => nr - (intOf vi).toNat)
    case atStart => exact ⟨0, L, by omega, rfl, List.append_nil _, ⟨_, _, rfl⟩, HT9, HV9, HB9⟩
    case round =>
     obtain ⟨i2, L3, hi2, rfl, HL3, ⟨x3, d3, rfl⟩, HT1, HV1, HB1⟩ := hrel
     clear HT9 HV9 HB9 v3 v4
     have v4 := HV1.out.cell 4 _ rfl
     by_cases hlt2 : i2 < nr
     ·have p0 : (0 : Int) ≤ (i2 : Int) := by omega
      have p1 : (i2 : Int) < (nr : Int) := by omega
      obtain ⟨b, o, a', c', rfl, z0, hxl⟩ := HR.out i2 hlt2
      have t0 := cell_kept z0 HB1.out
      obtain ⟨M, HM⟩ : ∃ M, Hid (xcat (xus 16) (rows i2) (rl i2) = M) := ⟨_, rfl⟩
      have hrm := HRm.out i2 hlt2
      have hm := qb1 (d := 16) (G := rows i2) (n := rl i2) hrm.2
      rw [HM.out] at hm
      have hsc := qeb (rl := rl) (rows := rows) (n := i2) (fun q hq => HRm.out q (by omega))
      have HC : Hid (∀ w' : World, Below w.heap.size w w' → Calls Tryd.prog 42 #[.slice a' (rl i2) c'] w' fun e w'' => (∃ v, e = .returned v ∧ Uw w'' w'.heap.size v M) ∧ Below w'.heap.size w' w'') := fun w' hb => by
       have h := qb9 16 w' a' (rl i2) c' (rows i2) (fun e => (hxl e).later hb) hrm.2 hrm.1
       rw [HM.out] at h
       exact h
      obtain ⟨L8, HL8⟩ : ∃ L8, Hid (L3 ++ M = L8) := ⟨_, rfl⟩
      have Hs2 : Hid (L3.length + M.length ≤ 1000000000) := by show _ ≤ _; rw [← HL3.out, List.length_append]; omega
      have HL4 : Hid (L ++ rcat rl rows (i2 + 1) = L8) := by show L ++ (rcat rl rows i2 ++ xcat (xus 16) (rows i2) (rl i2)) = _; rw [HM.out, ← List.append_assoc, HL3.out, HL8.out]
      generalize rl i2 = ri at *
      clear hm hsc hrm hxl z0
      go_wp2_with (first
       | (go_at_call 42; go_loud (refine (HC.out _ HB1.out).mono ?_; rintro e w7 ⟨⟨v7, rfl, h7⟩, hb7⟩; have H7 := qa0 h7; have HB7 := qa0 (jtwo HB1.out hb7); have HV7 := qa0 (HV1.out.later hb7); have HT7 := qa0 (HT1.out.later hb7); clear h7 hb7))
       | (refine qa3 rfl _ _ rfl (w.heap.size + 1) _ L3 rfl HT7.out _ _ M rfl H7.out Hs2.out HV7.out.lt ?_; go_loud (intro v8 w8 hT8 hb8; rw [HL8.out] at hT8; have HB8 := qa0 (HB7.out.trans (hb8.mono (by omega))); have HV8 := qa0 (HV7.out.keptB hb8 (by omega)); obtain ⟨x8, d8, rfl, -⟩ := hT8.form; have HT8 := qa0 hT8; clear hT8 hb8)))
      exact ⟨⟨i2 + 1, _, by omega, by go_num, HL4, ⟨x8, d8, rfl⟩, HT8, HV8, HB8⟩, by simp [intOf]; omega⟩
     ·obtain rfl : nr = i2 := by omega
      go_wp2
      go_ret
      refine ⟨⟨_, rfl, ?_⟩, HB1.out⟩
      rw [HL2.out, HL3.out]
      exact HT1.out.low (by omega)
 ·skip
  have q0 : ((k : Int) == 1) = false := by simp; omega
  obtain ⟨L0, HL0⟩ : ∃ L0, Hid (([] : List Us) = L0) := ⟨_, rfl⟩
  have h0l : L0.length = 0 := by rw [← HL0.out]; rfl
  obtain ⟨LA, HLA⟩ : ∃ LA, Hid (xcat (xus 16) args na = LA) := ⟨_, rfl⟩
  rw [HLA.out] at HKa hAl
  obtain ⟨L1, HL1⟩ : ∃ L1, Hid (L0 ++ LA = L1) := ⟨_, rfl⟩
  have h1l : L1.length ≤ 600000 := by rw [← HL1.out, List.length_append]; omega
  have Hs1 : Hid (L0.length + LA.length ≤ 1000000000) := by show _ ≤ _; omega
  have Hfin : Hid ((if k = 1 then [(⟨nm, 2, ln, cl⟩ : Us)] else []) ++ LA = L1) := by show _ = _; rw [if_neg hk, HL0.out, HL1.out]
  rw [HLA.out, Hfin.out]
  clear Hfin HLA hAl hk h0l
  go_enter Tryd.func43, Tryd.ntmps43
  have HB0 := qa0 (jlow w (.cells #[.int .u8 (k : Int), .string nm, .slice aa na ca, .slice pa np cp, .slice ra nr cr, .int .i64 ln, .int .i64 cl] 58))
  have HV0 := qa0 (Vn.new w 58 #[.int .u8 (k : Int), .string nm, .slice aa na ca, .slice pa np cp, .slice ra nr cr, .int .i64 ln, .int .i64 cl])
  have HT0 : Hid (Uw (w.alloc (.cells #[.int .u8 (k : Int), .string nm, .slice aa na ca, .slice pa np cp, .slice ra nr cr, .int .i64 ln, .int .i64 cl] 58)) (w.heap.size + 1) (.slice none 0 0) L0) := by show Uw _ _ _ _; rw [← HL0.out]; exact Uw.nil _ _
  go_wp2_with (first
   | (go_at_call 42; go_loud (refine (HKa.out _ HB0.out).mono ?_; rintro e w7 ⟨⟨v7, rfl, h7⟩, hb7⟩; have H7 := qa0 h7; have HB7 := qa0 (jtwo HB0.out hb7); have HV7 := qa0 (HV0.out.later hb7); have HT7 := qa0 (HT0.out.later hb7); clear h7 hb7))
   | (refine qa3 rfl _ _ rfl (w.heap.size + 1) _ L0 rfl HT7.out _ _ LA rfl H7.out Hs1.out HV7.out.lt ?_; go_loud (intro v8 w8 hT8 hb8; rw [HL1.out] at hT8; have HB8 := qa0 (HB7.out.trans (hb8.mono (by omega))); have HV8 := qa0 (HV7.out.keptB hb8 (by omega)); obtain ⟨x8, d8, rfl, -⟩ := hT8.form; have HT8 := qa0 hT8; clear hT8 hb8)))
  go_loopw [3, 4] (fun vt vi wr => ∃ (i : Nat) (L : List Us), i ≤ np ∧ vi = .int .i64 (i : Int) ∧ Hid (L1 ++ scat f P i = L) ∧ (∃ x d, vt = .slice x L.length d) ∧ Hid (Uw wr (w.heap.size + 1) vt L) ∧ Hid (Vn wr w.heap.size 58 #[.int .u8 (k : Int), .string nm, .slice aa na ca, .slice pa np cp, .slice ra nr cr, .int .i64 ln, .int .i64 cl]) ∧ Hid (Below w.heap.size w wr)) (fun _ vi _ => np - (intOf vi).toNat)
  case atStart => exact ⟨0, L1, by omega, rfl, List.append_nil _, ⟨_, _, rfl⟩, HT8, HV8, HB8⟩
  case round =>
   obtain ⟨i, L, hi, rfl, HL, ⟨x, dd, rfl⟩, HT9, HV9, HB9⟩ := hrel
   clear HB0 HV0 HT0 HB7 HV7 HT7 H7 HB8 HV8 HT8
   have v3 := HV9.out.cell 3 _ rfl
   by_cases hlt : i < np
   ·have p0 : (0 : Int) ≤ (i : Int) := by omega
    have p1 : (i : Int) < (np : Int) := by omega
    obtain ⟨b, o, k2, na2, np2, nr2, ll, cc, nm2, aa2, pa2, ra2, ca2, cp2, cr2, rfl, hkid, hcl⟩ := SL.at_ HP.out hlt
    obtain ⟨t0, t1, t2, t3, t4, t5, t6⟩ := hcl _ HB9.out
    obtain ⟨M, HM⟩ : ∃ M, Hid (f (P i) = M) := ⟨_, rfl⟩
    have hm := HPl.out i hlt
    rw [HM.out] at hm
    have hsc := qbq (f := f) (P := P) (n := i) (fun q hq => HPl.out q (by omega))
    have HC : Hid (∀ w' : World, Below w.heap.size w w' → Calls Tryd.prog 43 #[.agg #[.int .u8 (k2 : Int), .string nm2, .slice aa2 na2 ca2, .slice pa2 np2 cp2, .slice ra2 nr2 cr2, .int .i64 ll, .int .i64 cc]] w' fun e w'' => (∃ v, e = .returned v ∧ Uw w'' w'.heap.size v M) ∧ Below w'.heap.size w' w'') := fun w' hb => by
     have h := IHq.out i hlt w' _ hb (hkid.later hb)
     rw [HM.out] at h
     exact h
    obtain ⟨L8, HL8⟩ : ∃ L8, Hid (L ++ M = L8) := ⟨_, rfl⟩
    have Hs2 : Hid (L.length + M.length ≤ 1000000000) := by show _ ≤ _; rw [← HL.out, List.length_append]; omega
    have HL2 : Hid (L1 ++ scat f P (i + 1) = L8) := by show L1 ++ (scat f P i ++ f (P i)) = _; rw [HM.out, ← List.append_assoc, HL.out, HL8.out]
    clear hcl hkid hm hsc
    go_wp2_with (first
     | (go_at_call 43; go_loud (refine (HC.out _ HB9.out).mono ?_; rintro e w7 ⟨⟨v7, rfl, h7⟩, hb7⟩; have H7 := qa0 h7; have HB7 := qa0 (jtwo HB9.out hb7); have HV7 := qa0 (HV9.out.later hb7); have HT7 := qa0 (HT9.out.later hb7); clear h7 hb7))
     | (refine qa3 rfl _ _ rfl (w.heap.size + 1) _ L rfl HT7.out _ _ M rfl H7.out Hs2.out HV7.out.lt ?_; go_loud (intro v8 w8 hT8 hb8; rw [HL8.out] at hT8; have HB8 := qa0 (HB7.out.trans (hb8.mono (by omega))); have HV8 := qa0 (HV7.out.keptB hb8 (by omega)); obtain ⟨x8, d8, rfl, -⟩ := hT8.form; have HT8 := qa0 hT8; clear hT8 hb8)))
    exact ⟨⟨i + 1, _, by omega, by go_num, HL2, ⟨x8, d8, rfl⟩, HT8, HV8, HB8⟩, by simp [intOf]; omega⟩
   ·obtain rfl : np = i := by omega
    obtain ⟨L2, HL2⟩ : ∃ L2, Hid (L1 ++ scat f P np = L2) := ⟨_, rfl⟩
    have hsc := qbq (f := f) (P := P) (n := np) (fun q hq => HPl.out q hq)
    have h2l : L2.length ≤ 1200000 := by rw [← HL2.out, List.length_append]; omega
    have e2 : L = L2 := by rw [← HL.out, HL2.out]
    subst e2
    clear hsc
    have v4 := HV9.out.cell 4 _ rfl
    go_wp2
    go_loopw [3, 5] (fun vt vi wr => ∃ (i : Nat) (L3 : List Us), i ≤ nr ∧ vi = .int .i64 (i : Int) ∧ Hid (L ++ rcat rl rows i = L3) ∧ (∃ x d, vt = .slice x L3.length d) ∧ Hid (Uw wr (w.heap.size + 1) vt L3) ∧ Hid (Vn wr w.heap.size 58 #[.int .u8 (k : Int), .string nm, .slice aa na ca, .slice pa np cp, .slice ra nr cr, .int .i64 ln, .int .i64 cl]) ∧ Hid (Below w.heap.size w wr)) (fun _ vi _ => nr - (intOf vi).toNat)
    case atStart => exact ⟨0, L, by omega, rfl, List.append_nil _, ⟨_, _, rfl⟩, HT9, HV9, HB9⟩
    case round =>
     obtain ⟨i2, L3, hi2, rfl, HL3, ⟨x3, d3, rfl⟩, HT1, HV1, HB1⟩ := hrel
     clear HT9 HV9 HB9 v3 v4
     have v4 := HV1.out.cell 4 _ rfl
     by_cases hlt2 : i2 < nr
     ·have p0 : (0 : Int) ≤ (i2 : Int) := by omega
      have p1 : (i2 : Int) < (nr : Int) := by omega
      obtain ⟨b, o, a', c', rfl, z0, hxl⟩ := HR.out i2 hlt2
      have t0 := cell_kept z0 HB1.out
      obtain ⟨M, HM⟩ : ∃ M, Hid (xcat (xus 16) (rows i2) (rl i2) = M) := ⟨_, rfl⟩
      have hrm := HRm.out i2 hlt2
      have hm := qb1 (d := 16) (G := rows i2) (n := rl i2) hrm.2
      rw [HM.out] at hm
      have hsc := qeb (rl := rl) (rows := rows) (n := i2) (fun q hq => HRm.out q (by omega))
      have HC : Hid (∀ w' : World, Below w.heap.size w w' → Calls Tryd.prog 42 #[.slice a' (rl i2) c'] w' fun e w'' => (∃ v, e = .returned v ∧ Uw w'' w'.heap.size v M) ∧ Below w'.heap.size w' w'') := fun w' hb => by
       have h := qb9 16 w' a' (rl i2) c' (rows i2) (fun e => (hxl e).later hb) hrm.2 hrm.1
       rw [HM.out] at h
       exact h
      obtain ⟨L8, HL8⟩ : ∃ L8, Hid (L3 ++ M = L8) := ⟨_, rfl⟩
      have Hs2 : Hid (L3.length + M.length ≤ 1000000000) := by show _ ≤ _; rw [← HL3.out, List.length_append]; omega
      have HL4 : Hid (L ++ rcat rl rows (i2 + 1) = L8) := by show L ++ (rcat rl rows i2 ++ xcat (xus 16) (rows i2) (rl i2)) = _; rw [HM.out, ← List.append_assoc, HL3.out, HL8.out]
      generalize rl i2 = ri at *
      clear hm hsc hrm hxl z0
      go_wp2_with (first
       | (go_at_call 42; go_loud (refine (HC.out _ HB1.out).mono ?_; rintro e w7 ⟨⟨v7, rfl, h7⟩, hb7⟩; have H7 := qa0 h7; have HB7 := qa0 (jtwo HB1.out hb7); have HV7 := qa0 (HV1.out.later hb7); have HT7 := qa0 (HT1.out.later hb7); clear h7 hb7))
       | (refine qa3 rfl _ _ rfl (w.heap.size + 1) _ L3 rfl HT7.out _ _ M rfl H7.out Hs2.out HV7.out.lt ?_; go_loud (intro v8 w8 hT8 hb8; rw [HL8.out] at hT8; have HB8 := qa0 (HB7.out.trans (hb8.mono (by omega))); have HV8 := qa0 (HV7.out.keptB hb8 (by omega)); obtain ⟨x8, d8, rfl, -⟩ := hT8.form; have HT8 := qa0 hT8; clear hT8 hb8)))
      exact ⟨⟨i2 + 1, _, by omega, by go_num, HL4, ⟨x8, d8, rfl⟩, HT8, HV8, HB8⟩, by simp [intOf]; omega⟩
     ·obtain rfl : nr = i2 := by omega
      go_wp2
      go_ret
      refine ⟨⟨_, rfl, ?_⟩, HB1.out⟩
      rw [HL2.out, HL3.out]
      exact HT1.out.low (by omega)

end Go.Proofs.YtemhodenkgngmaaDoor
