/-
  Stage 12: the reference's all; Number.
-/
import Derived.Test.YtgmndjbicandfaaDoorQnnes00
import Derived.Test.YtgmndjbicandfaaDoorQnnes32
set_option maxRecDepth 100000
set_option maxHeartbeats 16000000
namespace Go.Proofs.YtgmndjbicandfaaDoor
open Go.RowKit Go.Shelf Go.Maps
open Go.Proofs (encStr)
theorem ncat_cnt {f : Xt → Int → Int} {g : Xt → List (List UInt8)} {F : Nat → Xt} : ∀ {n : Nat} {left : Int}, (∀ i, i < n → ∀ l, 0 ≤ f (F i) l → ((g (F i)).length : Int) ≤ l - f (F i) l) → 0 ≤ xks f F n left → ((ncat g F n).length : Int) ≤ left - xks f F n left := by
 intro n
 induction n with
 | zero => intro left _ _; show ((0 : Nat) : Int) ≤ left - left; omega
 | succ n ih =>
  intro left h h0
  rw [qa4] at h0 ⊢
  by_cases hn : xks f F n left < 0
  ·rw [if_pos hn] at h0; omega
  ·rw [if_neg hn] at h0 ⊢
   have h1 := ih (fun i hi => h i (by omega)) (left := left) (by omega)
   have h2 := h n (by omega) _ h0
   show (((ncat g F n) ++ g (F n)).length : Int) ≤ _
   rw [List.length_append]
   omega
theorem nmx_cnt : ∀ {d : Nat} {T : Xt} {left : Int}, 0 ≤ xleft d T left → ((nmx d T).length : Int) ≤ left - xleft d T left := by
 intro d
 induction d with
 | zero => intro T left h; rw [qa7] at h; omega
 | succ d ih =>
  intro T left h
  obtain ⟨m, hw, h1, he, hk⟩ := qa6 h
  rw [he] at h ⊢
  have hl := qcl (d := d) (F := kid T) (left := left - 1) (by omega) m
  unfold nmx
  split
  ·show ((1 : Nat) : Int) ≤ _
   omega
  ·rw [show (T []).len = m from (qaf hw).1]
   have := ncat_cnt (f := xleft d) (g := nmx d) (F := kid T) (n := m) (left := left - 1) (fun i _ l hl => ih hl) h
   omega
theorem qbg {d : Nat} {T : Xt} (h : MX d T) : (nmx d T).length ≤ 8192 := by
 obtain ⟨left, h1, h2⟩ := h
 have := nmx_cnt h2
 omega
theorem ncat_few {d : Nat} {G : Nat → Xt} : ∀ {n : Nat}, (∀ i, i < n → MX d (G i)) → (ncat (nmx d) G n).length ≤ n * 8192 := by
 intro n
 induction n with
 | zero => intro _; exact Nat.le_refl _
 | succ n ih =>
  intro h
  have h1 := ih (fun i hi => h i (by omega))
  have h2 := qbg (h n (by omega))
  show (ncat (nmx d) G n ++ nmx d (G n)).length ≤ _
  rw [List.length_append]
  omega
theorem nw_one (w : World) (B : Nat) (nm : ByteArray) (hB : B ≤ w.heap.size) : Nw (w.alloc (.cells #[.string nm] 9)) B (.slice (some ⟨w.heap.size, 0, none⟩) 1 1) [nm.data.toList] := by
 refine ⟨rfl, .inr ⟨w.heap.size, 1, #[.string nm], rfl, hB, Vn.new w _ _, Nat.le_refl _, by decide, rfl, ?_⟩⟩
 show [Value.string nm] = [encStr nm.data.toList]
 simp [encStr]
/-- The names as they stand. -/
theorem rall12 : ∀ (d : Nat) (w : World) (T : Xt) (v : Value), XV w v T → MX d T → Calls Tryd.prog 29 #[v] w fun e w' => (∃ v', e = .returned v' ∧ Nw w' w.heap.size v' (nmx d T)) ∧ Below w.heap.size w w' := by
 intro d
 induction d with
 | zero => intro w T v _ hM; exact hM.no.elim
 | succ d ih =>
  intro w T v hX hM
  obtain ⟨⟨a, cap, rfl, hXl⟩, hok⟩ := hX
  have hlen := hM.len
  have HO : Hid ((T []).k ≠ 2 → nmx (d + 1) T = ncat (nmx d) (kid T) (T []).len) := fun h => qcb h
  have HN2 : Hid ((T []).k = 2 → nmx (d + 1) T = [(T []).nm.data.toList]) := fun h => qd4 h
  have HIH : Hid (∀ i, i < (T []).len → ∀ (w' : World) (v' : Value), XV w' v' (kid T i) → Calls Tryd.prog 29 #[v'] w' fun e w'' => (∃ v'', e = .returned v'' ∧ Nw w'' w'.heap.size v'' (nmx d (kid T i))) ∧ Below w'.heap.size w' w'') := fun i hi w' v' hv' => ih w' (kid T i) v' hv' (hM.kid hi)
  have HFw : Hid (∀ n, n ≤ (T []).len → (ncat (nmx d) (kid T) n).length ≤ n * 8192) := fun n hn => ncat_few (fun i hi => hM.kid (by omega))
  have HFk : Hid (∀ i, i < (T []).len → (nmx d (kid T i)).length ≤ 8192) := fun i hi => qbg (hM.kid hi)
  have HXl := qa0 hXl
  clear hXl hM ih hok
  generalize nmx (d + 1) T = V at *
  generalize T [] = l at *
  obtain ⟨k, n, nm, len, ln, cl⟩ := l
  have hlen : len ≤ 2 := hlen
  have HXl : Hid (∀ d, XL d w a len (kid T)) := HXl
  have HIH : Hid (∀ i, i < len → ∀ (w' : World) (v' : Value), XV w' v' (kid T i) → Calls Tryd.prog 29 #[v'] w' fun e w'' => (∃ v'', e = .returned v'' ∧ Nw w'' w'.heap.size v'' (nmx d (kid T i))) ∧ Below w'.heap.size w' w'') := HIH
  have HO : Hid (k ≠ 2 → V = ncat (nmx d) (kid T) len) := HO
  have HN2 : Hid (k = 2 → V = [nm.data.toList]) := HN2
  have HFw : Hid (∀ n, n ≤ len → (ncat (nmx d) (kid T) n).length ≤ n * 8192) := HFw
  have HFk : Hid (∀ i, i < len → (nmx d (kid T i)).length ≤ 8192) := HFk
  show Calls Tryd.prog 29 #[.agg #[.int .u8 (k : Int), .int .i64 n, .string nm, .slice a len cap, .int .i64 ln, .int .i64 cl]] w _
  obtain ⟨wb, HW⟩ : ∃ wb, Hid (wb = w.alloc (.cells #[.int .u8 (k : Int), .int .i64 n, .string nm, .slice a len cap, .int .i64 ln, .int .i64 cl] 25)) := ⟨_, rfl⟩
  have HX : Hid (Vn wb w.heap.size 25 #[.int .u8 (k : Int), .int .i64 n, .string nm, .slice a len cap, .int .i64 ln, .int .i64 cl]) := by show Vn _ _ _ _; rw [HW.out]; exact Vn.new w _ _
  have HB0 : Hid (Below w.heap.size w wb) := by show Below _ _ _; rw [HW.out]; exact jlow _ _
  have c0 := HX.out.cell 0 _ rfl
  have c2 := HX.out.cell 2 _ rfl
  have c3 := HX.out.cell 3 _ rfl
  have hsz := HX.out.lt
  by_cases hk : k = 2
  ·subst hk
   have hV := HN2.out rfl
   subst hV
   have h1 := nw_one (w.alloc (.cells #[.int .u8 2, .int .i64 n, .string nm, .slice a len cap, .int .i64 ln, .int .i64 cl] 25)) w.heap.size nm (by rw [qa2]; omega)
   rw [qa2] at h1
   have HNw := qa0 h1
   have HBn := qa0 (jtwo (jlow w (.cells #[.int .u8 2, .int .i64 n, .string nm, .slice a len cap, .int .i64 ln, .int .i64 cl] 25)) (jlow _ (.cells #[.string nm] 9)))
   rw [HW.out] at c0 c2 c3
   clear h1 HO HN2 HIH HFw HFk HXl HX HB0 hsz HW
   go_enter Tryd.func29, Tryd.ntmps29
   go_wp2
   go_ret
   exact ⟨⟨_, rfl, HNw.out⟩, HBn.out⟩
  ·have qk : ((k : Int) == 2) = false := by simp; omega
   have hV := HO.out hk
   subst hV
   clear HO HN2 c0 c2 c3
   have c0 := HX.out.cell 0 _ rfl
   go_enter Tryd.func29, Tryd.ntmps29
   go_wp2_with (rw [← HW.out])
   go_loopw [3, 4] (fun vl vi wr => ∃ (i : Nat) (L : List (List UInt8)), i ≤ len ∧ vi = .int .i64 (i : Int) ∧ Hid (ncat (nmx d) (kid T) i = L) ∧ (∃ x dd, vl = .slice x L.length dd) ∧ Hid (Nw wr wb.heap.size vl L) ∧ Hid (Below wb.heap.size wb wr)) (fun _ vi _ => len - (intOf vi).toNat)
   case atStart => exact ⟨0, [], by omega, rfl, rfl, ⟨none, 0, rfl⟩, Nw.nil _ _, Below.refl _ _⟩
   case round =>
    obtain ⟨i, L, hi, rfl, HL, ⟨x, dd, rfl⟩, HU, HB⟩ := hrel
    have HXr := qa0 (HX.out.later HB.out)
    have e3 := HXr.out.cell 3 _ rfl
    by_cases hlt : i < len
    ·have p0 : (0 : Int) ≤ (i : Int) := by omega
     have p1 : (i : Int) < (len : Int) := by omega
     obtain ⟨b, o, kk, nl, nn, ll, cc, nx, ka, kc, rfl, hXV, hcl⟩ := XL.at_ HXl.out hlt
     obtain ⟨k0, k1, k2, k3, k4, k5⟩ := hcl wr (jtwo HB0.out HB.out)
     obtain ⟨M, HMM⟩ : ∃ M, Hid (nmx d (kid T i) = M) := ⟨_, rfl⟩
     have hm1 := HFk.out i hlt
     have hl1 := HFw.out i (by omega)
     rw [HMM.out] at hm1
     rw [HL.out] at hl1
     have HC : Hid (Calls Tryd.prog 29 #[.agg #[.int .u8 (kk : Int), .int .i64 nn, .string nx, .slice ka nl kc, .int .i64 ll, .int .i64 cc]] wr fun e w'' => (∃ v'', e = .returned v'' ∧ Nw w'' wr.heap.size v'' M) ∧ Below wr.heap.size wr w'') := by
      have h := HIH.out i hlt wr _ (hXV.later (jtwo HB0.out HB.out))
      rw [HMM.out] at h
      exact h
     obtain ⟨LM, HLM⟩ : ∃ LM, Hid (L ++ M = LM) := ⟨_, rfl⟩
     have HL2 : Hid (ncat (nmx d) (kid T) (i + 1) = LM) := by show ncat (nmx d) (kid T) i ++ nmx d (kid T i) = _; rw [HL.out, HMM.out, HLM.out]
     have hwr := HB.out.size
     have hlim : L.length + M.length ≤ 1000000000 := by omega
     clear hcl hXV HIH HFw HFk HMM HL HXl hm1 hl1
     go_wp2_with (first
      | (go_at_call 29; go_loud (refine HC.out.mono ?_; rintro e w3 ⟨⟨v3, rfl, h3⟩, hb3⟩; have HM3 := qa0 h3; have HB3 := qa0 hb3; have HU3 := qa0 (HU.out.later hb3); have hs3 := hb3.size; clear h3 hb3))
      | (at_builtin; go_loud (refine qb7 rfl _ _ rfl wb.heap.size _ L rfl HU3.out wr.heap.size _ M rfl HM3.out hlim (by omega) ?_; intro v4 w4 h4 hb4; rw [HLM.out] at h4; have HU4 := qa0 h4; have HB4 := qa0 ((jtwo HB.out HB3.out).trans hb4); obtain ⟨x4, d4, e4, -⟩ := h4.form; subst e4; clear h4 hb4)))
     exact ⟨⟨i + 1, LM, by omega, by go_num, HL2, ⟨_, _, rfl⟩, HU4, HB4⟩, by simp [intOf]; omega⟩
    ·obtain rfl : i = len := by omega
     have d1 : decide ((i : Int) < (i : Int)) = false := decide_eq_false (by omega)
     have hBw := HB0.out.size
     clear HIH HFw HFk HXl
     go_wp2
     go_ret
     exact ⟨⟨_, rfl, by rw [HL.out]; exact HU.out.low hBw⟩, jtwo HB0.out HB.out⟩
end Go.Proofs.YtgmndjbicandfaaDoor
