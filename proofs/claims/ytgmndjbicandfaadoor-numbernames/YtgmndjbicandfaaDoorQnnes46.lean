/-
  Stage 12: the reference's ExprPlaces, Ints of like lists; Names of what may not be.
-/
import Derived.Test.YtgmndjbicandfaaDoorQnnes00
import Derived.Test.YtgmndjbicandfaaDoorQnnes45
set_option maxRecDepth 100000
set_option maxHeartbeats 16000000
namespace Go.Proofs.YtgmndjbicandfaaDoor
open Go.RowKit Go.Shelf Go.Maps
theorem qea (w : World) (T : Xt) (v : Value) (hX : XV w v T) (hw : Wt9 w) (hm : mayX T = false) : Calls Tryd.prog 10 #[v] w fun e w' => e = .returned (.tuple #[.slice none 0 0, .int .i64 2]) ∧ Below w.heap.size w w' := by
 have HMy : Hid (∀ w' : World, Below w.heap.size w w' → Calls Tryd.prog 23 #[v] w' fun e w'' => e = .returned (.bool false) ∧ Below w'.heap.size w' w'') := fun w' hb => by
  have h := tmayx w' T v (hX.later hb) (hw.later hb)
  rw [hm] at h
  exact h
 obtain ⟨⟨a, cap, rfl, _⟩, _⟩ := hX
 generalize T [] = l at *
 obtain ⟨k, n, nm, len, ln, cl⟩ := l
 dsimp only at HMy ⊢
 obtain ⟨wb, HW⟩ : ∃ wb, Hid (wb = w.alloc (.cells #[.int .u8 (k : Int), .int .i64 n, .string nm, .slice a len cap, .int .i64 ln, .int .i64 cl] 25)) := ⟨_, rfl⟩
 have HX : Hid (Vn wb w.heap.size 25 #[.int .u8 (k : Int), .int .i64 n, .string nm, .slice a len cap, .int .i64 ln, .int .i64 cl]) := by show Vn _ _ _ _; rw [HW.out]; exact Vn.new w _ _
 have HB0 : Hid (Below w.heap.size w wb) := by show Below _ _ _; rw [HW.out]; exact jlow _ _
 have c0 := HX.out.cell 0 _ rfl
 have c1 := HX.out.cell 1 _ rfl
 have c2 := HX.out.cell 2 _ rfl
 have c3 := HX.out.cell 3 _ rfl
 have c4 := HX.out.cell 4 _ rfl
 have c5 := HX.out.cell 5 _ rfl
 clear hm hw
 go_enter Tryd.func10, Tryd.ntmps10
 go_wp2_with (first
  | rw [← HW.out]
  | (go_at_call 23; go_loud (refine (HMy.out _ HB0.out).mono ?_; rintro e w1 ⟨rfl, hb1⟩; have HB1 := qa0 (jtwo HB0.out hb1); clear hb1)))
 go_ret2
 exact ⟨rfl, HB1.out⟩
theorem qeb (w : World) (T : Xt) (v : Value) (hX : XV w v T) (hm : mayX T = false) : Calls Tryd.prog 11 #[v] w fun e w' => e = .returned (.tuple #[.slice none 0 0, .int .i64 2]) ∧ Below w.heap.size w w' := by
 have HMy : Hid (∀ w' : World, Below w.heap.size w w' → Calls Tryd.prog 19 #[v] w' fun e w'' => e = .returned (.bool false) ∧ Below w'.heap.size w' w'') := fun w' hb => by
  have h := qaq w' T v (hX.later hb)
  rw [hm] at h
  exact h
 obtain ⟨⟨a, cap, rfl, _⟩, _⟩ := hX
 generalize T [] = l at *
 obtain ⟨k, n, nm, len, ln, cl⟩ := l
 dsimp only at HMy ⊢
 obtain ⟨wb, HW⟩ : ∃ wb, Hid (wb = w.alloc (.cells #[.int .u8 (k : Int), .int .i64 n, .string nm, .slice a len cap, .int .i64 ln, .int .i64 cl] 25)) := ⟨_, rfl⟩
 have HX : Hid (Vn wb w.heap.size 25 #[.int .u8 (k : Int), .int .i64 n, .string nm, .slice a len cap, .int .i64 ln, .int .i64 cl]) := by show Vn _ _ _ _; rw [HW.out]; exact Vn.new w _ _
 have HB0 : Hid (Below w.heap.size w wb) := by show Below _ _ _; rw [HW.out]; exact jlow _ _
 have c0 := HX.out.cell 0 _ rfl
 have c1 := HX.out.cell 1 _ rfl
 have c2 := HX.out.cell 2 _ rfl
 have c3 := HX.out.cell 3 _ rfl
 have c4 := HX.out.cell 4 _ rfl
 have c5 := HX.out.cell 5 _ rfl
 clear hm
 go_enter Tryd.func11, Tryd.ntmps11
 go_wp2_with (first
  | rw [← HW.out]
  | (go_at_call 19; go_loud (refine (HMy.out _ HB0.out).mono ?_; rintro e w1 ⟨rfl, hb1⟩; have HB1 := qa0 (jtwo HB0.out hb1); clear hb1)))
 go_ret2
 exact ⟨rfl, HB1.out⟩
theorem qdg (m c1 c2 : Nat) (a b : Option Addr) (q : Nat → Int) (w : World) (hm : m ≤ 9223372036854775807) (ha : Jl w a .i64 m q) (hb : Jl w b .i64 m q) :
  Calls Tryd.prog 15 #[.slice a m c1, .slice b m c2] w fun e w' => e = .returned (.bool true) ∧ Below w.heap.size w w' := by
 have HA : Hid (Jl w a .i64 m q) := ha
 have HB : Hid (Jl w b .i64 m q) := hb
 clear ha hb
 go_enter Tryd.func15, Tryd.ntmps15
 go_wp2
 go_loopw [5] (fun vi wr => ∃ j : Nat, j ≤ m ∧ vi = .int .i64 (j : Int) ∧ Below w.heap.size w wr) (fun vi _ => m - (intOf vi).toNat)
 case atStart => exact ⟨0, by omega, rfl, Below.refl _ _⟩
 case round =>
  obtain ⟨j, hj, rfl, hb⟩ := hrel
  have HW : Hid (Below w.heap.size w wr) := hb
  clear hb
  by_cases hlt : j < m
  ·obtain ⟨x, o, ea, hc⟩ := (HA.out.later HW.out) j hlt
   obtain ⟨x', o', eb, hc'⟩ := (HB.out.later HW.out) j hlt
   subst ea
   subst eb
   obtain ⟨y, HY⟩ : ∃ y, Hid (q j = y) := ⟨_, rfl⟩
   rw [HY.out] at hc hc'
   have p0 : (0 : Int) ≤ (j : Int) := by omega
   have p1 : (j : Int) < (m : Int) := by omega
   have d1 : decide (j < m) = true := decide_eq_true hlt
   clear HA HB HY
   go_wp2
   go_quiet (fail)
   go_wp2
   exact ⟨⟨j + 1, by omega, by go_num, below_drewN HW.out _⟩, by simp [intOf]; omega⟩
  ·obtain rfl : j = m := by omega
   have d1 : decide (j < j) = false := decide_eq_false (by omega)
   go_wp2
   go_ret
   exact ⟨rfl, HW.out⟩
theorem qas (w : World) (a : Option Addr) (n cap : Nat) (F : Nat → Xt) (M : Nat → List Int) (hXl : ∀ d, XL d w a n F) (hn : n ≤ 2) (hM : ∀ i, i < n → (M i).length ≤ 20000)
  (hC : ∀ i, i < n → ∀ (w' : World) (a' : Option Addr) (c' : Nat), Below w.heap.size w w' → (∀ d, XL d w' a' (F i []).len (kid (F i))) → Calls Tryd.prog 16 #[.slice a' (F i []).len c'] w' fun e w'' => (∃ v, e = .returned v ∧ Iw w'' w'.heap.size v (M i)) ∧ Below w'.heap.size w' w'') :
  Calls Tryd.prog 16 #[.slice a n cap] w fun e w' => (∃ v, e = .returned v ∧ Iw w' w.heap.size v (icl (fun i => [(F i []).ln, (F i []).cl] ++ M i) n)) ∧ Below w.heap.size w w' := by
 have HXl := qa0 hXl
 have HCa := qa0 hC
 have HMa := qa0 hM
 clear hXl hC hM
 obtain ⟨g, HG⟩ : ∃ g, Hid ((fun i => [(F i []).ln, (F i []).cl] ++ M i) = g) := ⟨_, rfl⟩
 rw [HG.out]
 go_enter Tryd.func16, Tryd.ntmps16
 go_wp2
 go_loopw [3, 4] (fun vo vi wr => ∃ (i : Nat) (L : List Int), i ≤ n ∧ vi = .int .i64 (i : Int) ∧ Hid (icl g i = L) ∧ (∃ x dd, vo = .slice x L.length dd) ∧ L.length ≤ i * 20002 ∧ Hid (Iw wr w.heap.size vo L) ∧ Hid (Below w.heap.size w wr)) (fun _ vi _ => n - (intOf vi).toNat)
 case atStart => exact ⟨0, [], by omega, rfl, rfl, ⟨none, 0, rfl⟩, Nat.zero_le _, Iw.nil _ _, Below.refl _ _⟩
 case round =>
  obtain ⟨i, L, hi, rfl, HL, ⟨x, dd, rfl⟩, hLl, HU, HB⟩ := hrel
  have hsw := HB.out.size
  by_cases hlt : i < n
  ·have p0 : (0 : Int) ≤ (i : Int) := by omega
   have p1 : (i : Int) < (n : Int) := by omega
   obtain ⟨b, o, kk, nl, nn, ll, cc, nx, ka, kc, rfl, hXV, hcl⟩ := XL.at_ HXl.out hlt
   obtain ⟨MI, HMI⟩ : ∃ MI, Hid (M i = MI) := ⟨_, rfl⟩
   have hMl := HMa.out i hlt
   rw [HMI.out] at hMl
   have HC : Hid (∀ w', Below w.heap.size w w' → Calls Tryd.prog 16 #[.slice ka nl kc] w' fun e w'' => (∃ v, e = .returned v ∧ Iw w'' w'.heap.size v MI) ∧ Below w'.heap.size w' w'') := fun w' hb => by
    obtain ⟨⟨a2, c2, e, hl⟩, _⟩ := hXV.later hb
    simp at e
    obtain ⟨_, _, _, ⟨rfl, rfl, rfl⟩, _, _⟩ := e
    have h := HCa.out i hlt w' ka kc hb hl
    rw [HMI.out] at h
    exact h
   have Hgi : Hid (g i = [ll, cc] ++ MI) := by
    obtain ⟨⟨a2, c2, e, hl⟩, _⟩ := hXV
    simp at e
    obtain ⟨_, _, _, _, rfl, rfl⟩ := e
    show g i = _
    rw [← HG.out, ← HMI.out]
   have HKc := qa0 hcl
   clear hcl hXV HCa HMa HXl HG HMI
   go_wp2
   refine wp_region_held (S := fun w' => Below w.heap.size w w') (by kernel_rfl) ?_
   change wpAnyH _ _ _ _ _ _ _ _ (World.drew _)
   obtain ⟨W0, HW0⟩ : ∃ W0, Hid (wr.drew = W0) := ⟨_, rfl⟩
   have bl0 : Below wr.heap.size wr W0 := by rw [← HW0.out]; exact (Below.refl _ _).drew
   have hz0w : W0.heap.size = wr.heap.size := by rw [← HW0.out]; rfl
   rw [HW0.out]
   clear HW0
   have hb0 := jtwo HB.out bl0
   have hU0 := HU.out.later bl0
   refine wtkq 0 ?vt0_1 rfl (by kernel_rfl) (fun _ _ _ h => h) (by rfl) ?yt0_1 hb0 ?zt0_1
   case yt0_1 => (intro wq hSw; obtain ⟨k0, k1, k2, k3, k4, k5⟩ := HKc.out wq hSw; go_simp; try with_reducible rfl)
   try simp only [mz1, mz3, Act.put, mz4, mz5, mz6]
   refine wtkq 1 ?vt1_2 rfl (by kernel_rfl) (fun _ _ _ h => h) (by rfl) ?yt1_2 hb0 ?zt1_2
   case yt1_2 => (intro wq hSw; obtain ⟨k0, k1, k2, k3, k4, k5⟩ := HKc.out wq hSw; go_simp; try with_reducible rfl)
   try simp only [mz1, mz2, mz3, Act.put, mz4, mz5, mz6]
   refine wtkq 2 ?vt2_3 rfl (by kernel_rfl) (fun _ _ _ h => h) (by rfl) ?yt2_3 hb0 ?zt2_3
   case yt2_3 => (intro wq hSw; obtain ⟨k0, k1, k2, k3, k4, k5⟩ := HKc.out wq hSw; go_simp; try with_reducible rfl)
   try simp only [mz1, mz2, mz3, Act.put, mz4, mz5, mz6]
   refine wtkq 3 ?vt3_4 rfl (by kernel_rfl) (fun _ _ _ h => h) (by rfl) ?yt3_4 hb0 ?zt3_4
   case yt3_4 => (intro wq hSw; obtain ⟨k0, k1, k2, k3, k4, k5⟩ := HKc.out wq hSw; go_simp; try with_reducible rfl)
   try simp only [mz1, mz2, mz3, Act.put, mz4, mz5, mz6]
   refine wtkq 4 ?vt4_5 rfl (by kernel_rfl) (fun _ _ _ h => h) (by rfl) ?yt4_5 hb0 ?zt4_5
   case yt4_5 => (intro wq hSw; obtain ⟨k0, k1, k2, k3, k4, k5⟩ := HKc.out wq hSw; go_simp; try with_reducible rfl)
   try simp only [mz1, mz2, mz3, Act.put, mz4, mz5, mz6]
   refine wtkq 5 ?vt5_6 rfl (by kernel_rfl) (fun _ _ _ h => h) (by rfl) ?yt5_6 hb0 ?zt5_6
   case yt5_6 => (intro wq hSw; obtain ⟨k0, k1, k2, k3, k4, k5⟩ := HKc.out wq hSw; go_simp; try with_reducible rfl)
   try simp only [mz1, mz2, mz3, Act.put, mz4, mz5, mz6]
   refine wtkq 6 ?vt6_7 rfl (by kernel_rfl) (fun _ _ _ h => h) (by rfl) ?yt6_7 hb0 ?zt6_7
   case yt6_7 => (intro wq hSw; obtain ⟨k0, k1, k2, k3, k4, k5⟩ := HKc.out wq hSw; go_simp; try with_reducible rfl)
   try simp only [mz1, mz2, mz3, Act.put, mz4, mz5, mz6]
   refine wtkq 7 ?vt7_8 rfl (by kernel_rfl) (fun _ _ _ h => h) (by rfl) ?yt7_8 hb0 ?zt7_8
   case yt7_8 => (intro wq hSw; obtain ⟨k0, k1, k2, k3, k4, k5⟩ := HKc.out wq hSw; go_simp; try with_reducible rfl)
   try simp only [mz1, mz2, mz3, Act.put, mz4, mz5, mz6]
   refine wtkq 8 ?vt8_9 rfl (by kernel_rfl) (fun _ _ _ h => h) (by rfl) ?yt8_9 hb0 ?zt8_9
   case yt8_9 => (intro wq hSw; obtain ⟨k0, k1, k2, k3, k4, k5⟩ := HKc.out wq hSw; go_simp; try with_reducible rfl)
   try simp only [mz1, mz2, mz3, Act.put, mz4, mz5, mz6]
   refine wtkq 9 ?vt9_10 rfl (by kernel_rfl) (fun _ _ _ h => h) (by rfl) ?yt9_10 hb0 ?zt9_10
   case yt9_10 => (intro wq hSw; obtain ⟨k0, k1, k2, k3, k4, k5⟩ := HKc.out wq hSw; go_simp; try with_reducible rfl)
   try simp only [mz1, mz2, mz3, Act.put, mz4, mz5, mz6]
   refine wtkq 10 ?vt10_11 rfl (by kernel_rfl) (fun _ _ _ h => h) (by rfl) ?yt10_11 hb0 ?zt10_11
   case yt10_11 => (intro wq hSw; obtain ⟨k0, k1, k2, k3, k4, k5⟩ := HKc.out wq hSw; go_simp; try with_reducible rfl)
   try simp only [mz1, mz2, mz3, Act.put, mz4, mz5, mz6]
   refine wpAnyH_ready (rs := [11]) (by kernel_rfl) (by simp) ?_
   refine AllReadyH.cons rfl (fun KK hKK => ?_) AllReadyH.nil
   go_simp
   obtain ⟨W3, HW3⟩ : ∃ W, Hid (W0.alloc (.cells #[.int .i64 ll, .int .i64 cc] 3) = W) := ⟨_, rfl⟩
   have hb3 : Below W0.heap.size W0 W3 := by rw [← HW3.out]; exact jlow _ _
   have hz3w : W3.heap.size = W0.heap.size + 1 := by rw [← HW3.out]; exact qa2 _ _
   have hnw : ∀ j u, [Value.int .i64 ll, .int .i64 cc][j]? = some u → W3.cell? ((⟨W0.heap.size, 0, none⟩ : Addr).add j) = some u := by rw [← HW3.out]; exact qam _ [.int .i64 ll, .int .i64 cc] _
   rw [HW3.out]
   rw [hz0w] at hnw
   have hB3 := jtwo hb0 hb3
   refine hKK.out _ _ hB3 (fun _ => ?_)
   clear hKK KK
   try simp only [mz1, mz2, mz3, Act.put, mz4, mz5, mz6]
   refine wpAnyH_ready (rs := [12]) (by kernel_rfl) (by simp) ?_
   refine AllReadyH.cons rfl (fun KK hKK => ?_) AllReadyH.nil
   refine qbj rfl _ _ rfl w.heap.size _ L ll cc rfl (hU0.later hb3) ⟨wr.heap.size, 0, none⟩ rfl hnw (by omega) (by omega) ?_
   intro v4 w4 h4 hb4
   obtain ⟨L4, HL4⟩ : ∃ L4, Hid (L ++ [ll, cc] = L4) := ⟨_, rfl⟩
   rw [HL4.out] at h4
   have hB4 : Below w.heap.size w w4 := hB3.trans hb4
   obtain ⟨x4, d4, e4, -⟩ := h4.form
   subst e4
   have HU4 := qa0 h4
   have HB4 := qa0 hB4
   refine hKK.out _ _ hB4 (fun _ => ?_)
   clear hKK KK
   try simp only [mz1, mz2, mz3, Act.put, mz4, mz5, mz6]
   refine wtkq 13 ?vt13_12 rfl (by kernel_rfl) (fun _ _ _ h => h) (by rfl) ?yt13_12 HB4.out ?zt13_12
   case yt13_12 => (intro wq hSw; obtain ⟨k0, k1, k2, k3, k4, k5⟩ := HKc.out wq hSw; go_simp; try with_reducible rfl)
   try simp only [mz1, mz2, mz3, Act.put, mz4, mz5, mz6]
   refine wpAnyH_done (by kernel_rfl) ?_ _
   try simp only [mz1, mz2, mz3, Act.put, mz4, mz5, mz6]
   obtain ⟨k0, k1, k2, k3, k4, k5⟩ := HKc.out w4 HB4.out
   have hs4 := HB4.out.size
   have HC4 := qa0 (HC.out w4 HB4.out)
   have Hl4 : Hid (L4.length = L.length + 2) := by show _ = _; rw [← HL4.out, List.length_append]; rfl
   obtain ⟨LM, HLM⟩ : ∃ LM, Hid (L4 ++ MI = LM) := ⟨_, rfl⟩
   have HL2 : Hid (icl g (i + 1) = LM) := by show icl g i ++ g i = _; rw [HL.out, Hgi.out, ← List.append_assoc, HL4.out, HLM.out]
   have HLn : Hid (LM.length = L.length + 2 + MI.length) := by show _ = _; rw [← HLM.out, List.length_append, Hl4.out]
   clear hb0 hU0 hb3 hB3 hnw h4 hb4 hB4 HKc HC HU HB HL bl0
   go_wp2_with (first
    | (go_at_call 16; go_loud (refine HC4.out.mono ?_; rintro e w5 ⟨⟨v5, rfl, h5⟩, hb5⟩; have HM5 := qa0 h5; have HB5 := qa0 hb5; have HU5 := qa0 (HU4.out.later hb5); have hs5 := hb5.size; clear h5 hb5))
    | (at_builtin; go_loud (refine qb8 rfl _ _ rfl w.heap.size _ L4 rfl HU5.out w4.heap.size _ MI rfl HM5.out (by have := Hl4.out; omega) (by omega) ?_; intro v6 w6 h6 hb6; rw [HLM.out] at h6; have HU6 := qa0 h6; have HB6 := qa0 ((jtwo HB4.out HB5.out).trans hb6); obtain ⟨x6, d6, e6, -⟩ := h6.form; subst e6; clear h6 hb6)))
   exact ⟨⟨i + 1, LM, by omega, by go_num, HL2, ⟨_, _, rfl⟩, (by have := HLn.out; omega), HU6, HB6⟩, by simp [intOf]; omega⟩
  ·obtain rfl : i = n := by omega
   have d1 : decide ((i : Int) < (i : Int)) = false := decide_eq_false (by omega)
   clear HCa HXl HMa HG
   go_wp2
   go_ret
   exact ⟨⟨_, rfl, by rw [HL.out]; exact HU.out⟩, HB.out⟩
/-- The places of a list of expressions. -/
theorem rplaces : ∀ (d : Nat) (w : World) (a : Option Addr) (n cap : Nat) (F : Nat → Xt), (∀ d, XL d w a n F) → n ≤ 2 → (∀ i, i < n → Pd d (F i)) → Calls Tryd.prog 16 #[.slice a n cap] w fun e w' => (∃ v, e = .returned v ∧ Iw w' w.heap.size v (icl (fun i => plc d (F i)) n)) ∧ Below w.heap.size w w' := by
 intro d
 induction d with
 | zero =>
  intro w a n cap F hX hn hP
  have h0 : ∀ i, i < n → (F i []).len = 0 := fun i hi => by
   rcases hP i hi with h | h
   ·exact h.no.elim
   ·exact h
  have h := qas w a n cap F (fun _ => []) hX hn (fun i _ => Nat.zero_le _) (fun i hi w' a' c' hb hl => by
   rw [h0 i hi] at hl ⊢
   exact qas w' a' 0 c' (kid (F i)) (fun _ => []) hl (by omega) (fun i hi => by omega) (fun i hi => by omega))
  exact h
 | succ d ih =>
  intro w a n cap F hX hn hP
  exact qas w a n cap F (fun i => icl (fun j => plc d (kid (F i) j)) (F i []).len) hX hn (fun i hi => by
   have h := (hP i hi).few
   have e : (plc (d + 1) (F i)).length = 2 + (icl (fun j => plc d (kid (F i) j)) (F i []).len).length := by
    show ([(F i []).ln, (F i []).cl] ++ icl (fun j => plc d (kid (F i) j)) (F i []).len).length = _
    rw [List.length_append]
    rfl
   omega) (fun i hi w' a' c' hb hl => ih w' a' _ c' (kid (F i)) hl (hP i hi).len (hP i hi).kid)
end Go.Proofs.YtgmndjbicandfaaDoor
