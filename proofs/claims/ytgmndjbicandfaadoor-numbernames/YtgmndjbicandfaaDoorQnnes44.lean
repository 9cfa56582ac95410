/-
  Contracts of the tree's reference: LikeExpr, likeExprs.
-/
import Derived.Test.YtgmndjbicandfaaDoorQnnes00
import Derived.Test.YtgmndjbicandfaaDoorQnnes43
set_option maxRecDepth 100000
set_option maxHeartbeats 16000000
namespace Go.Proofs.YtgmndjbicandfaaDoor
open Go.RowKit
theorem rlikexs (d : Nat) (IH : ∀ (w : World) (T U : Xt) (v u : Value), FinX d T → XV w v T → XV w u U → Calls Tryd.prog 14 #[v, u] w fun e w' => e = .returned (.bool (lkB d T U)) ∧ Below w.heap.size w w')
  (w : World) (a a' : Option Addr) (n n' c c' : Nat) (F G : Nat → Xt) (hF : ∀ i, i < n → FinX d (F i)) (hX : ∀ d, XL d w a n F) (hY : ∀ d, XL d w a' n' G) (hn : n ≤ 140737488351232) (hn' : n' ≤ 140737488351232) :
  Calls Tryd.prog 35 #[.slice a n c, .slice a' n' c'] w fun e w' => e = .returned (.bool (llB F G d n n')) ∧ Below w.heap.size w w' := by
 have HX := qa0 hX
 have HY := qa0 hY
 have HI := qa0 IH
 have HFn := qa0 hF
 have HL : Hid (llB F G d n n' = (decide (n = n') && alB (fun i => lkB d (F i) (G i)) n)) := rfl
 rw [HL.out]
 obtain ⟨B, HBf⟩ : ∃ B : Nat → Bool, Hid ((fun i => lkB d (F i) (G i)) = B) := ⟨_, rfl⟩
 rw [HBf.out]
 have HBi : Hid (∀ i, lkB d (F i) (G i) = B i) := fun i => congrFun HBf.out i
 clear hX hY IH hF HL HBf
 by_cases hne : n = n'
 ·subst hne
  have HD : Hid ((decide (n = n) && alB B n) = alB B n) := by show _ = _; simp
  rw [HD.out]
  clear HD
  go_enter Tryd.func35, Tryd.ntmps35
  go_wp2
  go_loopw [5] (fun vi wr => ∃ i : Nat, i ≤ n ∧ vi = .int .i64 (i : Int) ∧ Hid (alB B i = true) ∧ Below w.heap.size w wr) (fun vi _ => n - (intOf vi).toNat)
  case atStart => exact ⟨0, by omega, rfl, rfl, Below.refl _ _⟩
  case round =>
   obtain ⟨i, hi, rfl, HA, hb⟩ := hrel
   have HB := qa0 hb
   by_cases hlt : i < n
   ·have p0 : (0 : Int) ≤ (i : Int) := by omega
    have p1 : (i : Int) < (n : Int) := by omega
    obtain ⟨b, o, kk, nl, nn, ll, cc, nx, ka, kc, rfl, hkid, hcl⟩ := XL.at_ HX.out (i := i) hlt
    obtain ⟨b2, o2, kk2, nl2, nn2, ll2, cc2, nx2, ka2, kc2, rfl, hkid2, hcl2⟩ := XL.at_ HY.out (i := i) hlt
    have HSa : Hid (∀ w' : World, Below w.heap.size w w' → (fun w' => w'.cell? ⟨b, o + i * 6, none⟩ = some (.int .u8 (kk : Int)) ∧ w'.cell? ⟨b, o + i * 6 + 1, none⟩ = some (.int .i64 nn) ∧ w'.cell? ⟨b, o + i * 6 + 2, none⟩ = some (.string nx) ∧ w'.cell? ⟨b, o + i * 6 + 3, none⟩ = some (.slice ka nl kc) ∧ w'.cell? ⟨b, o + i * 6 + 4, none⟩ = some (.int .i64 ll) ∧ w'.cell? ⟨b, o + i * 6 + 5, none⟩ = some (.int .i64 cc) ∧ w'.cell? ⟨b2, o2 + i * 6, none⟩ = some (.int .u8 (kk2 : Int)) ∧ w'.cell? ⟨b2, o2 + i * 6 + 1, none⟩ = some (.int .i64 nn2) ∧ w'.cell? ⟨b2, o2 + i * 6 + 2, none⟩ = some (.string nx2) ∧ w'.cell? ⟨b2, o2 + i * 6 + 3, none⟩ = some (.slice ka2 nl2 kc2) ∧ w'.cell? ⟨b2, o2 + i * 6 + 4, none⟩ = some (.int .i64 ll2) ∧ w'.cell? ⟨b2, o2 + i * 6 + 5, none⟩ = some (.int .i64 cc2)) w') := fun w' hb => by
     obtain ⟨k0, k1, k2, k3, k4, k5⟩ := hcl w' hb
     obtain ⟨m0, m1, m2, m3, m4, m5⟩ := hcl2 w' hb
     exact ⟨k0, k1, k2, k3, k4, k5, m0, m1, m2, m3, m4, m5⟩
    have HCi : Hid (∀ w' : World, Below w.heap.size w w' → Calls Tryd.prog 14 #[.agg #[.int .u8 (kk : Int), .int .i64 nn, .string nx, .slice ka nl kc, .int .i64 ll, .int .i64 cc], .agg #[.int .u8 (kk2 : Int), .int .i64 nn2, .string nx2, .slice ka2 nl2 kc2, .int .i64 ll2, .int .i64 cc2]] w' fun e w'' => e = .returned (.bool (B i)) ∧ Below w'.heap.size w' w'') := fun w' hb => by rw [← HBi.out i]; exact HI.out w' (F i) (G i) _ _ (HFn.out i hlt) (hkid.later hb) (hkid2.later hb)
    have HAs : Hid (alB B (i + 1) = B i) := by show (alB B i && B i) = B i; rw [HA.out, Bool.true_and]
    have HAf : Hid (alB B (i + 1) = false → alB B n = false) := fun h => alB_stop h hlt
    generalize B i = bi at *
    clear hkid hcl hkid2 hcl2 hb HX HY HI HFn
    cases bi with
    | true =>
     go_wp2
     refine wp_region_held (S := fun w' => w'.cell? ⟨b, o + i * 6, none⟩ = some (.int .u8 (kk : Int)) ∧ w'.cell? ⟨b, o + i * 6 + 1, none⟩ = some (.int .i64 nn) ∧ w'.cell? ⟨b, o + i * 6 + 2, none⟩ = some (.string nx) ∧ w'.cell? ⟨b, o + i * 6 + 3, none⟩ = some (.slice ka nl kc) ∧ w'.cell? ⟨b, o + i * 6 + 4, none⟩ = some (.int .i64 ll) ∧ w'.cell? ⟨b, o + i * 6 + 5, none⟩ = some (.int .i64 cc) ∧ w'.cell? ⟨b2, o2 + i * 6, none⟩ = some (.int .u8 (kk2 : Int)) ∧ w'.cell? ⟨b2, o2 + i * 6 + 1, none⟩ = some (.int .i64 nn2) ∧ w'.cell? ⟨b2, o2 + i * 6 + 2, none⟩ = some (.string nx2) ∧ w'.cell? ⟨b2, o2 + i * 6 + 3, none⟩ = some (.slice ka2 nl2 kc2) ∧ w'.cell? ⟨b2, o2 + i * 6 + 4, none⟩ = some (.int .i64 ll2) ∧ w'.cell? ⟨b2, o2 + i * 6 + 5, none⟩ = some (.int .i64 cc2)) (by kernel_rfl) ?_
     change wpAnyH _ _ _ _ _ _ _ _ (World.drew _)
     obtain ⟨W0, HW0⟩ : ∃ W0, Hid (wr.drew = W0) := ⟨_, rfl⟩
     have HB0 : Hid (Below w.heap.size w W0) := by show Below _ _ _; rw [← HW0.out]; exact HB.out.drew
     rw [HW0.out]
     clear HW0
     refine wtkq 0 ?vt0 rfl (by kernel_rfl) (fun _ _ _ h => h) (by rfl) ?yt0 (HSa.out _ HB0.out) ?zt0
     case yt0 => (intro w hSw; (try dsimp only at hSw); go_simp; try with_reducible rfl)
     try simp only [mz1, mz3, Act.put, mz4, mz5, mz6]
     refine wtkq 1 ?vt1 rfl (by kernel_rfl) (fun _ _ _ h => h) (by rfl) ?yt1 (HSa.out _ HB0.out) ?zt1
     case yt1 => (intro w hSw; (try dsimp only at hSw); go_simp; try with_reducible rfl)
     try simp only [mz1, mz2, mz3, Act.put, mz4, mz5, mz6]
     refine wtkq 2 ?vt2 rfl (by kernel_rfl) (fun _ _ _ h => h) (by rfl) ?yt2 (HSa.out _ HB0.out) ?zt2
     case yt2 => (intro w hSw; (try dsimp only at hSw); go_simp; try with_reducible rfl)
     try simp only [mz1, mz2, mz3, Act.put, mz4, mz5, mz6]
     refine wtkq 3 ?vt3 rfl (by kernel_rfl) (fun _ _ _ h => h) (by rfl) ?yt3 (HSa.out _ HB0.out) ?zt3
     case yt3 => (intro w hSw; (try dsimp only at hSw); go_simp; try with_reducible rfl)
     try simp only [mz1, mz2, mz3, Act.put, mz4, mz5, mz6]
     refine wtkq 4 ?vt4 rfl (by kernel_rfl) (fun _ _ _ h => h) (by rfl) ?yt4 (HSa.out _ HB0.out) ?zt4
     case yt4 => (intro w hSw; (try dsimp only at hSw); go_simp; try with_reducible rfl)
     try simp only [mz1, mz2, mz3, Act.put, mz4, mz5, mz6]
     refine wtkq 5 ?vt5 rfl (by kernel_rfl) (fun _ _ _ h => h) (by rfl) ?yt5 (HSa.out _ HB0.out) ?zt5
     case yt5 => (intro w hSw; (try dsimp only at hSw); go_simp; try with_reducible rfl)
     try simp only [mz1, mz2, mz3, Act.put, mz4, mz5, mz6]
     refine wtkq 6 ?vt6 rfl (by kernel_rfl) (fun _ _ _ h => h) (by rfl) ?yt6 (HSa.out _ HB0.out) ?zt6
     case yt6 => (intro w hSw; (try dsimp only at hSw); go_simp; try with_reducible rfl)
     try simp only [mz1, mz2, mz3, Act.put, mz4, mz5, mz6]
     refine wtkq 7 ?vt7 rfl (by kernel_rfl) (fun _ _ _ h => h) (by rfl) ?yt7 (HSa.out _ HB0.out) ?zt7
     case yt7 => (intro w hSw; (try dsimp only at hSw); go_simp; try with_reducible rfl)
     try simp only [mz1, mz2, mz3, Act.put, mz4, mz5, mz6]
     refine wpAnyH_ready (rs := [8]) (by kernel_rfl) (by simp) ?_
     refine AllReadyH.cons rfl (fun KK hKK => ?_) AllReadyH.nil
     go_simp
     refine (HCi.out _ HB0.out).mono ?_; rintro e w3 ⟨rfl, hb3⟩; have HB3 := qa0 (jtwo HB0.out hb3); clear hb3
     refine hKK.out _ _ (HSa.out _ HB3.out) (fun _ => ?_)
     clear hKK KK
     try simp only [mz1, mz2, mz3, Act.put, mz4, mz5, mz6]
     refine wtkq 9 ?vt9 rfl (by kernel_rfl) (fun _ _ _ h => h) (by rfl) ?yt9 (HSa.out _ HB3.out) ?zt9
     case yt9 => (intro w hSw; (try dsimp only at hSw); go_simp; try with_reducible rfl)
     try simp only [mz1, mz2, mz3, Act.put, mz4, mz5, mz6]
     refine wpAnyH_done (by kernel_rfl) ?_ _
     go_wp2
     exact ⟨⟨i + 1, by omega, by go_num, HAs, HB3.out⟩, by simp [intOf]; omega⟩
    | false =>
     have HF : Hid (alB B n = false) := HAf.out HAs.out
     go_wp2
     refine wp_region_held (S := fun w' => w'.cell? ⟨b, o + i * 6, none⟩ = some (.int .u8 (kk : Int)) ∧ w'.cell? ⟨b, o + i * 6 + 1, none⟩ = some (.int .i64 nn) ∧ w'.cell? ⟨b, o + i * 6 + 2, none⟩ = some (.string nx) ∧ w'.cell? ⟨b, o + i * 6 + 3, none⟩ = some (.slice ka nl kc) ∧ w'.cell? ⟨b, o + i * 6 + 4, none⟩ = some (.int .i64 ll) ∧ w'.cell? ⟨b, o + i * 6 + 5, none⟩ = some (.int .i64 cc) ∧ w'.cell? ⟨b2, o2 + i * 6, none⟩ = some (.int .u8 (kk2 : Int)) ∧ w'.cell? ⟨b2, o2 + i * 6 + 1, none⟩ = some (.int .i64 nn2) ∧ w'.cell? ⟨b2, o2 + i * 6 + 2, none⟩ = some (.string nx2) ∧ w'.cell? ⟨b2, o2 + i * 6 + 3, none⟩ = some (.slice ka2 nl2 kc2) ∧ w'.cell? ⟨b2, o2 + i * 6 + 4, none⟩ = some (.int .i64 ll2) ∧ w'.cell? ⟨b2, o2 + i * 6 + 5, none⟩ = some (.int .i64 cc2)) (by kernel_rfl) ?_
     change wpAnyH _ _ _ _ _ _ _ _ (World.drew _)
     obtain ⟨W0, HW0⟩ : ∃ W0, Hid (wr.drew = W0) := ⟨_, rfl⟩
     have HB0 : Hid (Below w.heap.size w W0) := by show Below _ _ _; rw [← HW0.out]; exact HB.out.drew
     rw [HW0.out]
     clear HW0
     refine wtkq 0 ?vf0 rfl (by kernel_rfl) (fun _ _ _ h => h) (by rfl) ?yf0 (HSa.out _ HB0.out) ?zf0
     case yf0 => (intro w hSw; (try dsimp only at hSw); go_simp; try with_reducible rfl)
     try simp only [mz1, mz3, Act.put, mz4, mz5, mz6]
     refine wtkq 1 ?vf1 rfl (by kernel_rfl) (fun _ _ _ h => h) (by rfl) ?yf1 (HSa.out _ HB0.out) ?zf1
     case yf1 => (intro w hSw; (try dsimp only at hSw); go_simp; try with_reducible rfl)
     try simp only [mz1, mz2, mz3, Act.put, mz4, mz5, mz6]
     refine wtkq 2 ?vf2 rfl (by kernel_rfl) (fun _ _ _ h => h) (by rfl) ?yf2 (HSa.out _ HB0.out) ?zf2
     case yf2 => (intro w hSw; (try dsimp only at hSw); go_simp; try with_reducible rfl)
     try simp only [mz1, mz2, mz3, Act.put, mz4, mz5, mz6]
     refine wtkq 3 ?vf3 rfl (by kernel_rfl) (fun _ _ _ h => h) (by rfl) ?yf3 (HSa.out _ HB0.out) ?zf3
     case yf3 => (intro w hSw; (try dsimp only at hSw); go_simp; try with_reducible rfl)
     try simp only [mz1, mz2, mz3, Act.put, mz4, mz5, mz6]
     refine wtkq 4 ?vf4 rfl (by kernel_rfl) (fun _ _ _ h => h) (by rfl) ?yf4 (HSa.out _ HB0.out) ?zf4
     case yf4 => (intro w hSw; (try dsimp only at hSw); go_simp; try with_reducible rfl)
     try simp only [mz1, mz2, mz3, Act.put, mz4, mz5, mz6]
     refine wtkq 5 ?vf5 rfl (by kernel_rfl) (fun _ _ _ h => h) (by rfl) ?yf5 (HSa.out _ HB0.out) ?zf5
     case yf5 => (intro w hSw; (try dsimp only at hSw); go_simp; try with_reducible rfl)
     try simp only [mz1, mz2, mz3, Act.put, mz4, mz5, mz6]
     refine wtkq 6 ?vf6 rfl (by kernel_rfl) (fun _ _ _ h => h) (by rfl) ?yf6 (HSa.out _ HB0.out) ?zf6
     case yf6 => (intro w hSw; (try dsimp only at hSw); go_simp; try with_reducible rfl)
     try simp only [mz1, mz2, mz3, Act.put, mz4, mz5, mz6]
     refine wtkq 7 ?vf7 rfl (by kernel_rfl) (fun _ _ _ h => h) (by rfl) ?yf7 (HSa.out _ HB0.out) ?zf7
     case yf7 => (intro w hSw; (try dsimp only at hSw); go_simp; try with_reducible rfl)
     try simp only [mz1, mz2, mz3, Act.put, mz4, mz5, mz6]
     refine wpAnyH_ready (rs := [8]) (by kernel_rfl) (by simp) ?_
     refine AllReadyH.cons rfl (fun KK hKK => ?_) AllReadyH.nil
     go_simp
     refine (HCi.out _ HB0.out).mono ?_; rintro e w3 ⟨rfl, hb3⟩; have HB3 := qa0 (jtwo HB0.out hb3); clear hb3
     refine hKK.out _ _ (HSa.out _ HB3.out) (fun _ => ?_)
     clear hKK KK
     try simp only [mz1, mz2, mz3, Act.put, mz4, mz5, mz6]
     refine wtkq 9 ?vf9 rfl (by kernel_rfl) (fun _ _ _ h => h) (by rfl) ?yf9 (HSa.out _ HB3.out) ?zf9
     case yf9 => (intro w hSw; (try dsimp only at hSw); go_simp; try with_reducible rfl)
     try simp only [mz1, mz2, mz3, Act.put, mz4, mz5, mz6]
     refine wpAnyH_done (by kernel_rfl) ?_ _
     go_wp2
     go_ret
     exact ⟨by rw [HF.out]; rfl, HB3.out⟩
   ·obtain rfl : i = n := by omega
    clear hb
    go_wp2
    go_ret
    exact ⟨by rw [HA.out]; rfl, HB.out⟩
 ·have HD : Hid ((decide (n = n') && alB B n) = false) := by show _ = _; rw [decide_eq_false hne]; rfl
  rw [HD.out]
  have q : ((n : Int) == (n' : Int)) = false := by simp; omega
  have q2 : ((n : Int) != (n' : Int)) = true := by simp; omega
  go_enter Tryd.func35, Tryd.ntmps35
  go_wp2
  go_ret
  exact ⟨rfl, Below.refl _ _⟩
theorem rlx_one (w : World) (k len cap k2 len2 cap2 : Nat) (n ln cl n2 ln2 cl2 : Int) (nm nm2 : ByteArray) (a a2 : Option Addr) (r : Bool)
    (HC : Hid (∀ w' : World, Below w.heap.size w w' → Calls Tryd.prog 35 #[.slice a len cap, .slice a2 len2 cap2] w' fun e w'' => e = .returned (.bool r) ∧ Below w'.heap.size w' w'')) :
    Calls Tryd.prog 14 #[.agg #[.int .u8 (k : Int), .int .i64 n, .string nm, .slice a len cap, .int .i64 ln, .int .i64 cl], .agg #[.int .u8 (k2 : Int), .int .i64 n2, .string nm2, .slice a2 len2 cap2, .int .i64 ln2, .int .i64 cl2]] w fun e w' => e = .returned (.bool (decide (k = k2) && (decide (n = n2) && (decide (nm = nm2) && r)))) ∧ Below w.heap.size w w' := by
  have e3 := tl_eq (x := nm) (y := nm2)
  have e1 : ((k : Int) == (k2 : Int)) = decide (k = k2) := by by_cases h : k = k2 <;> simp [h]; omega
  have e2 : (n == n2) = decide (n = n2) := by by_cases h : n = n2 <;> simp [h]
  generalize decide (k = k2) = b1 at *
  generalize decide (n = n2) = b2 at *
  generalize decide (nm = nm2) = b3 at *
  have HV1 := qa0 ((Vn.new w 25 #[.int .u8 (k : Int), .int .i64 n, .string nm, .slice a len cap, .int .i64 ln, .int .i64 cl]).later (jlow _ (.cells #[.int .u8 (k2 : Int), .int .i64 n2, .string nm2, .slice a2 len2 cap2, .int .i64 ln2, .int .i64 cl2] 25)))
  have HV2 := qa0 (Vn.new (w.alloc (.cells #[.int .u8 (k : Int), .int .i64 n, .string nm, .slice a len cap, .int .i64 ln, .int .i64 cl] 25)) 25 #[.int .u8 (k2 : Int), .int .i64 n2, .string nm2, .slice a2 len2 cap2, .int .i64 ln2, .int .i64 cl2])
  rw [qa2] at HV2
  have HB := qa0 (jtwo (jlow w (.cells #[.int .u8 (k : Int), .int .i64 n, .string nm, .slice a len cap, .int .i64 ln, .int .i64 cl] 25)) (jlow _ (.cells #[.int .u8 (k2 : Int), .int .i64 n2, .string nm2, .slice a2 len2 cap2, .int .i64 ln2, .int .i64 cl2] 25)))
  have c0 := HV1.out.cell 0 _ rfl
  have d0 := HV2.out.cell 0 _ rfl
  have c1 := HV1.out.cell 1 _ rfl
  have d1 := HV2.out.cell 1 _ rfl
  have c2 := HV1.out.cell 2 _ rfl
  have d2 := HV2.out.cell 2 _ rfl
  have c3 := HV1.out.cell 3 _ rfl
  have d3 := HV2.out.cell 3 _ rfl
  have c4 := HV1.out.cell 4 _ rfl
  have d4 := HV2.out.cell 4 _ rfl
  have c5 := HV1.out.cell 5 _ rfl
  have d5 := HV2.out.cell 5 _ rfl
  cases b1 with
  | false =>
    show Calls _ _ _ _ fun e w' => e = .returned (.bool false) ∧ _
    go_enter Tryd.func14, Tryd.ntmps14
    go_wp2
    go_ret
    exact ⟨rfl, HB.out⟩
  | true =>
   cases b2 with
   | false =>
     show Calls _ _ _ _ fun e w' => e = .returned (.bool false) ∧ _
     go_enter Tryd.func14, Tryd.ntmps14
     go_wp2
     go_ret
     exact ⟨rfl, HB.out⟩
   | true =>
    cases b3 with
    | false =>
      show Calls _ _ _ _ fun e w' => e = .returned (.bool false) ∧ _
      go_enter Tryd.func14, Tryd.ntmps14
      go_wp2
      go_ret
      exact ⟨rfl, HB.out⟩
    | true =>
     show Calls _ _ _ _ fun e w' => e = .returned (.bool r) ∧ _
     go_enter Tryd.func14, Tryd.ntmps14
     go_wp2_with (first
       | (go_at_call 35; refine (HC.out _ HB.out).mono ?_; rintro e w1 ⟨rfl, hb1⟩; have HB1 := qa0 (jtwo HB.out hb1); clear hb1))
     go_ret
     exact ⟨rfl, HB1.out⟩
theorem rlikex : ∀ (d : Nat) (w : World) (T U : Xt) (v u : Value), FinX d T → XV w v T → XV w u U → Calls Tryd.prog 14 #[v, u] w fun e w' => e = .returned (.bool (lkB d T U)) ∧ Below w.heap.size w w' := by
 intro d
 induction d with
 | zero => intro w T U v u h; exact h.elim
 | succ d ih =>
  intro w T U v u hF hX hY
  have HX := qa0 hX
  have HY := qa0 hY
  obtain ⟨⟨a, cap, rfl, ha⟩, ok1⟩ := hX
  obtain ⟨⟨a2, cap2, rfl, ha2⟩, ok2⟩ := hY
  have h := rlx_one w (T []).k (T []).len cap (U []).k (U []).len cap2 (T []).n (T []).ln (T []).cl (U []).n (U []).ln (U []).cl (T []).nm (U []).nm a a2 (llB (kid T) (kid U) d (T []).len (U []).len)
   (fun w' hb => rlikexs d ih w' a a2 _ _ cap cap2 (kid T) (kid U) hF (fun e => (ha e).later hb) (fun e => (ha2 e).later hb) ok1.len47 ok2.len47)
  exact h
end Go.Proofs.YtgmndjbicandfaaDoor
