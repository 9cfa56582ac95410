/-
  VerdictFewer: with fewer lost it is recovered too; the sources.
-/
import Derived.Test.YtokdejhbjoglcaaQffer00
import Derived.Test.YtokdejhbjoglcaaQffer49
import Derived.OrdersHeld
set_option maxRecDepth 100000
set_option maxHeartbeats 16000000
namespace Go.Proofs.Ytokdejhbjoglcaa
open Go.RowKit Go.Shelf
attribute [local go_sem] Oper.semAt_some
theorem lgen18 (w : World) (r c E : Int) (n k s : Nat) (a : Option Addr) (b g : Bool) (hg : (E == 0) = g)
  (HR : Hid (∀ w' : World, Below w.heap.size w w' → Calls Try.prog 8 #[mv r c a n k, .int .u64 (s : Int)] w' fun e w'' => e = .returned (.tuple #[.bool b, .int .i64 E]) ∧ Below w'.heap.size w' w'')) :
  Calls Try.prog 13 #[mv r c a n k, .int .u64 (s : Int)] w fun e w' => e = .returned (.bool g) ∧ Below w.heap.size w w' := by
 go_enter Try.func13, Try.ntmps13
 go_wp2_with (go_at_call 8; refine (HR.out _ (qa0 _ _)).mono ?_; rintro e w1 ⟨rfl, hb⟩; have HB1 : Hid (Below w.heap.size w w1) := qa1 (qa0 _ _) hb; clear hb)
 go_ret
 exact ⟨by rw [← hg]; rfl, HB1.out⟩
/-- An error's number. -/
theorem SayA.err {F : Nat → Nat} {r c : Int} {n s q : Nat} {b : Bool} {E : Int} (h : SayA F r c n s b q E) (hE : E ≠ 0) : b = false ∧ (E == 0) = false := by
 rcases h with ⟨_, rfl, _, rfl⟩ | ⟨_, _, _, _, _, _, _, rfl, _, rfl⟩ | ⟨_, _, _, _, _, _, _, _, _, _, _, _, _, _, _, _, _, _, _, rfl⟩
 ·exact ⟨rfl, rfl⟩
 ·exact ⟨rfl, rfl⟩
 ·exact absurd rfl hE
/-- No error: all that is known. -/
theorem SayA.fine {F : Nat → Nat} {r c : Int} {n s q : Nat} {b : Bool} (h : SayA F r c n s b q 0) : ∃ r' c' t p : Nat, r = (r' : Int) ∧ c = (c' : Int) ∧ GenP r c n ∧ Rt r' c' n ∧ 1 ≤ c' ∧ c' ≤ r' ∧ s < 2 ^ r' ∧ t < 2 ^ r' ∧ bits .andNot .u64 ((2 ^ r' - 1 : Nat) : Int) (s : Int) = (t : Int) ∧ (∀ i, i < r' → (bt t i = 1 ↔ ¬ bt s i = 1)) ∧ BaS (m2 F r' c') r' t p ∧ RS (m2 F r' c') r' t (cn p r') ∧ cn p r' ≤ c' ∧ (b = true ↔ cn p r' = c') ∧ q = (if b then p else 0) := by
 rcases h with ⟨_, _, _, h0⟩ | ⟨_, _, _, _, _, _, _, _, _, h0⟩ | ⟨r', c', t, p, h1, h2, h3, h4, h5, h6, h7, h8, h9, h10, h11, h12, h13, h14, h15, _⟩
 ·exact absurd h0 (by decide)
 ·exact absurd h0 (by decide)
 ·exact ⟨r', c', t, p, h1, h2, h3, h4, h5, h6, h7, h8, h9, h10, h11, h12, h13, h14, h15⟩
theorem qhl {F : Nat → Nat} {r c : Int} {n s m q q2 : Nat} {b b2 : Bool} {E2 : Int} (hF : ∀ i, i < n → F i < 256) (h : SayA F r c n s b q 0) (h2 : SayA F r c n (s &&& m) b2 q2 E2) : E2 = 0 ∧ (b = true → b2 = true) ∧ q &&& s = 0 := by
 obtain ⟨r', c', t, p, rfl, rfl, G, R, hc1, hcr, hs, ht, hta, htb, hp, hk, hle, hb, hq⟩ := h.fine
 have hM := qap hF R
 have hs2 : s &&& m < 2 ^ r' := Nat.lt_of_le_of_lt Nat.and_le_left hs
 have hq0 : q &&& s = 0 := by
  apply qj0
  intro i
  rw [qj1]
  refine ⟨fun hh => ?_, fun hh => absurd hh (bt0 i)⟩
  exfalso
  by_cases hi : i < r'
  ·subst hq
   cases b with
   | false => exact bt0 i hh.1
   | true => exact (htb i hi).1 (((hp.2 i hi).1 hh.1).1) hh.2
  ·have := qbx hs (Nat.le_of_not_lt hi)
   omega
 rcases h2 with ⟨h3, _⟩ | ⟨_, _, h3, h4, _, R2, h5, _⟩ | ⟨r2, c2, t2, p2, e1, e2, _, R2, _, _, _, ht2, _, htb2, hp2, hk2, hle2, hb2, _, rfl⟩
 ·exact absurd G h3
 ·have : r' = _ := Int.ofNat.inj h3
  subst this
  exact absurd hs2 h5
 ·obtain rfl : r' = r2 := Int.ofNat.inj e1
  obtain rfl : c' = c2 := Int.ofNat.inj e2
  refine ⟨rfl, fun hbt => ?_, hq0⟩
  have hmono := hk.mono hM hk2 (fun i hi hbi => (htb2 i hi).2 (fun hh => (htb i hi).1 hbi ((qj1 _ _ _).1 hh).1))
  have := hb.1 hbt
  exact hb2.2 (by omega)
theorem qjm (w : World) (r c E : Int) (n k s m q : Nat) (a : Option Addr) (hE : (E == 0) = false) (C : SayC w r c n k s a false q E) :
  Calls Try.prog 5 #[mv r c a n k, .int .u64 (s : Int), .int .u64 (m : Int)] w fun e w' => e = .returned (.bool true) ∧ Below w.heap.size w w' := by
 have hE3 : (E != 0) = true := by simp only [bne, hE]; rfl
 have HR := qbq C.vr
 have HG : Hid (∀ w' : World, Below w.heap.size w w' → Calls Try.prog 13 #[mv r c a n k, .int .u64 (s : Int)] w' fun e w'' => e = .returned (.bool false) ∧ Below w'.heap.size w' w'') := fun w' hb => lgen18 w' r c E n k s a false false hE (fun w'' hb2 => C.rr w'' (qa1 hb hb2))
 clear C
 go_enter Try.func5, Try.ntmps5
 go_wp2_with (first
  | (go_at_call 7; refine (HR.out _ (qa0 _ _)).mono ?_; rintro e w1 ⟨rfl, hb⟩; have HV1 : Hid (Vr w1 w.heap.size (.int .i64 r) (.int .i64 c) (.slice a n k)) := (Vr.new w _ _ _).later hb; have v0 := HV1.out.c0; have v1 := HV1.out.c1; have v2 := HV1.out.c2; have HB1 : Hid (Below w.heap.size w w1) := qa1 (qa0 _ _) hb; clear hb)
  | (go_at_call 13; refine (HG.out _ HB1.out).mono ?_; rintro e w2 ⟨rfl, hb⟩; have HB2 : Hid (Below w.heap.size w w2) := qa1 HB1.out hb; clear hb)
  | (go_at_call 14; refine (qjl _).mono ?_; rintro e w3 ⟨rfl, hb⟩; have HB3 : Hid (Below w.heap.size w w3) := qa1 HB2.out hb; clear hb))
 go_ret
 exact ⟨rfl, HB3.out⟩
theorem fewer_ok (w : World) (r c : Int) (n k s m u q q2 : Nat) (a : Option Addr) (b b2 : Bool) (hu : bits .and .u64 (s : Int) (m : Int) = (u : Int)) (hq : bits .and .u64 (q : Int) (s : Int) = 0) (C : SayC w r c n k s a b q 0) (C2 : SayC w r c n k u a b2 q2 0) (hb : b = true → b2 = true) (h0 : b = false → q = 0)
  (HLs : b = true → ∃ K : Nat, (K : Int) = c ∧ Hid (∀ w' : World, Calls Try.prog 18 #[.int .u64 (q : Int)] w' fun e w'' => ∃ x d, e = .returned (.slice x K d) ∧ Below w'.heap.size w' w'')) :
  Calls Try.prog 5 #[mv r c a n k, .int .u64 (s : Int), .int .u64 (m : Int)] w fun e w' => e = .returned (.bool true) ∧ Below w.heap.size w w' := by
 have HR := qbq C.vr
 have HR2 := qbq C2.vr
 have HS := qbq C.vs
 have HG : Hid (∀ w' : World, Below w.heap.size w w' → Calls Try.prog 13 #[mv r c a n k, .int .u64 (s : Int)] w' fun e w'' => e = .returned (.bool true) ∧ Below w'.heap.size w' w'') := fun w' hb => lgen18 w' r c 0 n k s a b true rfl (fun w'' hb2 => C.rr w'' (qa1 hb hb2))
 clear C C2
 cases b with
 | false =>
  obtain rfl := h0 rfl
  have hq0 : bits .and .u64 (0 : Int) (s : Int) = 0 := hq
  clear hb h0 HLs
  go_enter Try.func5, Try.ntmps5
  go_wp2_with (first
   | (go_at_call 7; have _x := HR; refine (HR.out _ (qa0 _ _)).mono ?_; rintro e w1 ⟨rfl, hb⟩; have HV1 : Hid (Vr w1 w.heap.size (.int .i64 r) (.int .i64 c) (.slice a n k)) := (Vr.new w _ _ _).later hb; have v0 := HV1.out.c0; have v1 := HV1.out.c1; have v2 := HV1.out.c2; have HB1 : Hid (Below w.heap.size w w1) := qa1 (qa0 _ _) hb; clear hb HR _x)
   | (go_at_call 13; refine (HG.out _ HB1.out).mono ?_; rintro e w2 ⟨rfl, hb⟩; have HV2 : Hid (Vr w2 w.heap.size (.int .i64 r) (.int .i64 c) (.slice a n k)) := HV1.out.later hb; have y0 := HV2.out.c0; have y1 := HV2.out.c1; have y2 := HV2.out.c2; have HB2 : Hid (Below w.heap.size w w2) := qa1 HB1.out hb; clear hb)
   | (go_at_call 7; refine (HR2.out _ HB2.out).mono ?_; rintro e w3 ⟨rfl, hb⟩; have HV3 : Hid (Vr w3 w.heap.size (.int .i64 r) (.int .i64 c) (.slice a n k)) := HV2.out.later hb; have z0 := HV3.out.c0; have z1 := HV3.out.c1; have z2 := HV3.out.c2; have HB3 : Hid (Below w.heap.size w w3) := qa1 HB2.out hb; clear hb)
   | (go_at_call 9; refine (HS.out _ HB3.out).mono ?_; rintro e w4 ⟨rfl, hb⟩; have HV4 : Hid (Vr w4 w.heap.size (.int .i64 r) (.int .i64 c) (.slice a n k)) := HV3.out.later hb; have x1 := HV4.out.c1; have HB4 : Hid (Below w.heap.size w w4) := qa1 HB3.out hb; clear hb))
  refine wp_region_held (S := fun w' => w'.cell? ⟨w.heap.size, 1, none⟩ = some (.int .i64 c)) (by kernel_rfl) ?_
  change wpAnyH _ _ _ _ _ _ _ _ (World.drew _)
  refine wpAnyH_ready (rs := [0]) (by kernel_rfl) (by simp) ?_
  refine AllReadyH.cons rfl (fun K hK => ?_) AllReadyH.nil
  go_simp
  refine (qjl _).mono ?_
  rintro e w5 ⟨rfl, hb⟩
  have HB5 : Hid (Below w.heap.size w w5) := qa1 HB4.out.drew hb
  have HV5 : Hid (Vr w5 w.heap.size (.int .i64 r) (.int .i64 c) (.slice a n k)) := (HV4.out.later (Below.refl _ _).drew).later hb
  have HS5 : Hid (w5.cell? ⟨w.heap.size, 1, none⟩ = some (.int .i64 c)) := HV5.out.c1
  clear hb
  refine hK.out _ _ HS5.out (fun _ => ?_)
  clear hK K
  try simp only [mz1, mz2, mz3, Act.put, mz4, mz5, mz6]
  refine wtkq 1 ?va1 rfl (by kernel_rfl) (fun _ _ _ h => h) (by rfl) ?ya1 HS5.out ?za1
  case ya1 => (intro w hSw; (try dsimp only at hSw); go_simp; try with_reducible rfl)
  try simp only [mz1, mz2, mz3, Act.put, mz4, mz5, mz6]
  refine wtkq 2 ?va2 rfl (by kernel_rfl) (fun _ _ _ h => h) (by rfl) ?ya2 HS5.out ?za2
  case ya2 => (intro w hSw; (try dsimp only at hSw); go_simp; try with_reducible rfl)
  try simp only [mz1, mz2, mz3, Act.put, mz4, mz5, mz6]
  refine wtkq 3 ?va3 rfl (by kernel_rfl) (fun _ _ _ h => h) (by rfl) ?ya3 HS5.out ?za3
  case ya3 => (intro w hSw; (try dsimp only at hSw); go_simp; try with_reducible rfl)
  try simp only [mz1, mz2, mz3, Act.put, mz4, mz5, mz6]
  refine wtkq 4 ?va4 rfl (by kernel_rfl) (fun _ _ _ h => h) (by rfl) ?ya4 HS5.out ?za4
  case ya4 => (intro w hSw; (try dsimp only at hSw); go_simp; try with_reducible rfl)
  try simp only [mz1, mz2, mz3, Act.put, mz4, mz5, mz6]
  refine wtkq 5 ?va5 rfl (by kernel_rfl) (fun _ _ _ h => h) (by rfl) ?ya5 HS5.out ?za5
  case ya5 => (intro w hSw; (try dsimp only at hSw); go_simp; try with_reducible rfl)
  try simp only [mz1, mz2, mz3, Act.put, mz4, mz5, mz6]
  refine wtkq 6 ?va6 rfl (by kernel_rfl) (fun _ _ _ h => h) (by rfl) ?ya6 HS5.out ?za6
  case ya6 => (intro w hSw; (try dsimp only at hSw); go_simp; try with_reducible rfl)
  try simp only [mz1, mz2, mz3, Act.put, mz4, mz5, mz6]
  refine wtkq 7 ?va7 rfl (by kernel_rfl) (fun _ _ _ h => h) (by rfl) ?ya7 HS5.out ?za7
  case ya7 => (intro w hSw; (try dsimp only at hSw); go_simp; try with_reducible rfl)
  try simp only [mz1, mz2, mz3, Act.put, mz4, mz5, mz6]
  refine wtkq 8 ?va8 rfl (by kernel_rfl) (fun _ _ _ h => h) (by rfl) ?ya8 HS5.out ?za8
  case ya8 => (intro w hSw; (try dsimp only at hSw); go_simp; try with_reducible rfl)
  try simp only [mz1, mz2, mz3, Act.put, mz4, mz5, mz6]
  refine wtkq 9 ?va9 rfl (by kernel_rfl) (fun _ _ _ h => h) (by rfl) ?ya9 HS5.out ?za9
  case ya9 => (intro w hSw; (try dsimp only at hSw); go_simp; try with_reducible rfl)
  try simp only [mz1, mz2, mz3, Act.put, mz4, mz5, mz6]
  refine wtkq 10 ?va10 rfl (by kernel_rfl) (fun _ _ _ h => h) (by rfl) ?ya10 HS5.out ?za10
  case ya10 => (intro w hSw; (try dsimp only at hSw); go_simp; try with_reducible rfl)
  try simp only [mz1, mz2, mz3, Act.put, mz4, mz5, mz6]
  refine wtkq 11 ?va11 rfl (by kernel_rfl) (fun _ _ _ h => h) (by rfl) ?ya11 HS5.out ?za11
  case ya11 => (intro w hSw; (try dsimp only at hSw); go_simp; try with_reducible rfl)
  try simp only [mz1, mz2, mz3, Act.put, mz4, mz5, mz6]
  refine wtkq 12 ?va12 rfl (by kernel_rfl) (fun _ _ _ h => h) (by rfl) ?ya12 HS5.out ?za12
  case ya12 => (intro w hSw; (try dsimp only at hSw); go_simp; try with_reducible rfl)
  try simp only [mz1, mz2, mz3, Act.put, mz4, mz5, mz6]
  refine wtkq 13 ?va13 rfl (by kernel_rfl) (fun _ _ _ h => h) (by rfl) ?ya13 HS5.out ?za13
  case ya13 => (intro w hSw; (try dsimp only at hSw); go_simp; try with_reducible rfl)
  try simp only [mz1, mz2, mz3, Act.put, mz4, mz5, mz6]
  refine wtkq 14 ?va14 rfl (by kernel_rfl) (fun _ _ _ h => h) (by rfl) ?ya14 HS5.out ?za14
  case ya14 => (intro w hSw; (try dsimp only at hSw); go_simp; try with_reducible rfl)
  try simp only [mz1, mz2, mz3, Act.put, mz4, mz5, mz6]
  refine wtkq 15 ?va15 rfl (by kernel_rfl) (fun _ _ _ h => h) (by rfl) ?ya15 HS5.out ?za15
  case ya15 => (intro w hSw; (try dsimp only at hSw); go_simp; try with_reducible rfl)
  try simp only [mz1, mz2, mz3, Act.put, mz4, mz5, mz6]
  refine wtkq 16 ?va16 rfl (by kernel_rfl) (fun _ _ _ h => h) (by rfl) ?ya16 HS5.out ?za16
  case ya16 => (intro w hSw; (try dsimp only at hSw); go_simp; try with_reducible rfl)
  try simp only [mz1, mz2, mz3, Act.put, mz4, mz5, mz6]
  refine wskq 17 rfl (by kernel_rfl) (fun _ _ _ h => h) (by rfl) HS5.out ?za17
  try simp only [mz1, mz2, mz3, Act.put, mz4, mz5, mz6]
  refine wtkq 18 ?va18 rfl (by kernel_rfl) (fun _ _ _ h => h) (by rfl) ?ya18 HS5.out ?za18
  case ya18 => (intro w hSw; (try dsimp only at hSw); go_simp; try with_reducible rfl)
  try simp only [mz1, mz2, mz3, Act.put, mz4, mz5, mz6]
  refine wtkq 19 ?va19 rfl (by kernel_rfl) (fun _ _ _ h => h) (by rfl) ?ya19 HS5.out ?za19
  case ya19 => (intro w hSw; (try dsimp only at hSw); go_simp; try with_reducible rfl)
  try simp only [mz1, mz2, mz3, Act.put, mz4, mz5, mz6]
  refine wtkq 20 ?va20 rfl (by kernel_rfl) (fun _ _ _ h => h) (by rfl) ?ya20 HS5.out ?za20
  case ya20 => (intro w hSw; (try dsimp only at hSw); go_simp; try with_reducible rfl)
  try simp only [mz1, mz2, mz3, Act.put, mz4, mz5, mz6]
  refine wtkq 21 ?va21 rfl (by kernel_rfl) (fun _ _ _ h => h) (by rfl) ?ya21 HS5.out ?za21
  case ya21 => (intro w hSw; (try dsimp only at hSw); go_simp; try with_reducible rfl)
  try simp only [mz1, mz2, mz3, Act.put, mz4, mz5, mz6]
  refine wtkq 22 ?va22 rfl (by kernel_rfl) (fun _ _ _ h => h) (by rfl) ?ya22 HS5.out ?za22
  case ya22 => (intro w hSw; (try dsimp only at hSw); go_simp; try with_reducible rfl)
  try simp only [mz1, mz2, mz3, Act.put, mz4, mz5, mz6]
  refine wtkq 23 ?va23 rfl (by kernel_rfl) (fun _ _ _ h => h) (by rfl) ?ya23 HS5.out ?za23
  case ya23 => (intro w hSw; (try dsimp only at hSw); go_simp; try with_reducible rfl)
  try simp only [mz1, mz2, mz3, Act.put, mz4, mz5, mz6]
  refine wtkq 24 ?va24 rfl (by kernel_rfl) (fun _ _ _ h => h) (by rfl) ?ya24 HS5.out ?za24
  case ya24 => (intro w hSw; (try dsimp only at hSw); go_simp; try with_reducible rfl)
  try simp only [mz1, mz2, mz3, Act.put, mz4, mz5, mz6]
  refine wtkq 25 ?va25 rfl (by kernel_rfl) (fun _ _ _ h => h) (by rfl) ?ya25 HS5.out ?za25
  case ya25 => (intro w hSw; (try dsimp only at hSw); go_simp; try with_reducible rfl)
  try simp only [mz1, mz2, mz3, Act.put, mz4, mz5, mz6]
  refine wtkq 26 ?va26 rfl (by kernel_rfl) (fun _ _ _ h => h) (by rfl) ?ya26 HS5.out ?za26
  case ya26 => (intro w hSw; (try dsimp only at hSw); go_simp; try with_reducible rfl)
  try simp only [mz1, mz2, mz3, Act.put, mz4, mz5, mz6]
  refine wtkq 27 ?va27 rfl (by kernel_rfl) (fun _ _ _ h => h) (by rfl) ?ya27 HS5.out ?za27
  case ya27 => (intro w hSw; (try dsimp only at hSw); go_simp; try with_reducible rfl)
  try simp only [mz1, mz2, mz3, Act.put, mz4, mz5, mz6]
  refine wtkq 28 ?va28 rfl (by kernel_rfl) (fun _ _ _ h => h) (by rfl) ?ya28 HS5.out ?za28
  case ya28 => (intro w hSw; (try dsimp only at hSw); go_simp; try with_reducible rfl)
  try simp only [mz1, mz2, mz3, Act.put, mz4, mz5, mz6]
  refine wtkq 29 ?va29 rfl (by kernel_rfl) (fun _ _ _ h => h) (by rfl) ?ya29 HS5.out ?za29
  case ya29 => (intro w hSw; (try dsimp only at hSw); go_simp; try with_reducible rfl)
  try simp only [mz1, mz2, mz3, Act.put, mz4, mz5, mz6]
  refine wtkq 30 ?va30 rfl (by kernel_rfl) (fun _ _ _ h => h) (by rfl) ?ya30 HS5.out ?za30
  case ya30 => (intro w hSw; (try dsimp only at hSw); go_simp; try with_reducible rfl)
  try simp only [mz1, mz2, mz3, Act.put, mz4, mz5, mz6]
  refine wtkq 31 ?va31 rfl (by kernel_rfl) (fun _ _ _ h => h) (by rfl) ?ya31 HS5.out ?za31
  case ya31 => (intro w hSw; (try dsimp only at hSw); go_simp; try with_reducible rfl)
  try simp only [mz1, mz2, mz3, Act.put, mz4, mz5, mz6]
  refine wtkq 32 ?va32 rfl (by kernel_rfl) (fun _ _ _ h => h) (by rfl) ?ya32 HS5.out ?za32
  case ya32 => (intro w hSw; (try dsimp only at hSw); go_simp; try with_reducible rfl)
  try simp only [mz1, mz2, mz3, Act.put, mz4, mz5, mz6]
  refine wtkq 33 ?va33 rfl (by kernel_rfl) (fun _ _ _ h => h) (by rfl) ?ya33 HS5.out ?za33
  case ya33 => (intro w hSw; (try dsimp only at hSw); go_simp; try with_reducible rfl)
  try simp only [mz1, mz2, mz3, Act.put, mz4, mz5, mz6]
  refine wtkq 34 ?va34 rfl (by kernel_rfl) (fun _ _ _ h => h) (by rfl) ?ya34 HS5.out ?za34
  case ya34 => (intro w hSw; (try dsimp only at hSw); go_simp; try with_reducible rfl)
  try simp only [mz1, mz2, mz3, Act.put, mz4, mz5, mz6]
  refine wtkq 35 ?va35 rfl (by kernel_rfl) (fun _ _ _ h => h) (by rfl) ?ya35 HS5.out ?za35
  case ya35 => (intro w hSw; (try dsimp only at hSw); go_simp; try with_reducible rfl)
  try simp only [mz1, mz2, mz3, Act.put, mz4, mz5, mz6]
  refine wtkq 36 ?va36 rfl (by kernel_rfl) (fun _ _ _ h => h) (by rfl) ?ya36 HS5.out ?za36
  case ya36 => (intro w hSw; (try dsimp only at hSw); go_simp; try with_reducible rfl)
  try simp only [mz1, mz2, mz3, Act.put, mz4, mz5, mz6]
  refine wtkq 37 ?va37 rfl (by kernel_rfl) (fun _ _ _ h => h) (by rfl) ?ya37 HS5.out ?za37
  case ya37 => (intro w hSw; (try dsimp only at hSw); go_simp; try with_reducible rfl)
  try simp only [mz1, mz2, mz3, Act.put, mz4, mz5, mz6]
  refine wtkq 38 ?va38 rfl (by kernel_rfl) (fun _ _ _ h => h) (by rfl) ?ya38 HS5.out ?za38
  case ya38 => (intro w hSw; (try dsimp only at hSw); go_simp; try with_reducible rfl)
  try simp only [mz1, mz2, mz3, Act.put, mz4, mz5, mz6]
  refine wskq 39 rfl (by kernel_rfl) (fun _ _ _ h => h) (by rfl) HS5.out ?za39
  try simp only [mz1, mz2, mz3, Act.put, mz4, mz5, mz6]
  refine wskq 40 rfl (by kernel_rfl) (fun _ _ _ h => h) (by rfl) HS5.out ?za40
  try simp only [mz1, mz2, mz3, Act.put, mz4, mz5, mz6]
  refine wskq 41 rfl (by kernel_rfl) (fun _ _ _ h => h) (by rfl) HS5.out ?za41
  try simp only [mz1, mz2, mz3, Act.put, mz4, mz5, mz6]
  refine wskq 42 rfl (by kernel_rfl) (fun _ _ _ h => h) (by rfl) HS5.out ?za42
  try simp only [mz1, mz2, mz3, Act.put, mz4, mz5, mz6]
  refine wskq 43 rfl (by kernel_rfl) (fun _ _ _ h => h) (by rfl) HS5.out ?za43
  try simp only [mz1, mz2, mz3, Act.put, mz4, mz5, mz6]
  refine wskq 44 rfl (by kernel_rfl) (fun _ _ _ h => h) (by rfl) HS5.out ?za44
  try simp only [mz1, mz2, mz3, Act.put, mz4, mz5, mz6]
  refine wskq 45 rfl (by kernel_rfl) (fun _ _ _ h => h) (by rfl) HS5.out ?za45
  try simp only [mz1, mz2, mz3, Act.put, mz4, mz5, mz6]
  refine wskq 46 rfl (by kernel_rfl) (fun _ _ _ h => h) (by rfl) HS5.out ?za46
  try simp only [mz1, mz2, mz3, Act.put, mz4, mz5, mz6]
  refine wskq 47 rfl (by kernel_rfl) (fun _ _ _ h => h) (by rfl) HS5.out ?za47
  try simp only [mz1, mz2, mz3, Act.put, mz4, mz5, mz6]
  refine wtkq 48 ?va48 rfl (by kernel_rfl) (fun _ _ _ h => h) (by rfl) ?ya48 HS5.out ?za48
  case ya48 => (intro w hSw; (try dsimp only at hSw); go_simp; try with_reducible rfl)
  try simp only [mz1, mz2, mz3, Act.put, mz4, mz5, mz6]
  refine wtkq 49 ?va49 rfl (by kernel_rfl) (fun _ _ _ h => h) (by rfl) ?ya49 HS5.out ?za49
  case ya49 => (intro w hSw; (try dsimp only at hSw); go_simp; try with_reducible rfl)
  try simp only [mz1, mz2, mz3, Act.put, mz4, mz5, mz6]
  refine wtkq 50 ?va50 rfl (by kernel_rfl) (fun _ _ _ h => h) (by rfl) ?ya50 HS5.out ?za50
  case ya50 => (intro w hSw; (try dsimp only at hSw); go_simp; try with_reducible rfl)
  try simp only [mz1, mz2, mz3, Act.put, mz4, mz5, mz6]
  refine wpAnyH_done (by kernel_rfl) ?_ _
  go_wp2
  go_ret
  exact ⟨rfl, HB5.out⟩
 | true =>
  obtain rfl := hb rfl
  obtain ⟨K, hK, HL⟩ := HLs rfl
  have hKc : ((K : Int) == c) = true := by simpa using hK
  clear hb h0 HLs hK
  go_enter Try.func5, Try.ntmps5
  go_wp2_with (first
   | (go_at_call 7; have _x := HR; refine (HR.out _ (qa0 _ _)).mono ?_; rintro e w1 ⟨rfl, hb⟩; have HV1 : Hid (Vr w1 w.heap.size (.int .i64 r) (.int .i64 c) (.slice a n k)) := (Vr.new w _ _ _).later hb; have v0 := HV1.out.c0; have v1 := HV1.out.c1; have v2 := HV1.out.c2; have HB1 : Hid (Below w.heap.size w w1) := qa1 (qa0 _ _) hb; clear hb HR _x)
   | (go_at_call 13; refine (HG.out _ HB1.out).mono ?_; rintro e w2 ⟨rfl, hb⟩; have HV2 : Hid (Vr w2 w.heap.size (.int .i64 r) (.int .i64 c) (.slice a n k)) := HV1.out.later hb; have y0 := HV2.out.c0; have y1 := HV2.out.c1; have y2 := HV2.out.c2; have HB2 : Hid (Below w.heap.size w w2) := qa1 HB1.out hb; clear hb)
   | (go_at_call 7; refine (HR2.out _ HB2.out).mono ?_; rintro e w3 ⟨rfl, hb⟩; have HV3 : Hid (Vr w3 w.heap.size (.int .i64 r) (.int .i64 c) (.slice a n k)) := HV2.out.later hb; have z0 := HV3.out.c0; have z1 := HV3.out.c1; have z2 := HV3.out.c2; have HB3 : Hid (Below w.heap.size w w3) := qa1 HB2.out hb; clear hb)
   | (go_at_call 9; refine (HS.out _ HB3.out).mono ?_; rintro e w4 ⟨rfl, hb⟩; have HV4 : Hid (Vr w4 w.heap.size (.int .i64 r) (.int .i64 c) (.slice a n k)) := HV3.out.later hb; have x1 := HV4.out.c1; have HB4 : Hid (Below w.heap.size w w4) := qa1 HB3.out hb; clear hb))
  refine wp_region_held (S := fun w' => w'.cell? ⟨w.heap.size, 1, none⟩ = some (.int .i64 c)) (by kernel_rfl) ?_
  change wpAnyH _ _ _ _ _ _ _ _ (World.drew _)
  refine wpAnyH_ready (rs := [0]) (by kernel_rfl) (by simp) ?_
  refine AllReadyH.cons rfl (fun K hK => ?_) AllReadyH.nil
  go_simp
  refine (qjl _).mono ?_
  rintro e w5 ⟨rfl, hb⟩
  have HB5 : Hid (Below w.heap.size w w5) := qa1 HB4.out.drew hb
  have HV5 : Hid (Vr w5 w.heap.size (.int .i64 r) (.int .i64 c) (.slice a n k)) := (HV4.out.later (Below.refl _ _).drew).later hb
  have HS5 : Hid (w5.cell? ⟨w.heap.size, 1, none⟩ = some (.int .i64 c)) := HV5.out.c1
  clear hb
  refine hK.out _ _ HS5.out (fun _ => ?_)
  clear hK K
  try simp only [mz1, mz2, mz3, Act.put, mz4, mz5, mz6]
  refine wtkq 1 ?vb1 rfl (by kernel_rfl) (fun _ _ _ h => h) (by rfl) ?yb1 HS5.out ?zb1
  case yb1 => (intro w hSw; (try dsimp only at hSw); go_simp; try with_reducible rfl)
  try simp only [mz1, mz2, mz3, Act.put, mz4, mz5, mz6]
  refine wtkq 2 ?vb2 rfl (by kernel_rfl) (fun _ _ _ h => h) (by rfl) ?yb2 HS5.out ?zb2
  case yb2 => (intro w hSw; (try dsimp only at hSw); go_simp; try with_reducible rfl)
  try simp only [mz1, mz2, mz3, Act.put, mz4, mz5, mz6]
  refine wtkq 3 ?vb3 rfl (by kernel_rfl) (fun _ _ _ h => h) (by rfl) ?yb3 HS5.out ?zb3
  case yb3 => (intro w hSw; (try dsimp only at hSw); go_simp; try with_reducible rfl)
  try simp only [mz1, mz2, mz3, Act.put, mz4, mz5, mz6]
  refine wtkq 4 ?vb4 rfl (by kernel_rfl) (fun _ _ _ h => h) (by rfl) ?yb4 HS5.out ?zb4
  case yb4 => (intro w hSw; (try dsimp only at hSw); go_simp; try with_reducible rfl)
  try simp only [mz1, mz2, mz3, Act.put, mz4, mz5, mz6]
  refine wtkq 5 ?vb5 rfl (by kernel_rfl) (fun _ _ _ h => h) (by rfl) ?yb5 HS5.out ?zb5
  case yb5 => (intro w hSw; (try dsimp only at hSw); go_simp; try with_reducible rfl)
  try simp only [mz1, mz2, mz3, Act.put, mz4, mz5, mz6]
  refine wtkq 6 ?vb6 rfl (by kernel_rfl) (fun _ _ _ h => h) (by rfl) ?yb6 HS5.out ?zb6
  case yb6 => (intro w hSw; (try dsimp only at hSw); go_simp; try with_reducible rfl)
  try simp only [mz1, mz2, mz3, Act.put, mz4, mz5, mz6]
  refine wtkq 7 ?vb7 rfl (by kernel_rfl) (fun _ _ _ h => h) (by rfl) ?yb7 HS5.out ?zb7
  case yb7 => (intro w hSw; (try dsimp only at hSw); go_simp; try with_reducible rfl)
  try simp only [mz1, mz2, mz3, Act.put, mz4, mz5, mz6]
  refine wtkq 8 ?vb8 rfl (by kernel_rfl) (fun _ _ _ h => h) (by rfl) ?yb8 HS5.out ?zb8
  case yb8 => (intro w hSw; (try dsimp only at hSw); go_simp; try with_reducible rfl)
  try simp only [mz1, mz2, mz3, Act.put, mz4, mz5, mz6]
  refine wtkq 9 ?vb9 rfl (by kernel_rfl) (fun _ _ _ h => h) (by rfl) ?yb9 HS5.out ?zb9
  case yb9 => (intro w hSw; (try dsimp only at hSw); go_simp; try with_reducible rfl)
  try simp only [mz1, mz2, mz3, Act.put, mz4, mz5, mz6]
  refine wtkq 10 ?vb10 rfl (by kernel_rfl) (fun _ _ _ h => h) (by rfl) ?yb10 HS5.out ?zb10
  case yb10 => (intro w hSw; (try dsimp only at hSw); go_simp; try with_reducible rfl)
  try simp only [mz1, mz2, mz3, Act.put, mz4, mz5, mz6]
  refine wtkq 11 ?vb11 rfl (by kernel_rfl) (fun _ _ _ h => h) (by rfl) ?yb11 HS5.out ?zb11
  case yb11 => (intro w hSw; (try dsimp only at hSw); go_simp; try with_reducible rfl)
  try simp only [mz1, mz2, mz3, Act.put, mz4, mz5, mz6]
  refine wtkq 12 ?vb12 rfl (by kernel_rfl) (fun _ _ _ h => h) (by rfl) ?yb12 HS5.out ?zb12
  case yb12 => (intro w hSw; (try dsimp only at hSw); go_simp; try with_reducible rfl)
  try simp only [mz1, mz2, mz3, Act.put, mz4, mz5, mz6]
  refine wtkq 13 ?vb13 rfl (by kernel_rfl) (fun _ _ _ h => h) (by rfl) ?yb13 HS5.out ?zb13
  case yb13 => (intro w hSw; (try dsimp only at hSw); go_simp; try with_reducible rfl)
  try simp only [mz1, mz2, mz3, Act.put, mz4, mz5, mz6]
  refine wtkq 14 ?vb14 rfl (by kernel_rfl) (fun _ _ _ h => h) (by rfl) ?yb14 HS5.out ?zb14
  case yb14 => (intro w hSw; (try dsimp only at hSw); go_simp; try with_reducible rfl)
  try simp only [mz1, mz2, mz3, Act.put, mz4, mz5, mz6]
  refine wtkq 15 ?vb15 rfl (by kernel_rfl) (fun _ _ _ h => h) (by rfl) ?yb15 HS5.out ?zb15
  case yb15 => (intro w hSw; (try dsimp only at hSw); go_simp; try with_reducible rfl)
  try simp only [mz1, mz2, mz3, Act.put, mz4, mz5, mz6]
  refine wtkq 16 ?vb16 rfl (by kernel_rfl) (fun _ _ _ h => h) (by rfl) ?yb16 HS5.out ?zb16
  case yb16 => (intro w hSw; (try dsimp only at hSw); go_simp; try with_reducible rfl)
  try simp only [mz1, mz2, mz3, Act.put, mz4, mz5, mz6]
  refine wtkq 17 ?vb17 rfl (by kernel_rfl) (fun _ _ _ h => h) (by rfl) ?yb17 HS5.out ?zb17
  case yb17 => (intro w hSw; (try dsimp only at hSw); go_simp; try with_reducible rfl)
  try simp only [mz1, mz2, mz3, Act.put, mz4, mz5, mz6]
  refine wtkq 18 ?vb18 rfl (by kernel_rfl) (fun _ _ _ h => h) (by rfl) ?yb18 HS5.out ?zb18
  case yb18 => (intro w hSw; (try dsimp only at hSw); go_simp; try with_reducible rfl)
  try simp only [mz1, mz2, mz3, Act.put, mz4, mz5, mz6]
  refine wtkq 19 ?vb19 rfl (by kernel_rfl) (fun _ _ _ h => h) (by rfl) ?yb19 HS5.out ?zb19
  case yb19 => (intro w hSw; (try dsimp only at hSw); go_simp; try with_reducible rfl)
  try simp only [mz1, mz2, mz3, Act.put, mz4, mz5, mz6]
  refine wtkq 20 ?vb20 rfl (by kernel_rfl) (fun _ _ _ h => h) (by rfl) ?yb20 HS5.out ?zb20
  case yb20 => (intro w hSw; (try dsimp only at hSw); go_simp; try with_reducible rfl)
  try simp only [mz1, mz2, mz3, Act.put, mz4, mz5, mz6]
  refine wtkq 21 ?vb21 rfl (by kernel_rfl) (fun _ _ _ h => h) (by rfl) ?yb21 HS5.out ?zb21
  case yb21 => (intro w hSw; (try dsimp only at hSw); go_simp; try with_reducible rfl)
  try simp only [mz1, mz2, mz3, Act.put, mz4, mz5, mz6]
  refine wtkq 22 ?vb22 rfl (by kernel_rfl) (fun _ _ _ h => h) (by rfl) ?yb22 HS5.out ?zb22
  case yb22 => (intro w hSw; (try dsimp only at hSw); go_simp; try with_reducible rfl)
  try simp only [mz1, mz2, mz3, Act.put, mz4, mz5, mz6]
  refine wtkq 23 ?vb23 rfl (by kernel_rfl) (fun _ _ _ h => h) (by rfl) ?yb23 HS5.out ?zb23
  case yb23 => (intro w hSw; (try dsimp only at hSw); go_simp; try with_reducible rfl)
  try simp only [mz1, mz2, mz3, Act.put, mz4, mz5, mz6]
  refine wtkq 24 ?vb24 rfl (by kernel_rfl) (fun _ _ _ h => h) (by rfl) ?yb24 HS5.out ?zb24
  case yb24 => (intro w hSw; (try dsimp only at hSw); go_simp; try with_reducible rfl)
  try simp only [mz1, mz2, mz3, Act.put, mz4, mz5, mz6]
  refine wtkq 25 ?vb25 rfl (by kernel_rfl) (fun _ _ _ h => h) (by rfl) ?yb25 HS5.out ?zb25
  case yb25 => (intro w hSw; (try dsimp only at hSw); go_simp; try with_reducible rfl)
  try simp only [mz1, mz2, mz3, Act.put, mz4, mz5, mz6]
  refine wtkq 26 ?vb26 rfl (by kernel_rfl) (fun _ _ _ h => h) (by rfl) ?yb26 HS5.out ?zb26
  case yb26 => (intro w hSw; (try dsimp only at hSw); go_simp; try with_reducible rfl)
  try simp only [mz1, mz2, mz3, Act.put, mz4, mz5, mz6]
  refine wtkq 27 ?vb27 rfl (by kernel_rfl) (fun _ _ _ h => h) (by rfl) ?yb27 HS5.out ?zb27
  case yb27 => (intro w hSw; (try dsimp only at hSw); go_simp; try with_reducible rfl)
  try simp only [mz1, mz2, mz3, Act.put, mz4, mz5, mz6]
  refine wtkq 28 ?vb28 rfl (by kernel_rfl) (fun _ _ _ h => h) (by rfl) ?yb28 HS5.out ?zb28
  case yb28 => (intro w hSw; (try dsimp only at hSw); go_simp; try with_reducible rfl)
  try simp only [mz1, mz2, mz3, Act.put, mz4, mz5, mz6]
  refine wtkq 29 ?vb29 rfl (by kernel_rfl) (fun _ _ _ h => h) (by rfl) ?yb29 HS5.out ?zb29
  case yb29 => (intro w hSw; (try dsimp only at hSw); go_simp; try with_reducible rfl)
  try simp only [mz1, mz2, mz3, Act.put, mz4, mz5, mz6]
  refine wtkq 30 ?vb30 rfl (by kernel_rfl) (fun _ _ _ h => h) (by rfl) ?yb30 HS5.out ?zb30
  case yb30 => (intro w hSw; (try dsimp only at hSw); go_simp; try with_reducible rfl)
  try simp only [mz1, mz2, mz3, Act.put, mz4, mz5, mz6]
  refine wtkq 31 ?vb31 rfl (by kernel_rfl) (fun _ _ _ h => h) (by rfl) ?yb31 HS5.out ?zb31
  case yb31 => (intro w hSw; (try dsimp only at hSw); go_simp; try with_reducible rfl)
  try simp only [mz1, mz2, mz3, Act.put, mz4, mz5, mz6]
  refine wtkq 32 ?vb32 rfl (by kernel_rfl) (fun _ _ _ h => h) (by rfl) ?yb32 HS5.out ?zb32
  case yb32 => (intro w hSw; (try dsimp only at hSw); go_simp; try with_reducible rfl)
  try simp only [mz1, mz2, mz3, Act.put, mz4, mz5, mz6]
  refine wtkq 33 ?vb33 rfl (by kernel_rfl) (fun _ _ _ h => h) (by rfl) ?yb33 HS5.out ?zb33
  case yb33 => (intro w hSw; (try dsimp only at hSw); go_simp; try with_reducible rfl)
  try simp only [mz1, mz2, mz3, Act.put, mz4, mz5, mz6]
  refine wtkq 34 ?vb34 rfl (by kernel_rfl) (fun _ _ _ h => h) (by rfl) ?yb34 HS5.out ?zb34
  case yb34 => (intro w hSw; (try dsimp only at hSw); go_simp; try with_reducible rfl)
  try simp only [mz1, mz2, mz3, Act.put, mz4, mz5, mz6]
  refine wskq 35 rfl (by kernel_rfl) (fun _ _ _ h => h) (by rfl) HS5.out ?zb35
  try simp only [mz1, mz2, mz3, Act.put, mz4, mz5, mz6]
  refine wskq 36 rfl (by kernel_rfl) (fun _ _ _ h => h) (by rfl) HS5.out ?zb36
  try simp only [mz1, mz2, mz3, Act.put, mz4, mz5, mz6]
  refine wtkq 37 ?vb37 rfl (by kernel_rfl) (fun _ _ _ h => h) (by rfl) ?yb37 HS5.out ?zb37
  case yb37 => (intro w hSw; (try dsimp only at hSw); go_simp; try with_reducible rfl)
  try simp only [mz1, mz2, mz3, Act.put, mz4, mz5, mz6]
  refine wtkq 38 ?vb38 rfl (by kernel_rfl) (fun _ _ _ h => h) (by rfl) ?yb38 HS5.out ?zb38
  case yb38 => (intro w hSw; (try dsimp only at hSw); go_simp; try with_reducible rfl)
  try simp only [mz1, mz2, mz3, Act.put, mz4, mz5, mz6]
  refine wtkq 39 ?vb39 rfl (by kernel_rfl) (fun _ _ _ h => h) (by rfl) ?yb39 HS5.out ?zb39
  case yb39 => (intro w hSw; (try dsimp only at hSw); go_simp; try with_reducible rfl)
  try simp only [mz1, mz2, mz3, Act.put, mz4, mz5, mz6]
  refine wtkq 40 ?vb40 rfl (by kernel_rfl) (fun _ _ _ h => h) (by rfl) ?yb40 HS5.out ?zb40
  case yb40 => (intro w hSw; (try dsimp only at hSw); go_simp; try with_reducible rfl)
  try simp only [mz1, mz2, mz3, Act.put, mz4, mz5, mz6]
  refine wtkq 41 ?vb41 rfl (by kernel_rfl) (fun _ _ _ h => h) (by rfl) ?yb41 HS5.out ?zb41
  case yb41 => (intro w hSw; (try dsimp only at hSw); go_simp; try with_reducible rfl)
  try simp only [mz1, mz2, mz3, Act.put, mz4, mz5, mz6]
  refine wtkq 44 ?vb44 rfl (by kernel_rfl) (fun _ _ _ h => h) (by rfl) ?yb44 HS5.out ?zb44
  case yb44 => (intro w hSw; (try dsimp only at hSw); go_simp; try with_reducible rfl)
  try simp only [mz1, mz2, mz3, Act.put, mz4, mz5, mz6]
  refine wtkq 45 ?vb45 rfl (by kernel_rfl) (fun _ _ _ h => h) (by rfl) ?yb45 HS5.out ?zb45
  case yb45 => (intro w hSw; (try dsimp only at hSw); go_simp; try with_reducible rfl)
  try simp only [mz1, mz2, mz3, Act.put, mz4, mz5, mz6]
  refine wpAnyH_ready (rs := [42]) (by kernel_rfl) (by simp) ?_
  refine AllReadyH.cons rfl (fun K hK => ?_) AllReadyH.nil
  go_simp
  refine (HL.out _).mono ?_
  rintro e w6 ⟨x, d, rfl, hb⟩
  have HB6 : Hid (Below w.heap.size w w6) := qa1 HB5.out hb
  have HS6 : Hid (w6.cell? ⟨w.heap.size, 1, none⟩ = some (.int .i64 c)) := (HV5.out.later hb).c1
  clear hb
  refine hK.out _ _ HS6.out (fun _ => ?_)
  clear hK K
  try simp only [mz1, mz2, mz3, Act.put, mz4, mz5, mz6]
  refine wtkq 43 ?vb43 rfl (by kernel_rfl) (fun _ _ _ h => h) (by rfl) ?yb43 HS6.out ?zb43
  case yb43 => (intro w hSw; (try dsimp only at hSw); go_simp; try with_reducible rfl)
  try simp only [mz1, mz2, mz3, Act.put, mz4, mz5, mz6]
  refine wtkq 46 ?vb46 rfl (by kernel_rfl) (fun _ _ _ h => h) (by rfl) ?yb46 HS6.out ?zb46
  case yb46 => (intro w hSw; (try dsimp only at hSw); go_simp; try with_reducible rfl)
  try simp only [mz1, mz2, mz3, Act.put, mz4, mz5, mz6]
  refine wtkq 47 ?vb47 rfl (by kernel_rfl) (fun _ _ _ h => h) (by rfl) ?yb47 HS6.out ?zb47
  case yb47 => (intro w hSw; (try dsimp only at hSw); go_simp; try with_reducible rfl)
  try simp only [mz1, mz2, mz3, Act.put, mz4, mz5, mz6]
  refine wtkq 48 ?vb48 rfl (by kernel_rfl) (fun _ _ _ h => h) (by rfl) ?yb48 HS6.out ?zb48
  case yb48 => (intro w hSw; (try dsimp only at hSw); go_simp; try with_reducible rfl)
  try simp only [mz1, mz2, mz3, Act.put, mz4, mz5, mz6]
  refine wtkq 49 ?vb49 rfl (by kernel_rfl) (fun _ _ _ h => h) (by rfl) ?yb49 HS6.out ?zb49
  case yb49 => (intro w hSw; (try dsimp only at hSw); go_simp; try with_reducible rfl)
  try simp only [mz1, mz2, mz3, Act.put, mz4, mz5, mz6]
  refine wtkq 50 ?vb50 rfl (by kernel_rfl) (fun _ _ _ h => h) (by rfl) ?yb50 HS6.out ?zb50
  case yb50 => (intro w hSw; (try dsimp only at hSw); go_simp; try with_reducible rfl)
  try simp only [mz1, mz2, mz3, Act.put, mz4, mz5, mz6]
  refine wpAnyH_done (by kernel_rfl) ?_ _
  go_wp2
  go_ret
  exact ⟨rfl, HB6.out⟩
theorem qhm (w : World) (r c : Int) (n k s m : Nat) (a : Option Addr) (F : Nat → Nat) (ha : Mt w a n k F) (hs6 : s < 18446744073709551616) (hm6 : m < 18446744073709551616) :
  Calls Try.prog 5 #[mv r c a n k, .int .u64 (s : Int), .int .u64 (m : Int)] w fun e w' => e = .returned (.bool true) ∧ Below w.heap.size w w' := by
 obtain ⟨b, q, E, h, C⟩ := say_ex w r c n k s a F ha hs6
 by_cases hE : E = 0
 ·subst hE
  have hu6 : s &&& m < 18446744073709551616 := Nat.lt_of_le_of_lt Nat.and_le_left hs6
  obtain ⟨b2, q2, E2, h2, C2⟩ := say_ex w r c n k (s &&& m) a F ha hu6
  obtain ⟨rfl, hbb, hq0⟩ := qhl ha.sl.1 h h2
  obtain ⟨r', c', t, p, rfl, rfl, G, R, hc1, hcr, hs, ht, hta, htb, hp, hk, hle, hb, hq⟩ := h.fine
  have hq6 : q < 18446744073709551616 := by
   rw [hq]
   cases b
   ·exact Nat.zero_lt_succ _
   ·exact qbj R.r64 hp.1
  refine fewer_ok w r' c' n k s m (s &&& m) q q2 a b b2 (u64_and_nat s m hs6 hm6) (by rw [u64_and_nat q s hq6 hs6, hq0]; rfl) C C2 hbb (fun e => by rw [hq, e]; rfl) (fun e => ?_)
  have e2 : q = p := by rw [hq, e]; rfl
  rw [e2]
  exact ⟨cn p r', by rw [hb.1 e], list_num R.r64 hp.1⟩
 ·obtain ⟨rfl, hE2⟩ := h.err hE
  exact qjm w r c E n k s m q a hE2 C
end Go.Proofs.Ytokdejhbjoglcaa
