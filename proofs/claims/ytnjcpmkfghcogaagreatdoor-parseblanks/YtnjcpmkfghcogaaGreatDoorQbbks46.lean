/-
  Contract of the tree's reference: ExprText.
-/
import Derived.Test.YtnjcpmkfghcogaaGreatDoorQbbks00
import Derived.Test.YtnjcpmkfghcogaaGreatDoorQbbks05
import Derived.Test.YtnjcpmkfghcogaaGreatDoorQbbks01
import Derived.Lib.AppendIntMem
import Derived.Deep.RegionHeld
import Derived.Laws.Runes
set_option maxRecDepth 100000
set_option maxHeartbeats 16000000
namespace Go.Proofs.YtnjcpmkfghcogaaGreatDoor
open Go.RowKit
theorem qg7 {w w' : World} (h : Tab9 w) (hb : Below w.heap.size w w') : Tab9 w' := by
 unfold Tab9 Lib.TabIs World.var? at *
 cases hg : Tryz.prog.globalNamed "internal/strconv.uint64pow10" with
 | none => rw [hg] at h; cases h
 | some g =>
  rw [hg] at h
  have hlt : g < w.heap.size := by
   rcases Nat.lt_or_ge g w.heap.size with x | x
   ·exact x
   ·simp only [Option.bind_some] at h
    rw [Array.getElem?_eq_none x] at h
    cases h
  simp only [Option.bind_some] at *
  rw [hb.block g hlt]
  exact h
theorem qic : ∀ (d : Nat) (w : World) (T : Xt) (v : Value), d ≤ 16 → XV w v T → MX d T → Tab9 w →
  Calls Tryz.prog 26 #[v] w fun e w' => e = .returned (.string (xtext d T)) ∧ Below w.heap.size w w' := by
 intro d
 induction d with
 | zero => intro w T v _ _ h _; exact h.no.elim
 | succ d ih0 =>
  intro w T v hd hX hM ht
  have ih : ∀ (w' : World) (U : Xt) (u : Value), d ≤ 16 → XV w' u U → MX d U → Below w.heap.size w w' → Calls Tryz.prog 26 #[u] w' fun e w'' => e = .returned (.string (xtext d U)) ∧ Below w'.heap.size w' w'' := fun w' U u h1 h2 h3 h4 => ih0 w' U u h1 h2 h3 (qg7 ht h4)
  have HMk : Hid (∀ i, i < (T []).len → MX d (kid T i)) := fun i hi => hM.kid hi
  obtain ⟨m, hw⟩ : ∃ m, xwant (T []) = some m := by obtain ⟨left, _, h⟩ := hM; obtain ⟨m, hw, _⟩ := qav h; exact ⟨m, hw⟩
  have hlen := qbu hw
  have hcs := qbi hw
  obtain ⟨⟨a, cap, rfl, hXl⟩, hok⟩ := hX
  have HTb := qa0 ht
  obtain ⟨l, HT⟩ : ∃ l, T [] = l := ⟨_, rfl⟩
  rw [HT] at hXl hok hlen hcs HMk ⊢
  obtain ⟨k, n, nm, len, ln, cl⟩ := l
  obtain ⟨rfl, hm2⟩ : len = m ∧ m ≤ 2 := hlen
  replace hcs : (k = 1 ∧ len = 0 ∧ 0 ≤ n ∧ n ≤ 2147483647 ∧ nm.size = 0) ∨ (k = 2 ∧ len = 0 ∧ n = 0 ∧ isN nm = true) ∨ (k = 3 ∧ len = 1 ∧ n = 0 ∧ nm.size = 0) ∨ (4 ≤ k ∧ k ≤ 8 ∧ len = 2 ∧ n = 0 ∧ nm.size = 0) := hcs
  replace HMk : Hid (∀ i, i < len → MX d (kid T i)) := HMk
  have HXl : Hid (∀ d, XL d w a len (kid T)) := hXl
  have HVn := qa0 (Vn.new w 37 #[.int .u8 (k : Int), .int .i64 n, .string nm, .slice a len cap, .int .i64 ln, .int .i64 cl])
  have c0 := HVn.out.cell 0 _ rfl
  have c1 := HVn.out.cell 1 _ rfl
  have c2 := HVn.out.cell 2 _ rfl
  have c3 := HVn.out.cell 3 _ rfl
  clear hXl hok hM hw ht
  rcases hcs with ⟨rfl, rfl, g1, g2, -⟩ | ⟨rfl, rfl, -, -⟩ | ⟨rfl, rfl, -, -⟩ | ⟨h4, h8, rfl, -, -⟩
  ·obtain ⟨X, HXx⟩ : ∃ X, Hid (xtext (d + 1) T = X) := ⟨_, rfl⟩
   have HI : Hid (∀ w' : World, Below w.heap.size w w' → Calls Tryz.prog 51 #[.int .i64 n] w' fun e w'' => e = .returned (.string X) ∧ Below w'.heap.size w' w'') := fun w' hb => (itoa_raw w' n (by omega) (by omega) (qg7 HTb.out hb)).mono (fun e w'' h => by
    obtain ⟨he, kk, os, rfl⟩ := h
    refine ⟨?_, Lib.below_grow _ _ (Nat.le_refl _) kk os⟩
    rw [he, ← HXx.out]
    rw [qaj, HT]
    rfl)
   rw [HXx.out]
   go_enter Tryz.func26, Tryz.ntmps26
   go_wp2_with (go_at_call 51; refine (HI.out _ (jlow _ _)).mono ?_; rintro r w1 ⟨rfl, hb⟩; have HB := qa0 hb; clear hb)
   go_ret
   exact ⟨rfl, jtwo (jlow _ _) HB.out⟩
  ·have HF : Hid (xtext (d + 1) T = nm) := by show xtext (d + 1) T = _; rw [qaj, HT]; rfl
   rw [HF.out]
   go_enter Tryz.func26, Tryz.ntmps26
   go_wp2
   go_ret
   exact ⟨rfl, jlow _ _⟩
  ·have HF : Hid (xtext (d + 1) T = ⟨#[45, 32]⟩ ++ xtext d (kid T 0)) := by show xtext (d + 1) T = _; rw [qaj, HT]; rfl
   obtain ⟨b0, o0, kk0, nl0, nn0, ll0, cc0, nx0, ka0, kc0, ea0, hkid0, hcl0⟩ := XL.at_ HXl.out (i := 0) (by omega)
   subst ea0
   have HKid0 := qa0 hkid0
   have HCl0 := qa0 hcl0
   obtain ⟨x0, Hx0⟩ : ∃ x, Hid (xtext d (kid T 0) = x) := ⟨_, rfl⟩
   have hx0 : x0.size ≤ 172032 := by rw [← Hx0.out]; exact (HMk.out 0 (by omega)).size
   have HC0 : Hid (∀ w' : World, Below w.heap.size w w' → Calls Tryz.prog 26 #[.agg #[.int .u8 (kk0 : Int), .int .i64 nn0, .string nx0, .slice ka0 nl0 kc0, .int .i64 ll0, .int .i64 cc0]] w' fun e w'' => e = .returned (.string x0) ∧ Below w'.heap.size w' w'') := fun w' hb => by rw [← Hx0.out]; exact ih w' (kid T 0) _ (by omega) (HKid0.out.later hb) (HMk.out 0 (by omega)) hb
   clear hkid0 hcl0
   rw [HF.out, Hx0.out]
   have g0 : ¬ 9223372036854775807 < 2 + x0.size := by omega
   obtain ⟨k0, k1, k2, k3, k4, k5⟩ := HCl0.out _ (jlow w (.cells #[.int .u8 3, .int .i64 n, .string nm, .slice (some ⟨b0, o0, none⟩) 1 cap, .int .i64 ln, .int .i64 cl] 37))
   rw [Nat.zero_mul, Nat.add_zero] at k0 k1 k2 k3 k4 k5
   go_enter Tryz.func26, Tryz.ntmps26
   go_wp2_with (go_at_call 26; refine (HC0.out _ (jlow _ _)).mono ?_; rintro r w1 ⟨rfl, hb⟩; have HB := qa0 hb; clear hb)
   go_ret
   exact ⟨rfl, jtwo (jlow _ _) HB.out⟩
  ·by_cases hk4 : k = 4
   ·subst hk4
    have HF : Hid (xtext (d + 1) T = ⟨#[40, 32]⟩ ++ xtext d (kid T 0) ++ ⟨#[32]⟩ ++ ⟨#[43]⟩ ++ ⟨#[32]⟩ ++ xtext d (kid T 1) ++ ⟨#[32, 41]⟩) := by show xtext (d + 1) T = _; rw [qaj, HT]; rfl
    obtain ⟨b0, o0, kk0, nl0, nn0, ll0, cc0, nx0, ka0, kc0, ea0, hkid0, hcl0⟩ := XL.at_ HXl.out (i := 0) (by omega)
    subst ea0
    have HKid0 := qa0 hkid0
    have HCl0 := qa0 hcl0
    obtain ⟨x0, Hx0⟩ : ∃ x, Hid (xtext d (kid T 0) = x) := ⟨_, rfl⟩
    have hx0 : x0.size ≤ 172032 := by rw [← Hx0.out]; exact (HMk.out 0 (by omega)).size
    have HC0 : Hid (∀ w' : World, Below w.heap.size w w' → Calls Tryz.prog 26 #[.agg #[.int .u8 (kk0 : Int), .int .i64 nn0, .string nx0, .slice ka0 nl0 kc0, .int .i64 ll0, .int .i64 cc0]] w' fun e w'' => e = .returned (.string x0) ∧ Below w'.heap.size w' w'') := fun w' hb => by rw [← Hx0.out]; exact ih w' (kid T 0) _ (by omega) (HKid0.out.later hb) (HMk.out 0 (by omega)) hb
    clear hkid0 hcl0
    obtain ⟨b1, o1, kk1, nl1, nn1, ll1, cc1, nx1, ka1, kc1, ea1, hkid1, hcl1⟩ := XL.at_ HXl.out (i := 1) (by omega)
    obtain ⟨rfl, rfl⟩ : b0 = b1 ∧ o0 = o1 := by cases ea1; exact ⟨rfl, rfl⟩
    have HKid1 := qa0 hkid1
    have HCl1 := qa0 hcl1
    obtain ⟨x1, Hx1⟩ : ∃ x, Hid (xtext d (kid T 1) = x) := ⟨_, rfl⟩
    have hx1 : x1.size ≤ 172032 := by rw [← Hx1.out]; exact (HMk.out 1 (by omega)).size
    have HC1 : Hid (∀ w' : World, Below w.heap.size w w' → Calls Tryz.prog 26 #[.agg #[.int .u8 (kk1 : Int), .int .i64 nn1, .string nx1, .slice ka1 nl1 kc1, .int .i64 ll1, .int .i64 cc1]] w' fun e w'' => e = .returned (.string x1) ∧ Below w'.heap.size w' w'') := fun w' hb => by rw [← Hx1.out]; exact ih w' (kid T 1) _ (by omega) (HKid1.out.later hb) (HMk.out 1 (by omega)) hb
    clear hkid1 hcl1
    rw [HF.out, Hx0.out, Hx1.out]
    have g0 : ¬ 9223372036854775807 < 2 + x0.size := by omega
    have g1 : ¬ 9223372036854775807 < 2 + x0.size + 1 := by omega
    have g2 : ¬ 9223372036854775807 < 2 + x0.size + 1 + 1 := by omega
    have g3 : ¬ 9223372036854775807 < 2 + x0.size + 1 + 1 + 1 := by omega
    have g4 : ¬ 9223372036854775807 < 2 + x0.size + 1 + 1 + 1 + x1.size := by omega
    have g5 : ¬ 9223372036854775807 < 2 + x0.size + 1 + 1 + 1 + x1.size + 2 := by omega
    have wz : IntKind.u8.wrap 0 = 0 := by decide
    have hel : ((⟨#[43, 45, 42, 47, 37]⟩ : ByteArray)[0]'(by decide)).toNat = 43 := rfl
    have hut : Utf8.encode 43 = ⟨#[43]⟩ := by kernel_rfl
    clear HF Hx0 Hx1
    go_enter Tryz.func26, Tryz.ntmps26
    go_wp2
    refine wp_region_held (S := fun w' => w'.cell? ⟨w.heap.size, 0, none⟩ = some (.int .u8 4) ∧ w'.cell? ⟨w.heap.size, 3, none⟩ = some (.slice (some ⟨b0, o0, none⟩) 2 cap) ∧ w'.cell? ⟨b0, o0, none⟩ = some (.int .u8 (kk0 : Int)) ∧ w'.cell? ⟨b0, o0 + 1, none⟩ = some (.int .i64 nn0) ∧ w'.cell? ⟨b0, o0 + 2, none⟩ = some (.string nx0) ∧ w'.cell? ⟨b0, o0 + 3, none⟩ = some (.slice ka0 nl0 kc0) ∧ w'.cell? ⟨b0, o0 + 4, none⟩ = some (.int .i64 ll0) ∧ w'.cell? ⟨b0, o0 + 5, none⟩ = some (.int .i64 cc0) ∧ w'.cell? ⟨b0, o0 + 6, none⟩ = some (.int .u8 (kk1 : Int)) ∧ w'.cell? ⟨b0, o0 + 6 + 1, none⟩ = some (.int .i64 nn1) ∧ w'.cell? ⟨b0, o0 + 6 + 2, none⟩ = some (.string nx1) ∧ w'.cell? ⟨b0, o0 + 6 + 3, none⟩ = some (.slice ka1 nl1 kc1) ∧ w'.cell? ⟨b0, o0 + 6 + 4, none⟩ = some (.int .i64 ll1) ∧ w'.cell? ⟨b0, o0 + 6 + 5, none⟩ = some (.int .i64 cc1)) (by kernel_rfl) ?_
    change wpAnyH _ _ _ _ _ _ _ _ (World.drew _)
    have HVa := HVn
    have HSa : Hid (∀ w' : World, Below w.heap.size w w' → Vn w' w.heap.size 37 #[.int .u8 4, .int .i64 n, .string nm, .slice (some ⟨b0, o0, none⟩) 2 cap, .int .i64 ln, .int .i64 cl] → (fun w' => w'.cell? ⟨w.heap.size, 0, none⟩ = some (.int .u8 4) ∧ w'.cell? ⟨w.heap.size, 3, none⟩ = some (.slice (some ⟨b0, o0, none⟩) 2 cap) ∧ w'.cell? ⟨b0, o0, none⟩ = some (.int .u8 (kk0 : Int)) ∧ w'.cell? ⟨b0, o0 + 1, none⟩ = some (.int .i64 nn0) ∧ w'.cell? ⟨b0, o0 + 2, none⟩ = some (.string nx0) ∧ w'.cell? ⟨b0, o0 + 3, none⟩ = some (.slice ka0 nl0 kc0) ∧ w'.cell? ⟨b0, o0 + 4, none⟩ = some (.int .i64 ll0) ∧ w'.cell? ⟨b0, o0 + 5, none⟩ = some (.int .i64 cc0) ∧ w'.cell? ⟨b0, o0 + 6, none⟩ = some (.int .u8 (kk1 : Int)) ∧ w'.cell? ⟨b0, o0 + 6 + 1, none⟩ = some (.int .i64 nn1) ∧ w'.cell? ⟨b0, o0 + 6 + 2, none⟩ = some (.string nx1) ∧ w'.cell? ⟨b0, o0 + 6 + 3, none⟩ = some (.slice ka1 nl1 kc1) ∧ w'.cell? ⟨b0, o0 + 6 + 4, none⟩ = some (.int .i64 ll1) ∧ w'.cell? ⟨b0, o0 + 6 + 5, none⟩ = some (.int .i64 cc1)) w') := fun w' hb hv => by
     obtain ⟨a0, a1, a2, a3, a4, a5⟩ := HCl0.out w' hb
     obtain ⟨e0, e1, e2, e3, e4, e5⟩ := HCl1.out w' hb
     rw [Nat.zero_mul, Nat.add_zero] at a0 a1 a2 a3 a4 a5
     rw [Nat.one_mul] at e0 e1 e2 e3 e4 e5
     exact ⟨hv.cell 0 _ rfl, hv.cell 3 _ rfl, a0, a1, a2, a3, a4, a5, e0, e1, e2, e3, e4, e5⟩
    have HBv0 : Hid (Below (w.alloc (.cells #[.int .u8 4, .int .i64 n, .string nm, .slice (some ⟨b0, o0, none⟩) 2 cap, .int .i64 ln, .int .i64 cl] 37)).heap.size (w.alloc (.cells #[.int .u8 4, .int .i64 n, .string nm, .slice (some ⟨b0, o0, none⟩) 2 cap, .int .i64 ln, .int .i64 cl] 37)) (w.alloc (.cells #[.int .u8 4, .int .i64 n, .string nm, .slice (some ⟨b0, o0, none⟩) 2 cap, .int .i64 ln, .int .i64 cl] 37)).drew) := (Below.refl _ _).drew
    have HB0 : Hid (Below w.heap.size w (w.alloc (.cells #[.int .u8 4, .int .i64 n, .string nm, .slice (some ⟨b0, o0, none⟩) 2 cap, .int .i64 ln, .int .i64 cl] 37)).drew) := (jlow _ _).drew
    have HS0 := qa0 (HSa.out _ HB0.out (HVa.out.later HBv0.out))
    refine wtkq 0 ?vk40 rfl (by kernel_rfl) (fun _ _ _ h => h) (by rfl) ?yk40 HS0.out ?zk40
    case yk40 => (intro w hSw; (try dsimp only at hSw); go_simp; try with_reducible rfl)
    try simp only [mz1, mz3, Act.put, mz4, mz5, mz6]
    refine wtkq 1 ?vk41 rfl (by kernel_rfl) (fun _ _ _ h => h) (by rfl) ?yk41 HS0.out ?zk41
    case yk41 => (intro w hSw; (try dsimp only at hSw); go_simp; try with_reducible rfl)
    try simp only [mz1, mz2, mz3, Act.put, mz4, mz5, mz6]
    refine wtkq 2 ?vk42 rfl (by kernel_rfl) (fun _ _ _ h => h) (by rfl) ?yk42 HS0.out ?zk42
    case yk42 => (intro w hSw; (try dsimp only at hSw); go_simp; try with_reducible rfl)
    try simp only [mz1, mz2, mz3, Act.put, mz4, mz5, mz6]
    refine wtkq 3 ?vk43 rfl (by kernel_rfl) (fun _ _ _ h => h) (by rfl) ?yk43 HS0.out ?zk43
    case yk43 => (intro w hSw; (try dsimp only at hSw); go_simp; try with_reducible rfl)
    try simp only [mz1, mz2, mz3, Act.put, mz4, mz5, mz6]
    refine wtkq 7 ?vk47 rfl (by kernel_rfl) (fun _ _ _ h => h) (by rfl) ?yk47 HS0.out ?zk47
    case yk47 => (intro w hSw; (try dsimp only at hSw); go_simp; try with_reducible rfl)
    try simp only [mz1, mz2, mz3, Act.put, mz4, mz5, mz6]
    refine wtkq 8 ?vk48 rfl (by kernel_rfl) (fun _ _ _ h => h) (by rfl) ?yk48 HS0.out ?zk48
    case yk48 => (intro w hSw; (try dsimp only at hSw); go_simp; try with_reducible rfl)
    try simp only [mz1, mz2, mz3, Act.put, mz4, mz5, mz6]
    refine wtkq 9 ?vk49 rfl (by kernel_rfl) (fun _ _ _ h => h) (by rfl) ?yk49 HS0.out ?zk49
    case yk49 => (intro w hSw; (try dsimp only at hSw); go_simp; try with_reducible rfl)
    try simp only [mz1, mz2, mz3, Act.put, mz4, mz5, mz6]
    refine wtkq 10 ?vk410 rfl (by kernel_rfl) (fun _ _ _ h => h) (by rfl) ?yk410 HS0.out ?zk410
    case yk410 => (intro w hSw; (try dsimp only at hSw); go_simp; try with_reducible rfl)
    try simp only [mz1, mz2, mz3, Act.put, mz4, mz5, mz6]
    refine wtkq 11 ?vk411 rfl (by kernel_rfl) (fun _ _ _ h => h) (by rfl) ?yk411 HS0.out ?zk411
    case yk411 => (intro w hSw; (try dsimp only at hSw); go_simp; try with_reducible rfl)
    try simp only [mz1, mz2, mz3, Act.put, mz4, mz5, mz6]
    refine wtkq 14 ?vk414 rfl (by kernel_rfl) (fun _ _ _ h => h) (by rfl) ?yk414 HS0.out ?zk414
    case yk414 => (intro w hSw; (try dsimp only at hSw); go_simp; try with_reducible rfl)
    try simp only [mz1, mz2, mz3, Act.put, mz4, mz5, mz6]
    refine wtkq 15 ?vk415 rfl (by kernel_rfl) (fun _ _ _ h => h) (by rfl) ?yk415 HS0.out ?zk415
    case yk415 => (intro w hSw; (try dsimp only at hSw); go_simp; try with_reducible rfl)
    try simp only [mz1, mz2, mz3, Act.put, mz4, mz5, mz6]
    refine wtkq 16 ?vk416 rfl (by kernel_rfl) (fun _ _ _ h => h) (by rfl) ?yk416 HS0.out ?zk416
    case yk416 => (intro w hSw; (try dsimp only at hSw); go_simp; try with_reducible rfl)
    try simp only [mz1, mz2, mz3, Act.put, mz4, mz5, mz6]
    refine wtkq 17 ?vk417 rfl (by kernel_rfl) (fun _ _ _ h => h) (by rfl) ?yk417 HS0.out ?zk417
    case yk417 => (intro w hSw; (try dsimp only at hSw); go_simp; try with_reducible rfl)
    try simp only [mz1, mz2, mz3, Act.put, mz4, mz5, mz6]
    refine wpAnyH_ready (rs := [4]) (by kernel_rfl) (by simp) ?_
    refine AllReadyH.cons rfl (fun KK hKK => ?_) AllReadyH.nil
    go_simp
    refine (HC0.out _ HB0.out).mono ?_; rintro r w1 ⟨rfl, hb1⟩; have HB1 := qa0 (jtwo HB0.out hb1); have HS1 := qa0 (HSa.out _ HB1.out (HVa.out.later (HBv0.out.trans (hb1.mono HBv0.out.size)))); have HBv1 : Hid (Below (w.alloc (.cells #[.int .u8 4, .int .i64 n, .string nm, .slice (some ⟨b0, o0, none⟩) 2 cap, .int .i64 ln, .int .i64 cl] 37)).heap.size (w.alloc (.cells #[.int .u8 4, .int .i64 n, .string nm, .slice (some ⟨b0, o0, none⟩) 2 cap, .int .i64 ln, .int .i64 cl] 37)) w1) := HBv0.out.trans (hb1.mono HBv0.out.size); clear hb1
    refine hKK.out _ _ HS1.out (fun _ => ?_)
    clear hKK KK
    try simp only [mz1, mz2, mz3, Act.put, mz4, mz5, mz6]
    refine wtkq 5 ?vk45 rfl (by kernel_rfl) (fun _ _ _ h => h) (by rfl) ?yk45 HS1.out ?zk45
    case yk45 => (intro w hSw; (try dsimp only at hSw); go_simp; try with_reducible rfl)
    try simp only [mz1, mz2, mz3, Act.put, mz4, mz5, mz6]
    refine wtkq 6 ?vk46 rfl (by kernel_rfl) (fun _ _ _ h => h) (by rfl) ?yk46 HS1.out ?zk46
    case yk46 => (intro w hSw; (try dsimp only at hSw); go_simp; try with_reducible rfl)
    try simp only [mz1, mz2, mz3, Act.put, mz4, mz5, mz6]
    refine wtkq 12 ?vk412 rfl (by kernel_rfl) (fun _ _ _ h => h) (by rfl) ?yk412 HS1.out ?zk412
    case yk412 => (intro w hSw; (try dsimp only at hSw); go_simp; try with_reducible rfl)
    try simp only [mz1, mz2, mz3, Act.put, mz4, mz5, mz6]
    refine wtkq 13 ?vk413 rfl (by kernel_rfl) (fun _ _ _ h => h) (by rfl) ?yk413 HS1.out ?zk413
    case yk413 => (intro w hSw; (try dsimp only at hSw); go_simp; try with_reducible rfl)
    try simp only [mz1, mz2, mz3, Act.put, mz4, mz5, mz6]
    refine wpAnyH_ready (rs := [18]) (by kernel_rfl) (by simp) ?_
    refine AllReadyH.cons rfl (fun KK hKK => ?_) AllReadyH.nil
    go_simp
    refine (HC1.out _ HB1.out).mono ?_; rintro r w2 ⟨rfl, hb2⟩; have HB2 := qa0 (jtwo HB1.out hb2); have HS2 := qa0 (HSa.out _ HB2.out (HVa.out.later (HBv1.out.trans (hb2.mono HBv1.out.size)))); have HBv2 : Hid (Below (w.alloc (.cells #[.int .u8 4, .int .i64 n, .string nm, .slice (some ⟨b0, o0, none⟩) 2 cap, .int .i64 ln, .int .i64 cl] 37)).heap.size (w.alloc (.cells #[.int .u8 4, .int .i64 n, .string nm, .slice (some ⟨b0, o0, none⟩) 2 cap, .int .i64 ln, .int .i64 cl] 37)) w2) := HBv1.out.trans (hb2.mono HBv1.out.size); clear hb2
    refine hKK.out _ _ HS2.out (fun _ => ?_)
    clear hKK KK
    try simp only [mz1, mz2, mz3, Act.put, mz4, mz5, mz6]
    refine wtkq 19 ?vk419 rfl (by kernel_rfl) (fun _ _ _ h => h) (by rfl) ?yk419 HS2.out ?zk419
    case yk419 => (intro w hSw; (try dsimp only at hSw); go_simp; try with_reducible rfl)
    try simp only [mz1, mz2, mz3, Act.put, mz4, mz5, mz6]
    refine wtkq 20 ?vk420 rfl (by kernel_rfl) (fun _ _ _ h => h) (by rfl) ?yk420 HS2.out ?zk420
    case yk420 => (intro w hSw; (try dsimp only at hSw); go_simp; try with_reducible rfl)
    try simp only [mz1, mz2, mz3, Act.put, mz4, mz5, mz6]
    refine wtkq 21 ?vk421 rfl (by kernel_rfl) (fun _ _ _ h => h) (by rfl) ?yk421 HS2.out ?zk421
    case yk421 => (intro w hSw; (try dsimp only at hSw); go_simp; try with_reducible rfl)
    try simp only [mz1, mz2, mz3, Act.put, mz4, mz5, mz6]
    refine wpAnyH_done (by kernel_rfl) ?_ _
    go_wp2
    go_ret
    exact ⟨rfl, HB2.out⟩
   by_cases hk5 : k = 5
   ·subst hk5
    have HF : Hid (xtext (d + 1) T = ⟨#[40, 32]⟩ ++ xtext d (kid T 0) ++ ⟨#[32]⟩ ++ ⟨#[45]⟩ ++ ⟨#[32]⟩ ++ xtext d (kid T 1) ++ ⟨#[32, 41]⟩) := by show xtext (d + 1) T = _; rw [qaj, HT]; rfl
    obtain ⟨b0, o0, kk0, nl0, nn0, ll0, cc0, nx0, ka0, kc0, ea0, hkid0, hcl0⟩ := XL.at_ HXl.out (i := 0) (by omega)
    subst ea0
    have HKid0 := qa0 hkid0
    have HCl0 := qa0 hcl0
    obtain ⟨x0, Hx0⟩ : ∃ x, Hid (xtext d (kid T 0) = x) := ⟨_, rfl⟩
    have hx0 : x0.size ≤ 172032 := by rw [← Hx0.out]; exact (HMk.out 0 (by omega)).size
    have HC0 : Hid (∀ w' : World, Below w.heap.size w w' → Calls Tryz.prog 26 #[.agg #[.int .u8 (kk0 : Int), .int .i64 nn0, .string nx0, .slice ka0 nl0 kc0, .int .i64 ll0, .int .i64 cc0]] w' fun e w'' => e = .returned (.string x0) ∧ Below w'.heap.size w' w'') := fun w' hb => by rw [← Hx0.out]; exact ih w' (kid T 0) _ (by omega) (HKid0.out.later hb) (HMk.out 0 (by omega)) hb
    clear hkid0 hcl0
    obtain ⟨b1, o1, kk1, nl1, nn1, ll1, cc1, nx1, ka1, kc1, ea1, hkid1, hcl1⟩ := XL.at_ HXl.out (i := 1) (by omega)
    obtain ⟨rfl, rfl⟩ : b0 = b1 ∧ o0 = o1 := by cases ea1; exact ⟨rfl, rfl⟩
    have HKid1 := qa0 hkid1
    have HCl1 := qa0 hcl1
    obtain ⟨x1, Hx1⟩ : ∃ x, Hid (xtext d (kid T 1) = x) := ⟨_, rfl⟩
    have hx1 : x1.size ≤ 172032 := by rw [← Hx1.out]; exact (HMk.out 1 (by omega)).size
    have HC1 : Hid (∀ w' : World, Below w.heap.size w w' → Calls Tryz.prog 26 #[.agg #[.int .u8 (kk1 : Int), .int .i64 nn1, .string nx1, .slice ka1 nl1 kc1, .int .i64 ll1, .int .i64 cc1]] w' fun e w'' => e = .returned (.string x1) ∧ Below w'.heap.size w' w'') := fun w' hb => by rw [← Hx1.out]; exact ih w' (kid T 1) _ (by omega) (HKid1.out.later hb) (HMk.out 1 (by omega)) hb
    clear hkid1 hcl1
    rw [HF.out, Hx0.out, Hx1.out]
    have g0 : ¬ 9223372036854775807 < 2 + x0.size := by omega
    have g1 : ¬ 9223372036854775807 < 2 + x0.size + 1 := by omega
    have g2 : ¬ 9223372036854775807 < 2 + x0.size + 1 + 1 := by omega
    have g3 : ¬ 9223372036854775807 < 2 + x0.size + 1 + 1 + 1 := by omega
    have g4 : ¬ 9223372036854775807 < 2 + x0.size + 1 + 1 + 1 + x1.size := by omega
    have g5 : ¬ 9223372036854775807 < 2 + x0.size + 1 + 1 + 1 + x1.size + 2 := by omega
    have wz : IntKind.u8.wrap 1 = 1 := by decide
    have hel : ((⟨#[43, 45, 42, 47, 37]⟩ : ByteArray)[1]'(by decide)).toNat = 45 := rfl
    have hut : Utf8.encode 45 = ⟨#[45]⟩ := by kernel_rfl
    clear HF Hx0 Hx1
    go_enter Tryz.func26, Tryz.ntmps26
    go_wp2
    refine wp_region_held (S := fun w' => w'.cell? ⟨w.heap.size, 0, none⟩ = some (.int .u8 5) ∧ w'.cell? ⟨w.heap.size, 3, none⟩ = some (.slice (some ⟨b0, o0, none⟩) 2 cap) ∧ w'.cell? ⟨b0, o0, none⟩ = some (.int .u8 (kk0 : Int)) ∧ w'.cell? ⟨b0, o0 + 1, none⟩ = some (.int .i64 nn0) ∧ w'.cell? ⟨b0, o0 + 2, none⟩ = some (.string nx0) ∧ w'.cell? ⟨b0, o0 + 3, none⟩ = some (.slice ka0 nl0 kc0) ∧ w'.cell? ⟨b0, o0 + 4, none⟩ = some (.int .i64 ll0) ∧ w'.cell? ⟨b0, o0 + 5, none⟩ = some (.int .i64 cc0) ∧ w'.cell? ⟨b0, o0 + 6, none⟩ = some (.int .u8 (kk1 : Int)) ∧ w'.cell? ⟨b0, o0 + 6 + 1, none⟩ = some (.int .i64 nn1) ∧ w'.cell? ⟨b0, o0 + 6 + 2, none⟩ = some (.string nx1) ∧ w'.cell? ⟨b0, o0 + 6 + 3, none⟩ = some (.slice ka1 nl1 kc1) ∧ w'.cell? ⟨b0, o0 + 6 + 4, none⟩ = some (.int .i64 ll1) ∧ w'.cell? ⟨b0, o0 + 6 + 5, none⟩ = some (.int .i64 cc1)) (by kernel_rfl) ?_
    change wpAnyH _ _ _ _ _ _ _ _ (World.drew _)
    have HVa := HVn
    have HSa : Hid (∀ w' : World, Below w.heap.size w w' → Vn w' w.heap.size 37 #[.int .u8 5, .int .i64 n, .string nm, .slice (some ⟨b0, o0, none⟩) 2 cap, .int .i64 ln, .int .i64 cl] → (fun w' => w'.cell? ⟨w.heap.size, 0, none⟩ = some (.int .u8 5) ∧ w'.cell? ⟨w.heap.size, 3, none⟩ = some (.slice (some ⟨b0, o0, none⟩) 2 cap) ∧ w'.cell? ⟨b0, o0, none⟩ = some (.int .u8 (kk0 : Int)) ∧ w'.cell? ⟨b0, o0 + 1, none⟩ = some (.int .i64 nn0) ∧ w'.cell? ⟨b0, o0 + 2, none⟩ = some (.string nx0) ∧ w'.cell? ⟨b0, o0 + 3, none⟩ = some (.slice ka0 nl0 kc0) ∧ w'.cell? ⟨b0, o0 + 4, none⟩ = some (.int .i64 ll0) ∧ w'.cell? ⟨b0, o0 + 5, none⟩ = some (.int .i64 cc0) ∧ w'.cell? ⟨b0, o0 + 6, none⟩ = some (.int .u8 (kk1 : Int)) ∧ w'.cell? ⟨b0, o0 + 6 + 1, none⟩ = some (.int .i64 nn1) ∧ w'.cell? ⟨b0, o0 + 6 + 2, none⟩ = some (.string nx1) ∧ w'.cell? ⟨b0, o0 + 6 + 3, none⟩ = some (.slice ka1 nl1 kc1) ∧ w'.cell? ⟨b0, o0 + 6 + 4, none⟩ = some (.int .i64 ll1) ∧ w'.cell? ⟨b0, o0 + 6 + 5, none⟩ = some (.int .i64 cc1)) w') := fun w' hb hv => by
     obtain ⟨a0, a1, a2, a3, a4, a5⟩ := HCl0.out w' hb
     obtain ⟨e0, e1, e2, e3, e4, e5⟩ := HCl1.out w' hb
     rw [Nat.zero_mul, Nat.add_zero] at a0 a1 a2 a3 a4 a5
     rw [Nat.one_mul] at e0 e1 e2 e3 e4 e5
     exact ⟨hv.cell 0 _ rfl, hv.cell 3 _ rfl, a0, a1, a2, a3, a4, a5, e0, e1, e2, e3, e4, e5⟩
    have HBv0 : Hid (Below (w.alloc (.cells #[.int .u8 5, .int .i64 n, .string nm, .slice (some ⟨b0, o0, none⟩) 2 cap, .int .i64 ln, .int .i64 cl] 37)).heap.size (w.alloc (.cells #[.int .u8 5, .int .i64 n, .string nm, .slice (some ⟨b0, o0, none⟩) 2 cap, .int .i64 ln, .int .i64 cl] 37)) (w.alloc (.cells #[.int .u8 5, .int .i64 n, .string nm, .slice (some ⟨b0, o0, none⟩) 2 cap, .int .i64 ln, .int .i64 cl] 37)).drew) := (Below.refl _ _).drew
    have HB0 : Hid (Below w.heap.size w (w.alloc (.cells #[.int .u8 5, .int .i64 n, .string nm, .slice (some ⟨b0, o0, none⟩) 2 cap, .int .i64 ln, .int .i64 cl] 37)).drew) := (jlow _ _).drew
    have HS0 := qa0 (HSa.out _ HB0.out (HVa.out.later HBv0.out))
    refine wtkq 0 ?vk50 rfl (by kernel_rfl) (fun _ _ _ h => h) (by rfl) ?yk50 HS0.out ?zk50
    case yk50 => (intro w hSw; (try dsimp only at hSw); go_simp; try with_reducible rfl)
    try simp only [mz1, mz3, Act.put, mz4, mz5, mz6]
    refine wtkq 1 ?vk51 rfl (by kernel_rfl) (fun _ _ _ h => h) (by rfl) ?yk51 HS0.out ?zk51
    case yk51 => (intro w hSw; (try dsimp only at hSw); go_simp; try with_reducible rfl)
    try simp only [mz1, mz2, mz3, Act.put, mz4, mz5, mz6]
    refine wtkq 2 ?vk52 rfl (by kernel_rfl) (fun _ _ _ h => h) (by rfl) ?yk52 HS0.out ?zk52
    case yk52 => (intro w hSw; (try dsimp only at hSw); go_simp; try with_reducible rfl)
    try simp only [mz1, mz2, mz3, Act.put, mz4, mz5, mz6]
    refine wtkq 3 ?vk53 rfl (by kernel_rfl) (fun _ _ _ h => h) (by rfl) ?yk53 HS0.out ?zk53
    case yk53 => (intro w hSw; (try dsimp only at hSw); go_simp; try with_reducible rfl)
    try simp only [mz1, mz2, mz3, Act.put, mz4, mz5, mz6]
    refine wtkq 7 ?vk57 rfl (by kernel_rfl) (fun _ _ _ h => h) (by rfl) ?yk57 HS0.out ?zk57
    case yk57 => (intro w hSw; (try dsimp only at hSw); go_simp; try with_reducible rfl)
    try simp only [mz1, mz2, mz3, Act.put, mz4, mz5, mz6]
    refine wtkq 8 ?vk58 rfl (by kernel_rfl) (fun _ _ _ h => h) (by rfl) ?yk58 HS0.out ?zk58
    case yk58 => (intro w hSw; (try dsimp only at hSw); go_simp; try with_reducible rfl)
    try simp only [mz1, mz2, mz3, Act.put, mz4, mz5, mz6]
    refine wtkq 9 ?vk59 rfl (by kernel_rfl) (fun _ _ _ h => h) (by rfl) ?yk59 HS0.out ?zk59
    case yk59 => (intro w hSw; (try dsimp only at hSw); go_simp; try with_reducible rfl)
    try simp only [mz1, mz2, mz3, Act.put, mz4, mz5, mz6]
    refine wtkq 10 ?vk510 rfl (by kernel_rfl) (fun _ _ _ h => h) (by rfl) ?yk510 HS0.out ?zk510
    case yk510 => (intro w hSw; (try dsimp only at hSw); go_simp; try with_reducible rfl)
    try simp only [mz1, mz2, mz3, Act.put, mz4, mz5, mz6]
    refine wtkq 11 ?vk511 rfl (by kernel_rfl) (fun _ _ _ h => h) (by rfl) ?yk511 HS0.out ?zk511
    case yk511 => (intro w hSw; (try dsimp only at hSw); go_simp; try with_reducible rfl)
    try simp only [mz1, mz2, mz3, Act.put, mz4, mz5, mz6]
    refine wtkq 14 ?vk514 rfl (by kernel_rfl) (fun _ _ _ h => h) (by rfl) ?yk514 HS0.out ?zk514
    case yk514 => (intro w hSw; (try dsimp only at hSw); go_simp; try with_reducible rfl)
    try simp only [mz1, mz2, mz3, Act.put, mz4, mz5, mz6]
    refine wtkq 15 ?vk515 rfl (by kernel_rfl) (fun _ _ _ h => h) (by rfl) ?yk515 HS0.out ?zk515
    case yk515 => (intro w hSw; (try dsimp only at hSw); go_simp; try with_reducible rfl)
    try simp only [mz1, mz2, mz3, Act.put, mz4, mz5, mz6]
    refine wtkq 16 ?vk516 rfl (by kernel_rfl) (fun _ _ _ h => h) (by rfl) ?yk516 HS0.out ?zk516
    case yk516 => (intro w hSw; (try dsimp only at hSw); go_simp; try with_reducible rfl)
    try simp only [mz1, mz2, mz3, Act.put, mz4, mz5, mz6]
    refine wtkq 17 ?vk517 rfl (by kernel_rfl) (fun _ _ _ h => h) (by rfl) ?yk517 HS0.out ?zk517
    case yk517 => (intro w hSw; (try dsimp only at hSw); go_simp; try with_reducible rfl)
    try simp only [mz1, mz2, mz3, Act.put, mz4, mz5, mz6]
    refine wpAnyH_ready (rs := [4]) (by kernel_rfl) (by simp) ?_
    refine AllReadyH.cons rfl (fun KK hKK => ?_) AllReadyH.nil
    go_simp
    refine (HC0.out _ HB0.out).mono ?_; rintro r w1 ⟨rfl, hb1⟩; have HB1 := qa0 (jtwo HB0.out hb1); have HS1 := qa0 (HSa.out _ HB1.out (HVa.out.later (HBv0.out.trans (hb1.mono HBv0.out.size)))); have HBv1 : Hid (Below (w.alloc (.cells #[.int .u8 5, .int .i64 n, .string nm, .slice (some ⟨b0, o0, none⟩) 2 cap, .int .i64 ln, .int .i64 cl] 37)).heap.size (w.alloc (.cells #[.int .u8 5, .int .i64 n, .string nm, .slice (some ⟨b0, o0, none⟩) 2 cap, .int .i64 ln, .int .i64 cl] 37)) w1) := HBv0.out.trans (hb1.mono HBv0.out.size); clear hb1
    refine hKK.out _ _ HS1.out (fun _ => ?_)
    clear hKK KK
    try simp only [mz1, mz2, mz3, Act.put, mz4, mz5, mz6]
    refine wtkq 5 ?vk55 rfl (by kernel_rfl) (fun _ _ _ h => h) (by rfl) ?yk55 HS1.out ?zk55
    case yk55 => (intro w hSw; (try dsimp only at hSw); go_simp; try with_reducible rfl)
    try simp only [mz1, mz2, mz3, Act.put, mz4, mz5, mz6]
    refine wtkq 6 ?vk56 rfl (by kernel_rfl) (fun _ _ _ h => h) (by rfl) ?yk56 HS1.out ?zk56
    case yk56 => (intro w hSw; (try dsimp only at hSw); go_simp; try with_reducible rfl)
    try simp only [mz1, mz2, mz3, Act.put, mz4, mz5, mz6]
    refine wtkq 12 ?vk512 rfl (by kernel_rfl) (fun _ _ _ h => h) (by rfl) ?yk512 HS1.out ?zk512
    case yk512 => (intro w hSw; (try dsimp only at hSw); go_simp; try with_reducible rfl)
    try simp only [mz1, mz2, mz3, Act.put, mz4, mz5, mz6]
    refine wtkq 13 ?vk513 rfl (by kernel_rfl) (fun _ _ _ h => h) (by rfl) ?yk513 HS1.out ?zk513
    case yk513 => (intro w hSw; (try dsimp only at hSw); go_simp; try with_reducible rfl)
    try simp only [mz1, mz2, mz3, Act.put, mz4, mz5, mz6]
    refine wpAnyH_ready (rs := [18]) (by kernel_rfl) (by simp) ?_
    refine AllReadyH.cons rfl (fun KK hKK => ?_) AllReadyH.nil
    go_simp
    refine (HC1.out _ HB1.out).mono ?_; rintro r w2 ⟨rfl, hb2⟩; have HB2 := qa0 (jtwo HB1.out hb2); have HS2 := qa0 (HSa.out _ HB2.out (HVa.out.later (HBv1.out.trans (hb2.mono HBv1.out.size)))); have HBv2 : Hid (Below (w.alloc (.cells #[.int .u8 5, .int .i64 n, .string nm, .slice (some ⟨b0, o0, none⟩) 2 cap, .int .i64 ln, .int .i64 cl] 37)).heap.size (w.alloc (.cells #[.int .u8 5, .int .i64 n, .string nm, .slice (some ⟨b0, o0, none⟩) 2 cap, .int .i64 ln, .int .i64 cl] 37)) w2) := HBv1.out.trans (hb2.mono HBv1.out.size); clear hb2
    refine hKK.out _ _ HS2.out (fun _ => ?_)
    clear hKK KK
    try simp only [mz1, mz2, mz3, Act.put, mz4, mz5, mz6]
    refine wtkq 19 ?vk519 rfl (by kernel_rfl) (fun _ _ _ h => h) (by rfl) ?yk519 HS2.out ?zk519
    case yk519 => (intro w hSw; (try dsimp only at hSw); go_simp; try with_reducible rfl)
    try simp only [mz1, mz2, mz3, Act.put, mz4, mz5, mz6]
    refine wtkq 20 ?vk520 rfl (by kernel_rfl) (fun _ _ _ h => h) (by rfl) ?yk520 HS2.out ?zk520
    case yk520 => (intro w hSw; (try dsimp only at hSw); go_simp; try with_reducible rfl)
    try simp only [mz1, mz2, mz3, Act.put, mz4, mz5, mz6]
    refine wtkq 21 ?vk521 rfl (by kernel_rfl) (fun _ _ _ h => h) (by rfl) ?yk521 HS2.out ?zk521
    case yk521 => (intro w hSw; (try dsimp only at hSw); go_simp; try with_reducible rfl)
    try simp only [mz1, mz2, mz3, Act.put, mz4, mz5, mz6]
    refine wpAnyH_done (by kernel_rfl) ?_ _
    go_wp2
    go_ret
    exact ⟨rfl, HB2.out⟩
   by_cases hk6 : k = 6
   ·subst hk6
    have HF : Hid (xtext (d + 1) T = ⟨#[40, 32]⟩ ++ xtext d (kid T 0) ++ ⟨#[32]⟩ ++ ⟨#[42]⟩ ++ ⟨#[32]⟩ ++ xtext d (kid T 1) ++ ⟨#[32, 41]⟩) := by show xtext (d + 1) T = _; rw [qaj, HT]; rfl
    obtain ⟨b0, o0, kk0, nl0, nn0, ll0, cc0, nx0, ka0, kc0, ea0, hkid0, hcl0⟩ := XL.at_ HXl.out (i := 0) (by omega)
    subst ea0
    have HKid0 := qa0 hkid0
    have HCl0 := qa0 hcl0
    obtain ⟨x0, Hx0⟩ : ∃ x, Hid (xtext d (kid T 0) = x) := ⟨_, rfl⟩
    have hx0 : x0.size ≤ 172032 := by rw [← Hx0.out]; exact (HMk.out 0 (by omega)).size
    have HC0 : Hid (∀ w' : World, Below w.heap.size w w' → Calls Tryz.prog 26 #[.agg #[.int .u8 (kk0 : Int), .int .i64 nn0, .string nx0, .slice ka0 nl0 kc0, .int .i64 ll0, .int .i64 cc0]] w' fun e w'' => e = .returned (.string x0) ∧ Below w'.heap.size w' w'') := fun w' hb => by rw [← Hx0.out]; exact ih w' (kid T 0) _ (by omega) (HKid0.out.later hb) (HMk.out 0 (by omega)) hb
    clear hkid0 hcl0
    obtain ⟨b1, o1, kk1, nl1, nn1, ll1, cc1, nx1, ka1, kc1, ea1, hkid1, hcl1⟩ := XL.at_ HXl.out (i := 1) (by omega)
    obtain ⟨rfl, rfl⟩ : b0 = b1 ∧ o0 = o1 := by cases ea1; exact ⟨rfl, rfl⟩
    have HKid1 := qa0 hkid1
    have HCl1 := qa0 hcl1
    obtain ⟨x1, Hx1⟩ : ∃ x, Hid (xtext d (kid T 1) = x) := ⟨_, rfl⟩
    have hx1 : x1.size ≤ 172032 := by rw [← Hx1.out]; exact (HMk.out 1 (by omega)).size
    have HC1 : Hid (∀ w' : World, Below w.heap.size w w' → Calls Tryz.prog 26 #[.agg #[.int .u8 (kk1 : Int), .int .i64 nn1, .string nx1, .slice ka1 nl1 kc1, .int .i64 ll1, .int .i64 cc1]] w' fun e w'' => e = .returned (.string x1) ∧ Below w'.heap.size w' w'') := fun w' hb => by rw [← Hx1.out]; exact ih w' (kid T 1) _ (by omega) (HKid1.out.later hb) (HMk.out 1 (by omega)) hb
    clear hkid1 hcl1
    rw [HF.out, Hx0.out, Hx1.out]
    have g0 : ¬ 9223372036854775807 < 2 + x0.size := by omega
    have g1 : ¬ 9223372036854775807 < 2 + x0.size + 1 := by omega
    have g2 : ¬ 9223372036854775807 < 2 + x0.size + 1 + 1 := by omega
    have g3 : ¬ 9223372036854775807 < 2 + x0.size + 1 + 1 + 1 := by omega
    have g4 : ¬ 9223372036854775807 < 2 + x0.size + 1 + 1 + 1 + x1.size := by omega
    have g5 : ¬ 9223372036854775807 < 2 + x0.size + 1 + 1 + 1 + x1.size + 2 := by omega
    have wz : IntKind.u8.wrap 2 = 2 := by decide
    have hel : ((⟨#[43, 45, 42, 47, 37]⟩ : ByteArray)[2]'(by decide)).toNat = 42 := rfl
    have hut : Utf8.encode 42 = ⟨#[42]⟩ := by kernel_rfl
    clear HF Hx0 Hx1
    go_enter Tryz.func26, Tryz.ntmps26
    go_wp2
    refine wp_region_held (S := fun w' => w'.cell? ⟨w.heap.size, 0, none⟩ = some (.int .u8 6) ∧ w'.cell? ⟨w.heap.size, 3, none⟩ = some (.slice (some ⟨b0, o0, none⟩) 2 cap) ∧ w'.cell? ⟨b0, o0, none⟩ = some (.int .u8 (kk0 : Int)) ∧ w'.cell? ⟨b0, o0 + 1, none⟩ = some (.int .i64 nn0) ∧ w'.cell? ⟨b0, o0 + 2, none⟩ = some (.string nx0) ∧ w'.cell? ⟨b0, o0 + 3, none⟩ = some (.slice ka0 nl0 kc0) ∧ w'.cell? ⟨b0, o0 + 4, none⟩ = some (.int .i64 ll0) ∧ w'.cell? ⟨b0, o0 + 5, none⟩ = some (.int .i64 cc0) ∧ w'.cell? ⟨b0, o0 + 6, none⟩ = some (.int .u8 (kk1 : Int)) ∧ w'.cell? ⟨b0, o0 + 6 + 1, none⟩ = some (.int .i64 nn1) ∧ w'.cell? ⟨b0, o0 + 6 + 2, none⟩ = some (.string nx1) ∧ w'.cell? ⟨b0, o0 + 6 + 3, none⟩ = some (.slice ka1 nl1 kc1) ∧ w'.cell? ⟨b0, o0 + 6 + 4, none⟩ = some (.int .i64 ll1) ∧ w'.cell? ⟨b0, o0 + 6 + 5, none⟩ = some (.int .i64 cc1)) (by kernel_rfl) ?_
    change wpAnyH _ _ _ _ _ _ _ _ (World.drew _)
    have HVa := HVn
    have HSa : Hid (∀ w' : World, Below w.heap.size w w' → Vn w' w.heap.size 37 #[.int .u8 6, .int .i64 n, .string nm, .slice (some ⟨b0, o0, none⟩) 2 cap, .int .i64 ln, .int .i64 cl] → (fun w' => w'.cell? ⟨w.heap.size, 0, none⟩ = some (.int .u8 6) ∧ w'.cell? ⟨w.heap.size, 3, none⟩ = some (.slice (some ⟨b0, o0, none⟩) 2 cap) ∧ w'.cell? ⟨b0, o0, none⟩ = some (.int .u8 (kk0 : Int)) ∧ w'.cell? ⟨b0, o0 + 1, none⟩ = some (.int .i64 nn0) ∧ w'.cell? ⟨b0, o0 + 2, none⟩ = some (.string nx0) ∧ w'.cell? ⟨b0, o0 + 3, none⟩ = some (.slice ka0 nl0 kc0) ∧ w'.cell? ⟨b0, o0 + 4, none⟩ = some (.int .i64 ll0) ∧ w'.cell? ⟨b0, o0 + 5, none⟩ = some (.int .i64 cc0) ∧ w'.cell? ⟨b0, o0 + 6, none⟩ = some (.int .u8 (kk1 : Int)) ∧ w'.cell? ⟨b0, o0 + 6 + 1, none⟩ = some (.int .i64 nn1) ∧ w'.cell? ⟨b0, o0 + 6 + 2, none⟩ = some (.string nx1) ∧ w'.cell? ⟨b0, o0 + 6 + 3, none⟩ = some (.slice ka1 nl1 kc1) ∧ w'.cell? ⟨b0, o0 + 6 + 4, none⟩ = some (.int .i64 ll1) ∧ w'.cell? ⟨b0, o0 + 6 + 5, none⟩ = some (.int .i64 cc1)) w') := fun w' hb hv => by
     obtain ⟨a0, a1, a2, a3, a4, a5⟩ := HCl0.out w' hb
     obtain ⟨e0, e1, e2, e3, e4, e5⟩ := HCl1.out w' hb
     rw [Nat.zero_mul, Nat.add_zero] at a0 a1 a2 a3 a4 a5
     rw [Nat.one_mul] at e0 e1 e2 e3 e4 e5
     exact ⟨hv.cell 0 _ rfl, hv.cell 3 _ rfl, a0, a1, a2, a3, a4, a5, e0, e1, e2, e3, e4, e5⟩
    have HBv0 : Hid (Below (w.alloc (.cells #[.int .u8 6, .int .i64 n, .string nm, .slice (some ⟨b0, o0, none⟩) 2 cap, .int .i64 ln, .int .i64 cl] 37)).heap.size (w.alloc (.cells #[.int .u8 6, .int .i64 n, .string nm, .slice (some ⟨b0, o0, none⟩) 2 cap, .int .i64 ln, .int .i64 cl] 37)) (w.alloc (.cells #[.int .u8 6, .int .i64 n, .string nm, .slice (some ⟨b0, o0, none⟩) 2 cap, .int .i64 ln, .int .i64 cl] 37)).drew) := (Below.refl _ _).drew
    have HB0 : Hid (Below w.heap.size w (w.alloc (.cells #[.int .u8 6, .int .i64 n, .string nm, .slice (some ⟨b0, o0, none⟩) 2 cap, .int .i64 ln, .int .i64 cl] 37)).drew) := (jlow _ _).drew
    have HS0 := qa0 (HSa.out _ HB0.out (HVa.out.later HBv0.out))
    refine wtkq 0 ?vk60 rfl (by kernel_rfl) (fun _ _ _ h => h) (by rfl) ?yk60 HS0.out ?zk60
    case yk60 => (intro w hSw; (try dsimp only at hSw); go_simp; try with_reducible rfl)
    try simp only [mz1, mz3, Act.put, mz4, mz5, mz6]
    refine wtkq 1 ?vk61 rfl (by kernel_rfl) (fun _ _ _ h => h) (by rfl) ?yk61 HS0.out ?zk61
    case yk61 => (intro w hSw; (try dsimp only at hSw); go_simp; try with_reducible rfl)
    try simp only [mz1, mz2, mz3, Act.put, mz4, mz5, mz6]
    refine wtkq 2 ?vk62 rfl (by kernel_rfl) (fun _ _ _ h => h) (by rfl) ?yk62 HS0.out ?zk62
    case yk62 => (intro w hSw; (try dsimp only at hSw); go_simp; try with_reducible rfl)
    try simp only [mz1, mz2, mz3, Act.put, mz4, mz5, mz6]
    refine wtkq 3 ?vk63 rfl (by kernel_rfl) (fun _ _ _ h => h) (by rfl) ?yk63 HS0.out ?zk63
    case yk63 => (intro w hSw; (try dsimp only at hSw); go_simp; try with_reducible rfl)
    try simp only [mz1, mz2, mz3, Act.put, mz4, mz5, mz6]
    refine wtkq 7 ?vk67 rfl (by kernel_rfl) (fun _ _ _ h => h) (by rfl) ?yk67 HS0.out ?zk67
    case yk67 => (intro w hSw; (try dsimp only at hSw); go_simp; try with_reducible rfl)
    try simp only [mz1, mz2, mz3, Act.put, mz4, mz5, mz6]
    refine wtkq 8 ?vk68 rfl (by kernel_rfl) (fun _ _ _ h => h) (by rfl) ?yk68 HS0.out ?zk68
    case yk68 => (intro w hSw; (try dsimp only at hSw); go_simp; try with_reducible rfl)
    try simp only [mz1, mz2, mz3, Act.put, mz4, mz5, mz6]
    refine wtkq 9 ?vk69 rfl (by kernel_rfl) (fun _ _ _ h => h) (by rfl) ?yk69 HS0.out ?zk69
    case yk69 => (intro w hSw; (try dsimp only at hSw); go_simp; try with_reducible rfl)
    try simp only [mz1, mz2, mz3, Act.put, mz4, mz5, mz6]
    refine wtkq 10 ?vk610 rfl (by kernel_rfl) (fun _ _ _ h => h) (by rfl) ?yk610 HS0.out ?zk610
    case yk610 => (intro w hSw; (try dsimp only at hSw); go_simp; try with_reducible rfl)
    try simp only [mz1, mz2, mz3, Act.put, mz4, mz5, mz6]
    refine wtkq 11 ?vk611 rfl (by kernel_rfl) (fun _ _ _ h => h) (by rfl) ?yk611 HS0.out ?zk611
    case yk611 => (intro w hSw; (try dsimp only at hSw); go_simp; try with_reducible rfl)
    try simp only [mz1, mz2, mz3, Act.put, mz4, mz5, mz6]
    refine wtkq 14 ?vk614 rfl (by kernel_rfl) (fun _ _ _ h => h) (by rfl) ?yk614 HS0.out ?zk614
    case yk614 => (intro w hSw; (try dsimp only at hSw); go_simp; try with_reducible rfl)
    try simp only [mz1, mz2, mz3, Act.put, mz4, mz5, mz6]
    refine wtkq 15 ?vk615 rfl (by kernel_rfl) (fun _ _ _ h => h) (by rfl) ?yk615 HS0.out ?zk615
    case yk615 => (intro w hSw; (try dsimp only at hSw); go_simp; try with_reducible rfl)
    try simp only [mz1, mz2, mz3, Act.put, mz4, mz5, mz6]
    refine wtkq 16 ?vk616 rfl (by kernel_rfl) (fun _ _ _ h => h) (by rfl) ?yk616 HS0.out ?zk616
    case yk616 => (intro w hSw; (try dsimp only at hSw); go_simp; try with_reducible rfl)
    try simp only [mz1, mz2, mz3, Act.put, mz4, mz5, mz6]
    refine wtkq 17 ?vk617 rfl (by kernel_rfl) (fun _ _ _ h => h) (by rfl) ?yk617 HS0.out ?zk617
    case yk617 => (intro w hSw; (try dsimp only at hSw); go_simp; try with_reducible rfl)
    try simp only [mz1, mz2, mz3, Act.put, mz4, mz5, mz6]
    refine wpAnyH_ready (rs := [4]) (by kernel_rfl) (by simp) ?_
    refine AllReadyH.cons rfl (fun KK hKK => ?_) AllReadyH.nil
    go_simp
    refine (HC0.out _ HB0.out).mono ?_; rintro r w1 ⟨rfl, hb1⟩; have HB1 := qa0 (jtwo HB0.out hb1); have HS1 := qa0 (HSa.out _ HB1.out (HVa.out.later (HBv0.out.trans (hb1.mono HBv0.out.size)))); have HBv1 : Hid (Below (w.alloc (.cells #[.int .u8 6, .int .i64 n, .string nm, .slice (some ⟨b0, o0, none⟩) 2 cap, .int .i64 ln, .int .i64 cl] 37)).heap.size (w.alloc (.cells #[.int .u8 6, .int .i64 n, .string nm, .slice (some ⟨b0, o0, none⟩) 2 cap, .int .i64 ln, .int .i64 cl] 37)) w1) := HBv0.out.trans (hb1.mono HBv0.out.size); clear hb1
    refine hKK.out _ _ HS1.out (fun _ => ?_)
    clear hKK KK
    try simp only [mz1, mz2, mz3, Act.put, mz4, mz5, mz6]
    refine wtkq 5 ?vk65 rfl (by kernel_rfl) (fun _ _ _ h => h) (by rfl) ?yk65 HS1.out ?zk65
    case yk65 => (intro w hSw; (try dsimp only at hSw); go_simp; try with_reducible rfl)
    try simp only [mz1, mz2, mz3, Act.put, mz4, mz5, mz6]
    refine wtkq 6 ?vk66 rfl (by kernel_rfl) (fun _ _ _ h => h) (by rfl) ?yk66 HS1.out ?zk66
    case yk66 => (intro w hSw; (try dsimp only at hSw); go_simp; try with_reducible rfl)
    try simp only [mz1, mz2, mz3, Act.put, mz4, mz5, mz6]
    refine wtkq 12 ?vk612 rfl (by kernel_rfl) (fun _ _ _ h => h) (by rfl) ?yk612 HS1.out ?zk612
    case yk612 => (intro w hSw; (try dsimp only at hSw); go_simp; try with_reducible rfl)
    try simp only [mz1, mz2, mz3, Act.put, mz4, mz5, mz6]
    refine wtkq 13 ?vk613 rfl (by kernel_rfl) (fun _ _ _ h => h) (by rfl) ?yk613 HS1.out ?zk613
    case yk613 => (intro w hSw; (try dsimp only at hSw); go_simp; try with_reducible rfl)
    try simp only [mz1, mz2, mz3, Act.put, mz4, mz5, mz6]
    refine wpAnyH_ready (rs := [18]) (by kernel_rfl) (by simp) ?_
    refine AllReadyH.cons rfl (fun KK hKK => ?_) AllReadyH.nil
    go_simp
    refine (HC1.out _ HB1.out).mono ?_; rintro r w2 ⟨rfl, hb2⟩; have HB2 := qa0 (jtwo HB1.out hb2); have HS2 := qa0 (HSa.out _ HB2.out (HVa.out.later (HBv1.out.trans (hb2.mono HBv1.out.size)))); have HBv2 : Hid (Below (w.alloc (.cells #[.int .u8 6, .int .i64 n, .string nm, .slice (some ⟨b0, o0, none⟩) 2 cap, .int .i64 ln, .int .i64 cl] 37)).heap.size (w.alloc (.cells #[.int .u8 6, .int .i64 n, .string nm, .slice (some ⟨b0, o0, none⟩) 2 cap, .int .i64 ln, .int .i64 cl] 37)) w2) := HBv1.out.trans (hb2.mono HBv1.out.size); clear hb2
    refine hKK.out _ _ HS2.out (fun _ => ?_)
    clear hKK KK
    try simp only [mz1, mz2, mz3, Act.put, mz4, mz5, mz6]
    refine wtkq 19 ?vk619 rfl (by kernel_rfl) (fun _ _ _ h => h) (by rfl) ?yk619 HS2.out ?zk619
    case yk619 => (intro w hSw; (try dsimp only at hSw); go_simp; try with_reducible rfl)
    try simp only [mz1, mz2, mz3, Act.put, mz4, mz5, mz6]
    refine wtkq 20 ?vk620 rfl (by kernel_rfl) (fun _ _ _ h => h) (by rfl) ?yk620 HS2.out ?zk620
    case yk620 => (intro w hSw; (try dsimp only at hSw); go_simp; try with_reducible rfl)
    try simp only [mz1, mz2, mz3, Act.put, mz4, mz5, mz6]
    refine wtkq 21 ?vk621 rfl (by kernel_rfl) (fun _ _ _ h => h) (by rfl) ?yk621 HS2.out ?zk621
    case yk621 => (intro w hSw; (try dsimp only at hSw); go_simp; try with_reducible rfl)
    try simp only [mz1, mz2, mz3, Act.put, mz4, mz5, mz6]
    refine wpAnyH_done (by kernel_rfl) ?_ _
    go_wp2
    go_ret
    exact ⟨rfl, HB2.out⟩
   by_cases hk7 : k = 7
   ·subst hk7
    have HF : Hid (xtext (d + 1) T = ⟨#[40, 32]⟩ ++ xtext d (kid T 0) ++ ⟨#[32]⟩ ++ ⟨#[47]⟩ ++ ⟨#[32]⟩ ++ xtext d (kid T 1) ++ ⟨#[32, 41]⟩) := by show xtext (d + 1) T = _; rw [qaj, HT]; rfl
    obtain ⟨b0, o0, kk0, nl0, nn0, ll0, cc0, nx0, ka0, kc0, ea0, hkid0, hcl0⟩ := XL.at_ HXl.out (i := 0) (by omega)
    subst ea0
    have HKid0 := qa0 hkid0
    have HCl0 := qa0 hcl0
    obtain ⟨x0, Hx0⟩ : ∃ x, Hid (xtext d (kid T 0) = x) := ⟨_, rfl⟩
    have hx0 : x0.size ≤ 172032 := by rw [← Hx0.out]; exact (HMk.out 0 (by omega)).size
    have HC0 : Hid (∀ w' : World, Below w.heap.size w w' → Calls Tryz.prog 26 #[.agg #[.int .u8 (kk0 : Int), .int .i64 nn0, .string nx0, .slice ka0 nl0 kc0, .int .i64 ll0, .int .i64 cc0]] w' fun e w'' => e = .returned (.string x0) ∧ Below w'.heap.size w' w'') := fun w' hb => by rw [← Hx0.out]; exact ih w' (kid T 0) _ (by omega) (HKid0.out.later hb) (HMk.out 0 (by omega)) hb
    clear hkid0 hcl0
    obtain ⟨b1, o1, kk1, nl1, nn1, ll1, cc1, nx1, ka1, kc1, ea1, hkid1, hcl1⟩ := XL.at_ HXl.out (i := 1) (by omega)
    obtain ⟨rfl, rfl⟩ : b0 = b1 ∧ o0 = o1 := by cases ea1; exact ⟨rfl, rfl⟩
    have HKid1 := qa0 hkid1
    have HCl1 := qa0 hcl1
    obtain ⟨x1, Hx1⟩ : ∃ x, Hid (xtext d (kid T 1) = x) := ⟨_, rfl⟩
    have hx1 : x1.size ≤ 172032 := by rw [← Hx1.out]; exact (HMk.out 1 (by omega)).size
    have HC1 : Hid (∀ w' : World, Below w.heap.size w w' → Calls Tryz.prog 26 #[.agg #[.int .u8 (kk1 : Int), .int .i64 nn1, .string nx1, .slice ka1 nl1 kc1, .int .i64 ll1, .int .i64 cc1]] w' fun e w'' => e = .returned (.string x1) ∧ Below w'.heap.size w' w'') := fun w' hb => by rw [← Hx1.out]; exact ih w' (kid T 1) _ (by omega) (HKid1.out.later hb) (HMk.out 1 (by omega)) hb
    clear hkid1 hcl1
    rw [HF.out, Hx0.out, Hx1.out]
    have g0 : ¬ 9223372036854775807 < 2 + x0.size := by omega
    have g1 : ¬ 9223372036854775807 < 2 + x0.size + 1 := by omega
    have g2 : ¬ 9223372036854775807 < 2 + x0.size + 1 + 1 := by omega
    have g3 : ¬ 9223372036854775807 < 2 + x0.size + 1 + 1 + 1 := by omega
    have g4 : ¬ 9223372036854775807 < 2 + x0.size + 1 + 1 + 1 + x1.size := by omega
    have g5 : ¬ 9223372036854775807 < 2 + x0.size + 1 + 1 + 1 + x1.size + 2 := by omega
    have wz : IntKind.u8.wrap 3 = 3 := by decide
    have hel : ((⟨#[43, 45, 42, 47, 37]⟩ : ByteArray)[3]'(by decide)).toNat = 47 := rfl
    have hut : Utf8.encode 47 = ⟨#[47]⟩ := by kernel_rfl
    clear HF Hx0 Hx1
    go_enter Tryz.func26, Tryz.ntmps26
    go_wp2
    refine wp_region_held (S := fun w' => w'.cell? ⟨w.heap.size, 0, none⟩ = some (.int .u8 7) ∧ w'.cell? ⟨w.heap.size, 3, none⟩ = some (.slice (some ⟨b0, o0, none⟩) 2 cap) ∧ w'.cell? ⟨b0, o0, none⟩ = some (.int .u8 (kk0 : Int)) ∧ w'.cell? ⟨b0, o0 + 1, none⟩ = some (.int .i64 nn0) ∧ w'.cell? ⟨b0, o0 + 2, none⟩ = some (.string nx0) ∧ w'.cell? ⟨b0, o0 + 3, none⟩ = some (.slice ka0 nl0 kc0) ∧ w'.cell? ⟨b0, o0 + 4, none⟩ = some (.int .i64 ll0) ∧ w'.cell? ⟨b0, o0 + 5, none⟩ = some (.int .i64 cc0) ∧ w'.cell? ⟨b0, o0 + 6, none⟩ = some (.int .u8 (kk1 : Int)) ∧ w'.cell? ⟨b0, o0 + 6 + 1, none⟩ = some (.int .i64 nn1) ∧ w'.cell? ⟨b0, o0 + 6 + 2, none⟩ = some (.string nx1) ∧ w'.cell? ⟨b0, o0 + 6 + 3, none⟩ = some (.slice ka1 nl1 kc1) ∧ w'.cell? ⟨b0, o0 + 6 + 4, none⟩ = some (.int .i64 ll1) ∧ w'.cell? ⟨b0, o0 + 6 + 5, none⟩ = some (.int .i64 cc1)) (by kernel_rfl) ?_
    change wpAnyH _ _ _ _ _ _ _ _ (World.drew _)
    have HVa := HVn
    have HSa : Hid (∀ w' : World, Below w.heap.size w w' → Vn w' w.heap.size 37 #[.int .u8 7, .int .i64 n, .string nm, .slice (some ⟨b0, o0, none⟩) 2 cap, .int .i64 ln, .int .i64 cl] → (fun w' => w'.cell? ⟨w.heap.size, 0, none⟩ = some (.int .u8 7) ∧ w'.cell? ⟨w.heap.size, 3, none⟩ = some (.slice (some ⟨b0, o0, none⟩) 2 cap) ∧ w'.cell? ⟨b0, o0, none⟩ = some (.int .u8 (kk0 : Int)) ∧ w'.cell? ⟨b0, o0 + 1, none⟩ = some (.int .i64 nn0) ∧ w'.cell? ⟨b0, o0 + 2, none⟩ = some (.string nx0) ∧ w'.cell? ⟨b0, o0 + 3, none⟩ = some (.slice ka0 nl0 kc0) ∧ w'.cell? ⟨b0, o0 + 4, none⟩ = some (.int .i64 ll0) ∧ w'.cell? ⟨b0, o0 + 5, none⟩ = some (.int .i64 cc0) ∧ w'.cell? ⟨b0, o0 + 6, none⟩ = some (.int .u8 (kk1 : Int)) ∧ w'.cell? ⟨b0, o0 + 6 + 1, none⟩ = some (.int .i64 nn1) ∧ w'.cell? ⟨b0, o0 + 6 + 2, none⟩ = some (.string nx1) ∧ w'.cell? ⟨b0, o0 + 6 + 3, none⟩ = some (.slice ka1 nl1 kc1) ∧ w'.cell? ⟨b0, o0 + 6 + 4, none⟩ = some (.int .i64 ll1) ∧ w'.cell? ⟨b0, o0 + 6 + 5, none⟩ = some (.int .i64 cc1)) w') := fun w' hb hv => by
     obtain ⟨a0, a1, a2, a3, a4, a5⟩ := HCl0.out w' hb
     obtain ⟨e0, e1, e2, e3, e4, e5⟩ := HCl1.out w' hb
     rw [Nat.zero_mul, Nat.add_zero] at a0 a1 a2 a3 a4 a5
     rw [Nat.one_mul] at e0 e1 e2 e3 e4 e5
     exact ⟨hv.cell 0 _ rfl, hv.cell 3 _ rfl, a0, a1, a2, a3, a4, a5, e0, e1, e2, e3, e4, e5⟩
    have HBv0 : Hid (Below (w.alloc (.cells #[.int .u8 7, .int .i64 n, .string nm, .slice (some ⟨b0, o0, none⟩) 2 cap, .int .i64 ln, .int .i64 cl] 37)).heap.size (w.alloc (.cells #[.int .u8 7, .int .i64 n, .string nm, .slice (some ⟨b0, o0, none⟩) 2 cap, .int .i64 ln, .int .i64 cl] 37)) (w.alloc (.cells #[.int .u8 7, .int .i64 n, .string nm, .slice (some ⟨b0, o0, none⟩) 2 cap, .int .i64 ln, .int .i64 cl] 37)).drew) := (Below.refl _ _).drew
    have HB0 : Hid (Below w.heap.size w (w.alloc (.cells #[.int .u8 7, .int .i64 n, .string nm, .slice (some ⟨b0, o0, none⟩) 2 cap, .int .i64 ln, .int .i64 cl] 37)).drew) := (jlow _ _).drew
    have HS0 := qa0 (HSa.out _ HB0.out (HVa.out.later HBv0.out))
    refine wtkq 0 ?vk70 rfl (by kernel_rfl) (fun _ _ _ h => h) (by rfl) ?yk70 HS0.out ?zk70
    case yk70 => (intro w hSw; (try dsimp only at hSw); go_simp; try with_reducible rfl)
    try simp only [mz1, mz3, Act.put, mz4, mz5, mz6]
    refine wtkq 1 ?vk71 rfl (by kernel_rfl) (fun _ _ _ h => h) (by rfl) ?yk71 HS0.out ?zk71
    case yk71 => (intro w hSw; (try dsimp only at hSw); go_simp; try with_reducible rfl)
    try simp only [mz1, mz2, mz3, Act.put, mz4, mz5, mz6]
    refine wtkq 2 ?vk72 rfl (by kernel_rfl) (fun _ _ _ h => h) (by rfl) ?yk72 HS0.out ?zk72
    case yk72 => (intro w hSw; (try dsimp only at hSw); go_simp; try with_reducible rfl)
    try simp only [mz1, mz2, mz3, Act.put, mz4, mz5, mz6]
    refine wtkq 3 ?vk73 rfl (by kernel_rfl) (fun _ _ _ h => h) (by rfl) ?yk73 HS0.out ?zk73
    case yk73 => (intro w hSw; (try dsimp only at hSw); go_simp; try with_reducible rfl)
    try simp only [mz1, mz2, mz3, Act.put, mz4, mz5, mz6]
    refine wtkq 7 ?vk77 rfl (by kernel_rfl) (fun _ _ _ h => h) (by rfl) ?yk77 HS0.out ?zk77
    case yk77 => (intro w hSw; (try dsimp only at hSw); go_simp; try with_reducible rfl)
    try simp only [mz1, mz2, mz3, Act.put, mz4, mz5, mz6]
    refine wtkq 8 ?vk78 rfl (by kernel_rfl) (fun _ _ _ h => h) (by rfl) ?yk78 HS0.out ?zk78
    case yk78 => (intro w hSw; (try dsimp only at hSw); go_simp; try with_reducible rfl)
    try simp only [mz1, mz2, mz3, Act.put, mz4, mz5, mz6]
    refine wtkq 9 ?vk79 rfl (by kernel_rfl) (fun _ _ _ h => h) (by rfl) ?yk79 HS0.out ?zk79
    case yk79 => (intro w hSw; (try dsimp only at hSw); go_simp; try with_reducible rfl)
    try simp only [mz1, mz2, mz3, Act.put, mz4, mz5, mz6]
    refine wtkq 10 ?vk710 rfl (by kernel_rfl) (fun _ _ _ h => h) (by rfl) ?yk710 HS0.out ?zk710
    case yk710 => (intro w hSw; (try dsimp only at hSw); go_simp; try with_reducible rfl)
    try simp only [mz1, mz2, mz3, Act.put, mz4, mz5, mz6]
    refine wtkq 11 ?vk711 rfl (by kernel_rfl) (fun _ _ _ h => h) (by rfl) ?yk711 HS0.out ?zk711
    case yk711 => (intro w hSw; (try dsimp only at hSw); go_simp; try with_reducible rfl)
    try simp only [mz1, mz2, mz3, Act.put, mz4, mz5, mz6]
    refine wtkq 14 ?vk714 rfl (by kernel_rfl) (fun _ _ _ h => h) (by rfl) ?yk714 HS0.out ?zk714
    case yk714 => (intro w hSw; (try dsimp only at hSw); go_simp; try with_reducible rfl)
    try simp only [mz1, mz2, mz3, Act.put, mz4, mz5, mz6]
    refine wtkq 15 ?vk715 rfl (by kernel_rfl) (fun _ _ _ h => h) (by rfl) ?yk715 HS0.out ?zk715
    case yk715 => (intro w hSw; (try dsimp only at hSw); go_simp; try with_reducible rfl)
    try simp only [mz1, mz2, mz3, Act.put, mz4, mz5, mz6]
    refine wtkq 16 ?vk716 rfl (by kernel_rfl) (fun _ _ _ h => h) (by rfl) ?yk716 HS0.out ?zk716
    case yk716 => (intro w hSw; (try dsimp only at hSw); go_simp; try with_reducible rfl)
    try simp only [mz1, mz2, mz3, Act.put, mz4, mz5, mz6]
    refine wtkq 17 ?vk717 rfl (by kernel_rfl) (fun _ _ _ h => h) (by rfl) ?yk717 HS0.out ?zk717
    case yk717 => (intro w hSw; (try dsimp only at hSw); go_simp; try with_reducible rfl)
    try simp only [mz1, mz2, mz3, Act.put, mz4, mz5, mz6]
    refine wpAnyH_ready (rs := [4]) (by kernel_rfl) (by simp) ?_
    refine AllReadyH.cons rfl (fun KK hKK => ?_) AllReadyH.nil
    go_simp
    refine (HC0.out _ HB0.out).mono ?_; rintro r w1 ⟨rfl, hb1⟩; have HB1 := qa0 (jtwo HB0.out hb1); have HS1 := qa0 (HSa.out _ HB1.out (HVa.out.later (HBv0.out.trans (hb1.mono HBv0.out.size)))); have HBv1 : Hid (Below (w.alloc (.cells #[.int .u8 7, .int .i64 n, .string nm, .slice (some ⟨b0, o0, none⟩) 2 cap, .int .i64 ln, .int .i64 cl] 37)).heap.size (w.alloc (.cells #[.int .u8 7, .int .i64 n, .string nm, .slice (some ⟨b0, o0, none⟩) 2 cap, .int .i64 ln, .int .i64 cl] 37)) w1) := HBv0.out.trans (hb1.mono HBv0.out.size); clear hb1
    refine hKK.out _ _ HS1.out (fun _ => ?_)
    clear hKK KK
    try simp only [mz1, mz2, mz3, Act.put, mz4, mz5, mz6]
    refine wtkq 5 ?vk75 rfl (by kernel_rfl) (fun _ _ _ h => h) (by rfl) ?yk75 HS1.out ?zk75
    case yk75 => (intro w hSw; (try dsimp only at hSw); go_simp; try with_reducible rfl)
    try simp only [mz1, mz2, mz3, Act.put, mz4, mz5, mz6]
    refine wtkq 6 ?vk76 rfl (by kernel_rfl) (fun _ _ _ h => h) (by rfl) ?yk76 HS1.out ?zk76
    case yk76 => (intro w hSw; (try dsimp only at hSw); go_simp; try with_reducible rfl)
    try simp only [mz1, mz2, mz3, Act.put, mz4, mz5, mz6]
    refine wtkq 12 ?vk712 rfl (by kernel_rfl) (fun _ _ _ h => h) (by rfl) ?yk712 HS1.out ?zk712
    case yk712 => (intro w hSw; (try dsimp only at hSw); go_simp; try with_reducible rfl)
    try simp only [mz1, mz2, mz3, Act.put, mz4, mz5, mz6]
    refine wtkq 13 ?vk713 rfl (by kernel_rfl) (fun _ _ _ h => h) (by rfl) ?yk713 HS1.out ?zk713
    case yk713 => (intro w hSw; (try dsimp only at hSw); go_simp; try with_reducible rfl)
    try simp only [mz1, mz2, mz3, Act.put, mz4, mz5, mz6]
    refine wpAnyH_ready (rs := [18]) (by kernel_rfl) (by simp) ?_
    refine AllReadyH.cons rfl (fun KK hKK => ?_) AllReadyH.nil
    go_simp
    refine (HC1.out _ HB1.out).mono ?_; rintro r w2 ⟨rfl, hb2⟩; have HB2 := qa0 (jtwo HB1.out hb2); have HS2 := qa0 (HSa.out _ HB2.out (HVa.out.later (HBv1.out.trans (hb2.mono HBv1.out.size)))); have HBv2 : Hid (Below (w.alloc (.cells #[.int .u8 7, .int .i64 n, .string nm, .slice (some ⟨b0, o0, none⟩) 2 cap, .int .i64 ln, .int .i64 cl] 37)).heap.size (w.alloc (.cells #[.int .u8 7, .int .i64 n, .string nm, .slice (some ⟨b0, o0, none⟩) 2 cap, .int .i64 ln, .int .i64 cl] 37)) w2) := HBv1.out.trans (hb2.mono HBv1.out.size); clear hb2
    refine hKK.out _ _ HS2.out (fun _ => ?_)
    clear hKK KK
    try simp only [mz1, mz2, mz3, Act.put, mz4, mz5, mz6]
    refine wtkq 19 ?vk719 rfl (by kernel_rfl) (fun _ _ _ h => h) (by rfl) ?yk719 HS2.out ?zk719
    case yk719 => (intro w hSw; (try dsimp only at hSw); go_simp; try with_reducible rfl)
    try simp only [mz1, mz2, mz3, Act.put, mz4, mz5, mz6]
    refine wtkq 20 ?vk720 rfl (by kernel_rfl) (fun _ _ _ h => h) (by rfl) ?yk720 HS2.out ?zk720
    case yk720 => (intro w hSw; (try dsimp only at hSw); go_simp; try with_reducible rfl)
    try simp only [mz1, mz2, mz3, Act.put, mz4, mz5, mz6]
    refine wtkq 21 ?vk721 rfl (by kernel_rfl) (fun _ _ _ h => h) (by rfl) ?yk721 HS2.out ?zk721
    case yk721 => (intro w hSw; (try dsimp only at hSw); go_simp; try with_reducible rfl)
    try simp only [mz1, mz2, mz3, Act.put, mz4, mz5, mz6]
    refine wpAnyH_done (by kernel_rfl) ?_ _
    go_wp2
    go_ret
    exact ⟨rfl, HB2.out⟩
   obtain hk8 : k = 8 := by omega
   subst hk8
   have HF : Hid (xtext (d + 1) T = ⟨#[40, 32]⟩ ++ xtext d (kid T 0) ++ ⟨#[32]⟩ ++ ⟨#[37]⟩ ++ ⟨#[32]⟩ ++ xtext d (kid T 1) ++ ⟨#[32, 41]⟩) := by show xtext (d + 1) T = _; rw [qaj, HT]; rfl
   obtain ⟨b0, o0, kk0, nl0, nn0, ll0, cc0, nx0, ka0, kc0, ea0, hkid0, hcl0⟩ := XL.at_ HXl.out (i := 0) (by omega)
   subst ea0
   have HKid0 := qa0 hkid0
   have HCl0 := qa0 hcl0
   obtain ⟨x0, Hx0⟩ : ∃ x, Hid (xtext d (kid T 0) = x) := ⟨_, rfl⟩
   have hx0 : x0.size ≤ 172032 := by rw [← Hx0.out]; exact (HMk.out 0 (by omega)).size
   have HC0 : Hid (∀ w' : World, Below w.heap.size w w' → Calls Tryz.prog 26 #[.agg #[.int .u8 (kk0 : Int), .int .i64 nn0, .string nx0, .slice ka0 nl0 kc0, .int .i64 ll0, .int .i64 cc0]] w' fun e w'' => e = .returned (.string x0) ∧ Below w'.heap.size w' w'') := fun w' hb => by rw [← Hx0.out]; exact ih w' (kid T 0) _ (by omega) (HKid0.out.later hb) (HMk.out 0 (by omega)) hb
   clear hkid0 hcl0
   obtain ⟨b1, o1, kk1, nl1, nn1, ll1, cc1, nx1, ka1, kc1, ea1, hkid1, hcl1⟩ := XL.at_ HXl.out (i := 1) (by omega)
   obtain ⟨rfl, rfl⟩ : b0 = b1 ∧ o0 = o1 := by cases ea1; exact ⟨rfl, rfl⟩
   have HKid1 := qa0 hkid1
   have HCl1 := qa0 hcl1
   obtain ⟨x1, Hx1⟩ : ∃ x, Hid (xtext d (kid T 1) = x) := ⟨_, rfl⟩
   have hx1 : x1.size ≤ 172032 := by rw [← Hx1.out]; exact (HMk.out 1 (by omega)).size
   have HC1 : Hid (∀ w' : World, Below w.heap.size w w' → Calls Tryz.prog 26 #[.agg #[.int .u8 (kk1 : Int), .int .i64 nn1, .string nx1, .slice ka1 nl1 kc1, .int .i64 ll1, .int .i64 cc1]] w' fun e w'' => e = .returned (.string x1) ∧ Below w'.heap.size w' w'') := fun w' hb => by rw [← Hx1.out]; exact ih w' (kid T 1) _ (by omega) (HKid1.out.later hb) (HMk.out 1 (by omega)) hb
   clear hkid1 hcl1
   rw [HF.out, Hx0.out, Hx1.out]
   have g0 : ¬ 9223372036854775807 < 2 + x0.size := by omega
   have g1 : ¬ 9223372036854775807 < 2 + x0.size + 1 := by omega
   have g2 : ¬ 9223372036854775807 < 2 + x0.size + 1 + 1 := by omega
   have g3 : ¬ 9223372036854775807 < 2 + x0.size + 1 + 1 + 1 := by omega
   have g4 : ¬ 9223372036854775807 < 2 + x0.size + 1 + 1 + 1 + x1.size := by omega
   have g5 : ¬ 9223372036854775807 < 2 + x0.size + 1 + 1 + 1 + x1.size + 2 := by omega
   have wz : IntKind.u8.wrap 4 = 4 := by decide
   have hel : ((⟨#[43, 45, 42, 47, 37]⟩ : ByteArray)[4]'(by decide)).toNat = 37 := rfl
   have hut : Utf8.encode 37 = ⟨#[37]⟩ := by kernel_rfl
   clear HF Hx0 Hx1
   go_enter Tryz.func26, Tryz.ntmps26
   go_wp2
   refine wp_region_held (S := fun w' => w'.cell? ⟨w.heap.size, 0, none⟩ = some (.int .u8 8) ∧ w'.cell? ⟨w.heap.size, 3, none⟩ = some (.slice (some ⟨b0, o0, none⟩) 2 cap) ∧ w'.cell? ⟨b0, o0, none⟩ = some (.int .u8 (kk0 : Int)) ∧ w'.cell? ⟨b0, o0 + 1, none⟩ = some (.int .i64 nn0) ∧ w'.cell? ⟨b0, o0 + 2, none⟩ = some (.string nx0) ∧ w'.cell? ⟨b0, o0 + 3, none⟩ = some (.slice ka0 nl0 kc0) ∧ w'.cell? ⟨b0, o0 + 4, none⟩ = some (.int .i64 ll0) ∧ w'.cell? ⟨b0, o0 + 5, none⟩ = some (.int .i64 cc0) ∧ w'.cell? ⟨b0, o0 + 6, none⟩ = some (.int .u8 (kk1 : Int)) ∧ w'.cell? ⟨b0, o0 + 6 + 1, none⟩ = some (.int .i64 nn1) ∧ w'.cell? ⟨b0, o0 + 6 + 2, none⟩ = some (.string nx1) ∧ w'.cell? ⟨b0, o0 + 6 + 3, none⟩ = some (.slice ka1 nl1 kc1) ∧ w'.cell? ⟨b0, o0 + 6 + 4, none⟩ = some (.int .i64 ll1) ∧ w'.cell? ⟨b0, o0 + 6 + 5, none⟩ = some (.int .i64 cc1)) (by kernel_rfl) ?_
   change wpAnyH _ _ _ _ _ _ _ _ (World.drew _)
   have HVa := HVn
   have HSa : Hid (∀ w' : World, Below w.heap.size w w' → Vn w' w.heap.size 37 #[.int .u8 8, .int .i64 n, .string nm, .slice (some ⟨b0, o0, none⟩) 2 cap, .int .i64 ln, .int .i64 cl] → (fun w' => w'.cell? ⟨w.heap.size, 0, none⟩ = some (.int .u8 8) ∧ w'.cell? ⟨w.heap.size, 3, none⟩ = some (.slice (some ⟨b0, o0, none⟩) 2 cap) ∧ w'.cell? ⟨b0, o0, none⟩ = some (.int .u8 (kk0 : Int)) ∧ w'.cell? ⟨b0, o0 + 1, none⟩ = some (.int .i64 nn0) ∧ w'.cell? ⟨b0, o0 + 2, none⟩ = some (.string nx0) ∧ w'.cell? ⟨b0, o0 + 3, none⟩ = some (.slice ka0 nl0 kc0) ∧ w'.cell? ⟨b0, o0 + 4, none⟩ = some (.int .i64 ll0) ∧ w'.cell? ⟨b0, o0 + 5, none⟩ = some (.int .i64 cc0) ∧ w'.cell? ⟨b0, o0 + 6, none⟩ = some (.int .u8 (kk1 : Int)) ∧ w'.cell? ⟨b0, o0 + 6 + 1, none⟩ = some (.int .i64 nn1) ∧ w'.cell? ⟨b0, o0 + 6 + 2, none⟩ = some (.string nx1) ∧ w'.cell? ⟨b0, o0 + 6 + 3, none⟩ = some (.slice ka1 nl1 kc1) ∧ w'.cell? ⟨b0, o0 + 6 + 4, none⟩ = some (.int .i64 ll1) ∧ w'.cell? ⟨b0, o0 + 6 + 5, none⟩ = some (.int .i64 cc1)) w') := fun w' hb hv => by
    obtain ⟨a0, a1, a2, a3, a4, a5⟩ := HCl0.out w' hb
    obtain ⟨e0, e1, e2, e3, e4, e5⟩ := HCl1.out w' hb
    rw [Nat.zero_mul, Nat.add_zero] at a0 a1 a2 a3 a4 a5
    rw [Nat.one_mul] at e0 e1 e2 e3 e4 e5
    exact ⟨hv.cell 0 _ rfl, hv.cell 3 _ rfl, a0, a1, a2, a3, a4, a5, e0, e1, e2, e3, e4, e5⟩
   have HBv0 : Hid (Below (w.alloc (.cells #[.int .u8 8, .int .i64 n, .string nm, .slice (some ⟨b0, o0, none⟩) 2 cap, .int .i64 ln, .int .i64 cl] 37)).heap.size (w.alloc (.cells #[.int .u8 8, .int .i64 n, .string nm, .slice (some ⟨b0, o0, none⟩) 2 cap, .int .i64 ln, .int .i64 cl] 37)) (w.alloc (.cells #[.int .u8 8, .int .i64 n, .string nm, .slice (some ⟨b0, o0, none⟩) 2 cap, .int .i64 ln, .int .i64 cl] 37)).drew) := (Below.refl _ _).drew
   have HB0 : Hid (Below w.heap.size w (w.alloc (.cells #[.int .u8 8, .int .i64 n, .string nm, .slice (some ⟨b0, o0, none⟩) 2 cap, .int .i64 ln, .int .i64 cl] 37)).drew) := (jlow _ _).drew
   have HS0 := qa0 (HSa.out _ HB0.out (HVa.out.later HBv0.out))
   refine wtkq 0 ?vk80 rfl (by kernel_rfl) (fun _ _ _ h => h) (by rfl) ?yk80 HS0.out ?zk80
   case yk80 => (intro w hSw; (try dsimp only at hSw); go_simp; try with_reducible rfl)
   try simp only [mz1, mz3, Act.put, mz4, mz5, mz6]
   refine wtkq 1 ?vk81 rfl (by kernel_rfl) (fun _ _ _ h => h) (by rfl) ?yk81 HS0.out ?zk81
   case yk81 => (intro w hSw; (try dsimp only at hSw); go_simp; try with_reducible rfl)
   try simp only [mz1, mz2, mz3, Act.put, mz4, mz5, mz6]
   refine wtkq 2 ?vk82 rfl (by kernel_rfl) (fun _ _ _ h => h) (by rfl) ?yk82 HS0.out ?zk82
   case yk82 => (intro w hSw; (try dsimp only at hSw); go_simp; try with_reducible rfl)
   try simp only [mz1, mz2, mz3, Act.put, mz4, mz5, mz6]
   refine wtkq 3 ?vk83 rfl (by kernel_rfl) (fun _ _ _ h => h) (by rfl) ?yk83 HS0.out ?zk83
   case yk83 => (intro w hSw; (try dsimp only at hSw); go_simp; try with_reducible rfl)
   try simp only [mz1, mz2, mz3, Act.put, mz4, mz5, mz6]
   refine wtkq 7 ?vk87 rfl (by kernel_rfl) (fun _ _ _ h => h) (by rfl) ?yk87 HS0.out ?zk87
   case yk87 => (intro w hSw; (try dsimp only at hSw); go_simp; try with_reducible rfl)
   try simp only [mz1, mz2, mz3, Act.put, mz4, mz5, mz6]
   refine wtkq 8 ?vk88 rfl (by kernel_rfl) (fun _ _ _ h => h) (by rfl) ?yk88 HS0.out ?zk88
   case yk88 => (intro w hSw; (try dsimp only at hSw); go_simp; try with_reducible rfl)
   try simp only [mz1, mz2, mz3, Act.put, mz4, mz5, mz6]
   refine wtkq 9 ?vk89 rfl (by kernel_rfl) (fun _ _ _ h => h) (by rfl) ?yk89 HS0.out ?zk89
   case yk89 => (intro w hSw; (try dsimp only at hSw); go_simp; try with_reducible rfl)
   try simp only [mz1, mz2, mz3, Act.put, mz4, mz5, mz6]
   refine wtkq 10 ?vk810 rfl (by kernel_rfl) (fun _ _ _ h => h) (by rfl) ?yk810 HS0.out ?zk810
   case yk810 => (intro w hSw; (try dsimp only at hSw); go_simp; try with_reducible rfl)
   try simp only [mz1, mz2, mz3, Act.put, mz4, mz5, mz6]
   refine wtkq 11 ?vk811 rfl (by kernel_rfl) (fun _ _ _ h => h) (by rfl) ?yk811 HS0.out ?zk811
   case yk811 => (intro w hSw; (try dsimp only at hSw); go_simp; try with_reducible rfl)
   try simp only [mz1, mz2, mz3, Act.put, mz4, mz5, mz6]
   refine wtkq 14 ?vk814 rfl (by kernel_rfl) (fun _ _ _ h => h) (by rfl) ?yk814 HS0.out ?zk814
   case yk814 => (intro w hSw; (try dsimp only at hSw); go_simp; try with_reducible rfl)
   try simp only [mz1, mz2, mz3, Act.put, mz4, mz5, mz6]
   refine wtkq 15 ?vk815 rfl (by kernel_rfl) (fun _ _ _ h => h) (by rfl) ?yk815 HS0.out ?zk815
   case yk815 => (intro w hSw; (try dsimp only at hSw); go_simp; try with_reducible rfl)
   try simp only [mz1, mz2, mz3, Act.put, mz4, mz5, mz6]
   refine wtkq 16 ?vk816 rfl (by kernel_rfl) (fun _ _ _ h => h) (by rfl) ?yk816 HS0.out ?zk816
   case yk816 => (intro w hSw; (try dsimp only at hSw); go_simp; try with_reducible rfl)
   try simp only [mz1, mz2, mz3, Act.put, mz4, mz5, mz6]
   refine wtkq 17 ?vk817 rfl (by kernel_rfl) (fun _ _ _ h => h) (by rfl) ?yk817 HS0.out ?zk817
   case yk817 => (intro w hSw; (try dsimp only at hSw); go_simp; try with_reducible rfl)
   try simp only [mz1, mz2, mz3, Act.put, mz4, mz5, mz6]
   refine wpAnyH_ready (rs := [4]) (by kernel_rfl) (by simp) ?_
   refine AllReadyH.cons rfl (fun KK hKK => ?_) AllReadyH.nil
   go_simp
   refine (HC0.out _ HB0.out).mono ?_; rintro r w1 ⟨rfl, hb1⟩; have HB1 := qa0 (jtwo HB0.out hb1); have HS1 := qa0 (HSa.out _ HB1.out (HVa.out.later (HBv0.out.trans (hb1.mono HBv0.out.size)))); have HBv1 : Hid (Below (w.alloc (.cells #[.int .u8 8, .int .i64 n, .string nm, .slice (some ⟨b0, o0, none⟩) 2 cap, .int .i64 ln, .int .i64 cl] 37)).heap.size (w.alloc (.cells #[.int .u8 8, .int .i64 n, .string nm, .slice (some ⟨b0, o0, none⟩) 2 cap, .int .i64 ln, .int .i64 cl] 37)) w1) := HBv0.out.trans (hb1.mono HBv0.out.size); clear hb1
   refine hKK.out _ _ HS1.out (fun _ => ?_)
   clear hKK KK
   try simp only [mz1, mz2, mz3, Act.put, mz4, mz5, mz6]
   refine wtkq 5 ?vk85 rfl (by kernel_rfl) (fun _ _ _ h => h) (by rfl) ?yk85 HS1.out ?zk85
   case yk85 => (intro w hSw; (try dsimp only at hSw); go_simp; try with_reducible rfl)
   try simp only [mz1, mz2, mz3, Act.put, mz4, mz5, mz6]
   refine wtkq 6 ?vk86 rfl (by kernel_rfl) (fun _ _ _ h => h) (by rfl) ?yk86 HS1.out ?zk86
   case yk86 => (intro w hSw; (try dsimp only at hSw); go_simp; try with_reducible rfl)
   try simp only [mz1, mz2, mz3, Act.put, mz4, mz5, mz6]
   refine wtkq 12 ?vk812 rfl (by kernel_rfl) (fun _ _ _ h => h) (by rfl) ?yk812 HS1.out ?zk812
   case yk812 => (intro w hSw; (try dsimp only at hSw); go_simp; try with_reducible rfl)
   try simp only [mz1, mz2, mz3, Act.put, mz4, mz5, mz6]
   refine wtkq 13 ?vk813 rfl (by kernel_rfl) (fun _ _ _ h => h) (by rfl) ?yk813 HS1.out ?zk813
   case yk813 => (intro w hSw; (try dsimp only at hSw); go_simp; try with_reducible rfl)
   try simp only [mz1, mz2, mz3, Act.put, mz4, mz5, mz6]
   refine wpAnyH_ready (rs := [18]) (by kernel_rfl) (by simp) ?_
   refine AllReadyH.cons rfl (fun KK hKK => ?_) AllReadyH.nil
   go_simp
   refine (HC1.out _ HB1.out).mono ?_; rintro r w2 ⟨rfl, hb2⟩; have HB2 := qa0 (jtwo HB1.out hb2); have HS2 := qa0 (HSa.out _ HB2.out (HVa.out.later (HBv1.out.trans (hb2.mono HBv1.out.size)))); have HBv2 : Hid (Below (w.alloc (.cells #[.int .u8 8, .int .i64 n, .string nm, .slice (some ⟨b0, o0, none⟩) 2 cap, .int .i64 ln, .int .i64 cl] 37)).heap.size (w.alloc (.cells #[.int .u8 8, .int .i64 n, .string nm, .slice (some ⟨b0, o0, none⟩) 2 cap, .int .i64 ln, .int .i64 cl] 37)) w2) := HBv1.out.trans (hb2.mono HBv1.out.size); clear hb2
   refine hKK.out _ _ HS2.out (fun _ => ?_)
   clear hKK KK
   try simp only [mz1, mz2, mz3, Act.put, mz4, mz5, mz6]
   refine wtkq 19 ?vk819 rfl (by kernel_rfl) (fun _ _ _ h => h) (by rfl) ?yk819 HS2.out ?zk819
   case yk819 => (intro w hSw; (try dsimp only at hSw); go_simp; try with_reducible rfl)
   try simp only [mz1, mz2, mz3, Act.put, mz4, mz5, mz6]
   refine wtkq 20 ?vk820 rfl (by kernel_rfl) (fun _ _ _ h => h) (by rfl) ?yk820 HS2.out ?zk820
   case yk820 => (intro w hSw; (try dsimp only at hSw); go_simp; try with_reducible rfl)
   try simp only [mz1, mz2, mz3, Act.put, mz4, mz5, mz6]
   refine wtkq 21 ?vk821 rfl (by kernel_rfl) (fun _ _ _ h => h) (by rfl) ?yk821 HS2.out ?zk821
   case yk821 => (intro w hSw; (try dsimp only at hSw); go_simp; try with_reducible rfl)
   try simp only [mz1, mz2, mz3, Act.put, mz4, mz5, mz6]
   refine wpAnyH_done (by kernel_rfl) ?_ _
   go_wp2
   go_ret
   exact ⟨rfl, HB2.out⟩
end Go.Proofs.YtnjcpmkfghcogaaGreatDoor
