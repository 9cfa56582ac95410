/-
  The anchor of layer 10; how many expressions of two parts there are.
-/
import Derived.Test.YtdimkfcanegahaaDoorDg
import Derived.Test.YtdimkfcanegahaaDoorGc
import Derived.Test.YtdimkfcanegahaaDoorGd
namespace Go.Proofs.YtdimkfcanegahaaDoor
open Go.RowKit
/-- The anchor's expression. -/
def ancT : Xt := mkX ⟨4, 0, ⟨#[]⟩, 2, 0, 0⟩ (fun i => if i = 0 then mkX ⟨1, 1, ⟨#[]⟩, 0, 0, 0⟩ (fun _ => l0x) else mkX ⟨2, 0, ⟨#[97]⟩, 0, 0, 0⟩ (fun _ => l0x))
theorem anc_may : mayX ancT = true := by decide +kernel
theorem anc_itoa : Lib.itoa 1 = [49] := by
  have e : Lib.decDigits 1 = [49] := by rw [Lib.decDigits, dif_pos (by omega)]; rfl
  exact e
theorem anc_text : xtext 16 ancT = ⟨#[40, 32, 49, 32, 43, 32, 97, 32, 41]⟩ := by
  have e : xtext 16 ancT = ⟨#[40, 32]⟩ ++ ⟨(Lib.itoa 1).toArray⟩ ++ ⟨#[32]⟩ ++ opb 4 ++ ⟨#[32]⟩ ++ ⟨#[97]⟩ ++ ⟨#[32, 41]⟩ := rfl
  rw [e, anc_itoa]
  rfl
theorem anc_s : xS ancT = ⟨#[40, 32, 49, 32, 43, 32, 97, 32, 41]⟩ := by
  unfold xS xby
  rw [anc_may, anc_text]
  rfl
theorem anc_e : xE ancT = 0 := by
  unfold xE xby
  rw [anc_may, anc_text]
  rfl
theorem anc_no : mayX l0x = false := by decide +kernel
theorem l0x_xv (w : World) : XV w (.agg #[.int .u8 0, .int .i64 0, .string ⟨#[]⟩, .slice none 0 0, .int .i64 0, .int .i64 0]) l0x :=
  ⟨⟨none, 0, rfl, fun d i hi => absurd hi (Nat.not_lt_zero i)⟩, ⟨by show 0 < 256; omega, by show _ ≤ (0 : Int); omega, by show (0 : Int) ≤ _; omega, by show 0 ≤ _; omega, by show 0 ≤ _; omega⟩⟩
theorem anc_xv {w : World} {b : Nat} (h : Vn w b 28 #[.int .u8 1, .int .i64 1, .string ⟨#[]⟩, .slice none 0 0, .int .i64 0, .int .i64 0, .int .u8 2, .int .i64 0, .string ⟨#[97]⟩, .slice none 0 0, .int .i64 0, .int .i64 0]) :
    XV w (.agg #[.int .u8 4, .int .i64 0, .string ⟨#[]⟩, .slice (some ⟨b, 0, none⟩) 2 2, .int .i64 0, .int .i64 0]) ancT := by
  refine ⟨⟨some ⟨b, 0, none⟩, 2, rfl, fun d i hi => ⟨b, 0, rfl, ?_⟩⟩, ⟨by show 4 < 256; omega, by show _ ≤ (0 : Int); omega, by show (0 : Int) ≤ _; omega, by show 0 ≤ _; omega, by show 2 ≤ _; omega⟩⟩
  have hi : i < 2 := hi
  cases d with
  | zero => trivial
  | succ d =>
    obtain rfl | rfl : i = 0 ∨ i = 1 := by omega
    · exact ⟨none, 0, h.cell 0 _ rfl, h.cell 1 _ rfl, h.cell 2 _ rfl, h.cell 3 _ rfl, h.cell 4 _ rfl, h.cell 5 _ rfl, ⟨by show 1 < 256; omega, by show _ ≤ (1 : Int); omega, by show (1 : Int) ≤ _; omega, by show 0 ≤ _; omega, by show 0 ≤ _; omega⟩, fun i hi => absurd hi (Nat.not_lt_zero i)⟩
    · exact ⟨none, 0, h.cell 6 _ rfl, h.cell 7 _ rfl, h.cell 8 _ rfl, h.cell 9 _ rfl, h.cell 10 _ rfl, h.cell 11 _ rfl, ⟨by show 2 < 256; omega, by show _ ≤ (0 : Int); omega, by show (0 : Int) ≤ _; omega, by show 1 ≤ _; omega, by show 0 ≤ _; omega⟩, fun i hi => absurd hi (Nat.not_lt_zero i)⟩
set_option maxRecDepth 20000 in
set_option maxHeartbeats 4000000 in
theorem anch10_any (w : World) (h9 : Tab9 w) (hw : Wt9 w) (hs : Xs10 w) : Calls Tryd.prog 9 #[] w fun e w' => e = .returned (.bool true) ∧ Below w.heap.size w w' := by
  have H9 := jhid9 h9
  have HW := jhid9 hw
  have HS := jhid9 hs
  clear h9 hw hs
  have HT : Hid (∀ w' : World, ∀ b : Nat, Below w.heap.size w w' → Vn w' b 28 #[.int .u8 1, .int .i64 1, .string ⟨#[]⟩, .slice none 0 0, .int .i64 0, .int .i64 0, .int .u8 2, .int .i64 0, .string ⟨#[97]⟩, .slice none 0 0, .int .i64 0, .int .i64 0] → Calls Tryd.prog 26 #[.agg #[.int .u8 4, .int .i64 0, .string ⟨#[]⟩, .slice (some ⟨b, 0, none⟩) 2 2, .int .i64 0, .int .i64 0]] w' fun e w'' => e = .returned (.tuple #[.string ⟨#[40, 32, 49, 32, 43, 32, 97, 32, 41]⟩, .int .i64 ((0 : Nat) : Int)]) ∧ Below w'.heap.size w' w'') := fun w' b hb hv => by
    have := txtext w' ancT _ (anc_xv hv) (H9.out.later hb) (HW.out.later hb) (HS.out.later hb)
    rw [anc_s, anc_e] at this
    exact this
  have HN : Hid (∀ w' : World, Below w.heap.size w w' → Calls Tryd.prog 12 #[.agg #[.int .u8 0, .int .i64 0, .string ⟨#[]⟩, .slice none 0 0, .int .i64 0, .int .i64 0]] w' fun e w'' => e = .returned (.bool false) ∧ Below w'.heap.size w' w'') := fun w' hb => by
    have := tmayx w' l0x _ (l0x_xv w') (HW.out.later hb)
    rw [anc_no] at this
    exact this
  go_enter Tryd.func9, Tryd.ntmps9
  go_wp2_with (first
    | (refine wpList_store_vn rfl 28 _ _ rfl w.heap.size _ #[.int .u8 1, .int .i64 1, .string ⟨#[]⟩, .slice none 0 0, .int .i64 0, .int .i64 0] rfl rfl (Vn.new w _ _) sizeX rfl (all6 rfl rfl rfl rfl rfl rfl) ?_; intro w1 HV1 hg1; have HB1 := jhid9 ((jlow _ _).trans (jbelow hg1.out (jlow _ _).size (fun g e => by cases e; exact Nat.le_refl _))); have m0 := HV1.out.cell 0 _ rfl; have m1 := HV1.out.cell 1 _ rfl; have m2 := HV1.out.cell 2 _ rfl; have m3 := HV1.out.cell 3 _ rfl; have m4 := HV1.out.cell 4 _ rfl; have m5 := HV1.out.cell 5 _ rfl; clear hg1)
    | (go_at_call 26; refine (HT.out _ _ (jtwo HB1.out (jlow _ _)) (Vn.new w1 _ _)).mono ?_; rintro e w2 ⟨rfl, hb2⟩; have HB2 := jhid9 (jtwo (jtwo HB1.out (jlow _ _)) hb2); clear hb2)
    | (go_at_call 12; refine (HN.out _ HB2.out).mono ?_; rintro e w3 ⟨rfl, hb3⟩; have HB3 := jhid9 (jtwo HB2.out hb3); clear hb3))
  go_ret
  exact ⟨rfl, HB3.out⟩
theorem xtwo_le : ∀ (d : Nat) (T : Xt), MX d T → xtwo d T ≤ 65536 * 65536 := by
  intro d T h
  have h1 := brk_two d T h
  have h2 := h.size
  have h3 : brk (xby d T) ≤ (xby d T).length := List.count_le_length
  have h4 : (xby d T).length = (xtext d T).size := by unfold xby; rw [Array.length_toList]; rfl
  omega
theorem x2s_le {f : Xt → Nat} {F : Nat → Xt} : ∀ k j, j ≤ k → x2s f F j ≤ x2s f F k := by
  intro k
  induction k with
  | zero => intro j hj; obtain rfl : j = 0 := by omega
            exact Nat.le_refl _
  | succ k ih =>
    intro j hj
    by_cases e : j = k + 1
    · rw [e]; exact Nat.le_refl _
    · have := ih j (by omega)
      show _ ≤ x2s f F k + f (F k)
      omega
set_option maxRecDepth 20000 in
set_option maxHeartbeats 4000000 in
theorem twos_any : ∀ (d : Nat) (w : World) (T : Xt) (v : Value), d ≤ 16 → XV w v T → MX d T →
    Calls Tryd.prog 27 #[v] w fun e w' => e = .returned (.int .i64 (xtwo d T : Nat)) ∧ Below w.heap.size w w' := by
  intro d
  induction d with
  | zero => intro w T v _ _ h; exact h.no.elim
  | succ d ih =>
    intro w T v hd hX hM
    have hl2 := hM.len
    have HMk : Hid (∀ i, i < (T []).len → MX d (kid T i)) := fun i hi => hM.kid hi
    have HLe : ∃ _ : Unit, xtwo (d + 1) T ≤ 4294967296 := ⟨(), xtwo_le _ _ hM⟩
    obtain ⟨⟨a, cap, rfl, hXl⟩, hok⟩ := hX
    have HF : Hid (xtwo (d + 1) T = (if (T []).len = 2 then 1 else 0) + x2s (xtwo d) (kid T) (T []).len) := rfl
    obtain ⟨R, HR⟩ : ∃ R, Hid (xtwo (d + 1) T = R) := ⟨_, rfl⟩
    rw [HR.out] at HF HLe
    rw [HR.out]
    clear HR
    generalize T [] = l at *
    obtain ⟨k, n, nm, len, ln, cl⟩ := l
    have hl2 : len ≤ 2 := hl2
    have HXl := jhid9 hXl
    have HVn := jhid9 (Vn.new w 28 #[.int .u8 (k : Int), .int .i64 n, .string nm, .slice a len cap, .int .i64 ln, .int .i64 cl])
    have c3 := HVn.out.cell 3 _ rfl
    obtain ⟨u, HU⟩ : ∃ u : Nat, Hid ((if len = 2 then 1 else 0) = u) := ⟨_, rfl⟩
    have HF2 : Hid (R = u + x2s (xtwo d) (kid T) len) := by rw [← HU.out]; exact HF.out
    have HSl : Hid (∀ i m, i ≤ len → x2s (xtwo d) (kid T) i = m → u + m ≤ 4294967296) := fun i m hi e => by
      have := x2s_le (f := xtwo d) (F := kid T) len i hi
      obtain ⟨_, h⟩ := HLe
      have := HF2.out
      omega
    clear hXl hok hM HF HLe
    by_cases h2 : len = 2
    · subst h2
      obtain rfl : u = 1 := HU.out.symm
      go_enter Tryd.func27, Tryd.ntmps27
      go_wp2
      go_loopw [3, 4] (fun vn vi wr => ∃ (i m : Nat), i ≤ 2 ∧ vi = .int .i64 (i : Int) ∧ vn = .int .i64 ((1 + m : Nat) : Int) ∧ Hid (x2s (xtwo d) (kid T) i = m) ∧ Vn wr w.heap.size 28 #[.int .u8 (k : Int), .int .i64 n, .string nm, .slice a 2 cap, .int .i64 ln, .int .i64 cl] ∧ Below w.heap.size w wr) (fun _ vi _ => 2 - (intOf vi).toNat)
      case atStart => exact ⟨0, 0, by omega, rfl, rfl, rfl, HVn.out, jlow _ _⟩
      case round =>
        obtain ⟨i, m, hi, rfl, rfl, Hm, hv, hb⟩ := hrel
        have HB := jhid9 hb
        have HVr := jhid9 hv
        have c3 := hv.cell 3 _ rfl
        have hmle := HSl.out i m hi Hm.out
        clear hv
        by_cases hlt : i < 2
        · obtain ⟨b, o, kk, nl, nn, ll, cc, nx, ka, kc, rfl, hkid, hcl⟩ := XL.at_ HXl.out (i := i) hlt
          obtain ⟨k0, k1, k2, k3, k4, k5⟩ := hcl _ hb
          have HKid := jhid9 hkid
          have p0 : (0 : Int) ≤ (i : Int) := by omega
          have p1 : (i : Int) < 2 := by omega
          obtain ⟨m2, Hm2⟩ : ∃ m2, Hid (xtwo d (kid T i) = m2) := ⟨_, rfl⟩
          have Hk : Hid (x2s (xtwo d) (kid T) (i + 1) = m + m2) := by show x2s _ _ i + _ = _; rw [Hm.out, Hm2.out]
          have hmle2 := HSl.out (i + 1) (m + m2) (by omega) Hk.out
          have HC : Hid (∀ w' : World, Below w.heap.size w w' → Calls Tryd.prog 27 #[.agg #[.int .u8 (kk : Int), .int .i64 nn, .string nx, .slice ka nl kc, .int .i64 ll, .int .i64 cc]] w' fun e w'' => e = .returned (.int .i64 (m2 : Int)) ∧ Below w'.heap.size w' w'') := fun w' hb => by rw [← Hm2.out]; exact ih w' (kid T i) _ (by omega) (HKid.out.later hb) (HMk.out i hlt)
          clear hkid hcl hb
          go_wp2_with (go_at_call 27; refine (HC.out _ HB.out).mono ?_; rintro e w2 ⟨rfl, hb2⟩; have HB2 := jhid9 (jtwo HB.out hb2); have HV2 := jhid9 (HVr.out.later hb2); clear hb2)
          exact ⟨⟨i + 1, m + m2, by omega, by go_num, by go_num, Hk, HV2.out, HB2.out⟩, by simp [intOf]; omega⟩
        · obtain rfl : i = 2 := by omega
          have HRm : Hid (R = 1 + m) := by show R = 1 + m; rw [HF2.out, Hm.out]
          clear hb
          go_wp2
          go_ret
          exact ⟨by rw [HRm.out]; rfl, HB.out⟩
    · obtain rfl : u = 0 := by rw [← HU.out, if_neg h2]
      have q2 : ((len : Int) == 2) = false := by simp; omega
      go_enter Tryd.func27, Tryd.ntmps27
      go_wp2
      go_loopw [3, 4] (fun vn vi wr => ∃ (i m : Nat), i ≤ len ∧ vi = .int .i64 (i : Int) ∧ vn = .int .i64 (m : Int) ∧ Hid (x2s (xtwo d) (kid T) i = m) ∧ Vn wr w.heap.size 28 #[.int .u8 (k : Int), .int .i64 n, .string nm, .slice a len cap, .int .i64 ln, .int .i64 cl] ∧ Below w.heap.size w wr) (fun _ vi _ => len - (intOf vi).toNat)
      case atStart => exact ⟨0, 0, by omega, rfl, rfl, rfl, HVn.out, jlow _ _⟩
      case round =>
        obtain ⟨i, m, hi, rfl, rfl, Hm, hv, hb⟩ := hrel
        have HB := jhid9 hb
        have HVr := jhid9 hv
        have c3 := hv.cell 3 _ rfl
        have hmle := HSl.out i m hi Hm.out
        clear hv
        by_cases hlt : i < len
        · obtain ⟨b, o, kk, nl, nn, ll, cc, nx, ka, kc, rfl, hkid, hcl⟩ := XL.at_ HXl.out (i := i) hlt
          obtain ⟨k0, k1, k2, k3, k4, k5⟩ := hcl _ hb
          have HKid := jhid9 hkid
          have p0 : (0 : Int) ≤ (i : Int) := by omega
          have p1 : (i : Int) < (len : Int) := by omega
          obtain ⟨m2, Hm2⟩ : ∃ m2, Hid (xtwo d (kid T i) = m2) := ⟨_, rfl⟩
          have Hk : Hid (x2s (xtwo d) (kid T) (i + 1) = m + m2) := by show x2s _ _ i + _ = _; rw [Hm.out, Hm2.out]
          have hmle2 := HSl.out (i + 1) (m + m2) (by omega) Hk.out
          have HC : Hid (∀ w' : World, Below w.heap.size w w' → Calls Tryd.prog 27 #[.agg #[.int .u8 (kk : Int), .int .i64 nn, .string nx, .slice ka nl kc, .int .i64 ll, .int .i64 cc]] w' fun e w'' => e = .returned (.int .i64 (m2 : Int)) ∧ Below w'.heap.size w' w'') := fun w' hb => by rw [← Hm2.out]; exact ih w' (kid T i) _ (by omega) (HKid.out.later hb) (HMk.out i hlt)
          clear hkid hcl hb
          go_wp2_with (go_at_call 27; refine (HC.out _ HB.out).mono ?_; rintro e w2 ⟨rfl, hb2⟩; have HB2 := jhid9 (jtwo HB.out hb2); have HV2 := jhid9 (HVr.out.later hb2); clear hb2)
          exact ⟨⟨i + 1, m + m2, by omega, by go_num, by go_num, Hk, HV2.out, HB2.out⟩, by simp [intOf]; omega⟩
        · obtain rfl : i = len := by omega
          have HRm : Hid (R = m) := by show R = m; rw [HF2.out, Hm.out]; omega
          clear hb
          go_wp2
          go_ret
          exact ⟨by rw [HRm.out]; rfl, HB.out⟩
end Go.Proofs.YtdimkfcanegahaaDoor
