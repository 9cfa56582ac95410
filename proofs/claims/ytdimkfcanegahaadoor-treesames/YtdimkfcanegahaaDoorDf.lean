/-
  Contracts of the program's tree: putExpr, ExprText.
-/
import Derived.Test.YtdimkfcanegahaaDoorDe
import Derived.Test.YtdimkfcanegahaaDoorDd
namespace Go.Proofs.YtdimkfcanegahaaDoor
open Go.RowKit
theorem gXs : Tryd.prog.globalNamed "recoup/tree.exprSigns" = some 1 := by kernel_rfl
theorem Xs10.cell {w : World} (h : Xs10 w) (k : Nat) (h4 : 4 ≤ k) (h8 : k ≤ 8) : w.cell? ⟨1, k, none⟩ = some (.string (opb k)) := by
  rw [World.var?_cell gXs h k]
  obtain rfl | rfl | rfl | rfl | rfl : k = 4 ∨ k = 5 ∨ k = 6 ∨ k = 7 ∨ k = 8 := by omega
  all_goals rfl
theorem Xs10.neg {w : World} (h : Xs10 w) : w.cell? ⟨1, 3, none⟩ = some (.string ⟨#[45]⟩) := by
  rw [World.var?_cell gXs h 3]
  rfl
/-- There is room for what is put, d deep. -/
def Few (L : List TV) (d : Nat) : Prop := ∃ _ : Unit, L.length + 100000 * d ≤ 900000000
theorem Few.le {L : List TV} {d : Nat} (h : Few L d) : L.length + 100000 * d ≤ 900000000 := by
  obtain ⟨_, h⟩ := h
  exact h
set_option maxRecDepth 20000 in
set_option maxHeartbeats 8000000 in
theorem tputx : ∀ (d : Nat) (w0 w : World) (bc : Nat) (L : List TV) (T : Xt) (v : Value), d ≤ 16 → XV w0 v T → MX d T → Xs10 w0 → Lp w0 w bc L → Few L d →
    Calls Tryd.prog 50 #[.func (.func 60) #[] #[.pointer (some ⟨bc, 0, none⟩)], v] w fun e w' => e = .returned (.tuple #[]) ∧ Lp w0 w' bc (L ++ xtk d T) ∧ Gw bc w w' := by
  intro d
  induction d with
  | zero => intro w0 w bc L T v _ _ h; exact h.no.elim
  | succ d ih =>
    intro w0 w bc L T v hd hX hM hs hL hn
    have HN := hn
    clear hn
    have HMk : Hid (∀ i, i < (T []).len → MX d (kid T i)) := fun i hi => hM.kid hi
    obtain ⟨⟨a, cap, rfl, hXl⟩, hok⟩ := hX
    have HXl := jhid9 hXl
    have HS := jhid9 hs
    obtain ⟨m, hw⟩ : ∃ m, xwant (T []) = some m := by
      obtain ⟨left, _, hM⟩ := hM
      obtain ⟨m, hw, _⟩ := xleft_parts hM
      exact ⟨m, hw⟩
    have hlen := (xwant_len hw).1
    have HE : Hid (xtk (d + 1) T = if (T []).k = 1 then [tkU (T []).n] else if (T []).k = 2 then [tkN (T []).nm] else if (T []).k = 3 then tkS ⟨#[45]⟩ :: xtk d (kid T 0)
      else tkS ⟨#[40]⟩ :: (xtk d (kid T 0) ++ tkS (opb (T []).k) :: (xtk d (kid T 1) ++ [tkS ⟨#[41]⟩]))) := rfl
    rw [HE.out]
    clear HE hXl hs hok hM
    have HL := jhid9 hL
    have HG := jhid9 (Gw.of (bc := bc) (jlow w (.cells #[.int .u8 ((T []).k : Int), .int .i64 (T []).n, .string (T []).nm, .slice a (T []).len cap, .int .i64 (T []).ln, .int .i64 (T []).cl] 28)))
    have HB := jhid9 (Bx.new hL 28 #[.int .u8 ((T []).k : Int), .int .i64 (T []).n, .string (T []).nm, .slice a (T []).len cap, .int .i64 (T []).ln, .int .i64 (T []).cl] (by decide))
    replace HL := jhid9 (HL.out.later (jlow w (.cells #[.int .u8 ((T []).k : Int), .int .i64 (T []).n, .string (T []).nm, .slice a (T []).len cap, .int .i64 (T []).ln, .int .i64 (T []).cl] 28)))
    clear hL
    obtain ⟨l, HT⟩ : ∃ l, Hid (T [] = l) := ⟨_, rfl⟩
    rw [HT.out] at HMk HXl hw hlen HG HB HL
    rw [HT.out]
    obtain ⟨k, n, nm, len, ln, cl⟩ := l
    have hlen : len = m := hlen
    subst hlen
    have c0 := HB.out.cell 0 _ rfl
    have c1 := HB.out.cell 1 _ rfl
    have c2 := HB.out.cell 2 _ rfl
    have c3 := HB.out.cell 3 _ rfl
    have c4 := HB.out.cell 4 _ rfl
    have c5 := HB.out.cell 5 _ rfl
    rcases xwant_cases hw with ⟨k1, rfl, n1, n2, hz⟩ | ⟨k2, rfl, hn0, hN⟩ | ⟨k3, rfl, hu1, hu2⟩ | ⟨k4, k8, rfl, hu1, hu2⟩
    · have k1 : k = 1 := k1
      subst k1
      have hz : nm = ⟨#[]⟩ := nil_of hz
      subst hz
      show Calls _ _ _ _ fun e w' => _ ∧ Lp w0 w' bc (L ++ [tkU n]) ∧ _
      clear hw ih HXl HMk
      go_enter Tryd.func50, Tryd.ntmps50
      go_wp2_with (first
        | (go_at_call 76; refine (tleaf _ 1 0 cap 3 n ln cl ⟨#[]⟩ a rfl).mono ?_; rintro e w1 ⟨rfl, hb1⟩; replace HL := jhid9 (HL.out.later hb1); replace HG := jhid9 (HG.out.trans (Gw.of hb1)); clear hb1)
        | (go_at_call 60; refine (tput w0 _ bc _ (tkU n) _ rfl HL (by have := HN.le; omega)).mono ?_; rintro e w1 ⟨rfl, hl1, hg1⟩; replace HL := jhid9 hl1; replace HG := jhid9 (HG.out.trans hg1); clear hl1 hg1))
      go_end0
      exact ⟨rfl, HL.out, HG.out⟩
    · have k2 : k = 2 := k2
      have hn0 : n = 0 := hn0
      subst k2 hn0
      show Calls _ _ _ _ fun e w' => _ ∧ Lp w0 w' bc (L ++ [tkN nm]) ∧ _
      clear hw ih HXl HMk hN
      go_enter Tryd.func50, Tryd.ntmps50
      go_wp2_with (first
        | (go_at_call 76; refine (tleaf _ 2 0 cap 1 0 ln cl nm a rfl).mono ?_; rintro e w1 ⟨rfl, hb1⟩; replace HL := jhid9 (HL.out.later hb1); replace HG := jhid9 (HG.out.trans (Gw.of hb1)); clear hb1)
        | (go_at_call 60; refine (tput w0 _ bc _ (tkN nm) _ rfl HL (by have := HN.le; omega)).mono ?_; rintro e w1 ⟨rfl, hl1, hg1⟩; replace HL := jhid9 hl1; replace HG := jhid9 (HG.out.trans hg1); clear hl1 hg1))
      go_end0
      exact ⟨rfl, HL.out, HG.out⟩
    · have k3 : k = 3 := k3
      have HEq : Hid ((if k = 1 then [tkU n] else if k = 2 then [tkN nm] else if k = 3 then tkS ⟨#[45]⟩ :: xtk d (kid T 0) else tkS ⟨#[40]⟩ :: (xtk d (kid T 0) ++ tkS (opb k) :: (xtk d (kid T 1) ++ [tkS ⟨#[41]⟩]))) = tkS ⟨#[45]⟩ :: xtk d (kid T 0)) := by show _ = _; rw [if_neg (by omega), if_neg (by omega), if_pos k3]
      show Calls _ _ _ _ fun e w' => _ ∧ Lp w0 w' bc (L ++ (if k = 1 then [tkU n] else if k = 2 then [tkN nm] else if k = 3 then tkS ⟨#[45]⟩ :: xtk d (kid T 0) else tkS ⟨#[40]⟩ :: (xtk d (kid T 0) ++ tkS (opb k) :: (xtk d (kid T 1) ++ [tkS ⟨#[41]⟩])))) ∧ _
      rw [HEq.out]
      clear HEq hu1 hu2
      have HSg : Hid (∀ w' : World, Xs10 w' → w'.cell? ⟨1, k, none⟩ = some (.string ⟨#[45]⟩)) := fun w' h => by rw [k3]; exact h.neg
      have p0 : (0 : Int) ≤ (k : Int) := by omega
      have p1 : (k : Int) < 9 := by omega
      clear k3
      obtain ⟨b0, o0, kk, nl, nn, ll, cc, nx, ka, kc, rfl, hkid0, hcl0⟩ := XL.at_ HXl.out (i := 0) (by show 0 < 1; omega)
      have HC0 : Hid (∀ (w' : World) (L' : List TV), Lp w0 w' bc L' → Few L' d → Calls Tryd.prog 50 #[.func (.func 60) #[] #[.pointer (some ⟨bc, 0, none⟩)], .agg #[.int .u8 (kk : Int), .int .i64 nn, .string nx, .slice ka nl kc, .int .i64 ll, .int .i64 cc]] w' fun e w'' => e = .returned (.tuple #[]) ∧ Lp w0 w'' bc (L' ++ xtk d (kid T 0)) ∧ Gw bc w' w'') := fun w' L' h1 h2 => ih w0 w' bc L' (kid T 0) _ (by omega) hkid0 (HMk.out 0 (by show 0 < 1; omega)) HS.out h1 h2
      rw [Nat.zero_mul, Nat.add_zero] at hcl0
      have HZ : ∃ _ : Unit, (xtk d (kid T 0)).length ≤ 40960 := ⟨(), (HMk.out 0 (by show 0 < 1; omega)).toks⟩
      have HCl0 := jhid9 hcl0
      obtain ⟨g0, g1, g2, g3, g4, g5⟩ := HCl0.out _ HL.out.below
      have s3 := (HSg.out _ (HS.out.later HL.out.below))
      generalize xtk d (kid T 0) = X0 at *
      clear hw ih HXl HMk hkid0 hcl0
      go_enter Tryd.func50, Tryd.ntmps50
      go_wp2_with (first
        | (go_at_call 65; refine (tsign10 _ _).mono ?_; rintro e w1 ⟨rfl, hb1⟩; replace HL := jhid9 (HL.out.later hb1); replace HG := jhid9 (HG.out.trans (Gw.of hb1)); replace HB := jhid9 (HB.out.step (Gw.of hb1)); clear hb1; replace c0 := HB.out.cell 0 _ rfl; replace c3 := HB.out.cell 3 _ rfl; have hg0 := HCl0.out _ HL.out.below; replace g0 := hg0.1; replace g1 := hg0.2.1; replace g2 := hg0.2.2.1; replace g3 := hg0.2.2.2.1; replace g4 := hg0.2.2.2.2.1; replace g5 := hg0.2.2.2.2.2; clear hg0; replace s3 := (HSg.out _ (HS.out.later HL.out.below)))
        | (go_at_call 60; refine (tput w0 _ bc _ (tkS ⟨#[45]⟩) _ rfl HL (by (try simp only [List.length_append, List.length_cons, List.length_nil]); have := HN.le; obtain ⟨_, hz⟩ := HZ; omega)).mono ?_; rintro e w1 ⟨rfl, hl1, hg1⟩; replace HL := jhid9 hl1; replace HG := jhid9 (HG.out.trans hg1); replace HB := jhid9 (HB.out.step hg1); clear hl1 hg1; replace c0 := HB.out.cell 0 _ rfl; replace c3 := HB.out.cell 3 _ rfl; have hg0 := HCl0.out _ HL.out.below; replace g0 := hg0.1; replace g1 := hg0.2.1; replace g2 := hg0.2.2.1; replace g3 := hg0.2.2.2.1; replace g4 := hg0.2.2.2.2.1; replace g5 := hg0.2.2.2.2.2; clear hg0; replace s3 := (HSg.out _ (HS.out.later HL.out.below)))
        | (go_at_call 50; refine (HC0.out _ _ HL.out ⟨(), by (try simp only [List.length_append, List.length_cons, List.length_nil]); have := HN.le; obtain ⟨_, hz⟩ := HZ; omega⟩).mono ?_; rintro e w1 ⟨rfl, hl1, hg1⟩; replace HL := jhid9 hl1; replace HG := jhid9 (HG.out.trans hg1); replace HB := jhid9 (HB.out.step hg1); clear hl1 hg1; replace c0 := HB.out.cell 0 _ rfl; replace c3 := HB.out.cell 3 _ rfl; have hg0 := HCl0.out _ HL.out.below; replace g0 := hg0.1; replace g1 := hg0.2.1; replace g2 := hg0.2.2.1; replace g3 := hg0.2.2.2.1; replace g4 := hg0.2.2.2.2.1; replace g5 := hg0.2.2.2.2.2; clear hg0; replace s3 := (HSg.out _ (HS.out.later HL.out.below))))
      go_end0
      refine ⟨rfl, ?_, HG.out⟩
      have h9 := HL.out
      simpa using h9
    · have k4 : 4 ≤ k := k4
      have k8 : k ≤ 8 := k8
      have HEq : Hid ((if k = 1 then [tkU n] else if k = 2 then [tkN nm] else if k = 3 then tkS ⟨#[45]⟩ :: xtk d (kid T 0) else tkS ⟨#[40]⟩ :: (xtk d (kid T 0) ++ tkS (opb k) :: (xtk d (kid T 1) ++ [tkS ⟨#[41]⟩]))) = tkS ⟨#[40]⟩ :: (xtk d (kid T 0) ++ tkS (opb k) :: (xtk d (kid T 1) ++ [tkS ⟨#[41]⟩]))) := by show _ = _; rw [if_neg (by omega), if_neg (by omega), if_neg (by omega)]
      show Calls _ _ _ _ fun e w' => _ ∧ Lp w0 w' bc (L ++ (if k = 1 then [tkU n] else if k = 2 then [tkN nm] else if k = 3 then tkS ⟨#[45]⟩ :: xtk d (kid T 0) else tkS ⟨#[40]⟩ :: (xtk d (kid T 0) ++ tkS (opb k) :: (xtk d (kid T 1) ++ [tkS ⟨#[41]⟩])))) ∧ _
      rw [HEq.out]
      clear HEq hu1 hu2
      obtain ⟨b0, o0, kk, nl, nn, ll, cc, nx, ka, kc, rfl, hkid0, hcl0⟩ := XL.at_ HXl.out (i := 0) (by show 0 < 2; omega)
      obtain ⟨b1, o1, kk1, nl1, nn1, ll1, cc1, nx1, ka1, kc1, hba, hkid1, hcl1⟩ := XL.at_ HXl.out (i := 1) (by show 1 < 2; omega)
      cases hba
      have HC0 : Hid (∀ (w' : World) (L' : List TV), Lp w0 w' bc L' → Few L' d → Calls Tryd.prog 50 #[.func (.func 60) #[] #[.pointer (some ⟨bc, 0, none⟩)], .agg #[.int .u8 (kk : Int), .int .i64 nn, .string nx, .slice ka nl kc, .int .i64 ll, .int .i64 cc]] w' fun e w'' => e = .returned (.tuple #[]) ∧ Lp w0 w'' bc (L' ++ xtk d (kid T 0)) ∧ Gw bc w' w'') := fun w' L' h1 h2 => ih w0 w' bc L' (kid T 0) _ (by omega) hkid0 (HMk.out 0 (by show 0 < 2; omega)) HS.out h1 h2
      have HC1 : Hid (∀ (w' : World) (L' : List TV), Lp w0 w' bc L' → Few L' d → Calls Tryd.prog 50 #[.func (.func 60) #[] #[.pointer (some ⟨bc, 0, none⟩)], .agg #[.int .u8 (kk1 : Int), .int .i64 nn1, .string nx1, .slice ka1 nl1 kc1, .int .i64 ll1, .int .i64 cc1]] w' fun e w'' => e = .returned (.tuple #[]) ∧ Lp w0 w'' bc (L' ++ xtk d (kid T 1)) ∧ Gw bc w' w'') := fun w' L' h1 h2 => ih w0 w' bc L' (kid T 1) _ (by omega) hkid1 (HMk.out 1 (by show 1 < 2; omega)) HS.out h1 h2
      rw [Nat.zero_mul, Nat.add_zero] at hcl0
      rw [Nat.one_mul] at hcl1
      have HZ : ∃ _ : Unit, (xtk d (kid T 0)).length ≤ 40960 ∧ (xtk d (kid T 1)).length ≤ 40960 := ⟨(), (HMk.out 0 (by show 0 < 2; omega)).toks, (HMk.out 1 (by show 1 < 2; omega)).toks⟩
      have HCl0 := jhid9 hcl0
      have HCl1 := jhid9 hcl1
      obtain ⟨g0, g1, g2, g3, g4, g5⟩ := HCl0.out _ HL.out.below
      obtain ⟨f0, f1, f2, f3, f4, f5⟩ := HCl1.out _ HL.out.below
      have HSg0 : Hid (∀ w' : World, Xs10 w' → w'.cell? ⟨1, k, none⟩ = some (.string (opb k))) := fun w' h => h.cell k k4 k8
      obtain ⟨sg, Hsg⟩ : ∃ sg, Hid (opb k = sg) := ⟨_, rfl⟩
      rw [Hsg.out] at HSg0
      rw [Hsg.out]
      have HSg := HSg0
      clear HSg0
      have s3 := (HSg.out _ (HS.out.later HL.out.below))
      have p0 : (0 : Int) ≤ (k : Int) := by omega
      have p1 : (k : Int) < 9 := by omega
      generalize xtk d (kid T 0) = X0 at *
      generalize xtk d (kid T 1) = X1 at *
      clear hw ih HXl HMk hkid0 hcl0 hkid1 hcl1 k4 k8
      have M40 : True := trivial
      have Msg : True := trivial
      go_enter Tryd.func50, Tryd.ntmps50
      go_wp2_with (first
        | (go_at_call 65; refine (tsign10 _ _).mono ?_; rintro e w1 ⟨rfl, hb1⟩; replace HL := jhid9 (HL.out.later hb1); replace HG := jhid9 (HG.out.trans (Gw.of hb1)); replace HB := jhid9 (HB.out.step (Gw.of hb1)); clear hb1; replace c0 := HB.out.cell 0 _ rfl; replace c3 := HB.out.cell 3 _ rfl; have hg0 := HCl0.out _ HL.out.below; replace g0 := hg0.1; replace g1 := hg0.2.1; replace g2 := hg0.2.2.1; replace g3 := hg0.2.2.2.1; replace g4 := hg0.2.2.2.2.1; replace g5 := hg0.2.2.2.2.2; clear hg0; have hq1 := HCl1.out _ HL.out.below; replace f0 := hq1.1; replace f1 := hq1.2.1; replace f2 := hq1.2.2.1; replace f3 := hq1.2.2.2.1; replace f4 := hq1.2.2.2.2.1; replace f5 := hq1.2.2.2.2.2; clear hq1; replace s3 := (HSg.out _ (HS.out.later HL.out.below)))
        | (go_at_call 60; clear M40; refine (tput w0 _ bc _ (tkS ⟨#[40]⟩) _ rfl HL (by (try simp only [List.length_append, List.length_cons, List.length_nil]); have := HN.le; obtain ⟨_, hz⟩ := HZ; omega)).mono ?_; rintro e w1 ⟨rfl, hl1, hg1⟩; replace HL := jhid9 hl1; replace HG := jhid9 (HG.out.trans hg1); replace HB := jhid9 (HB.out.step hg1); clear hl1 hg1; replace c0 := HB.out.cell 0 _ rfl; replace c3 := HB.out.cell 3 _ rfl; have hg0 := HCl0.out _ HL.out.below; replace g0 := hg0.1; replace g1 := hg0.2.1; replace g2 := hg0.2.2.1; replace g3 := hg0.2.2.2.1; replace g4 := hg0.2.2.2.2.1; replace g5 := hg0.2.2.2.2.2; clear hg0; have hq1 := HCl1.out _ HL.out.below; replace f0 := hq1.1; replace f1 := hq1.2.1; replace f2 := hq1.2.2.1; replace f3 := hq1.2.2.2.1; replace f4 := hq1.2.2.2.2.1; replace f5 := hq1.2.2.2.2.2; clear hq1; replace s3 := (HSg.out _ (HS.out.later HL.out.below)))
        | (go_at_call 60; clear Msg; refine (tput w0 _ bc _ (tkS sg) _ rfl HL (by (try simp only [List.length_append, List.length_cons, List.length_nil]); have := HN.le; obtain ⟨_, hz⟩ := HZ; omega)).mono ?_; rintro e w1 ⟨rfl, hl1, hg1⟩; replace HL := jhid9 hl1; replace HG := jhid9 (HG.out.trans hg1); replace HB := jhid9 (HB.out.step hg1); clear hl1 hg1; replace c0 := HB.out.cell 0 _ rfl; replace c3 := HB.out.cell 3 _ rfl; have hg0 := HCl0.out _ HL.out.below; replace g0 := hg0.1; replace g1 := hg0.2.1; replace g2 := hg0.2.2.1; replace g3 := hg0.2.2.2.1; replace g4 := hg0.2.2.2.2.1; replace g5 := hg0.2.2.2.2.2; clear hg0; have hq1 := HCl1.out _ HL.out.below; replace f0 := hq1.1; replace f1 := hq1.2.1; replace f2 := hq1.2.2.1; replace f3 := hq1.2.2.2.1; replace f4 := hq1.2.2.2.2.1; replace f5 := hq1.2.2.2.2.2; clear hq1; replace s3 := (HSg.out _ (HS.out.later HL.out.below)))
        | (go_at_call 60; refine (tput w0 _ bc _ (tkS ⟨#[41]⟩) _ rfl HL (by (try simp only [List.length_append, List.length_cons, List.length_nil]); have := HN.le; obtain ⟨_, hz⟩ := HZ; omega)).mono ?_; rintro e w1 ⟨rfl, hl1, hg1⟩; replace HL := jhid9 hl1; replace HG := jhid9 (HG.out.trans hg1); replace HB := jhid9 (HB.out.step hg1); clear hl1 hg1; replace c0 := HB.out.cell 0 _ rfl; replace c3 := HB.out.cell 3 _ rfl; have hg0 := HCl0.out _ HL.out.below; replace g0 := hg0.1; replace g1 := hg0.2.1; replace g2 := hg0.2.2.1; replace g3 := hg0.2.2.2.1; replace g4 := hg0.2.2.2.2.1; replace g5 := hg0.2.2.2.2.2; clear hg0; have hq1 := HCl1.out _ HL.out.below; replace f0 := hq1.1; replace f1 := hq1.2.1; replace f2 := hq1.2.2.1; replace f3 := hq1.2.2.2.1; replace f4 := hq1.2.2.2.2.1; replace f5 := hq1.2.2.2.2.2; clear hq1; replace s3 := (HSg.out _ (HS.out.later HL.out.below)))
        | (go_at_call 50; have hc0 := HC0.out; clear HC0; refine (hc0 _ _ HL.out ⟨(), by (try simp only [List.length_append, List.length_cons, List.length_nil]); have := HN.le; obtain ⟨_, hz⟩ := HZ; omega⟩).mono ?_; rintro e w1 ⟨rfl, hl1, hg1⟩; replace HL := jhid9 hl1; replace HG := jhid9 (HG.out.trans hg1); replace HB := jhid9 (HB.out.step hg1); clear hc0 hl1 hg1; replace c0 := HB.out.cell 0 _ rfl; replace c3 := HB.out.cell 3 _ rfl; have hg0 := HCl0.out _ HL.out.below; replace g0 := hg0.1; replace g1 := hg0.2.1; replace g2 := hg0.2.2.1; replace g3 := hg0.2.2.2.1; replace g4 := hg0.2.2.2.2.1; replace g5 := hg0.2.2.2.2.2; clear hg0; have hq1 := HCl1.out _ HL.out.below; replace f0 := hq1.1; replace f1 := hq1.2.1; replace f2 := hq1.2.2.1; replace f3 := hq1.2.2.2.1; replace f4 := hq1.2.2.2.2.1; replace f5 := hq1.2.2.2.2.2; clear hq1; replace s3 := (HSg.out _ (HS.out.later HL.out.below)))
        | (go_at_call 50; refine (HC1.out _ _ HL.out ⟨(), by (try simp only [List.length_append, List.length_cons, List.length_nil]); have := HN.le; obtain ⟨_, hz⟩ := HZ; omega⟩).mono ?_; rintro e w1 ⟨rfl, hl1, hg1⟩; replace HL := jhid9 hl1; replace HG := jhid9 (HG.out.trans hg1); replace HB := jhid9 (HB.out.step hg1); clear hl1 hg1; replace c0 := HB.out.cell 0 _ rfl; replace c3 := HB.out.cell 3 _ rfl; have hg0 := HCl0.out _ HL.out.below; replace g0 := hg0.1; replace g1 := hg0.2.1; replace g2 := hg0.2.2.1; replace g3 := hg0.2.2.2.1; replace g4 := hg0.2.2.2.2.1; replace g5 := hg0.2.2.2.2.2; clear hg0; have hq1 := HCl1.out _ HL.out.below; replace f0 := hq1.1; replace f1 := hq1.2.1; replace f2 := hq1.2.2.1; replace f3 := hq1.2.2.2.1; replace f4 := hq1.2.2.2.2.1; replace f5 := hq1.2.2.2.2.2; clear hq1; replace s3 := (HSg.out _ (HS.out.later HL.out.below))))
      go_end0
      refine ⟨rfl, ?_, HG.out⟩
      have h9 := HL.out
      simpa using h9
end Go.Proofs.YtdimkfcanegahaaDoor
