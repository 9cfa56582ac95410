/-
  Contracts of the token's reference: Cut.
-/
import Derived.Test.YtipjejkjoiifdabDoorAe
namespace Go.Proofs.YtipjejkjoiifdabDoor
open Go.RowKit
theorem sizeKind : (Tryd.prog.info? 30).map (·.size) = some 1 := by kernel_rfl
theorem sizeStr : (Tryd.prog.info? 9).map (·.size) = some 1 := by kernel_rfl
theorem sizeInt : (Tryd.prog.info? 3).map (·.size) = some 1 := by kernel_rfl
theorem all3 {x y z : Value} (h0 : x.oneCell' = true) (h1 : y.oneCell' = true) (h2 : z.oneCell' = true) : (#[x, y, z] : Array Value).all (·.oneCell') = true := by simp [h0, h1, h2]
theorem all5 {x y z u v : Value} (h0 : x.oneCell' = true) (h1 : y.oneCell' = true) (h2 : z.oneCell' = true) (h3 : u.oneCell' = true) (h4 : v.oneCell' = true) : (#[x, y, z, u, v] : Array Value).all (·.oneCell') = true := by simp [h0, h1, h2, h3, h4]
/-- Where a cutting stands: in a remark or not. -/
def St (s : ByteArray) (rm : Bool) (p : Nat) (R : List Tk) (E a : Nat) : Prop :=
  (rm = false ∧ Cuts s p R E a) ∨ (rm = true ∧ ∃ e, p ≤ e ∧ e ≤ s.size ∧ (∀ j, p ≤ j → j < e → tb s j ≠ 10) ∧ (e < s.size → tb s e = 10) ∧ Cuts s e R E a)
theorem Cuts.end {s : ByteArray} {p E a : Nat} {R : List Tk} (h : Cuts s p R E a) (hp : p = s.size) : R = [] ∧ E = 0 := by
  rcases h.inv with ⟨_, h1, h2, _⟩ | ⟨h, _⟩ | ⟨e, h1, h2, _⟩ | ⟨e, L', h, _⟩ | ⟨e, L', h, _⟩ | ⟨e, h, _⟩ | ⟨e, L', h, _⟩ | ⟨e, h, _⟩ | ⟨e, h, _⟩ | ⟨L', h, _⟩ | ⟨h, _⟩
  · exact ⟨h1, h2⟩
  all_goals omega
theorem St.end {s : ByteArray} {rm : Bool} {p E a : Nat} {R : List Tk} (h : St s rm p R E a) (hp : p = s.size) : R = [] ∧ E = 0 := by
  rcases h with ⟨_, h⟩ | ⟨_, e, h1, h2, _, _, h⟩
  · exact h.end hp
  · exact h.end (by omega)
theorem cls_ten : isB 10 = true ∧ isL 10 = false ∧ isD 10 = false ∧ isS 10 = false := by decide
theorem cls_rem : isB 35 = false ∧ isL 35 = false ∧ isD 35 = false ∧ isS 35 = false := by decide
theorem Cuts.ten {s : ByteArray} {p E a : Nat} {R : List Tk} (h : Cuts s p R E a) (hp : p < s.size) (h10 : tb s p = 10) : Cuts s (p + 1) R E a := by
  obtain ⟨b1, b2, b3, b4⟩ := cls_ten
  rcases h.inv with ⟨h, _⟩ | ⟨_, _, h⟩ | ⟨e, _, _, h, _⟩ | ⟨e, L', _, h, _⟩ | ⟨e, L', _, h, _⟩ | ⟨e, _, h, _⟩ | ⟨e, L', _, h, _⟩ | ⟨e, _, h, _⟩ | ⟨e, _, h, _⟩ | ⟨L', _, h, _⟩ | ⟨_, h, _⟩
  · omega
  · exact h
  · omega
  · rw [h10, b2] at h; cases h
  · rw [h10, b2] at h; cases h
  · rw [h10, b2] at h; cases h
  · rw [h10, b3] at h; cases h
  · rw [h10, b3] at h; cases h
  · rw [h10, b3] at h; cases h
  · rw [h10, b4] at h; cases h
  · rw [h10, b1] at h; cases h
theorem blank_cls {c : Nat} (h : isB c = true) : isL c = false ∧ isD c = false ∧ isS c = false := by
  rcases isB_iff.1 h with rfl | rfl | rfl <;> decide
theorem letter_cls {c : Nat} (h : isL c = true) : c ≠ 10 ∧ isD c = false ∧ isS c = false := by
  have h1 := isL_iff.1 h
  refine ⟨by omega, isD_f (by omega), ?_⟩
  cases hc : isS c with
  | false => rfl
  | true => have := isS_iff.1 hc; omega
theorem digit_cls {c : Nat} (h : isD c = true) : c ≠ 10 ∧ isL c = false := by
  have h1 := isD_iff.1 h
  exact ⟨by omega, isL_f (by omega)⟩
theorem sign_cls {c : Nat} (h : isS c = true) : c ≠ 10 ∧ isL c = false ∧ isD c = false := by
  have h1 := isS_iff.1 h
  exact ⟨by omega, isL_f (by omega), isD_f (by omega)⟩
theorem name_of {s x : ByteArray} {p e c : Nat} (hE : Ends s true p e) (hes : e ≤ s.size) (hpe : p < e) (hL : isL c = true) (hc : tb s p = c) (h16 : e - p ≤ 16) (hW : isW x = false) (hx : s.extract p e = x) : NameP x := by
  subst hx
  refine ⟨by rw [size_extract hes]; omega, by rw [size_extract hes]; exact h16, by rw [tb_extract (by omega) hes, Nat.add_zero, hc]; exact hL, hW, fun j hj => ?_⟩
  rw [size_extract hes] at hj
  rw [tb_extract (by omega) hes]
  have := hE.all (p + j) (by omega) (by omega)
  rw [Bool.or_comm]
  simpa using this
/-- The world behind the answer's variable. -/
def W9 (w : World) : World := w.alloc (.cells #[.int .i64 0, .int .i64 0, .int .i64 0] 25)
theorem W9_size (w : World) : (W9 w).heap.size = w.heap.size + 1 := by simp [W9]
theorem W9_below (w : World) : Below w.heap.size w (W9 w) := jlow _ _
theorem W9_vn {w wr : World} (h : Below (w.heap.size + 1) (W9 w) wr) : Vn wr w.heap.size 25 #[.int .i64 0, .int .i64 0, .int .i64 0] := by
  unfold Vn
  rw [h.block _ (by omega)]
  exact Vn.new w _ _
theorem W9_fin {w wr : World} (h : Below (w.heap.size + 1) (W9 w) wr) : Below w.heap.size w wr := (W9_below w).trans (h.mono (by omega))
theorem tcs_eq {s x : ByteArray} {k p e n ln cl : Nat} (hx : (if k = 3 then ⟨#[]⟩ else s.extract p e) = x) (hl : lnn s p = ln) (hc : cln s p = cl) : tcs s ⟨k, p, e, n⟩ = [.int .u8 (k : Int), .string x, .int .i64 (n : Int), .int .i64 (ln : Int), .int .i64 (cl : Int)] := by
  unfold tcs ttx
  simp only [hx, hl, hc]
theorem Tls.push {w2 : World} {B : Nat} {v' : Value} {s : ByteArray} {L : List Tk} {t : Tk} {xs : List Value} {n : Nat} (hx : tcs s t = xs) (hn : n = L.length + 1) (hown : w2.ownsRow B 32 5 v' n (trow s L ++ xs)) : Tls w2 B v' s (L ++ [t]) := by
  unfold Tls
  rw [trow_snoc, List.length_append, hx]
  subst hn
  exact hown
theorem jb9 {w wr w1 : World} {b : Nat} (h : Below (w.heap.size + 1) (W9 w) wr) (hg : wr.grownBy w1 (some b)) (hb : w.heap.size + 1 ≤ b) : Below (w.heap.size + 1) (W9 w) w1 :=
  h.trans (jbelow hg (by have := h.size; rw [W9_size] at this; exact this) (fun g e => by cases e; exact hb))
theorem jl9 {w wr w1 : World} (h : Below (w.heap.size + 1) (W9 w) wr) (hb : Below wr.heap.size wr w1) : Below (w.heap.size + 1) (W9 w) w1 :=
  h.trans (hb.mono (by have := h.size; rw [W9_size] at this; exact this))
theorem js9 {w wr : World} (h : Below (w.heap.size + 1) (W9 w) wr) : w.heap.size + 1 ≤ wr.heap.size := by have := h.size; rw [W9_size] at this; exact this
theorem own_lt {v : Value} {b : Nat} (h : ∀ g, v.ownBlock = some g → g < b) : v.ownBlock = none ∨ v.ownBlock ≠ some b := by
  cases hv : v.ownBlock with
  | none => exact .inl rfl
  | some g => exact .inr (fun e => by have := h g hv; have : g = b := by simpa using e
                                      omega)
theorem Ends.line {s : ByteArray} {lt : Bool} {p e : Nat} (h : Ends s lt p e) : lnn s e = lnn s p ∧ cln s e = cln s p + (e - p) := by
  have := lc_line (s := s) (p := p) (e - p) (fun j a b => by
    have h1 := h.all j a (by have := h.le; omega)
    intro h2
    rw [h2] at h1
    have h3 := cls_ten
    rw [h3.2.2.1, h3.2.1] at h1
    cases lt <;> cases h1)
  rw [show p + (e - p) = e by have := h.le; omega] at this
  exact this
set_option maxRecDepth 20000 in
set_option maxHeartbeats 8000000 in
theorem rcut_any (w : World) (s : ByteArray) (L : List Tk) (E a : Nat) (hs : s.size ≤ 65536) (HC : Hid (Cuts s 0 L E a)) :
    Calls Tryd.prog 6 #[.string s] w fun e w' => CutP w w' e s L E a := by
  obtain ⟨i0, hi0, hz0, hz1, hz2⟩ := info_parts jtok
  have HFl : Hid (∀ (w' : World) (c : Nat), c < 256 → Calls Tryd.prog 24 #[.int .u8 (c : Int)] w' fun r w'' => r = .returned (.bool (isL c)) ∧ w' = w'') := fun w' c h => rletter_any w' c h
  have HFd : Hid (∀ (w' : World) (c : Nat), c < 256 → Calls Tryd.prog 29 #[.int .u8 (c : Int)] w' fun r w'' => r = .returned (.bool (isD c)) ∧ w' = w'') := fun w' c h => rdigit_any w' c h
  have HFs : Hid (∀ (w' : World) (c : Nat), c < 256 → Calls Tryd.prog 31 #[.int .u8 (c : Int)] w' fun r w'' => r = .returned (.bool (isS c)) ∧ w' = w'') := fun w' c h => rsign_any w' c h
  have hlim : decide (65536 < s.size) = false := decide_eq_false (by omega)
  go_enter Tryd.func6, Tryd.ntmps6
  go_wp2
  go_loopw [4, 5, 6, 7, 8, 9, 10, 11] (fun vl vln vcl vrm vat _ _ _ wr => ∃ (p ln cl : Nat) (rm : Bool) (L0 R : List Tk), p ≤ s.size ∧ vat = .int .i64 (p : Int) ∧ vln = .int .i64 (ln : Int) ∧ vcl = .int .i64 (cl : Int) ∧ vrm = .bool rm ∧ Hid (lnn s p = ln) ∧ Hid (cln s p = cl) ∧ Hid (L = L0 ++ R) ∧ Hid (St s rm p R E a) ∧ Tls wr (w.heap.size + 1) vl s L0 ∧ L0.length ≤ p ∧ Below (w.heap.size + 1) (W9 w) wr) (fun _ _ _ _ vat _ _ _ _ => s.size - (intOf vat).toNat)
  case atStart => exact ⟨0, 1, 1, false, [], L, by omega, rfl, rfl, rfl, rfl, rfl, rfl, rfl, .inl ⟨rfl, HC.out⟩, Tls.nil _ _ _, by simp, Below.refl _ _⟩
  case round =>
    obtain ⟨p, ln, cl, rm, L0, R, hp, rfl, rfl, rfl, rfl, HLN, HCN, HLR, HST, htl, hlen, hbr⟩ := hrel
    obtain ⟨ps, pd, rfl, _⟩ := htl.form
    have HTl := jhid9 htl
    have HBr := jhid9 hbr
    have hln : 1 ≤ ln ∧ ln ≤ p + 1 := by rw [← HLN.out]; exact lnn_le s p
    have hcl : 1 ≤ cl ∧ cl ≤ p + 1 := by rw [← HCN.out]; exact cln_le s p
    obtain ⟨hln1, hln2⟩ := hln
    obtain ⟨hcl1, hcl2⟩ := hcl
    have hsz := js9 hbr
    clear htl hbr HC
    by_cases hlt : p < s.size
    · obtain ⟨c, HCc⟩ : ∃ c, Hid (tb s p = c) := ⟨_, rfl⟩
      have hc : s[p].toNat = c := by rw [← HCc.out]; exact tb_at hlt
      have hc8 : c < 256 := by rw [← HCc.out]; exact tb_lt s p
      have HNl : Hid (c ≠ 10 → lnn s (p + 1) = ln ∧ cln s (p + 1) = cl + 1) := fun h => by
        rw [lnn_succ, cln_succ, HCc.out, if_neg h, if_neg h, HLN.out, HCN.out]
        exact ⟨rfl, rfl⟩
      by_cases h10 : c = 10
      · subst h10
        have HST2 : Hid (St s false (p + 1) R E a) := by
          rcases HST.out with ⟨_, h⟩ | ⟨_, e, h1, h2, h3, h4, h⟩
          · exact .inl ⟨rfl, h.ten hlt HCc.out⟩
          · have : p = e := by
              rcases Nat.lt_or_ge p e with x | x
              · exact absurd HCc.out (h3 p (Nat.le_refl _) x)
              · omega
            subst this
            exact .inl ⟨rfl, h.ten hlt HCc.out⟩
        have HLN2 : Hid (lnn s (p + 1) = ln + 1) := by show _ = _; rw [lnn_succ, HCc.out, if_pos rfl, HLN.out]
        have HCN2 : Hid (cln s (p + 1) = 1) := by show _ = _; rw [cln_succ, HCc.out, if_pos rfl]
        clear HST
        go_wp2_with ((refine wpList_store_vn rfl 32 _ _ rfl wr.heap.size _ #[.int .u8 0, .string ⟨#[]⟩, .int .i64 0, .int .i64 (ln : Int), .int .i64 (cl : Int)] rfl rfl (Vn.new wr _ _) sizeTok rfl (all5 rfl rfl rfl rfl rfl) ?_; intro w1 HV1 hg1; have hb1 : Below wr.heap.size wr w1 := (jlow _ _).trans (jbelow hg1.out (jlow _ _).size (fun g e => by cases e; exact Nat.le_refl _)); have HTl1 := jhid9 (HTl.out.later hb1); have HB1 := jhid9 (jl9 HBr.out hb1); have HVf1 := jhid9 (W9_vn HB1.out); have k0 := HV1.out.cell 0 _ rfl; clear hg1 hb1))
        exact ⟨⟨p + 1, ln + 1, 1, false, L0, R, by omega, by go_num, by go_num, by go_num, rfl, HLN2, HCN2, HLR, HST2, HTl1.out, by omega, HB1.out⟩, by simp [intOf]; omega⟩
      · have q10 : ((c : Int) == 10) = false := by simp; omega
        have HLN2 : Hid (lnn s (p + 1) = ln) := (HNl.out h10).1
        have HCN2 : Hid (cln s (p + 1) = cl + 1) := (HNl.out h10).2
        cases rm with
        | true =>
          have HST2 : Hid (St s true (p + 1) R E a) := by
            rcases HST.out with ⟨h, _⟩ | ⟨_, e, h1, h2, h3, h4, h⟩
            · cases h
            · have : p < e := by
                rcases Nat.lt_or_ge p e with x | x
                · exact x
                · have : p = e := by omega
                  subst this
                  exact absurd (h4 hlt) (by rw [HCc.out]; exact h10)
              exact .inr ⟨rfl, e, by omega, h2, fun j a b => h3 j (by omega) b, h4, h⟩
          clear HST
          by_cases h35 : c = 35
          · subst h35
            go_wp2_with ((refine wpList_store_vn rfl 32 _ _ rfl wr.heap.size _ #[.int .u8 0, .string ⟨#[]⟩, .int .i64 0, .int .i64 (ln : Int), .int .i64 (cl : Int)] rfl rfl (Vn.new wr _ _) sizeTok rfl (all5 rfl rfl rfl rfl rfl) ?_; intro w1 HV1 hg1; have hb1 : Below wr.heap.size wr w1 := (jlow _ _).trans (jbelow hg1.out (jlow _ _).size (fun g e => by cases e; exact Nat.le_refl _)); have HTl1 := jhid9 (HTl.out.later hb1); have HB1 := jhid9 (jl9 HBr.out hb1); have HVf1 := jhid9 (W9_vn HB1.out); have k0 := HV1.out.cell 0 _ rfl; clear hg1 hb1))
            exact ⟨⟨p + 1, ln, cl + 1, true, L0, R, by omega, by go_num, by go_num, by go_num, rfl, HLN2, HCN2, HLR, HST2, HTl1.out, by omega, HB1.out⟩, by simp [intOf]; omega⟩
          · have q35 : ((c : Int) == 35) = false := by simp; omega
            go_wp2_with ((refine wpList_store_vn rfl 32 _ _ rfl wr.heap.size _ #[.int .u8 0, .string ⟨#[]⟩, .int .i64 0, .int .i64 (ln : Int), .int .i64 (cl : Int)] rfl rfl (Vn.new wr _ _) sizeTok rfl (all5 rfl rfl rfl rfl rfl) ?_; intro w1 HV1 hg1; have hb1 : Below wr.heap.size wr w1 := (jlow _ _).trans (jbelow hg1.out (jlow _ _).size (fun g e => by cases e; exact Nat.le_refl _)); have HTl1 := jhid9 (HTl.out.later hb1); have HB1 := jhid9 (jl9 HBr.out hb1); have HVf1 := jhid9 (W9_vn HB1.out); have k0 := HV1.out.cell 0 _ rfl; clear hg1 hb1))
            exact ⟨⟨p + 1, ln, cl + 1, true, L0, R, by omega, by go_num, by go_num, by go_num, rfl, HLN2, HCN2, HLR, HST2, HTl1.out, by omega, HB1.out⟩, by simp [intOf]; omega⟩
        | false =>
          have hcut : Cuts s p R E a := by
            rcases HST.out with ⟨_, h⟩ | ⟨h, _⟩
            · exact h
            · cases h
          clear HST
          have HOwn : Hid (∀ g, (Value.slice ps L0.length pd).ownBlock = some g → g < wr.heap.size) := fun g hg => (HTl.out.base hg).2
          have hk63 : L0.length + 1 ≤ maxLen := by unfold maxLen; omega
          have HFt : Hid (∀ w' : World, Calls Tryd.prog 28 #[.int .i64 90, .string s, .int .i64 (p : Int)] w' fun r w'' => r = .returned (.agg #[.int .i64 90, .int .i64 (ln : Int), .int .i64 (cl : Int)]) ∧ Below w'.heap.size w' w'') := fun w' => by have h := rfault_any w' s 90 p hs (by omega); rw [HLN.out, HCN.out] at h; exact h
          rcases hcut.inv with ⟨h, _⟩ | ⟨_, hB, h2⟩ | ⟨er, h1, h2, h35, h3, h4, h⟩ | ⟨e, L1, _, hL, hE, hW, hcu, rfl⟩ | ⟨e, L1, _, hL, hE, hW, h16, hcu, rfl⟩ | ⟨e, _, hL, hE, hW, h16, rfl, rfl, rfl⟩ | ⟨e, L1, _, hD, hE, hn, hnl, hcu, rfl⟩ | ⟨e, _, hD, hE, hn, rfl, rfl, rfl⟩ | ⟨e, _, hD, hE, hn, hel, hl2, rfl, rfl, rfl⟩ | ⟨L1, _, hS, hcu, rfl⟩ | ⟨_, hB, h35, hL, hD, hS, rfl, rfl, rfl⟩
          · omega
          · clear hcut
            rw [HCc.out] at hB
            obtain ⟨b1, b2, b3⟩ := blank_cls hB
            have HbL := jhid9 b1
            have HbD := jhid9 b2
            have HbS := jhid9 b3
            have HST2 : Hid (St s false (p + 1) R E a) := .inl ⟨rfl, h2⟩
            have hB2 := isB_iff.1 hB
            have q35 : ((c : Int) == 35) = false := by simp; omega
            clear b1 b2 b3 h2 hB HFt
            rcases hB2 with h | h | h
            · have q32 : ((c : Int) == 32) = true := by simp; omega
              have q32n : ((c : Int) != 32) = false := by simp; omega
              clear h
              go_wp2_with (first
                | (refine wpList_store_vn rfl 32 _ _ rfl wr.heap.size _ #[.int .u8 0, .string ⟨#[]⟩, .int .i64 0, .int .i64 (ln : Int), .int .i64 (cl : Int)] rfl rfl (Vn.new wr _ _) sizeTok rfl (all5 rfl rfl rfl rfl rfl) ?_; intro w1 HV1 hg1; have hb1 : Below wr.heap.size wr w1 := (jlow _ _).trans (jbelow hg1.out (jlow _ _).size (fun g e => by cases e; exact Nat.le_refl _)); have HTl1 := jhid9 (HTl.out.later hb1); have HB1 := jhid9 (jl9 HBr.out hb1); have HVf1 := jhid9 (W9_vn HB1.out); have k0 := HV1.out.cell 0 _ rfl; clear hg1 hb1)
                | (go_at_call 24; refine (HFl.out _ c hc8).mono ?_; rintro r w' ⟨rfl, rfl⟩; rw [HbL.out])
                | (go_at_call 29; refine (HFd.out _ c hc8).mono ?_; rintro r w' ⟨rfl, rfl⟩; rw [HbD.out])
                | (go_at_call 31; refine (HFs.out _ c hc8).mono ?_; rintro r w' ⟨rfl, rfl⟩; rw [HbS.out]))
              exact ⟨⟨p + 1, ln, cl + 1, false, L0, R, by omega, by go_num, by go_num, by go_num, rfl, HLN2, HCN2, HLR, HST2, HTl1.out, by omega, HB1.out⟩, by simp [intOf]; omega⟩
            · have q32 : ((c : Int) == 32) = false := by simp; omega
              have q32n : ((c : Int) != 32) = true := by simp; omega
              have q9 : ((c : Int) == 9) = true := by simp; omega
              have q9n : ((c : Int) != 9) = false := by simp; omega
              clear h
              go_wp2_with (first
                | (refine wpList_store_vn rfl 32 _ _ rfl wr.heap.size _ #[.int .u8 0, .string ⟨#[]⟩, .int .i64 0, .int .i64 (ln : Int), .int .i64 (cl : Int)] rfl rfl (Vn.new wr _ _) sizeTok rfl (all5 rfl rfl rfl rfl rfl) ?_; intro w1 HV1 hg1; have hb1 : Below wr.heap.size wr w1 := (jlow _ _).trans (jbelow hg1.out (jlow _ _).size (fun g e => by cases e; exact Nat.le_refl _)); have HTl1 := jhid9 (HTl.out.later hb1); have HB1 := jhid9 (jl9 HBr.out hb1); have HVf1 := jhid9 (W9_vn HB1.out); have k0 := HV1.out.cell 0 _ rfl; clear hg1 hb1)
                | (go_at_call 24; refine (HFl.out _ c hc8).mono ?_; rintro r w' ⟨rfl, rfl⟩; rw [HbL.out])
                | (go_at_call 29; refine (HFd.out _ c hc8).mono ?_; rintro r w' ⟨rfl, rfl⟩; rw [HbD.out])
                | (go_at_call 31; refine (HFs.out _ c hc8).mono ?_; rintro r w' ⟨rfl, rfl⟩; rw [HbS.out]))
              exact ⟨⟨p + 1, ln, cl + 1, false, L0, R, by omega, by go_num, by go_num, by go_num, rfl, HLN2, HCN2, HLR, HST2, HTl1.out, by omega, HB1.out⟩, by simp [intOf]; omega⟩
            · exact absurd h h10
          · clear hcut
            rw [HCc.out] at h35
            have q35 : ((c : Int) == 35) = true := by simp; omega
            obtain ⟨_, b1, b2, b3⟩ := cls_rem
            rw [← h35] at b1 b2 b3
            have HbL := jhid9 b1
            have HbD := jhid9 b2
            have HbS := jhid9 b3
            have HST2 : Hid (St s true (p + 1) R E a) := .inr ⟨rfl, _, by omega, h2, fun j a b => h3 j (by omega) b, h4, h⟩
            clear b1 b2 b3 h1 h2 h35 h3 h4 h HFt
            go_wp2_with (first
              | (refine wpList_store_vn rfl 32 _ _ rfl wr.heap.size _ #[.int .u8 0, .string ⟨#[]⟩, .int .i64 0, .int .i64 (ln : Int), .int .i64 (cl : Int)] rfl rfl (Vn.new wr _ _) sizeTok rfl (all5 rfl rfl rfl rfl rfl) ?_; intro w1 HV1 hg1; have hb1 : Below wr.heap.size wr w1 := (jlow _ _).trans (jbelow hg1.out (jlow _ _).size (fun g e => by cases e; exact Nat.le_refl _)); have HTl1 := jhid9 (HTl.out.later hb1); have HB1 := jhid9 (jl9 HBr.out hb1); have HVf1 := jhid9 (W9_vn HB1.out); have k0 := HV1.out.cell 0 _ rfl; clear hg1 hb1)
              | (go_at_call 24; refine (HFl.out _ c hc8).mono ?_; rintro r w' ⟨rfl, rfl⟩; rw [HbL.out])
              | (go_at_call 29; refine (HFd.out _ c hc8).mono ?_; rintro r w' ⟨rfl, rfl⟩; rw [HbD.out])
              | (go_at_call 31; refine (HFs.out _ c hc8).mono ?_; rintro r w' ⟨rfl, rfl⟩; rw [HbS.out]))
            exact ⟨⟨p + 1, ln, cl + 1, true, L0, R, by omega, by go_num, by go_num, by go_num, rfl, HLN2, HCN2, HLR, HST2, HTl1.out, by omega, HB1.out⟩, by simp [intOf]; omega⟩
          · clear hcut
            rw [HCc.out] at hL
            have HbL := jhid9 hL
            have HEn := jhid9 hE
            have hpe : p < e := hE.more hlt (by rw [HCc.out, hL]; simp)
            have hes := hE.fits
            obtain ⟨d, Hd⟩ : ∃ d, Hid (e - p = d) := ⟨_, rfl⟩
            have ed : (e : Int) - (p : Int) = (d : Int) := by have := Hd.out; omega
            have hd : d ≤ 65536 := by have := Hd.out; omega
            have HLe : Hid (lnn s e = ln) := hE.line.1.trans HLN.out
            have HCe : Hid (cln s e = cl + d) := by show _ = _; rw [hE.line.2, HCN.out, Hd.out]
            have HWx := jhid9 hW
            have q1 : (p : Int) ≤ (e : Int) := by omega
            have q2 : (e : Int) ≤ (s.size : Int) := by omega
            have HST2 : Hid (St s false e L1 E a) := .inl ⟨rfl, hcu⟩
            clear hL hE hW hcu HFt
            go_wp2_with (first
              | (refine wpList_store_vn rfl 32 _ _ rfl wr.heap.size _ #[.int .u8 0, .string ⟨#[]⟩, .int .i64 0, .int .i64 (ln : Int), .int .i64 (cl : Int)] rfl rfl (Vn.new wr _ _) sizeTok rfl (all5 rfl rfl rfl rfl rfl) ?_; intro w1 HV1 hg1; have hb1 : Below wr.heap.size wr w1 := (jlow _ _).trans (jbelow hg1.out (jlow _ _).size (fun g e => by cases e; exact Nat.le_refl _)); have HTl1 := jhid9 (HTl.out.later hb1); have HB1 := jhid9 (jl9 HBr.out hb1); have HVf1 := jhid9 (W9_vn HB1.out); have k0 := HV1.out.cell 0 _ rfl; clear hg1 hb1)
              | (go_at_call 24; refine (HFl.out _ c hc8).mono ?_; rintro r w' ⟨rfl, rfl⟩; rw [HbL.out])
              | (go_at_call 25; refine (rend_any _ s true p e hs HEn).mono ?_; rintro r w' ⟨rfl, rfl⟩))
            refine wp_region_held (S := fun _ => True) (by kernel_rfl) ?_
            change wpAnyH _ _ _ _ _ _ _ _ (World.drew _)
            obtain ⟨W, HW⟩ : ∃ W, Hid (w1.drew = W) := ⟨_, rfl⟩
            rw [HW.out]
            have HBd : Hid (Below w1.heap.size w1 W) := by rw [← HW.out]; exact (Below.refl _ _).drew
            have HVW := jhid9 (HV1.out.later HBd.out)
            have HTW := jhid9 (HTl1.out.later HBd.out)
            have HBW := jhid9 (jl9 HB1.out HBd.out)
            refine wpAnyH_take (i := 0) (v := ?vb0) rfl (by kernel_rfl) (by kernel_rfl) (by kernel_rfl) (fun _ _ _ h => h) (Or.inl ⟨by rfl, ?yb0⟩) trivial ?zb0
            case yb0 => (intro w hSw; (try dsimp only at hSw); go_simp; try with_reducible rfl)
            try simp only [List.getElem_toArray, List.getElem_cons_zero, Act.put, List.setIfInBounds_toArray, List.set_cons_zero, List.set_cons_succ]
            refine wpAnyH_take (i := 1) (v := ?vb1) rfl (by kernel_rfl) (by kernel_rfl) (by kernel_rfl) (fun _ _ _ h => h) (Or.inl ⟨by rfl, ?yb1⟩) trivial ?zb1
            case yb1 => (intro w hSw; (try dsimp only at hSw); go_simp; try with_reducible rfl)
            try simp only [List.getElem_toArray, List.getElem_cons_succ, List.getElem_cons_zero, Act.put, List.setIfInBounds_toArray, List.set_cons_zero, List.set_cons_succ]
            refine wpAnyH_take (i := 2) (v := ?vb2) rfl (by kernel_rfl) (by kernel_rfl) (by kernel_rfl) (fun _ _ _ h => h) (Or.inl ⟨by rfl, ?yb2⟩) trivial ?zb2
            case yb2 => (intro w hSw; (try dsimp only at hSw); go_simp; try with_reducible rfl)
            try simp only [List.getElem_toArray, List.getElem_cons_succ, List.getElem_cons_zero, Act.put, List.setIfInBounds_toArray, List.set_cons_zero, List.set_cons_succ]
            refine wpAnyH_take (i := 3) (v := ?vb3) rfl (by kernel_rfl) (by kernel_rfl) (by kernel_rfl) (fun _ _ _ h => h) (Or.inl ⟨by rfl, ?yb3⟩) trivial ?zb3
            case yb3 => (intro w hSw; (try dsimp only at hSw); go_simp; try with_reducible rfl)
            try simp only [List.getElem_toArray, List.getElem_cons_succ, List.getElem_cons_zero, Act.put, List.setIfInBounds_toArray, List.set_cons_zero, List.set_cons_succ]
            refine wpAnyH_take (i := 4) (v := ?vb4) rfl (by kernel_rfl) (by kernel_rfl) (by kernel_rfl) (fun _ _ _ h => h) (Or.inl ⟨by rfl, ?yb4⟩) trivial ?zb4
            case yb4 => (intro w hSw; (try dsimp only at hSw); go_simp; try with_reducible rfl)
            try simp only [List.getElem_toArray, List.getElem_cons_succ, List.getElem_cons_zero, Act.put, List.setIfInBounds_toArray, List.set_cons_zero, List.set_cons_succ]
            refine wpAnyH_ready (rs := [5]) (by kernel_rfl) (by simp) ?_
            refine AllReadyH.cons rfl (fun KK hKK => ?_) AllReadyH.nil
            refine wp_store_one 30 _ _ rfl wr.heap.size 0 32 _ (.int .u8 1) rfl rfl sizeKind rfl rfl HVW.out (by simp) ?_
            intro W2 hvW2 hgW2
            have HV2 : Hid (Vn W2 wr.heap.size 32 #[.int .u8 1, .string ⟨#[]⟩, .int .i64 0, .int .i64 (ln : Int), .int .i64 (cl : Int)]) := hvW2
            have HTW2 := jhid9 (HTW.out.kept hgW2.out (own_lt HOwn.out))
            have HBW2 := jhid9 (jb9 HBW.out hgW2.out hsz)
            refine hKK.out _ _ trivial (fun _ => ?_)
            clear hKK KK hvW2 hgW2
            try simp only [List.getElem_toArray, List.getElem_cons_succ, List.getElem_cons_zero, Act.put]
            refine wpAnyH_take (i := 6) (v := ?vb6) rfl (by kernel_rfl) (by kernel_rfl) (by kernel_rfl) (fun _ _ _ h => h) (Or.inl ⟨by rfl, ?yb6⟩) trivial ?zb6
            case yb6 => (intro w hSw; (try dsimp only at hSw); go_simp; try with_reducible rfl)
            try simp only [List.getElem_toArray, List.getElem_cons_succ, List.getElem_cons_zero, Act.put, List.setIfInBounds_toArray, List.set_cons_zero, List.set_cons_succ]
            refine wpAnyH_ready (rs := [7]) (by kernel_rfl) (by simp) ?_
            refine AllReadyH.cons rfl (fun KK hKK => ?_) AllReadyH.nil
            refine wp_store_one 9 _ _ rfl wr.heap.size 1 32 _ (.string (s.extract p e)) rfl rfl sizeStr rfl rfl HV2.out (by simp) ?_
            intro W3 hvW3 hgW3
            have HV3 : Hid (Vn W3 wr.heap.size 32 #[.int .u8 1, .string (s.extract p e), .int .i64 0, .int .i64 (ln : Int), .int .i64 (cl : Int)]) := hvW3
            have HTW3 := jhid9 (HTW2.out.kept hgW3.out (own_lt HOwn.out))
            have HBW3 := jhid9 (jb9 HBW2.out hgW3.out hsz)
            refine hKK.out _ _ trivial (fun _ => ?_)
            clear hKK KK hvW3 hgW3
            try simp only [List.getElem_toArray, List.getElem_cons_succ, List.getElem_cons_zero, Act.put]
            refine wpAnyH_done (by kernel_rfl) ?_ _
            have k1 := HV3.out.cell 1 _ rfl
            go_wp2_with (first
              | (go_at_call 26; refine (rword_any _ (s.extract p e)).mono ?_; rintro r w4 ⟨rfl, hb4⟩; rw [HWx.out]; have HVw4 := jhid9 (HV3.out.later hb4); have HTw4 := jhid9 (HTW3.out.later hb4); have HBw4 := jhid9 (jl9 HBW3.out hb4); have k1 := HVw4.out.cell 1 _ rfl; clear hb4)
              | (refine wpList_store_one rfl 30 _ _ rfl wr.heap.size 0 32 _ (.int .u8 2) rfl rfl sizeKind rfl rfl HVw4.out (by simp) ?_; intro w5 hv5 hg5; have HVw5 : Hid (Vn w5 wr.heap.size 32 #[.int .u8 2, .string (s.extract p e), .int .i64 0, .int .i64 (ln : Int), .int .i64 (cl : Int)]) := hv5; have HTw5 := jhid9 (HTw4.out.kept hg5.out (own_lt HOwn.out)); have HBw5 := jhid9 (jb9 HBw4.out hg5.out hsz); have k0 := HVw5.out.cell 0 _ rfl; have k1 := HVw5.out.cell 1 _ rfl; have k2 := HVw5.out.cell 2 _ rfl; have k3 := HVw5.out.cell 3 _ rfl; have k4 := HVw5.out.cell 4 _ rfl; clear hv5 hg5)
              | (at_builtin; refine wpList_append_own _ rfl _ _ 22 rfl (w.heap.size + 1) 32 i0 (.agg #[.int .u8 0, .string ⟨#[]⟩, .int .i64 0, .int .i64 0, .int .i64 0]) 5 48 Tryd.underlying22 hi0 hz0 hz1 hz2 rfl (by decide) _ L0.length _ rfl (HTw5.out.later (jlow _ _)) ⟨w5.heap.size, 0, none⟩ 1 1 [.int .u8 2, .string (s.extract p e), .int .i64 0, .int .i64 (ln : Int), .int .i64 (cl : Int)] rfl rfl (five_new _ _ _) (by intro u hu; simp at hu; rcases hu with rfl | rfl | rfl | rfl | rfl <;> rfl) hk63 (by omega) (by have := js9 HBw5.out; simp; omega) ?_; intro v' w6 hown' hgrow' _; have HT6 : Hid (Tls w6 (w.heap.size + 1) v' s (L0 ++ [⟨2, p, e, 0⟩])) := Tls.push (tcs_eq rfl HLN.out HCN.out) rfl hown'; have HB6 : Hid (Below (w.heap.size + 1) (W9 w) w6) := (jl9 HBw5.out (jlow _ _)).trans (jbelow hgrow' (by have := js9 HBw5.out; simp; omega) (fun g hg => (HTw5.out.base hg).1)); clear hown' hgrow'))
            exact ⟨⟨e, ln, cl + d, false, L0 ++ [⟨2, p, e, 0⟩], L1, by omega, by go_num, by go_num, by go_num, rfl, HLe, HCe, by show L = _; rw [HLR.out]; simp, HST2, HT6.out, by simp; omega, HB6.out⟩, by simp [intOf]; omega⟩
          · clear hcut
            rw [HCc.out] at hL
            have HbL := jhid9 hL
            have HEn := jhid9 hE
            have hpe : p < e := hE.more hlt (by rw [HCc.out, hL]; simp)
            have hes := hE.fits
            obtain ⟨d, Hd⟩ : ∃ d, Hid (e - p = d) := ⟨_, rfl⟩
            have ed : (e : Int) - (p : Int) = (d : Int) := by have := Hd.out; omega
            have hd : d ≤ 65536 := by have := Hd.out; omega
            have HLe : Hid (lnn s e = ln) := hE.line.1.trans HLN.out
            have HCe : Hid (cln s e = cl + d) := by show _ = _; rw [hE.line.2, HCN.out, Hd.out]
            have HWx := jhid9 hW
            have q1 : (p : Int) ≤ (e : Int) := by omega
            have q2 : (e : Int) ≤ (s.size : Int) := by omega
            have hxs : (s.extract p e).size = d := by rw [size_extract hes, Hd.out]
            have HST2 : Hid (St s false e L1 E a) := .inl ⟨rfl, hcu⟩
            have HNx : Hid (isN (s.extract p e) = true) := isN_iff.2 (name_of hE hes hpe hL HCc.out h16 hW rfl)
            clear hL hE hW hcu HFt h16
            go_wp2_with (first
              | (refine wpList_store_vn rfl 32 _ _ rfl wr.heap.size _ #[.int .u8 0, .string ⟨#[]⟩, .int .i64 0, .int .i64 (ln : Int), .int .i64 (cl : Int)] rfl rfl (Vn.new wr _ _) sizeTok rfl (all5 rfl rfl rfl rfl rfl) ?_; intro w1 HV1 hg1; have hb1 : Below wr.heap.size wr w1 := (jlow _ _).trans (jbelow hg1.out (jlow _ _).size (fun g e => by cases e; exact Nat.le_refl _)); have HTl1 := jhid9 (HTl.out.later hb1); have HB1 := jhid9 (jl9 HBr.out hb1); have HVf1 := jhid9 (W9_vn HB1.out); have k0 := HV1.out.cell 0 _ rfl; clear hg1 hb1)
              | (go_at_call 24; refine (HFl.out _ c hc8).mono ?_; rintro r w' ⟨rfl, rfl⟩; rw [HbL.out])
              | (go_at_call 25; refine (rend_any _ s true p e hs HEn).mono ?_; rintro r w' ⟨rfl, rfl⟩))
            refine wp_region_held (S := fun _ => True) (by kernel_rfl) ?_
            change wpAnyH _ _ _ _ _ _ _ _ (World.drew _)
            obtain ⟨W, HW⟩ : ∃ W, Hid (w1.drew = W) := ⟨_, rfl⟩
            rw [HW.out]
            have HBd : Hid (Below w1.heap.size w1 W) := by rw [← HW.out]; exact (Below.refl _ _).drew
            have HVW := jhid9 (HV1.out.later HBd.out)
            have HTW := jhid9 (HTl1.out.later HBd.out)
            have HBW := jhid9 (jl9 HB1.out HBd.out)
            refine wpAnyH_take (i := 0) (v := ?vc0) rfl (by kernel_rfl) (by kernel_rfl) (by kernel_rfl) (fun _ _ _ h => h) (Or.inl ⟨by rfl, ?yc0⟩) trivial ?zc0
            case yc0 => (intro w hSw; (try dsimp only at hSw); go_simp; try with_reducible rfl)
            try simp only [List.getElem_toArray, List.getElem_cons_zero, Act.put, List.setIfInBounds_toArray, List.set_cons_zero, List.set_cons_succ]
            refine wpAnyH_take (i := 1) (v := ?vc1) rfl (by kernel_rfl) (by kernel_rfl) (by kernel_rfl) (fun _ _ _ h => h) (Or.inl ⟨by rfl, ?yc1⟩) trivial ?zc1
            case yc1 => (intro w hSw; (try dsimp only at hSw); go_simp; try with_reducible rfl)
            try simp only [List.getElem_toArray, List.getElem_cons_succ, List.getElem_cons_zero, Act.put, List.setIfInBounds_toArray, List.set_cons_zero, List.set_cons_succ]
            refine wpAnyH_take (i := 2) (v := ?vc2) rfl (by kernel_rfl) (by kernel_rfl) (by kernel_rfl) (fun _ _ _ h => h) (Or.inl ⟨by rfl, ?yc2⟩) trivial ?zc2
            case yc2 => (intro w hSw; (try dsimp only at hSw); go_simp; try with_reducible rfl)
            try simp only [List.getElem_toArray, List.getElem_cons_succ, List.getElem_cons_zero, Act.put, List.setIfInBounds_toArray, List.set_cons_zero, List.set_cons_succ]
            refine wpAnyH_take (i := 3) (v := ?vc3) rfl (by kernel_rfl) (by kernel_rfl) (by kernel_rfl) (fun _ _ _ h => h) (Or.inl ⟨by rfl, ?yc3⟩) trivial ?zc3
            case yc3 => (intro w hSw; (try dsimp only at hSw); go_simp; try with_reducible rfl)
            try simp only [List.getElem_toArray, List.getElem_cons_succ, List.getElem_cons_zero, Act.put, List.setIfInBounds_toArray, List.set_cons_zero, List.set_cons_succ]
            refine wpAnyH_take (i := 4) (v := ?vc4) rfl (by kernel_rfl) (by kernel_rfl) (by kernel_rfl) (fun _ _ _ h => h) (Or.inl ⟨by rfl, ?yc4⟩) trivial ?zc4
            case yc4 => (intro w hSw; (try dsimp only at hSw); go_simp; try with_reducible rfl)
            try simp only [List.getElem_toArray, List.getElem_cons_succ, List.getElem_cons_zero, Act.put, List.setIfInBounds_toArray, List.set_cons_zero, List.set_cons_succ]
            refine wpAnyH_ready (rs := [5]) (by kernel_rfl) (by simp) ?_
            refine AllReadyH.cons rfl (fun KK hKK => ?_) AllReadyH.nil
            refine wp_store_one 30 _ _ rfl wr.heap.size 0 32 _ (.int .u8 1) rfl rfl sizeKind rfl rfl HVW.out (by simp) ?_
            intro W2 hvW2 hgW2
            have HV2 : Hid (Vn W2 wr.heap.size 32 #[.int .u8 1, .string ⟨#[]⟩, .int .i64 0, .int .i64 (ln : Int), .int .i64 (cl : Int)]) := hvW2
            have HTW2 := jhid9 (HTW.out.kept hgW2.out (own_lt HOwn.out))
            have HBW2 := jhid9 (jb9 HBW.out hgW2.out hsz)
            refine hKK.out _ _ trivial (fun _ => ?_)
            clear hKK KK hvW2 hgW2
            try simp only [List.getElem_toArray, List.getElem_cons_succ, List.getElem_cons_zero, Act.put]
            refine wpAnyH_take (i := 6) (v := ?vc6) rfl (by kernel_rfl) (by kernel_rfl) (by kernel_rfl) (fun _ _ _ h => h) (Or.inl ⟨by rfl, ?yc6⟩) trivial ?zc6
            case yc6 => (intro w hSw; (try dsimp only at hSw); go_simp; try with_reducible rfl)
            try simp only [List.getElem_toArray, List.getElem_cons_succ, List.getElem_cons_zero, Act.put, List.setIfInBounds_toArray, List.set_cons_zero, List.set_cons_succ]
            refine wpAnyH_ready (rs := [7]) (by kernel_rfl) (by simp) ?_
            refine AllReadyH.cons rfl (fun KK hKK => ?_) AllReadyH.nil
            refine wp_store_one 9 _ _ rfl wr.heap.size 1 32 _ (.string (s.extract p e)) rfl rfl sizeStr rfl rfl HV2.out (by simp) ?_
            intro W3 hvW3 hgW3
            have HV3 : Hid (Vn W3 wr.heap.size 32 #[.int .u8 1, .string (s.extract p e), .int .i64 0, .int .i64 (ln : Int), .int .i64 (cl : Int)]) := hvW3
            have HTW3 := jhid9 (HTW2.out.kept hgW3.out (own_lt HOwn.out))
            have HBW3 := jhid9 (jb9 HBW2.out hgW3.out hsz)
            refine hKK.out _ _ trivial (fun _ => ?_)
            clear hKK KK hvW3 hgW3
            try simp only [List.getElem_toArray, List.getElem_cons_succ, List.getElem_cons_zero, Act.put]
            refine wpAnyH_done (by kernel_rfl) ?_ _
            have k1 := HV3.out.cell 1 _ rfl
            go_wp2_with (first
              | (go_at_call 26; refine (rword_any _ (s.extract p e)).mono ?_; rintro r w4 ⟨rfl, hb4⟩; rw [HWx.out]; have HVw4 := jhid9 (HV3.out.later hb4); have HTw4 := jhid9 (HTW3.out.later hb4); have HBw4 := jhid9 (jl9 HBW3.out hb4); have k1 := HVw4.out.cell 1 _ rfl; clear hb4)
              | (go_at_call 27; refine (rname_any _ (s.extract p e) d hxs (by omega)).mono ?_; rintro r w5 ⟨rfl, hb5⟩; rw [HNx.out]; have HVw5 := jhid9 (HVw4.out.later hb5); have HTw5 := jhid9 (HTw4.out.later hb5); have HBw5 := jhid9 (jl9 HBw4.out hb5); have k0 := HVw5.out.cell 0 _ rfl; have k1 := HVw5.out.cell 1 _ rfl; have k2 := HVw5.out.cell 2 _ rfl; have k3 := HVw5.out.cell 3 _ rfl; have k4 := HVw5.out.cell 4 _ rfl; clear hb5)
              | (at_builtin; refine wpList_append_own _ rfl _ _ 22 rfl (w.heap.size + 1) 32 i0 (.agg #[.int .u8 0, .string ⟨#[]⟩, .int .i64 0, .int .i64 0, .int .i64 0]) 5 48 Tryd.underlying22 hi0 hz0 hz1 hz2 rfl (by decide) _ L0.length _ rfl (HTw5.out.later (jlow _ _)) ⟨w5.heap.size, 0, none⟩ 1 1 [.int .u8 1, .string (s.extract p e), .int .i64 0, .int .i64 (ln : Int), .int .i64 (cl : Int)] rfl rfl (five_new _ _ _) (by intro u hu; simp at hu; rcases hu with rfl | rfl | rfl | rfl | rfl <;> rfl) hk63 (by omega) (by have := js9 HBw5.out; simp; omega) ?_; intro v' w6 hown' hgrow' _; have HT6 : Hid (Tls w6 (w.heap.size + 1) v' s (L0 ++ [⟨1, p, e, 0⟩])) := Tls.push (tcs_eq rfl HLN.out HCN.out) rfl hown'; have HB6 : Hid (Below (w.heap.size + 1) (W9 w) w6) := (jl9 HBw5.out (jlow _ _)).trans (jbelow hgrow' (by have := js9 HBw5.out; simp; omega) (fun g hg => (HTw5.out.base hg).1)); clear hown' hgrow'))
            exact ⟨⟨e, ln, cl + d, false, L0 ++ [⟨1, p, e, 0⟩], L1, by omega, by go_num, by go_num, by go_num, rfl, HLe, HCe, by show L = _; rw [HLR.out]; simp, HST2, HT6.out, by simp; omega, HB6.out⟩, by simp [intOf]; omega⟩
          · clear hcut
            rw [HCc.out] at hL
            have HbL := jhid9 hL
            have HEn := jhid9 hE
            have hpe : p < e := hE.more hlt (by rw [HCc.out, hL]; simp)
            have hes := hE.fits
            obtain ⟨d, Hd⟩ : ∃ d, Hid (e - p = d) := ⟨_, rfl⟩
            have ed : (e : Int) - (p : Int) = (d : Int) := by have := Hd.out; omega
            have hd : d ≤ 65536 := by have := Hd.out; omega
            have HLe : Hid (lnn s e = ln) := hE.line.1.trans HLN.out
            have HCe : Hid (cln s e = cl + d) := by show _ = _; rw [hE.line.2, HCN.out, Hd.out]
            have HWx := jhid9 hW
            have q1 : (p : Int) ≤ (e : Int) := by omega
            have q2 : (e : Int) ≤ (s.size : Int) := by omega
            have hxs : (s.extract p e).size = d := by rw [size_extract hes, Hd.out]
            have HNx : Hid (isN (s.extract p e) = false) := isN_not (fun h => by have := h.most; rw [hxs] at this; have := Hd.out; omega)
            clear hL hE hW h16
            go_wp2_with (first
              | (refine wpList_store_vn rfl 32 _ _ rfl wr.heap.size _ #[.int .u8 0, .string ⟨#[]⟩, .int .i64 0, .int .i64 (ln : Int), .int .i64 (cl : Int)] rfl rfl (Vn.new wr _ _) sizeTok rfl (all5 rfl rfl rfl rfl rfl) ?_; intro w1 HV1 hg1; have hb1 : Below wr.heap.size wr w1 := (jlow _ _).trans (jbelow hg1.out (jlow _ _).size (fun g e => by cases e; exact Nat.le_refl _)); have HTl1 := jhid9 (HTl.out.later hb1); have HB1 := jhid9 (jl9 HBr.out hb1); have HVf1 := jhid9 (W9_vn HB1.out); have k0 := HV1.out.cell 0 _ rfl; clear hg1 hb1)
              | (go_at_call 24; refine (HFl.out _ c hc8).mono ?_; rintro r w' ⟨rfl, rfl⟩; rw [HbL.out])
              | (go_at_call 25; refine (rend_any _ s true p e hs HEn).mono ?_; rintro r w' ⟨rfl, rfl⟩))
            refine wp_region_held (S := fun _ => True) (by kernel_rfl) ?_
            change wpAnyH _ _ _ _ _ _ _ _ (World.drew _)
            obtain ⟨W, HW⟩ : ∃ W, Hid (w1.drew = W) := ⟨_, rfl⟩
            rw [HW.out]
            have HBd : Hid (Below w1.heap.size w1 W) := by rw [← HW.out]; exact (Below.refl _ _).drew
            have HVW := jhid9 (HV1.out.later HBd.out)
            have HTW := jhid9 (HTl1.out.later HBd.out)
            have HBW := jhid9 (jl9 HB1.out HBd.out)
            refine wpAnyH_take (i := 0) (v := ?vd0) rfl (by kernel_rfl) (by kernel_rfl) (by kernel_rfl) (fun _ _ _ h => h) (Or.inl ⟨by rfl, ?yd0⟩) trivial ?zd0
            case yd0 => (intro w hSw; (try dsimp only at hSw); go_simp; try with_reducible rfl)
            try simp only [List.getElem_toArray, List.getElem_cons_zero, Act.put, List.setIfInBounds_toArray, List.set_cons_zero, List.set_cons_succ]
            refine wpAnyH_take (i := 1) (v := ?vd1) rfl (by kernel_rfl) (by kernel_rfl) (by kernel_rfl) (fun _ _ _ h => h) (Or.inl ⟨by rfl, ?yd1⟩) trivial ?zd1
            case yd1 => (intro w hSw; (try dsimp only at hSw); go_simp; try with_reducible rfl)
            try simp only [List.getElem_toArray, List.getElem_cons_succ, List.getElem_cons_zero, Act.put, List.setIfInBounds_toArray, List.set_cons_zero, List.set_cons_succ]
            refine wpAnyH_take (i := 2) (v := ?vd2) rfl (by kernel_rfl) (by kernel_rfl) (by kernel_rfl) (fun _ _ _ h => h) (Or.inl ⟨by rfl, ?yd2⟩) trivial ?zd2
            case yd2 => (intro w hSw; (try dsimp only at hSw); go_simp; try with_reducible rfl)
            try simp only [List.getElem_toArray, List.getElem_cons_succ, List.getElem_cons_zero, Act.put, List.setIfInBounds_toArray, List.set_cons_zero, List.set_cons_succ]
            refine wpAnyH_take (i := 3) (v := ?vd3) rfl (by kernel_rfl) (by kernel_rfl) (by kernel_rfl) (fun _ _ _ h => h) (Or.inl ⟨by rfl, ?yd3⟩) trivial ?zd3
            case yd3 => (intro w hSw; (try dsimp only at hSw); go_simp; try with_reducible rfl)
            try simp only [List.getElem_toArray, List.getElem_cons_succ, List.getElem_cons_zero, Act.put, List.setIfInBounds_toArray, List.set_cons_zero, List.set_cons_succ]
            refine wpAnyH_take (i := 4) (v := ?vd4) rfl (by kernel_rfl) (by kernel_rfl) (by kernel_rfl) (fun _ _ _ h => h) (Or.inl ⟨by rfl, ?yd4⟩) trivial ?zd4
            case yd4 => (intro w hSw; (try dsimp only at hSw); go_simp; try with_reducible rfl)
            try simp only [List.getElem_toArray, List.getElem_cons_succ, List.getElem_cons_zero, Act.put, List.setIfInBounds_toArray, List.set_cons_zero, List.set_cons_succ]
            refine wpAnyH_ready (rs := [5]) (by kernel_rfl) (by simp) ?_
            refine AllReadyH.cons rfl (fun KK hKK => ?_) AllReadyH.nil
            refine wp_store_one 30 _ _ rfl wr.heap.size 0 32 _ (.int .u8 1) rfl rfl sizeKind rfl rfl HVW.out (by simp) ?_
            intro W2 hvW2 hgW2
            have HV2 : Hid (Vn W2 wr.heap.size 32 #[.int .u8 1, .string ⟨#[]⟩, .int .i64 0, .int .i64 (ln : Int), .int .i64 (cl : Int)]) := hvW2
            have HTW2 := jhid9 (HTW.out.kept hgW2.out (own_lt HOwn.out))
            have HBW2 := jhid9 (jb9 HBW.out hgW2.out hsz)
            refine hKK.out _ _ trivial (fun _ => ?_)
            clear hKK KK hvW2 hgW2
            try simp only [List.getElem_toArray, List.getElem_cons_succ, List.getElem_cons_zero, Act.put]
            refine wpAnyH_take (i := 6) (v := ?vd6) rfl (by kernel_rfl) (by kernel_rfl) (by kernel_rfl) (fun _ _ _ h => h) (Or.inl ⟨by rfl, ?yd6⟩) trivial ?zd6
            case yd6 => (intro w hSw; (try dsimp only at hSw); go_simp; try with_reducible rfl)
            try simp only [List.getElem_toArray, List.getElem_cons_succ, List.getElem_cons_zero, Act.put, List.setIfInBounds_toArray, List.set_cons_zero, List.set_cons_succ]
            refine wpAnyH_ready (rs := [7]) (by kernel_rfl) (by simp) ?_
            refine AllReadyH.cons rfl (fun KK hKK => ?_) AllReadyH.nil
            refine wp_store_one 9 _ _ rfl wr.heap.size 1 32 _ (.string (s.extract p e)) rfl rfl sizeStr rfl rfl HV2.out (by simp) ?_
            intro W3 hvW3 hgW3
            have HV3 : Hid (Vn W3 wr.heap.size 32 #[.int .u8 1, .string (s.extract p e), .int .i64 0, .int .i64 (ln : Int), .int .i64 (cl : Int)]) := hvW3
            have HTW3 := jhid9 (HTW2.out.kept hgW3.out (own_lt HOwn.out))
            have HBW3 := jhid9 (jb9 HBW2.out hgW3.out hsz)
            refine hKK.out _ _ trivial (fun _ => ?_)
            clear hKK KK hvW3 hgW3
            try simp only [List.getElem_toArray, List.getElem_cons_succ, List.getElem_cons_zero, Act.put]
            refine wpAnyH_done (by kernel_rfl) ?_ _
            have k1 := HV3.out.cell 1 _ rfl
            go_wp2_with (first
              | (go_at_call 26; refine (rword_any _ (s.extract p e)).mono ?_; rintro r w4 ⟨rfl, hb4⟩; rw [HWx.out]; have HVw4 := jhid9 (HV3.out.later hb4); have HTw4 := jhid9 (HTW3.out.later hb4); have HBw4 := jhid9 (jl9 HBW3.out hb4); have k1 := HVw4.out.cell 1 _ rfl; clear hb4)
              | (go_at_call 27; refine (rname_any _ (s.extract p e) d hxs (by omega)).mono ?_; rintro r w5 ⟨rfl, hb5⟩; rw [HNx.out]; have HVw5 := jhid9 (HVw4.out.later hb5); have HTw5 := jhid9 (HTw4.out.later hb5); have HBw5 := jhid9 (jl9 HBw4.out hb5); have k0 := HVw5.out.cell 0 _ rfl; have k1 := HVw5.out.cell 1 _ rfl; have k2 := HVw5.out.cell 2 _ rfl; have k3 := HVw5.out.cell 3 _ rfl; have k4 := HVw5.out.cell 4 _ rfl; clear hb5)
              | (go_at_call 28; refine (HFt.out _).mono ?_; rintro r w7 ⟨rfl, hb7⟩; have HB7 := jhid9 (jl9 HBw5.out hb7); have HVf7 := jhid9 (W9_vn HB7.out); clear hb7)
              | (refine wpList_store_vn rfl 25 _ _ rfl w.heap.size _ #[.int .i64 90, .int .i64 (ln : Int), .int .i64 (cl : Int)] rfl rfl HVf7.out sizeFau rfl (all3 rfl rfl rfl) ?_; intro w8 HV8 hg8))
            have d0 := HV8.out.cell 0 _ rfl
            have d1 := HV8.out.cell 1 _ rfl
            have d2 := HV8.out.cell 2 _ rfl
            refine bodyPost_ret (v := .tuple #[.slice none 0 0, .agg #[.int .i64 90, .int .i64 (ln : Int), .int .i64 (cl : Int)]]) (by simp [results, Tryd.results6, go_sem, d0, d1, d2]) rfl ?_
            refine ⟨_, ?_, fun h => absurd h (by decide), fun _ => rfl, (W9_fin HB7.out).trans (jbelow hg8.out (by have := js9 HB7.out; omega) (fun g e => by cases e; exact Nat.le_refl _))⟩
            rw [HLN.out, HCN.out]
            rfl
          · clear hcut
            rw [HCc.out] at hD
            have HbD := jhid9 hD
            have HbL := jhid9 (digit_cls hD).2
            have HEn := jhid9 hE
            have hpe : p < e := hE.more hlt (by rw [HCc.out, hD]; rfl)
            have hes := hE.fits
            obtain ⟨d, Hd⟩ : ∃ d, Hid (e - p = d) := ⟨_, rfl⟩
            have ed : (e : Int) - (p : Int) = (d : Int) := by have := Hd.out; omega
            have hd : d ≤ 65536 := by have := Hd.out; omega
            have hd1 : 1 ≤ d := by have := Hd.out; omega
            have hxs : (s.extract p e).size = d := by rw [size_extract hes, Hd.out]
            have HLe : Hid (lnn s e = ln) := hE.line.1.trans HLN.out
            have HCe : Hid (cln s e = cl + d) := by show _ = _; rw [hE.line.2, HCN.out, Hd.out]
            have HDx : Hid (∀ j, j < d → isD (tb (s.extract p e) j) = true) := fun j hj => by rw [tb_extract (by have := Hd.out; omega) hes]; have := hE.all (p + j) (by omega) (by have := Hd.out; omega); simpa using this
            have q1 : (p : Int) ≤ (e : Int) := by omega
            have q2 : (e : Int) ≤ (s.size : Int) := by omega
            obtain ⟨v, HV⟩ : ∃ v, Hid (nvl s p (e - p) = v) := ⟨_, rfl⟩
            have hv : v ≤ 2147483647 := by rw [← HV.out]; exact hn.2
            have HNc : Hid (∀ w' : World, Calls Tryd.prog 30 #[.string (s.extract p e)] w' fun r w'' => r = .returned (.int .i64 (((v : Nat) : Int))) ∧ w' = w'') := fun w' => rnumber_any w' (s.extract p e) d (((v : Nat) : Int)) hxs hd1 hd HDx (.inl ⟨by rw [← Hd.out]; exact (NumOk.extract hes hpe).2 hn, by rw [← HV.out, ← Hd.out, nvl_extract hes _ (by omega)]⟩)
            have q3 : decide ((v : Int) < 0) = false := decide_eq_false (by omega)
            rw [HV.out] at HLR
            have HST2 : Hid (St s false e L1 E a) := .inl ⟨rfl, hcu⟩
            clear hD hE hcu HFt
            by_cases hel : e < s.size
            · obtain ⟨c2, HC2⟩ : ∃ c2, Hid (tb s e = c2) := ⟨_, rfl⟩
              have hc2 : s[e].toNat = c2 := by rw [← HC2.out]; exact tb_at hel
              have hc28 : c2 < 256 := by rw [← HC2.out]; exact tb_lt s e
              have HbL2 : Hid (isL c2 = false) := by rw [← HC2.out]; exact hnl hel
              clear hnl hn
              go_wp2_with (first
                | (refine wpList_store_vn rfl 32 _ _ rfl wr.heap.size _ #[.int .u8 0, .string ⟨#[]⟩, .int .i64 0, .int .i64 (ln : Int), .int .i64 (cl : Int)] rfl rfl (Vn.new wr _ _) sizeTok rfl (all5 rfl rfl rfl rfl rfl) ?_; intro w1 HV1 hg1; have hb1 : Below wr.heap.size wr w1 := (jlow _ _).trans (jbelow hg1.out (jlow _ _).size (fun g e => by cases e; exact Nat.le_refl _)); have HTl1 := jhid9 (HTl.out.later hb1); have HB1 := jhid9 (jl9 HBr.out hb1); have HVf1 := jhid9 (W9_vn HB1.out); have k0 := HV1.out.cell 0 _ rfl; clear hg1 hb1)
                | (go_at_call 24; have _x := HVw5; refine (HFl.out _ c2 hc28).mono ?_; rintro r w' ⟨rfl, rfl⟩; rw [HbL2.out])
                | (go_at_call 24; refine (HFl.out _ c hc8).mono ?_; rintro r w' ⟨rfl, rfl⟩; rw [HbL.out])
                | (go_at_call 29; refine (HFd.out _ c hc8).mono ?_; rintro r w' ⟨rfl, rfl⟩; rw [HbD.out])
                | (go_at_call 25; refine (rend_any _ s false p e hs HEn).mono ?_; rintro r w' ⟨rfl, rfl⟩)
                | (go_at_call 30; refine (HNc.out _).mono ?_; rintro r w' ⟨rfl, rfl⟩)
                | (refine wpList_store_one rfl 30 _ _ rfl wr.heap.size 0 32 _ (.int .u8 3) rfl rfl sizeKind rfl rfl HV1.out (by simp) ?_; intro w4 hv4 hg4; have HVw4 : Hid (Vn w4 wr.heap.size 32 #[.int .u8 3, .string ⟨#[]⟩, .int .i64 0, .int .i64 (ln : Int), .int .i64 (cl : Int)]) := hv4; have HTw4 := jhid9 (HTl1.out.kept hg4.out (own_lt HOwn.out)); have HBw4 := jhid9 (jb9 HB1.out hg4.out hsz); clear hv4 hg4)
                | (refine wpList_store_one rfl 3 _ _ rfl wr.heap.size 2 32 _ (.int .i64 ((v : Int))) rfl rfl sizeInt rfl rfl HVw4.out (by simp) ?_; intro w5 hv5 hg5; have HVw5 : Hid (Vn w5 wr.heap.size 32 #[.int .u8 3, .string ⟨#[]⟩, .int .i64 ((v : Int)), .int .i64 (ln : Int), .int .i64 (cl : Int)]) := hv5; have HTw5 := jhid9 (HTw4.out.kept hg5.out (own_lt HOwn.out)); have HBw5 := jhid9 (jb9 HBw4.out hg5.out hsz); have k0 := HVw5.out.cell 0 _ rfl; have k1 := HVw5.out.cell 1 _ rfl; have k2 := HVw5.out.cell 2 _ rfl; have k3 := HVw5.out.cell 3 _ rfl; have k4 := HVw5.out.cell 4 _ rfl; clear hv5 hg5)
                | (at_builtin; refine wpList_append_own _ rfl _ _ 22 rfl (w.heap.size + 1) 32 i0 (.agg #[.int .u8 0, .string ⟨#[]⟩, .int .i64 0, .int .i64 0, .int .i64 0]) 5 48 Tryd.underlying22 hi0 hz0 hz1 hz2 rfl (by decide) _ L0.length _ rfl (HTw5.out.later (jlow _ _)) ⟨w5.heap.size, 0, none⟩ 1 1 [.int .u8 3, .string ⟨#[]⟩, .int .i64 (v : Int), .int .i64 (ln : Int), .int .i64 (cl : Int)] rfl rfl (five_new _ _ _) (by intro u hu; simp at hu; rcases hu with rfl | rfl | rfl | rfl | rfl <;> rfl) hk63 (by omega) (by have := js9 HBw5.out; simp; omega) ?_; intro v' w6 hown' hgrow' _; have HT6 : Hid (Tls w6 (w.heap.size + 1) v' s (L0 ++ [⟨3, p, e, v⟩])) := Tls.push (tcs_eq rfl HLN.out HCN.out) rfl hown'; have HB6 : Hid (Below (w.heap.size + 1) (W9 w) w6) := (jl9 HBw5.out (jlow _ _)).trans (jbelow hgrow' (by have := js9 HBw5.out; simp; omega) (fun g hg => (HTw5.out.base hg).1)); clear hown' hgrow'))
              exact ⟨⟨e, ln, cl + d, false, L0 ++ [⟨3, p, e, v⟩], L1, by omega, by go_num, by go_num, by go_num, rfl, HLe, HCe, by show L = _; rw [HLR.out]; simp, HST2, HT6.out, by simp; omega, HB6.out⟩, by simp [intOf]; omega⟩
            · have hes2 : e = s.size := by omega
              have q5 : ¬ (e : Int) < (s.size : Int) := by omega
              have HE2 := jhid9 hes2
              clear hnl hn hes2
              go_wp2_with (first
                | (refine wpList_store_vn rfl 32 _ _ rfl wr.heap.size _ #[.int .u8 0, .string ⟨#[]⟩, .int .i64 0, .int .i64 (ln : Int), .int .i64 (cl : Int)] rfl rfl (Vn.new wr _ _) sizeTok rfl (all5 rfl rfl rfl rfl rfl) ?_; intro w1 HV1 hg1; have hb1 : Below wr.heap.size wr w1 := (jlow _ _).trans (jbelow hg1.out (jlow _ _).size (fun g e => by cases e; exact Nat.le_refl _)); have HTl1 := jhid9 (HTl.out.later hb1); have HB1 := jhid9 (jl9 HBr.out hb1); have HVf1 := jhid9 (W9_vn HB1.out); have k0 := HV1.out.cell 0 _ rfl; clear hg1 hb1)
                | (go_at_call 24; refine (HFl.out _ c hc8).mono ?_; rintro r w' ⟨rfl, rfl⟩; rw [HbL.out])
                | (go_at_call 29; refine (HFd.out _ c hc8).mono ?_; rintro r w' ⟨rfl, rfl⟩; rw [HbD.out])
                | (go_at_call 25; refine (rend_any _ s false p e hs HEn).mono ?_; rintro r w' ⟨rfl, rfl⟩)
                | (go_at_call 30; refine (HNc.out _).mono ?_; rintro r w' ⟨rfl, rfl⟩)
                | (refine wpList_store_one rfl 30 _ _ rfl wr.heap.size 0 32 _ (.int .u8 3) rfl rfl sizeKind rfl rfl HV1.out (by simp) ?_; intro w4 hv4 hg4; have HVw4 : Hid (Vn w4 wr.heap.size 32 #[.int .u8 3, .string ⟨#[]⟩, .int .i64 0, .int .i64 (ln : Int), .int .i64 (cl : Int)]) := hv4; have HTw4 := jhid9 (HTl1.out.kept hg4.out (own_lt HOwn.out)); have HBw4 := jhid9 (jb9 HB1.out hg4.out hsz); clear hv4 hg4)
                | (refine wpList_store_one rfl 3 _ _ rfl wr.heap.size 2 32 _ (.int .i64 ((v : Int))) rfl rfl sizeInt rfl rfl HVw4.out (by simp) ?_; intro w5 hv5 hg5; have HVw5 : Hid (Vn w5 wr.heap.size 32 #[.int .u8 3, .string ⟨#[]⟩, .int .i64 ((v : Int)), .int .i64 (ln : Int), .int .i64 (cl : Int)]) := hv5; have HTw5 := jhid9 (HTw4.out.kept hg5.out (own_lt HOwn.out)); have HBw5 := jhid9 (jb9 HBw4.out hg5.out hsz); have k0 := HVw5.out.cell 0 _ rfl; have k1 := HVw5.out.cell 1 _ rfl; have k2 := HVw5.out.cell 2 _ rfl; have k3 := HVw5.out.cell 3 _ rfl; have k4 := HVw5.out.cell 4 _ rfl; clear hv5 hg5)
                | (at_builtin; refine wpList_append_own _ rfl _ _ 22 rfl (w.heap.size + 1) 32 i0 (.agg #[.int .u8 0, .string ⟨#[]⟩, .int .i64 0, .int .i64 0, .int .i64 0]) 5 48 Tryd.underlying22 hi0 hz0 hz1 hz2 rfl (by decide) _ L0.length _ rfl (HTw5.out.later (jlow _ _)) ⟨w5.heap.size, 0, none⟩ 1 1 [.int .u8 3, .string ⟨#[]⟩, .int .i64 (v : Int), .int .i64 (ln : Int), .int .i64 (cl : Int)] rfl rfl (five_new _ _ _) (by intro u hu; simp at hu; rcases hu with rfl | rfl | rfl | rfl | rfl <;> rfl) hk63 (by omega) (by have := js9 HBw5.out; simp; omega) ?_; intro v' w6 hown' hgrow' _; have HT6 : Hid (Tls w6 (w.heap.size + 1) v' s (L0 ++ [⟨3, p, e, v⟩])) := Tls.push (tcs_eq rfl HLN.out HCN.out) rfl hown'; have HB6 : Hid (Below (w.heap.size + 1) (W9 w) w6) := (jl9 HBw5.out (jlow _ _)).trans (jbelow hgrow' (by have := js9 HBw5.out; simp; omega) (fun g hg => (HTw5.out.base hg).1)); clear hown' hgrow'))
              exact ⟨⟨e, ln, cl + d, false, L0 ++ [⟨3, p, e, v⟩], L1, by omega, by go_num, by go_num, by go_num, rfl, HLe, HCe, by show L = _; rw [HLR.out]; simp, HST2, HT6.out, by simp; omega, HB6.out⟩, by simp [intOf]; omega⟩
          · clear hcut
            rw [HCc.out] at hD
            have HbD := jhid9 hD
            have HbL := jhid9 (digit_cls hD).2
            have HEn := jhid9 hE
            have hpe : p < e := hE.more hlt (by rw [HCc.out, hD]; rfl)
            have hes := hE.fits
            obtain ⟨d, Hd⟩ : ∃ d, Hid (e - p = d) := ⟨_, rfl⟩
            have ed : (e : Int) - (p : Int) = (d : Int) := by have := Hd.out; omega
            have hd : d ≤ 65536 := by have := Hd.out; omega
            have hd1 : 1 ≤ d := by have := Hd.out; omega
            have hxs : (s.extract p e).size = d := by rw [size_extract hes, Hd.out]
            have HLe : Hid (lnn s e = ln) := hE.line.1.trans HLN.out
            have HCe : Hid (cln s e = cl + d) := by show _ = _; rw [hE.line.2, HCN.out, Hd.out]
            have HDx : Hid (∀ j, j < d → isD (tb (s.extract p e) j) = true) := fun j hj => by rw [tb_extract (by have := Hd.out; omega) hes]; have := hE.all (p + j) (by omega) (by have := Hd.out; omega); simpa using this
            have q1 : (p : Int) ≤ (e : Int) := by omega
            have q2 : (e : Int) ≤ (s.size : Int) := by omega
            have HNc : Hid (∀ w' : World, Calls Tryd.prog 30 #[.string (s.extract p e)] w' fun r w'' => r = .returned (.int .i64 (-1)) ∧ w' = w'') := fun w' => rnumber_any w' (s.extract p e) d (-1) hxs hd1 hd HDx (.inr ⟨by rw [← Hd.out]; exact fun h => hn ((NumOk.extract hes hpe).1 h), rfl⟩)
            clear hD hE hn
            go_wp2_with (first
              | (refine wpList_store_vn rfl 32 _ _ rfl wr.heap.size _ #[.int .u8 0, .string ⟨#[]⟩, .int .i64 0, .int .i64 (ln : Int), .int .i64 (cl : Int)] rfl rfl (Vn.new wr _ _) sizeTok rfl (all5 rfl rfl rfl rfl rfl) ?_; intro w1 HV1 hg1; have hb1 : Below wr.heap.size wr w1 := (jlow _ _).trans (jbelow hg1.out (jlow _ _).size (fun g e => by cases e; exact Nat.le_refl _)); have HTl1 := jhid9 (HTl.out.later hb1); have HB1 := jhid9 (jl9 HBr.out hb1); have HVf1 := jhid9 (W9_vn HB1.out); have k0 := HV1.out.cell 0 _ rfl; clear hg1 hb1)
              | (go_at_call 24; refine (HFl.out _ c hc8).mono ?_; rintro r w' ⟨rfl, rfl⟩; rw [HbL.out])
              | (go_at_call 29; refine (HFd.out _ c hc8).mono ?_; rintro r w' ⟨rfl, rfl⟩; rw [HbD.out])
              | (go_at_call 25; refine (rend_any _ s false p e hs HEn).mono ?_; rintro r w' ⟨rfl, rfl⟩)
              | (go_at_call 30; refine (HNc.out _).mono ?_; rintro r w' ⟨rfl, rfl⟩)
              | (refine wpList_store_one rfl 30 _ _ rfl wr.heap.size 0 32 _ (.int .u8 3) rfl rfl sizeKind rfl rfl HV1.out (by simp) ?_; intro w4 hv4 hg4; have HVw4 : Hid (Vn w4 wr.heap.size 32 #[.int .u8 3, .string ⟨#[]⟩, .int .i64 0, .int .i64 (ln : Int), .int .i64 (cl : Int)]) := hv4; have HTw4 := jhid9 (HTl1.out.kept hg4.out (own_lt HOwn.out)); have HBw4 := jhid9 (jb9 HB1.out hg4.out hsz); clear hv4 hg4)
              | (refine wpList_store_one rfl 3 _ _ rfl wr.heap.size 2 32 _ (.int .i64 (-1)) rfl rfl sizeInt rfl rfl HVw4.out (by simp) ?_; intro w5 hv5 hg5; have HVw5 : Hid (Vn w5 wr.heap.size 32 #[.int .u8 3, .string ⟨#[]⟩, .int .i64 (-1), .int .i64 (ln : Int), .int .i64 (cl : Int)]) := hv5; have HTw5 := jhid9 (HTw4.out.kept hg5.out (own_lt HOwn.out)); have HBw5 := jhid9 (jb9 HBw4.out hg5.out hsz); have k0 := HVw5.out.cell 0 _ rfl; have k1 := HVw5.out.cell 1 _ rfl; have k2 := HVw5.out.cell 2 _ rfl; have k3 := HVw5.out.cell 3 _ rfl; have k4 := HVw5.out.cell 4 _ rfl; clear hv5 hg5)
              | (go_at_call 28; refine (HFt.out _).mono ?_; rintro r w7 ⟨rfl, hb7⟩; have HB7 := jhid9 (jl9 HBw5.out hb7); have HVf7 := jhid9 (W9_vn HB7.out); clear hb7)
              | (refine wpList_store_vn rfl 25 _ _ rfl w.heap.size _ #[.int .i64 90, .int .i64 (ln : Int), .int .i64 (cl : Int)] rfl rfl HVf7.out sizeFau rfl (all3 rfl rfl rfl) ?_; intro w8 HV8 hg8))
            have d0 := HV8.out.cell 0 _ rfl
            have d1 := HV8.out.cell 1 _ rfl
            have d2 := HV8.out.cell 2 _ rfl
            refine bodyPost_ret (v := .tuple #[.slice none 0 0, .agg #[.int .i64 90, .int .i64 (ln : Int), .int .i64 (cl : Int)]]) (by simp [results, Tryd.results6, go_sem, d0, d1, d2]) rfl ?_
            refine ⟨_, ?_, fun h => absurd h (by decide), fun _ => rfl, (W9_fin HB7.out).trans (jbelow hg8.out (by have := js9 HB7.out; omega) (fun g e => by cases e; exact Nat.le_refl _))⟩
            rw [HLN.out, HCN.out]
            rfl
          · clear hcut
            rw [HCc.out] at hD
            have HbD := jhid9 hD
            have HbL := jhid9 (digit_cls hD).2
            have HEn := jhid9 hE
            have hpe : p < e := hE.more hlt (by rw [HCc.out, hD]; rfl)
            have hes := hE.fits
            obtain ⟨d, Hd⟩ : ∃ d, Hid (e - p = d) := ⟨_, rfl⟩
            have ed : (e : Int) - (p : Int) = (d : Int) := by have := Hd.out; omega
            have hd : d ≤ 65536 := by have := Hd.out; omega
            have hd1 : 1 ≤ d := by have := Hd.out; omega
            have hxs : (s.extract p e).size = d := by rw [size_extract hes, Hd.out]
            have HLe : Hid (lnn s e = ln) := hE.line.1.trans HLN.out
            have HCe : Hid (cln s e = cl + d) := by show _ = _; rw [hE.line.2, HCN.out, Hd.out]
            have HDx : Hid (∀ j, j < d → isD (tb (s.extract p e) j) = true) := fun j hj => by rw [tb_extract (by have := Hd.out; omega) hes]; have := hE.all (p + j) (by omega) (by have := Hd.out; omega); simpa using this
            have q1 : (p : Int) ≤ (e : Int) := by omega
            have q2 : (e : Int) ≤ (s.size : Int) := by omega
            obtain ⟨v, HV⟩ : ∃ v, Hid (nvl s p (e - p) = v) := ⟨_, rfl⟩
            have hv : v ≤ 2147483647 := by rw [← HV.out]; exact hn.2
            have HNc : Hid (∀ w' : World, Calls Tryd.prog 30 #[.string (s.extract p e)] w' fun r w'' => r = .returned (.int .i64 (((v : Nat) : Int))) ∧ w' = w'') := fun w' => rnumber_any w' (s.extract p e) d (((v : Nat) : Int)) hxs hd1 hd HDx (.inl ⟨by rw [← Hd.out]; exact (NumOk.extract hes hpe).2 hn, by rw [← HV.out, ← Hd.out, nvl_extract hes _ (by omega)]⟩)
            have q3 : decide ((v : Int) < 0) = false := decide_eq_false (by omega)
            obtain ⟨c2, HC2⟩ : ∃ c2, Hid (tb s e = c2) := ⟨_, rfl⟩
            have hc2 : s[e].toNat = c2 := by rw [← HC2.out]; exact tb_at hel
            have hc28 : c2 < 256 := by rw [← HC2.out]; exact tb_lt s e
            have HbL2 : Hid (isL c2 = true) := by rw [← HC2.out]; exact hl2
            obtain ⟨cl2, HCl2⟩ : ∃ cl2, Hid (cl + d = cl2) := ⟨_, rfl⟩
            rw [HCl2.out] at HCe
            have HFt2 : Hid (∀ w' : World, Calls Tryd.prog 28 #[.int .i64 90, .string s, .int .i64 (e : Int)] w' fun r w'' => r = .returned (.agg #[.int .i64 90, .int .i64 (ln : Int), .int .i64 (cl2 : Int)]) ∧ Below w'.heap.size w' w'') := fun w' => by have h := rfault_any w' s 90 e hs (by omega); rw [HLe.out, HCe.out] at h; exact h
            clear hD hE hn hl2 HFt
            go_wp2_with (first
              | (refine wpList_store_vn rfl 32 _ _ rfl wr.heap.size _ #[.int .u8 0, .string ⟨#[]⟩, .int .i64 0, .int .i64 (ln : Int), .int .i64 (cl : Int)] rfl rfl (Vn.new wr _ _) sizeTok rfl (all5 rfl rfl rfl rfl rfl) ?_; intro w1 HV1 hg1; have hb1 : Below wr.heap.size wr w1 := (jlow _ _).trans (jbelow hg1.out (jlow _ _).size (fun g e => by cases e; exact Nat.le_refl _)); have HTl1 := jhid9 (HTl.out.later hb1); have HB1 := jhid9 (jl9 HBr.out hb1); have HVf1 := jhid9 (W9_vn HB1.out); have k0 := HV1.out.cell 0 _ rfl; clear hg1 hb1)
              | (go_at_call 24; have _x := HVw5; refine (HFl.out _ c2 hc28).mono ?_; rintro r w' ⟨rfl, rfl⟩; rw [HbL2.out])
              | (go_at_call 24; refine (HFl.out _ c hc8).mono ?_; rintro r w' ⟨rfl, rfl⟩; rw [HbL.out])
              | (go_at_call 29; refine (HFd.out _ c hc8).mono ?_; rintro r w' ⟨rfl, rfl⟩; rw [HbD.out])
              | (go_at_call 25; refine (rend_any _ s false p e hs HEn).mono ?_; rintro r w' ⟨rfl, rfl⟩)
              | (go_at_call 30; refine (HNc.out _).mono ?_; rintro r w' ⟨rfl, rfl⟩)
              | (refine wpList_store_one rfl 30 _ _ rfl wr.heap.size 0 32 _ (.int .u8 3) rfl rfl sizeKind rfl rfl HV1.out (by simp) ?_; intro w4 hv4 hg4; have HVw4 : Hid (Vn w4 wr.heap.size 32 #[.int .u8 3, .string ⟨#[]⟩, .int .i64 0, .int .i64 (ln : Int), .int .i64 (cl : Int)]) := hv4; have HTw4 := jhid9 (HTl1.out.kept hg4.out (own_lt HOwn.out)); have HBw4 := jhid9 (jb9 HB1.out hg4.out hsz); clear hv4 hg4)
              | (refine wpList_store_one rfl 3 _ _ rfl wr.heap.size 2 32 _ (.int .i64 ((v : Int))) rfl rfl sizeInt rfl rfl HVw4.out (by simp) ?_; intro w5 hv5 hg5; have HVw5 : Hid (Vn w5 wr.heap.size 32 #[.int .u8 3, .string ⟨#[]⟩, .int .i64 ((v : Int)), .int .i64 (ln : Int), .int .i64 (cl : Int)]) := hv5; have HTw5 := jhid9 (HTw4.out.kept hg5.out (own_lt HOwn.out)); have HBw5 := jhid9 (jb9 HBw4.out hg5.out hsz); have k0 := HVw5.out.cell 0 _ rfl; have k1 := HVw5.out.cell 1 _ rfl; have k2 := HVw5.out.cell 2 _ rfl; have k3 := HVw5.out.cell 3 _ rfl; have k4 := HVw5.out.cell 4 _ rfl; clear hv5 hg5)
              | (go_at_call 28; refine (HFt2.out _).mono ?_; rintro r w7 ⟨rfl, hb7⟩; have HB7 := jhid9 (jl9 HBw5.out hb7); have HVf7 := jhid9 (W9_vn HB7.out); clear hb7)
              | (refine wpList_store_vn rfl 25 _ _ rfl w.heap.size _ #[.int .i64 90, .int .i64 (ln : Int), .int .i64 (cl2 : Int)] rfl rfl HVf7.out sizeFau rfl (all3 rfl rfl rfl) ?_; intro w8 HV8 hg8))
            have d0 := HV8.out.cell 0 _ rfl
            have d1 := HV8.out.cell 1 _ rfl
            have d2 := HV8.out.cell 2 _ rfl
            refine bodyPost_ret (v := .tuple #[.slice none 0 0, .agg #[.int .i64 90, .int .i64 (ln : Int), .int .i64 (cl2 : Int)]]) (by simp [results, Tryd.results6, go_sem, d0, d1, d2]) rfl ?_
            refine ⟨_, ?_, fun h => absurd h (by decide), fun _ => rfl, (W9_fin HB7.out).trans (jbelow hg8.out (by have := js9 HB7.out; omega) (fun g e => by cases e; exact Nat.le_refl _))⟩
            rw [HLe.out, HCe.out]
            rfl
          · clear hcut
            rw [HCc.out] at hS
            have HbS := jhid9 hS
            have HbL := jhid9 (sign_cls hS).2.1
            have HbD := jhid9 (sign_cls hS).2.2
            obtain ⟨e, He⟩ : ∃ e, Hid (p + 1 = e) := ⟨_, rfl⟩
            rw [He.out] at hcu HLR HLN2 HCN2
            have ee : (p : Int) + 1 = (e : Int) := by have := He.out; omega
            have hpe : p < e := by have := He.out; omega
            have hes : e ≤ s.size := by have := He.out; omega
            obtain ⟨d, Hd⟩ : ∃ d, Hid (e - p = d) := ⟨_, rfl⟩
            have hd : d ≤ 65536 := by have := Hd.out; omega
            have ed : (e : Int) - (p : Int) = (d : Int) := by have := Hd.out; omega
            have HLe := HLN2
            have HCe : Hid (cln s e = cl + d) := by show _ = _; rw [HCN2.out]; have := Hd.out; have := He.out; omega
            have q1 : (p : Int) ≤ (e : Int) := by omega
            have q2 : (e : Int) ≤ (s.size : Int) := by omega
            have HST2 : Hid (St s false e L1 E a) := .inl ⟨rfl, hcu⟩
            clear hS hcu HFt
            go_wp2_with (first
              | (refine wpList_store_vn rfl 32 _ _ rfl wr.heap.size _ #[.int .u8 0, .string ⟨#[]⟩, .int .i64 0, .int .i64 (ln : Int), .int .i64 (cl : Int)] rfl rfl (Vn.new wr _ _) sizeTok rfl (all5 rfl rfl rfl rfl rfl) ?_; intro w1 HV1 hg1; have hb1 : Below wr.heap.size wr w1 := (jlow _ _).trans (jbelow hg1.out (jlow _ _).size (fun g e => by cases e; exact Nat.le_refl _)); have HTl1 := jhid9 (HTl.out.later hb1); have HB1 := jhid9 (jl9 HBr.out hb1); have HVf1 := jhid9 (W9_vn HB1.out); have k0 := HV1.out.cell 0 _ rfl; clear hg1 hb1)
              | (go_at_call 24; refine (HFl.out _ c hc8).mono ?_; rintro r w' ⟨rfl, rfl⟩; rw [HbL.out])
              | (go_at_call 29; refine (HFd.out _ c hc8).mono ?_; rintro r w' ⟨rfl, rfl⟩; rw [HbD.out])
              | (go_at_call 31; refine (HFs.out _ c hc8).mono ?_; rintro r w' ⟨rfl, rfl⟩; rw [HbS.out]))
            refine wp_region_held (S := fun _ => True) (by kernel_rfl) ?_
            change wpAnyH _ _ _ _ _ _ _ _ (World.drew _)
            obtain ⟨W, HW⟩ : ∃ W, Hid (w1.drew = W) := ⟨_, rfl⟩
            rw [HW.out]
            have HBd : Hid (Below w1.heap.size w1 W) := by rw [← HW.out]; exact (Below.refl _ _).drew
            have HVW := jhid9 (HV1.out.later HBd.out)
            have HTW := jhid9 (HTl1.out.later HBd.out)
            have HBW := jhid9 (jl9 HB1.out HBd.out)
            refine wpAnyH_take (i := 0) (v := ?ve0) rfl (by kernel_rfl) (by kernel_rfl) (by kernel_rfl) (fun _ _ _ h => h) (Or.inl ⟨by rfl, ?ye0⟩) trivial ?ze0
            case ye0 => (intro w hSw; (try dsimp only at hSw); go_simp; try with_reducible rfl)
            try simp only [List.getElem_toArray, List.getElem_cons_zero, Act.put, List.setIfInBounds_toArray, List.set_cons_zero, List.set_cons_succ]
            refine wpAnyH_take (i := 1) (v := ?ve1) rfl (by kernel_rfl) (by kernel_rfl) (by kernel_rfl) (fun _ _ _ h => h) (Or.inl ⟨by rfl, ?ye1⟩) trivial ?ze1
            case ye1 => (intro w hSw; (try dsimp only at hSw); go_simp; try with_reducible rfl)
            try simp only [List.getElem_toArray, List.getElem_cons_succ, List.getElem_cons_zero, Act.put, List.setIfInBounds_toArray, List.set_cons_zero, List.set_cons_succ]
            refine wpAnyH_take (i := 2) (v := ?ve2) rfl (by kernel_rfl) (by kernel_rfl) (by kernel_rfl) (fun _ _ _ h => h) (Or.inl ⟨by rfl, ?ye2⟩) trivial ?ze2
            case ye2 => (intro w hSw; (try dsimp only at hSw); go_simp; try with_reducible rfl)
            try simp only [List.getElem_toArray, List.getElem_cons_succ, List.getElem_cons_zero, Act.put, List.setIfInBounds_toArray, List.set_cons_zero, List.set_cons_succ]
            refine wpAnyH_take (i := 3) (v := ?ve3) rfl (by kernel_rfl) (by kernel_rfl) (by kernel_rfl) (fun _ _ _ h => h) (Or.inl ⟨by rfl, ?ye3⟩) trivial ?ze3
            case ye3 => (intro w hSw; (try dsimp only at hSw); go_simp; try with_reducible rfl)
            try simp only [List.getElem_toArray, List.getElem_cons_succ, List.getElem_cons_zero, Act.put, List.setIfInBounds_toArray, List.set_cons_zero, List.set_cons_succ]
            refine wpAnyH_take (i := 4) (v := ?ve4) rfl (by kernel_rfl) (by kernel_rfl) (by kernel_rfl) (fun _ _ _ h => h) (Or.inl ⟨by rfl, ?ye4⟩) trivial ?ze4
            case ye4 => (intro w hSw; (try dsimp only at hSw); go_simp; try with_reducible rfl)
            try simp only [List.getElem_toArray, List.getElem_cons_succ, List.getElem_cons_zero, Act.put, List.setIfInBounds_toArray, List.set_cons_zero, List.set_cons_succ]
            refine wpAnyH_ready (rs := [5]) (by kernel_rfl) (by simp) ?_
            refine AllReadyH.cons rfl (fun KK hKK => ?_) AllReadyH.nil
            refine wp_store_one 30 _ _ rfl wr.heap.size 0 32 _ (.int .u8 4) rfl rfl sizeKind rfl rfl HVW.out (by simp) ?_
            intro W2 hvW2 hgW2
            have HV2 : Hid (Vn W2 wr.heap.size 32 #[.int .u8 4, .string ⟨#[]⟩, .int .i64 0, .int .i64 (ln : Int), .int .i64 (cl : Int)]) := hvW2
            have HTW2 := jhid9 (HTW.out.kept hgW2.out (own_lt HOwn.out))
            have HBW2 := jhid9 (jb9 HBW.out hgW2.out hsz)
            refine hKK.out _ _ trivial (fun _ => ?_)
            clear hKK KK hvW2 hgW2
            try simp only [List.getElem_toArray, List.getElem_cons_succ, List.getElem_cons_zero, Act.put]
            refine wpAnyH_take (i := 6) (v := ?ve6) rfl (by kernel_rfl) (by kernel_rfl) (by kernel_rfl) (fun _ _ _ h => h) (Or.inl ⟨by rfl, ?ye6⟩) trivial ?ze6
            case ye6 => (intro w hSw; (try dsimp only at hSw); go_simp; try with_reducible rfl)
            try simp only [List.getElem_toArray, List.getElem_cons_succ, List.getElem_cons_zero, Act.put, List.setIfInBounds_toArray, List.set_cons_zero, List.set_cons_succ]
            refine wpAnyH_ready (rs := [7]) (by kernel_rfl) (by simp) ?_
            refine AllReadyH.cons rfl (fun KK hKK => ?_) AllReadyH.nil
            refine wp_store_one 9 _ _ rfl wr.heap.size 1 32 _ (.string (s.extract p e)) rfl rfl sizeStr rfl rfl HV2.out (by simp) ?_
            intro W3 hvW3 hgW3
            have HV3 : Hid (Vn W3 wr.heap.size 32 #[.int .u8 4, .string (s.extract p e), .int .i64 0, .int .i64 (ln : Int), .int .i64 (cl : Int)]) := hvW3
            have HTW3 := jhid9 (HTW2.out.kept hgW3.out (own_lt HOwn.out))
            have HBW3 := jhid9 (jb9 HBW2.out hgW3.out hsz)
            refine hKK.out _ _ trivial (fun _ => ?_)
            clear hKK KK hvW3 hgW3
            try simp only [List.getElem_toArray, List.getElem_cons_succ, List.getElem_cons_zero, Act.put]
            refine wpAnyH_done (by kernel_rfl) ?_ _
            have k1 := HV3.out.cell 1 _ rfl
            have k0 := HV3.out.cell 0 _ rfl
            have k2 := HV3.out.cell 2 _ rfl
            have k3 := HV3.out.cell 3 _ rfl
            have k4 := HV3.out.cell 4 _ rfl
            go_wp2_with (first
              | (at_builtin; refine wpList_append_own _ rfl _ _ 22 rfl (w.heap.size + 1) 32 i0 (.agg #[.int .u8 0, .string ⟨#[]⟩, .int .i64 0, .int .i64 0, .int .i64 0]) 5 48 Tryd.underlying22 hi0 hz0 hz1 hz2 rfl (by decide) _ L0.length _ rfl (HTW3.out.later (jlow _ _)) ⟨W3.heap.size, 0, none⟩ 1 1 [.int .u8 4, .string (s.extract p e), .int .i64 0, .int .i64 (ln : Int), .int .i64 (cl : Int)] rfl rfl (five_new _ _ _) (by intro u hu; simp at hu; rcases hu with rfl | rfl | rfl | rfl | rfl <;> rfl) hk63 (by omega) (by have := js9 HBW3.out; simp; omega) ?_; intro v' w6 hown' hgrow' _; have HT6 : Hid (Tls w6 (w.heap.size + 1) v' s (L0 ++ [⟨4, p, e, 0⟩])) := Tls.push (tcs_eq rfl HLN.out HCN.out) rfl hown'; have HB6 : Hid (Below (w.heap.size + 1) (W9 w) w6) := (jl9 HBW3.out (jlow _ _)).trans (jbelow hgrow' (by have := js9 HBW3.out; simp; omega) (fun g hg => (HTW3.out.base hg).1)); clear hown' hgrow'))
            exact ⟨⟨e, ln, cl + d, false, L0 ++ [⟨4, p, e, 0⟩], L1, by omega, by go_num, by go_num, by go_num, rfl, HLe, HCe, by show L = _; rw [HLR.out]; simp, HST2, HT6.out, by simp; omega, HB6.out⟩, by simp [intOf]; omega⟩
          · clear hcut
            rw [HCc.out] at hB h35 hL hD hS
            have HbL := jhid9 hL
            have HbD := jhid9 hD
            have HbS := jhid9 hS
            have hb2 : ¬ (c = 32 ∨ c = 9 ∨ c = 10) := fun h => by rw [isB_iff.2 h] at hB; cases hB
            have q35 : ((c : Int) == 35) = false := by simp; omega
            have q32 : ((c : Int) == 32) = false := by simp; omega
            have q9 : ((c : Int) == 9) = false := by simp; omega
            have q32n : ((c : Int) != 32) = true := by simp; omega
            have q9n : ((c : Int) != 9) = true := by simp; omega
            clear hB hL hD hS hb2 h35
            go_wp2_with (first
              | (refine wpList_store_vn rfl 32 _ _ rfl wr.heap.size _ #[.int .u8 0, .string ⟨#[]⟩, .int .i64 0, .int .i64 (ln : Int), .int .i64 (cl : Int)] rfl rfl (Vn.new wr _ _) sizeTok rfl (all5 rfl rfl rfl rfl rfl) ?_; intro w1 HV1 hg1; have hb1 : Below wr.heap.size wr w1 := (jlow _ _).trans (jbelow hg1.out (jlow _ _).size (fun g e => by cases e; exact Nat.le_refl _)); have HTl1 := jhid9 (HTl.out.later hb1); have HB1 := jhid9 (jl9 HBr.out hb1); have HVf1 := jhid9 (W9_vn HB1.out); have k0 := HV1.out.cell 0 _ rfl; clear hg1 hb1)
              | (go_at_call 24; refine (HFl.out _ c hc8).mono ?_; rintro r w' ⟨rfl, rfl⟩; rw [HbL.out])
              | (go_at_call 29; refine (HFd.out _ c hc8).mono ?_; rintro r w' ⟨rfl, rfl⟩; rw [HbD.out])
              | (go_at_call 31; refine (HFs.out _ c hc8).mono ?_; rintro r w' ⟨rfl, rfl⟩; rw [HbS.out])
              | (go_at_call 28; refine (HFt.out _).mono ?_; rintro r w7 ⟨rfl, hb7⟩; have HB7 := jhid9 (jl9 HB1.out hb7); have HVf7 := jhid9 (W9_vn HB7.out); clear hb7)
              | (refine wpList_store_vn rfl 25 _ _ rfl w.heap.size _ #[.int .i64 90, .int .i64 (ln : Int), .int .i64 (cl : Int)] rfl rfl HVf7.out sizeFau rfl (all3 rfl rfl rfl) ?_; intro w8 HV8 hg8))
            have d0 := HV8.out.cell 0 _ rfl
            have d1 := HV8.out.cell 1 _ rfl
            have d2 := HV8.out.cell 2 _ rfl
            refine bodyPost_ret (v := .tuple #[.slice none 0 0, .agg #[.int .i64 90, .int .i64 (ln : Int), .int .i64 (cl : Int)]]) (by simp [results, Tryd.results6, go_sem, d0, d1, d2]) rfl ?_
            refine ⟨_, ?_, fun h => absurd h (by decide), fun _ => rfl, (W9_fin HB7.out).trans (jbelow hg8.out (by have := js9 HB7.out; omega) (fun g e => by cases e; exact Nat.le_refl _))⟩
            rw [HLN.out, HCN.out]
            rfl
    · obtain rfl : p = s.size := by omega
      obtain ⟨rfl, rfl⟩ := HST.out.end rfl
      have HVf1 := jhid9 (W9_vn HBr.out)
      go_wp2_with (refine wpList_store_vn rfl 25 _ _ rfl w.heap.size _ #[.int .i64 0, .int .i64 0, .int .i64 0] rfl rfl HVf1.out sizeFau rfl (all3 rfl rfl rfl) ?_; intro w8 HV8 hg8)
      have d0 := HV8.out.cell 0 _ rfl
      have d1 := HV8.out.cell 1 _ rfl
      have d2 := HV8.out.cell 2 _ rfl
      refine bodyPost_ret (v := .tuple #[.slice ps L0.length pd, .agg #[.int .i64 0, .int .i64 0, .int .i64 0]]) (by simp [results, Tryd.results6, go_sem, d0, d1, d2]) rfl ?_
      refine ⟨_, rfl, fun _ => ?_, fun h => absurd rfl h, (W9_fin HBr.out).trans (jbelow hg8.out (by omega) (fun g e => by cases e; exact Nat.le_refl _))⟩
      rw [HLR.out, List.append_nil]
      refine Tls.mono (B := w.heap.size + 1) (HTl.out.kept hg8.out ?_) (by omega)
      cases hv : (Value.slice ps L0.length pd).ownBlock with
      | none => exact .inl rfl
      | some g => have := (HTl.out.base hv).1; exact .inr (by simp; omega)
end Go.Proofs.YtipjejkjoiifdabDoor
