/-
  Stage 13: the reference's Uses.
  Stage 13: the reference's wrong.
-/
import Derived.Test.YtemhodenkgngmaaDoorQuues00
import Derived.Test.YtemhodenkgngmaaDoorQuues35
import Derived.Deep.QuietTactic
import Derived.BigQuiet
set_option maxRecDepth 100000
set_option maxHeartbeats 16000000
namespace Go.Proofs.YtemhodenkgngmaaDoor
open Go.RowKit Go.Shelf Go.Maps
theorem sus_ord {d : Nat} {S : St} (h : swant (S []) = true) : (if (S []).k = 1 then [su S] else []) ++ xcat (xus 16) (S []).args (S []).na ++ scat (sus d) (part S) (S []).np ++ rcat (S []).rl (S []).rows (S []).nr = sus (d + 1) S := by
 show _ = (if (S []).k = 1 then [su S] else scat (sus d) (part S) (S []).np ++ (rcat (S []).rl (S []).rows (S []).nr ++ xcat (xus 16) (S []).args (S []).na))
 unfold swant at h
 by_cases k1 : (S []).k = 1
 ·rw [if_pos k1] at h
  simp only [Bool.and_eq_true, decide_eq_true_eq] at h
  rw [if_pos k1, if_pos k1, h.2.1, h.2.2.1, h.2.2.2]
  rfl
 ·rw [if_neg k1] at h
  rw [if_neg k1, if_neg k1]
  simp only [Bool.and_eq_true] at h
  obtain ⟨_, h⟩ := h
  have fin : (S []).np = 0 ∧ (S []).nr = 0 ∨ (S []).na = 0 ∧ (S []).nr = 0 ∨ (S []).na = 0 ∧ (S []).np = 0 := by
   split at h
   ·simp only [Bool.and_eq_true, decide_eq_true_eq] at h; exact .inl h.2
   ·split at h
    ·simp only [Bool.and_eq_true, decide_eq_true_eq] at h; exact .inl h.2
    ·split at h
     ·simp only [Bool.and_eq_true, decide_eq_true_eq] at h; exact .inr (.inl ⟨h.1, h.2.2⟩)
     ·split at h
      ·simp only [Bool.and_eq_true, decide_eq_true_eq] at h; exact .inr (.inr ⟨h.1, h.2.1⟩)
      ·cases h
  rcases fin with ⟨e1, e2⟩ | ⟨e1, e2⟩ | ⟨e1, e2⟩
  ·rw [e1, e2]; show [] ++ _ ++ [] ++ [] = [] ++ ([] ++ _); simp
  ·rw [e1, e2]; show [] ++ [] ++ _ ++ [] = _ ++ ([] ++ []); simp
  ·rw [e1, e2]; show [] ++ [] ++ [] ++ _ = [] ++ (_ ++ []); simp
theorem qfr {l : Ls} (h : swant l = true) : l.na ≤ 64 ∧ l.np ≤ 64 ∧ l.nr ≤ 64 := by
 unfold swant at h
 split at h
 ·simp only [Bool.and_eq_true, decide_eq_true_eq] at h; omega
 ·simp only [Bool.and_eq_true] at h
  obtain ⟨_, h⟩ := h
  split at h
  ·simp only [Bool.and_eq_true, decide_eq_true_eq] at h; omega
  ·split at h
   ·simp only [Bool.and_eq_true, decide_eq_true_eq] at h; omega
   ·split at h
    ·simp only [Bool.and_eq_true, decide_eq_true_eq] at h; omega
    ·split at h
     ·simp only [Bool.and_eq_true, decide_eq_true_eq] at h; omega
     ·cases h
theorem ms_cnt {d : Nat} {S : St} (h : MS d S) : (sus d S).length ≤ 8192 := by
 obtain ⟨left, h1, h2⟩ := h
 have := qfn h2
 omega
/-- The reference's shape. -/
theorem rshape13 : ∀ (d : Nat) (w : World) (S : St) (v : Value), SV w v S → MS d S → Calls Tryd.prog 43 #[v] w fun e w' => (∃ v', e = .returned v' ∧ Uw w' w.heap.size v' (sus d S)) ∧ Below w.heap.size w w' := by
 intro d
 induction d with
 | zero => intro w S v _ h; (obtain ⟨left, _, h⟩ := h; have : sleft 0 S left = -1 := rfl; omega)
 | succ d ih =>
  intro w S v hv hM
  obtain ⟨hsw, hA, hR, hP⟩ := hM.parts
  obtain ⟨f1, f2, f3⟩ := qfr hsw
  obtain ⟨⟨aa, pa, ra, ca, cp, cr, e, ha, hr, hp⟩, _⟩ := hv
  subst e
  have h := qd7 w (sus d) (part S) (S []).k (S []).na (S []).np (S []).nr ca cp cr (S []).nm (S []).ln (S []).cl aa pa ra (S []).args (S []).rl (S []).rows ha hp hr f1 f2 f3 hA (fun i hi => ⟨(hR i hi).2.1, (hR i hi).2.2⟩) (fun i hi => ms_cnt (hP i hi)) (fun i hi w' v' _ h' => ih w' (part S i) v' h' (hP i hi))
  have e2 := sus_ord (d := d) hsw
  rw [show su S = (⟨(S []).nm, 2, (S []).ln, (S []).cl⟩ : Us) from rfl] at e2
  rw [e2] at h
  exact h
theorem rshape_z (w : World) (S : St) (v : Value) (hv : SV w v S) (hz : ZS S) : Calls Tryd.prog 43 #[v] w fun e w' => (∃ v', e = .returned v' ∧ Uw w' w.heap.size v' (sus 16 S)) ∧ Below w.heap.size w w' := by
 obtain ⟨⟨aa, pa, ra, ca, cp, cr, e, ha, hr, hp⟩, _⟩ := hv
 obtain ⟨z1, z2, z3, z4, z5⟩ := hz
 subst e
 have h := qd7 w (fun _ => []) (part S) (S []).k (S []).na (S []).np (S []).nr ca cp cr (S []).nm (S []).ln (S []).cl aa pa ra (S []).args (S []).rl (S []).rows ha hp hr (by omega) (by omega) (by omega) (fun i hi => by omega) (fun i hi => by omega) (fun i hi => by omega) (fun i hi => by omega)
 have e0 := qcr (S := S) ⟨z1, z2, z3, z4, z5⟩
 rw [e0]
 rw [if_neg (show ¬ (S []).k = 1 by omega)] at h
 have e1 : xcat (xus 16) (S []).args (S []).na = [] := by rw [z3]; rfl
 have e2 : scat (fun _ => []) (part S) (S []).np = [] := by rw [z5]; rfl
 have e3 : rcat (S []).rl (S []).rows (S []).nr = [] := by rw [z4]; rfl
 rw [e1, e2, e3] at h
 exact h
/-- exprs over expressions without names or parts. -/
theorem rexprs_z (w : World) (a : Option Addr) (n c : Nat) (G : Nat → Xt) (hG : ∀ e, XL e w a n G) (hz : ∀ i, i < n → (G i []).k ≠ 2 ∧ (G i []).len = 0) (hn : n ≤ 64) : Calls Tryd.prog 42 #[.slice a n c] w fun e w' => (∃ v, e = .returned v ∧ Uw w' w.heap.size v []) ∧ Below w.heap.size w w' := by
 have HG := qa0 hG
 have HZ := qa0 hz
 clear hG hz
 go_enter Tryd.func42, Tryd.ntmps42
 go_wp2
 go_loopw [3, 4] (fun v vi wr => ∃ (i : Nat) (L : List Us), i ≤ n ∧ vi = .int .i64 (i : Int) ∧ Hid (L = []) ∧ (∃ x dd, v = .slice x L.length dd) ∧ Hid (Uw wr w.heap.size v L) ∧ Hid (Below w.heap.size w wr)) (fun _ vi _ => n - (intOf vi).toNat)
 case atStart => exact ⟨0, [], by omega, rfl, rfl, ⟨none, 0, rfl⟩, Uw.nil _ _, Below.refl _ _⟩
 case round =>
  obtain ⟨i, L, hi, rfl, HL, ⟨x, dd, rfl⟩, HU, HB⟩ := hrel
  by_cases hlt : i < n
  ·have p0 : (0 : Int) ≤ (i : Int) := by omega
   have p1 : (i : Int) < (n : Int) := by omega
   obtain ⟨b, o, k, nl, nn, ll, cc, nm, ka, kc, rfl, hXV, hcl⟩ := XL.at_ HG.out hlt
   obtain ⟨t0, -, -, t3, -, -⟩ := hcl wr HB.out
   obtain ⟨e1, e2, e3, e4, e5, hkl⟩ := hXV.inv
   obtain ⟨z1, z2⟩ := HZ.out i hlt
   obtain rfl : nl = 0 := by omega
   have HKid : Hid (∀ w' : World, Below w.heap.size w w' → Calls Tryd.prog 42 #[.slice ka 0 kc] w' fun e w'' => (∃ v, e = .returned v ∧ Uw w'' w'.heap.size v []) ∧ Below w'.heap.size w' w'') := fun w' hb => qb9 0 w' ka 0 kc (kid (G i)) (fun e => (hkl e).later hb) (fun q hq => by omega) (by omega)
   obtain ⟨L8, HL8⟩ : ∃ L8 : List Us, Hid (L ++ ([] : List Us) = L8) := ⟨_, qa0 rfl⟩
   have HL2 : Hid (L8 = []) := by show _ = _; rw [← HL8.out, HL.out]; rfl
   have Hs1 : Hid (L.length + ([] : List Us).length ≤ 1000000000) := by show _ ≤ _; rw [HL.out]; decide
   have q0 : ((k : Int) == 2) = false := by simp; omega
   clear hXV hcl hkl e1 e2 e3 e4 e5 z1 z2 HZ HG HL
   go_wp2_with (first
    | (go_at_call 42; go_loud (refine (HKid.out _ HB.out).mono ?_; rintro e w7 ⟨⟨v7, rfl, h7⟩, hb7⟩; have H7 := qa0 h7; have HB7 := qa0 (jtwo HB.out hb7); have HT7 := qa0 (HU.out.later hb7); clear h7 hb7))
    | (refine qa3 rfl _ _ rfl w.heap.size _ L rfl HT7.out _ _ [] rfl H7.out Hs1.out HB7.out.size ?_; go_loud (intro v8 w8 hT8 hb8; rw [HL8.out] at hT8; have HB8 := qa0 (HB7.out.trans hb8); obtain ⟨x8, d8, rfl, -⟩ := hT8.form; have HT8 := qa0 hT8; clear hT8 hb8)))
   exact ⟨⟨i + 1, _, by omega, by go_num, HL2, ⟨x8, d8, rfl⟩, HT8, HB8⟩, by simp [intOf]; omega⟩
  ·obtain rfl : i = n := by omega
   go_wp2
   go_ret
   refine ⟨⟨_, rfl, ?_⟩, HB.out⟩
   rw [← HL.out]
   exact HU.out
/-- What may stand in an item. -/
structure UI (X : Xt) (S : St) (nl : Nat) (G : Nat → Xt) : Prop where
 v : MX 16 X ∨ ZX X
 s : MS 16 S ∨ ZS S
 n : nl ≤ 64
 l : ∀ i, i < nl → MX 16 (G i)
theorem iwant_nl {I : It} (h : iwant I = true) : I.nl ≤ 64 := by
 unfold iwant at h
 split at h
 ·simp only [Bool.and_eq_true, decide_eq_true_eq] at h; omega
 ·split at h
  ·simp only [Bool.and_eq_true, decide_eq_true_eq] at h; omega
  ·split at h
   ·simp only [Bool.and_eq_true, decide_eq_true_eq] at h; omega
   ·simp only [Bool.and_eq_true] at h
    obtain ⟨_, _, h⟩ := h
    split at h
    ·simp only [Bool.and_eq_true, decide_eq_true_eq] at h; omega
    ·split at h
     ·split at h
      ·simp only [Bool.and_eq_true, decide_eq_true_eq] at h; omega
      ·split at h
       ·simp only [Bool.and_eq_true, decide_eq_true_eq] at h; omega
       ·split at h
        ·simp only [Bool.and_eq_true, decide_eq_true_eq] at h; omega
        ·cases h
     ·cases h
theorem MI.ui {I : It} (h : MI I) (hnl : I.nl ≤ 64) : UI I.val I.shp I.nl I.list := by
 rcases h with ⟨_, _, _, a, b, c⟩ | ⟨_, _, _, a, b, c⟩ | ⟨_, _, _, a, b, c⟩ | ⟨_, _, _, a, b, c⟩ | ⟨_, _, _, a, b, c⟩ | ⟨_, _, _, a, b, c⟩ | ⟨_, _, _, a, b, c⟩ | ⟨_, _, _, a, b, c⟩ | ⟨_, _, _, a, b, c⟩
 ·exact ⟨.inl a, .inr b, by omega, fun i hi => by omega⟩
 ·exact ⟨.inr a, .inl b, by omega, fun i hi => by omega⟩
 ·exact ⟨.inr a, .inr b, by omega, fun i hi => by omega⟩
 ·exact ⟨.inl a, .inr b, by omega, fun i hi => by omega⟩
 ·exact ⟨.inl a, .inr b, by omega, fun i hi => by omega⟩
 ·exact ⟨.inr a, .inr b, by omega, fun i hi => by omega⟩
 ·exact ⟨.inr a, .inr b, by omega, fun i hi => by omega⟩
 ·exact ⟨.inl a, .inr b, by omega, fun i hi => by omega⟩
 ·exact ⟨.inr a, .inr b, hnl, c.2⟩
theorem xl_one {w : World} {g vk vl vc : Nat} {vn vln vcl : Int} {vm : ByteArray} {va : Option Addr} {X : Xt} (hv : Vn w g 53 #[.int .u8 (vk : Int), .int .i64 vn, .string vm, .slice va vl vc, .int .i64 vln, .int .i64 vcl]) (hX : XV w (.agg #[.int .u8 (vk : Int), .int .i64 vn, .string vm, .slice va vl vc, .int .i64 vln, .int .i64 vcl]) X) : ∀ e, XL e w (some ⟨g, 0, none⟩) 1 (fun _ => X) := by
 intro e i hi
 obtain rfl : i = 0 := by omega
 refine ⟨g, 0, rfl, ?_⟩
 refine XC.at_ (cs := [.int .u8 (vk : Int), .int .i64 vn, .string vm, .slice va vl vc, .int .i64 vln, .int .i64 vcl]) hX.cells (fun j hj => ?_) e
 rw [Nat.zero_mul, Nat.zero_add]
 have hj2 : j < (#[.int .u8 (vk : Int), .int .i64 vn, .string vm, .slice va vl vc, .int .i64 vln, .int .i64 vcl] : Array Value).size := hj
 have := hv.cell j _ (Array.getElem?_eq_getElem hj2)
 rw [this, ← List.getElem?_toArray, Array.getElem?_eq_getElem hj2]
theorem qen (w : World) (g vk vl vc : Nat) (vn vln vcl : Int) (vm : ByteArray) (va : Option Addr) (X : Xt) (hv : Vn w g 53 #[.int .u8 (vk : Int), .int .i64 vn, .string vm, .slice va vl vc, .int .i64 vln, .int .i64 vcl]) (hX : XV w (.agg #[.int .u8 (vk : Int), .int .i64 vn, .string vm, .slice va vl vc, .int .i64 vln, .int .i64 vcl]) X) (hu : MX 16 X ∨ ZX X) : Calls Tryd.prog 42 #[.slice (some ⟨g, 0, none⟩) 1 1] w fun e w' => (∃ v, e = .returned v ∧ Uw w' w.heap.size v (xus 16 X)) ∧ Below w.heap.size w w' := by
 rcases hu with hm | hz
 ·exact qb9 16 w _ 1 1 (fun _ => X) (xl_one hv hX) (fun _ _ => hm) (by omega)
 ·rw [qcq hz]
  exact rexprs_z w _ 1 1 (fun _ => X) (xl_one hv hX) (fun _ _ => ⟨by have := hz.1; show (X []).k ≠ 2; omega, hz.2.2.2⟩) (by omega)
theorem UI.few {X : Xt} {S : St} {nl : Nat} {G : Nat → Xt} (h : UI X S nl G) : (xus 16 X).length ≤ 8192 ∧ (sus 16 S).length ≤ 8192 ∧ (xcat (xus 16) G nl).length ≤ 524288 := by
 refine ⟨?_, ?_, ?_⟩
 ·rcases h.v with h | h
  ·exact mx_cnt h
  ·rw [qcq h]; show 0 ≤ _; omega
 ·rcases h.s with h | h
  ·exact ms_cnt h
  ·rw [qcr h]; show 0 ≤ _; omega
 ·have h1 := qb1 (d := 16) (G := G) (n := nl) h.l
  have h2 := h.n
  omega
/-- The reference's Uses. -/
theorem ruses13 (w : World) (k pl nl vk vl vc sk na ca np cp nr cr lc : Nat) (nm vm sm : ByteArray) (vn vln vcl sln scl ln cl : Int) (va aa pa ra la : Option Addr) (X : Xt) (S : St) (G : Nat → Xt)
  (hX : XV w (.agg #[.int .u8 (vk : Int), .int .i64 vn, .string vm, .slice va vl vc, .int .i64 vln, .int .i64 vcl]) X) (hS : SV w (.agg #[.int .u8 (sk : Int), .string sm, .slice aa na ca, .slice pa np cp, .slice ra nr cr, .int .i64 sln, .int .i64 scl]) S) (hG : ∀ d, XL d w la nl G) (hu : UI X S nl G) :
  Calls Tryd.prog 29 #[.agg #[.int .u8 (k : Int), .string nm, .int .u8 (vk : Int), .int .i64 vn, .string vm, .slice va vl vc, .int .i64 vln, .int .i64 vcl, .int .u8 (sk : Int), .string sm, .slice aa na ca, .slice pa np cp, .slice ra nr cr, .int .i64 sln, .int .i64 scl, .int .u8 (pl : Int), .slice la nl lc, .int .i64 ln, .int .i64 cl]] w fun e w' => (∃ v, e = .returned v ∧ Uw w' w.heap.size v (ius ⟨k, nm, X, S, pl, nl, G, ln, cl⟩)) ∧ Below w.heap.size w w' := by
 by_cases hk : k = 3
 ·have e : ius ⟨k, nm, X, S, pl, nl, G, ln, cl⟩ = [⟨nm, 2, ln, cl⟩] := by unfold ius; rw [if_pos hk]
  rw [e]
  have q0 : ((k : Int) == 3) = true := by simp; omega
  clear hX hS hG hu e hk
  go_enter Tryd.func29, Tryd.ntmps29
  go_wp2
  go_ret
  refine ⟨⟨_, rfl, ?_⟩, jtwo (jlow _ _) (jlow _ _)⟩
  refine ⟨rfl, .inr ⟨w.heap.size + 1, 1, #[.string nm, .int .i64 2, .int .i64 ln, .int .i64 cl], rfl, by omega, qdk _ _ _ _, by show 1 ≤ 1; omega, by unfold maxLen; omega, rfl, rfl⟩⟩
 ·have e : ius ⟨k, nm, X, S, pl, nl, G, ln, cl⟩ = xus 16 X ++ (sus 16 S ++ xcat (xus 16) G nl) := by unfold ius; rw [if_neg hk]
  rw [e]
  obtain ⟨f1, f2, f3⟩ := hu.few
  have q0 : ((k : Int) == 3) = false := by simp; omega
  have HXc : Hid (∀ (w' : World) (g : Nat), Below w.heap.size w w' → Vn w' g 53 #[.int .u8 (vk : Int), .int .i64 vn, .string vm, .slice va vl vc, .int .i64 vln, .int .i64 vcl] → Calls Tryd.prog 42 #[.slice (some ⟨g, 0, none⟩) 1 1] w' fun e w'' => (∃ v, e = .returned v ∧ Uw w'' w'.heap.size v (xus 16 X)) ∧ Below w'.heap.size w' w'') := fun w' g hb hv => qen w' g vk vl vc vn vln vcl vm va X hv (hX.later hb) hu.v
  have HSc : Hid (∀ w' : World, Below w.heap.size w w' → Calls Tryd.prog 43 #[.agg #[.int .u8 (sk : Int), .string sm, .slice aa na ca, .slice pa np cp, .slice ra nr cr, .int .i64 sln, .int .i64 scl]] w' fun e w'' => (∃ v, e = .returned v ∧ Uw w'' w'.heap.size v (sus 16 S)) ∧ Below w'.heap.size w' w'') := fun w' hb => by
   rcases hu.s with h | h
   ·exact rshape13 16 w' S _ (hS.later hb) h
   ·exact rshape_z w' S _ (hS.later hb) h
  have HLc : Hid (∀ w' : World, Below w.heap.size w w' → Calls Tryd.prog 42 #[.slice la nl lc] w' fun e w'' => (∃ v, e = .returned v ∧ Uw w'' w'.heap.size v (xcat (xus 16) G nl)) ∧ Below w'.heap.size w' w'') := fun w' hb => qb9 16 w' la nl lc G (fun e => (hG e).later hb) hu.l hu.n
  obtain ⟨LX, HLX⟩ : ∃ L, Hid (xus 16 X = L) := ⟨_, rfl⟩
  obtain ⟨LS, HLS⟩ : ∃ L, Hid (sus 16 S = L) := ⟨_, rfl⟩
  obtain ⟨LL, HLL⟩ : ∃ L, Hid (xcat (xus 16) G nl = L) := ⟨_, rfl⟩
  rw [HLX.out] at HXc f1
  rw [HLS.out] at HSc f2
  rw [HLL.out] at HLc f3
  obtain ⟨L1, HL1⟩ : ∃ L, Hid (LX ++ LS = L) := ⟨_, rfl⟩
  obtain ⟨L2, HL2⟩ : ∃ L, Hid (L1 ++ LL = L) := ⟨_, rfl⟩
  rw [HLX.out, HLS.out, HLL.out, ← List.append_assoc, HL1.out, HL2.out]
  have Hs1 : Hid (LX.length + LS.length ≤ 1000000000) := by show _ ≤ _; omega
  have Hs2 : Hid (L1.length + LL.length ≤ 1000000000) := by show _ ≤ _; rw [← HL1.out, List.length_append]; omega
  have HB0 := qa0 (jtwo (jlow w (.cells #[.int .u8 (k : Int), .string nm, .int .u8 (vk : Int), .int .i64 vn, .string vm, .slice va vl vc, .int .i64 vln, .int .i64 vcl, .int .u8 (sk : Int), .string sm, .slice aa na ca, .slice pa np cp, .slice ra nr cr, .int .i64 sln, .int .i64 scl, .int .u8 (pl : Int), .slice la nl lc, .int .i64 ln, .int .i64 cl] 61)) (jlow _ (.cells #[.int .u8 (vk : Int), .int .i64 vn, .string vm, .slice va vl vc, .int .i64 vln, .int .i64 vcl] 53)))
  have HN0 := qa0 (qdk w (.cells #[.int .u8 (k : Int), .string nm, .int .u8 (vk : Int), .int .i64 vn, .string vm, .slice va vl vc, .int .i64 vln, .int .i64 vcl, .int .u8 (sk : Int), .string sm, .slice aa na ca, .slice pa np cp, .slice ra nr cr, .int .i64 sln, .int .i64 scl, .int .u8 (pl : Int), .slice la nl lc, .int .i64 ln, .int .i64 cl] 61) 53 #[.int .u8 (vk : Int), .int .i64 vn, .string vm, .slice va vl vc, .int .i64 vln, .int .i64 vcl])
  have HV0 := qa0 ((Vn.new w 61 #[.int .u8 (k : Int), .string nm, .int .u8 (vk : Int), .int .i64 vn, .string vm, .slice va vl vc, .int .i64 vln, .int .i64 vcl, .int .u8 (sk : Int), .string sm, .slice aa na ca, .slice pa np cp, .slice ra nr cr, .int .i64 sln, .int .i64 scl, .int .u8 (pl : Int), .slice la nl lc, .int .i64 ln, .int .i64 cl]).later (jlow _ (.cells #[.int .u8 (vk : Int), .int .i64 vn, .string vm, .slice va vl vc, .int .i64 vln, .int .i64 vcl] 53)))
  clear hX hS hG hu e hk HLX HLS HLL f1 f2 f3
  go_enter Tryd.func29, Tryd.ntmps29
  have M1 : True := trivial
  have M2 : True := trivial
  go_wp2_with (first
   | (clear M1; go_at_call 42; go_loud (refine (HXc.out _ _ HB0.out HN0.out).mono ?_; rintro e w5 ⟨⟨v5, rfl, h5⟩, hb5⟩; obtain ⟨x5, d5, rfl, -⟩ := h5.form; have HT5 := qa0 (h5.low (C := w.heap.size + 1) (by simp)); have HB5 := qa0 (jtwo HB0.out hb5); have HV5 := qa0 (HV0.out.later hb5); have z8 := HV5.out.cell 8 _ rfl; have z9 := HV5.out.cell 9 _ rfl; have z10 := HV5.out.cell 10 _ rfl; have z11 := HV5.out.cell 11 _ rfl; have z12 := HV5.out.cell 12 _ rfl; have z13 := HV5.out.cell 13 _ rfl; have z14 := HV5.out.cell 14 _ rfl; clear h5 hb5))
   | (go_at_call 43; go_loud (refine (HSc.out _ HB5.out).mono ?_; rintro e w7 ⟨⟨v7, rfl, h7⟩, hb7⟩; have H7 := qa0 h7; have HB7 := qa0 (jtwo HB5.out hb7); have HV7 := qa0 (HV5.out.later hb7); have HT7 := qa0 (HT5.out.later hb7); clear h7 hb7 z8 z9 z10 z11 z12 z13 z14))
   | (clear M2; at_builtin; go_loud (refine qa3 rfl _ _ rfl (w.heap.size + 1) _ LX rfl HT7.out _ _ LS rfl H7.out Hs1.out HV7.out.lt ?_; go_loud (intro v8 w8 hT8 hb8; rw [HL1.out] at hT8; have HB8 := qa0 (HB7.out.trans (hb8.mono (by omega))); have HV8 := qa0 (HV7.out.keptB hb8 (by omega)); obtain ⟨x8, d8, rfl, -⟩ := hT8.form; have HT8 := qa0 hT8; have z16 := HV8.out.cell 16 _ rfl; clear hT8 hb8)))
   | (go_at_call 42; go_loud (refine (HLc.out _ HB8.out).mono ?_; rintro e w9 ⟨⟨v9, rfl, h9⟩, hb9⟩; have H9 := qa0 h9; have HB9 := qa0 (jtwo HB8.out hb9); have HV9 := qa0 (HV8.out.later hb9); have HT9 := qa0 (HT8.out.later hb9); clear h9 hb9 z16))
   | (refine qa3 rfl _ _ rfl (w.heap.size + 1) _ L1 rfl HT9.out _ _ LL rfl H9.out Hs2.out HV9.out.lt ?_; go_loud (intro v8 w6 hT8 hb8; rw [HL2.out] at hT8; have HB6 := qa0 (HB9.out.trans (hb8.mono (by omega))); have HV6 := qa0 (HV9.out.keptB hb8 (by omega)); obtain ⟨x8, d8, rfl, -⟩ := hT8.form; have HT6 := qa0 hT8; have z16 := HV6.out.cell 16 _ rfl; clear hT8 hb8)))
  go_ret
  exact ⟨⟨_, rfl, HT6.out.low (by omega)⟩, HB6.out⟩
open Go.RowKit Go.Shelf Go.Maps
/-- Uses of the call's own, read. -/
theorem Uw.el {w : World} {B n d : Nat} {a : Option Addr} {L : List Us} (h : Uw w B (.slice a n d) L) {i : Nat} {u : Us} (hu : L[i]? = some u) : ∃ g, a = some ⟨g, 0, none⟩ ∧ B ≤ g ∧ w.cell? ⟨g, i * 4, none⟩ = some (.string u.nm) ∧ w.cell? ⟨g, i * 4 + 1, none⟩ = some (.int .i64 (u.k : Int)) ∧ w.cell? ⟨g, i * 4 + 2, none⟩ = some (.int .i64 u.ln) ∧ w.cell? ⟨g, i * 4 + 3, none⟩ = some (.int .i64 u.cl) := by
 have hl := (List.getElem?_eq_some_iff.1 hu).1
 rcases h.2 with ⟨_, h0⟩ | ⟨g, cap, cur, e, hB, _⟩
 ·omega
 ·obtain ⟨h0, h1, h2, h3⟩ := urow_get L i u hu
  have hc := World.ownsRow.cells h (g := g) (by rw [e]; rfl)
  cases e
  have ad : ∀ j, (⟨g, 0, none⟩ : Addr).add j = ⟨g, j, none⟩ := fun j => by rw [Addr.add_mid, Nat.zero_add]
  exact ⟨g, rfl, hB, by have := hc _ _ h0; rw [ad] at this; exact this, by have := hc _ _ h1; rw [ad] at this; exact this, by have := hc _ _ h2; rw [ad] at this; exact this, by have := hc _ _ h3; rw [ad] at this; exact this⟩
end Go.Proofs.YtemhodenkgngmaaDoor
