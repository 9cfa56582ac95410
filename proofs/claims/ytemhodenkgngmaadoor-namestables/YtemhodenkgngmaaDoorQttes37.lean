/-
  Stage 13: the reference's wrong.
-/
import Derived.Test.YtemhodenkgngmaaDoorQttes00
import Derived.Test.YtemhodenkgngmaaDoorQttes36
import Derived.Deep.QuietTactic
import Derived.BigQuiet
set_option maxRecDepth 100000
set_option maxHeartbeats 16000000
namespace Go.Proofs.YtemhodenkgngmaaDoor
open Go.RowKit Go.Shelf Go.Maps
theorem qe1 {f : Xt → Int → Int} {k : Int} (hk : 0 ≤ k) (hf : ∀ T l, 0 ≤ f T l → f T (l + k) = f T l + k) {F : Nat → Xt} {l : Int} : ∀ n, 0 ≤ xks f F n l → xks f F n (l + k) = xks f F n l + k := by
 intro n
 induction n with
 | zero => intro _; rfl
 | succ n ih =>
  intro h
  rw [qa7] at h
  by_cases g : xks f F n l < 0
  ·rw [if_pos g] at h; omega
  ·rw [if_neg g] at h
   have e := ih (by omega)
   rw [qa7, qa7, e, if_neg (by omega), if_neg g]
   exact hf _ _ h
theorem qd7 {k : Int} (hk : 0 ≤ k) : ∀ d (T : Xt) (l : Int), 0 ≤ xleft d T l → xleft d T (l + k) = xleft d T l + k := by
 intro d
 induction d with
 | zero => intro T l h; rw [qae] at h; omega
 | succ d ih =>
  intro T l h
  obtain ⟨m, hw, h1, e, _⟩ := qab h
  rw [e] at h ⊢
  rw [qaq (L1 := l - 1 + k) rfl ⟨by omega, by omega⟩ hw]
  exact qe1 hk ih m h
theorem mx_may13 {T : Xt} (h : MX 16 T) : mayX T = true := by
 obtain ⟨l, hl, h0⟩ := h
 unfold mayX
 have := qd7 (k := 8192 - l) (by omega) 16 T l h0
 rw [show l + (8192 - l) = 8192 by omega] at this
 exact decide_eq_true (by omega)
theorem qbe {w : World} {a : Addr} {v : Value} (h : w.cell? a = some v) : a.block < w.heap.size := by
 rcases Nat.lt_or_ge a.block w.heap.size with hl | hl
 ·exact hl
 ·unfold World.cell? at h
  rw [Array.getElem?_eq_none hl] at h
  cases h
theorem lok_at2 {F : Nat → Sy} {s : ByteArray} {i : Nat} (hs : (F i).nm = s) : ∀ (d j : Nat), j ≤ i → i < j + d → (∀ q, j ≤ q → q < i → (F q).nm ≠ s) → lok F s d j = (F i, true) := by
 intro d
 induction d with
 | zero => intro j h1 h2 _; omega
 | succ d ih =>
  intro j h1 h2 h3
  by_cases e : j = i
  ·subst e
   rw [qdw (by rw [hs]; exact qb8 s)]
  ·rw [qeo (qbt (h3 j (Nat.le_refl _) (by omega)))]
   exact ih (j + 1) (by omega) (by omega) (fun q a b => h3 q (by omega) b)
theorem qgk {F : Nat → Sy} {s : ByteArray} : ∀ (d j : Nat), (∀ q, j ≤ q → q < j + d → (F q).nm ≠ s) → lok F s d j = (sy0, false) := by
 intro d
 induction d with
 | zero => intro j _; rfl
 | succ d ih =>
  intro j h
  rw [qeo (qbt (h j (Nat.le_refl _) (by omega)))]
  exact ih (j + 1) (fun q a b => h q (by omega) (by omega))
theorem qdl {s : ByteArray} {k : Nat} : ∀ {T : List Sy}, skd T s = some k → ∃ i, i < T.length ∧ (T.getD i sy0).nm = s ∧ (∀ q, q < i → (T.getD q sy0).nm ≠ s) ∧ (T.getD i sy0).k = k := by
 intro T
 induction T with
 | nil => intro h; cases h
 | cons y T ih =>
  intro h
  have h : (if sbq y.nm s then some y.k else skd T s) = some k := h
  cases hq : sbq y.nm s with
  | true =>
   rw [hq, if_pos rfl] at h
   cases h
   refine ⟨0, by show 0 < _ + 1; omega, ?_, fun q hq => by omega, rfl⟩
   show y.nm = s
   by_cases e : y.nm = s
   ·exact e
   ·rw [qbt e] at hq; cases hq
  | false =>
   rw [hq, if_neg (by decide)] at h
   obtain ⟨i, h1, h2, h3, h4⟩ := ih h
   refine ⟨i + 1, by show i + 1 < _ + 1; omega, h2, fun q hq2 => ?_, h4⟩
   cases q with
   | zero => show y.nm ≠ s; intro e; rw [e, qb8] at hq; cases hq
   | succ q => exact h3 q (by omega)
/-- Looking a name up, and the kind of a name. -/
theorem qe2 (T : List Sy) (s : ByteArray) : (skd T s = none ∧ lok (fun j => T.getD j sy0) s T.length 0 = (sy0, false)) ∨ ∃ y, skd T s = some y.k ∧ lok (fun j => T.getD j sy0) s T.length 0 = (y, true) := by
 cases h : skd T s with
 | none => exact .inl ⟨rfl, qgk T.length 0 (fun q _ hq => (qf0.1 h) _ (qbx (by omega)))⟩
 | some k =>
  obtain ⟨i, h1, h2, h3, h4⟩ := qdl h
  exact .inr ⟨T.getD i sy0, by rw [h4], lok_at2 (F := fun j => T.getD j sy0) h2 T.length 0 (by omega) (by omega) (fun q _ hq => h3 q hq)⟩
/-- Uses of the call's own, read. -/
theorem Uw.el {w : World} {B n d : Nat} {a : Option Addr} {L : List Us} (h : Uw w B (.slice a n d) L) {i : Nat} {u : Us} (hu : L[i]? = some u) : ∃ g, a = some ⟨g, 0, none⟩ ∧ B ≤ g ∧ w.cell? ⟨g, i * 4, none⟩ = some (.string u.nm) ∧ w.cell? ⟨g, i * 4 + 1, none⟩ = some (.int .i64 (u.k : Int)) ∧ w.cell? ⟨g, i * 4 + 2, none⟩ = some (.int .i64 u.ln) ∧ w.cell? ⟨g, i * 4 + 3, none⟩ = some (.int .i64 u.cl) := by
 have hl := (List.getElem?_eq_some_iff.1 hu).1
 rcases h.2 with ⟨_, h0⟩ | ⟨g, cap, cur, e, hB, _⟩
 ·omega
 ·obtain ⟨h0, h1, h2, h3⟩ := urow_get L i u hu
  have hc := World.ownsRow.cells h (g := g) (by rw [e]; rfl)
  cases e
  have ad : ∀ j, (⟨g, 0, none⟩ : Addr).add j = ⟨g, j, none⟩ := fun j => by rw [Addr.add_mid, Nat.zero_add]
  exact ⟨g, rfl, hB, by have := hc _ _ h0; rw [ad] at this; exact this, by have := hc _ _ h1; rw [ad] at this; exact this, by have := hc _ _ h2; rw [ad] at this; exact this, by have := hc _ _ h3; rw [ad] at this; exact this⟩
/-- The reference's wrong. -/
theorem rwrong13 (w : World) (x : Option Addr) (dT : Nat) (T : List Sy) (k pl nl vk vl vc sk na ca np cp nr cr lc : Nat) (nm vm sm : ByteArray) (vn vln vcl sln scl ln cl : Int) (va aa pa ra la : Option Addr) (X : Xt) (S : St) (G : Nat → Xt) (U : List Us)
  (hT : SyL w x T.length (fun j => T.getD j sy0)) (hTl : T.length ≤ 64) (hX : XV w (.agg #[.int .u8 (vk : Int), .int .i64 vn, .string vm, .slice va vl vc, .int .i64 vln, .int .i64 vcl]) X) (hS : SV w (.agg #[.int .u8 (sk : Int), .string sm, .slice aa na ca, .slice pa np cp, .slice ra nr cr, .int .i64 sln, .int .i64 scl]) S) (hG : ∀ d, XL d w la nl G) (hu : UI X S nl G) (hU : ius ⟨k, nm, X, S, pl, nl, G, ln, cl⟩ = U) (hk8 : ∀ u ∈ U, u.k < 256) (hUl : U.length ≤ 1000000) :
  Calls Tryd.prog 24 #[.slice x T.length dT, .agg #[.int .u8 (k : Int), .string nm, .int .u8 (vk : Int), .int .i64 vn, .string vm, .slice va vl vc, .int .i64 vln, .int .i64 vcl, .int .u8 (sk : Int), .string sm, .slice aa na ca, .slice pa np cp, .slice ra nr cr, .int .i64 sln, .int .i64 scl, .int .u8 (pl : Int), .slice la nl lc, .int .i64 ln, .int .i64 cl]] w fun e w' => e = .returned (.agg #[.int .i64 (wfl (skd T) U).1, .int .i64 (wfl (skd T) U).2.1, .int .i64 (wfl (skd T) U).2.2]) ∧ Below w.heap.size w w' := by
 have HUs : Hid (∀ w' : World, Below w.heap.size w w' → Calls Tryd.prog 29 #[.agg #[.int .u8 (k : Int), .string nm, .int .u8 (vk : Int), .int .i64 vn, .string vm, .slice va vl vc, .int .i64 vln, .int .i64 vcl, .int .u8 (sk : Int), .string sm, .slice aa na ca, .slice pa np cp, .slice ra nr cr, .int .i64 sln, .int .i64 scl, .int .u8 (pl : Int), .slice la nl lc, .int .i64 ln, .int .i64 cl]] w' fun e w'' => (∃ v, e = .returned v ∧ Uw w'' w'.heap.size v U) ∧ Below w'.heap.size w' w'') := fun w' hb => by
  have h := ruses13 w' k pl nl vk vl vc sk na ca np cp nr cr lc nm vm sm vn vln vcl sln scl ln cl va aa pa ra la X S G (hX.later hb) (hS.later hb) (fun d => (hG d).later hb) hu
  rw [hU] at h
  exact h
 obtain ⟨wa, HWa⟩ : ∃ wa, Hid (wa = (w.alloc (.cells #[.int .u8 (k : Int), .string nm, .int .u8 (vk : Int), .int .i64 vn, .string vm, .slice va vl vc, .int .i64 vln, .int .i64 vcl, .int .u8 (sk : Int), .string sm, .slice aa na ca, .slice pa np cp, .slice ra nr cr, .int .i64 sln, .int .i64 scl, .int .u8 (pl : Int), .slice la nl lc, .int .i64 ln, .int .i64 cl] 61)).alloc (.cells #[.int .i64 0, .int .i64 0, .int .i64 0] 26)) := ⟨_, rfl⟩
 have HBa : Hid (Below w.heap.size w wa) := by show Below _ _ _; rw [HWa.out]; exact jtwo (jlow _ _) (jlow _ _)
 have HVa : Hid (Vn wa w.heap.size 61 #[.int .u8 (k : Int), .string nm, .int .u8 (vk : Int), .int .i64 vn, .string vm, .slice va vl vc, .int .i64 vln, .int .i64 vcl, .int .u8 (sk : Int), .string sm, .slice aa na ca, .slice pa np cp, .slice ra nr cr, .int .i64 sln, .int .i64 scl, .int .u8 (pl : Int), .slice la nl lc, .int .i64 ln, .int .i64 cl]) := by show Vn _ _ _ _; rw [HWa.out]; exact (Vn.new _ _ _).later (jlow _ _)
 have HFa : Hid (Vn wa (w.heap.size + 1) 26 #[.int .i64 0, .int .i64 0, .int .i64 0]) := by show Vn _ _ _ _; rw [HWa.out]; exact qe0 _ _ _ _
 have HT := qa0 hT
 have HK8 : Hid (∀ u ∈ U, u.k < 256) := hk8
 clear hT hX hS hG hu hU hk8
 go_enter Tryd.func24, Tryd.ntmps24
 have M1 : True := trivial
 go_wp2_with (first
  | (clear M1; rw [← HWa.out]; refine wpList_load_row rfl 61 _ rfl w.heap.size rfl 61 #[.int .u8 (k : Int), .string nm, .int .u8 (vk : Int), .int .i64 vn, .string vm, .slice va vl vc, .int .i64 vln, .int .i64 vcl, .int .u8 (sk : Int), .string sm, .slice aa na ca, .slice pa np cp, .slice ra nr cr, .int .i64 sln, .int .i64 scl, .int .u8 (pl : Int), .slice la nl lc, .int .i64 ln, .int .i64 cl] (0, 0) _ HVa.out Tryd.underlying61 rfl qa2 ?_)
  | (go_at_call 29; go_loud (refine (HUs.out _ HBa.out).mono ?_; rintro e w3 ⟨⟨v3, rfl, h3⟩, hb3⟩; obtain ⟨xu, du, rfl, -⟩ := h3.form; have H3 := qa0 (h3.low (C := w.heap.size + 2) HFa.out.lt); have HB3 := qa0 (jtwo HBa.out hb3); have HF3 := qa0 (HFa.out.later hb3); have HX3 := qa0 (HT.out.later HB3.out); clear h3 hb3)))
 go_loopw [6] (fun vi wr => ∃ i : Nat, i ≤ U.length ∧ vi = .int .i64 (i : Int) ∧ Hid (∀ (q : Nat) (v : Us), q < i → U[q]? = some v → skd T v.nm = some v.k) ∧ Hid (Uw wr (w.heap.size + 2) (.slice xu U.length du) U) ∧ Hid (Vn wr (w.heap.size + 1) 26 #[.int .i64 0, .int .i64 0, .int .i64 0]) ∧ Hid (SyL wr x T.length (fun j => T.getD j sy0)) ∧ Hid (Below w.heap.size w wr)) (fun vi _ => U.length - (intOf vi).toNat)
 case atStart => exact ⟨0, by omega, rfl, (fun q v hq => by omega), H3, HF3, HX3, HB3⟩
 case round =>
  obtain ⟨i, hi, rfl, HOk, HU, HF, HX, HB⟩ := hrel
  clear H3 HF3 HX3 HB3 HUs HVa HFa HBa HWa
  by_cases hlt : i < U.length
  ·have p0 : (0 : Int) ≤ (i : Int) := by omega
   have p1 : (i : Int) < (U.length : Int) := by omega
   obtain ⟨u, hu⟩ : ∃ u, U[i]? = some u := ⟨_, List.getElem?_eq_getElem hlt⟩
   obtain ⟨g, rfl, hge, z0, z1, z2, z3⟩ := HU.out.el hu
   have HGe := qa0 hge
   have hbad := qgd hu HOk.out
   have huk := HK8.out u (List.mem_of_getElem? hu)
   have HCu : Hid (∀ W : World, Uw W (w.heap.size + 2) (.slice (some ⟨g, 0, none⟩) U.length du) U → W.cell? ⟨g, i * 4, none⟩ = some (.string u.nm) ∧ W.cell? ⟨g, i * 4 + 1, none⟩ = some (.int .i64 (u.k : Int)) ∧ W.cell? ⟨g, i * 4 + 2, none⟩ = some (.int .i64 u.ln) ∧ W.cell? ⟨g, i * 4 + 3, none⟩ = some (.int .i64 u.cl)) := fun W h => by
    obtain ⟨g', e, _, h0, h1, h2, h3⟩ := h.el hu
    cases e
    exact ⟨h0, h1, h2, h3⟩
   have Hu := qa0 hu
   clear hu hge z1 z2 z3
   rcases qe2 T u.nm with ⟨hs, hl⟩ | ⟨y, hs, hl⟩
   ·have HBad : Hid (wfl (skd T) U = (121, u.ln, u.cl)) := hbad.1 hs
    have HLk : Hid (∀ w' : World, SyL w' x T.length (fun j => T.getD j sy0) → Calls Tryd.prog 14 #[.slice x T.length dT, .string u.nm] w' fun e w'' => e = .returned (.tuple #[.agg #[.string ⟨#[]⟩, .int .u8 0, .int .i64 0, .int .i64 0], .bool false]) ∧ Below w'.heap.size w' w'') := fun w' h => by
     have h2 := rlook w' x T.length dT _ u.nm h (by omega)
     rw [hl] at h2
     exact h2
    obtain ⟨un, uk, uln, ucl⟩ := u
    dsimp only at *
    clear hbad hs hl Hu HOk
    go_wp2_with (go_at_call 14; go_loud (refine (HLk.out _ HX.out).mono ?_; rintro e w4 ⟨rfl, hb⟩; obtain ⟨w5, HW5⟩ : ∃ w5, Hid (w5 = (w4.alloc (.cells #[.string ⟨#[]⟩, .int .u8 0, .int .i64 0, .int .i64 0] 35))) := ⟨_, qa0 rfl⟩; have hb5 : Below w4.heap.size w4 w5 := (by rw [HW5.out]; exact jlow _ _); have HB5 := qa0 (jtwo (jtwo HB.out hb) hb5); have HX5 := qa0 ((HX.out.later hb).later hb5); have HU5 := qa0 ((HU.out.later hb).later hb5); have HF5 := qa0 ((HF.out.later hb).later hb5); have HV5 : Hid (Vn w5 w4.heap.size 35 #[.string ⟨#[]⟩, .int .u8 0, .int .i64 0, .int .i64 0]) := (by show Vn _ _ _ _; rw [HW5.out]; exact Vn.new _ _ _); clear hb hb5))
    rw [← HW5.out]
    clear HW5
    refine wp_region_held (S := fun w' => w'.cell? ⟨g, i * 4 + 2, none⟩ = some (.int .i64 uln) ∧ w'.cell? ⟨g, i * 4 + 3, none⟩ = some (.int .i64 ucl)) (by kernel_rfl) ?_
    change wpAnyH _ _ _ _ _ _ _ _ (World.drew _)
    obtain ⟨wd, HWd⟩ : ∃ wd, Hid (World.drew w5 = wd) := ⟨_, rfl⟩
    have hbd : Below w5.heap.size w5 wd := by rw [← HWd.out]; exact (Below.refl _ _).drew
    rw [HWd.out]
    clear HWd
    have HSd : Hid (wd.cell? ⟨g, i * 4 + 2, none⟩ = some (.int .i64 uln) ∧ wd.cell? ⟨g, i * 4 + 3, none⟩ = some (.int .i64 ucl)) := ⟨cell_kept (HCu.out w5 HU5.out).2.2.1 hbd, cell_kept (HCu.out w5 HU5.out).2.2.2 hbd⟩
    have HBd := qa0 (jtwo HB5.out hbd)
    have HFd := qa0 (HF5.out.later hbd)
    have HUd := qa0 (HU5.out.later hbd)
    clear hbd
    refine wtkq 0 ?va0 rfl (by kernel_rfl) (fun _ _ _ h => h) (by rfl) ?ya0 HSd.out ?za0
    case ya0 => (intro wq hSw; (try dsimp only at hSw); obtain ⟨s1, s2⟩ := hSw; go_simp; try with_reducible rfl)
    try simp only [mz1, mz3, Act.put, mz4, mz5, mz6]
    refine wtkq 1 ?va1 rfl (by kernel_rfl) (fun _ _ _ h => h) (by rfl) ?ya1 HSd.out ?za1
    case ya1 => (intro wq hSw; (try dsimp only at hSw); obtain ⟨s1, s2⟩ := hSw; go_simp; try with_reducible rfl)
    try simp only [mz1, mz2, mz3, Act.put, mz4, mz5, mz6]
    refine wtkq 2 ?va2 rfl (by kernel_rfl) (fun _ _ _ h => h) (by rfl) ?ya2 HSd.out ?za2
    case ya2 => (intro wq hSw; (try dsimp only at hSw); obtain ⟨s1, s2⟩ := hSw; go_simp; try with_reducible rfl)
    try simp only [mz1, mz2, mz3, Act.put, mz4, mz5, mz6]
    refine wtkq 3 ?va3 rfl (by kernel_rfl) (fun _ _ _ h => h) (by rfl) ?ya3 HSd.out ?za3
    case ya3 => (intro wq hSw; (try dsimp only at hSw); obtain ⟨s1, s2⟩ := hSw; go_simp; try with_reducible rfl)
    try simp only [mz1, mz2, mz3, Act.put, mz4, mz5, mz6]
    refine wtkq 4 ?va4 rfl (by kernel_rfl) (fun _ _ _ h => h) (by rfl) ?ya4 HSd.out ?za4
    case ya4 => (intro wq hSw; (try dsimp only at hSw); obtain ⟨s1, s2⟩ := hSw; go_simp; try with_reducible rfl)
    try simp only [mz1, mz2, mz3, Act.put, mz4, mz5, mz6]
    refine wtkq 5 ?va5 rfl (by kernel_rfl) (fun _ _ _ h => h) (by rfl) ?ya5 HSd.out ?za5
    case ya5 => (intro wq hSw; (try dsimp only at hSw); obtain ⟨s1, s2⟩ := hSw; go_simp; try with_reducible rfl)
    try simp only [mz1, mz2, mz3, Act.put, mz4, mz5, mz6]
    refine wtkq 6 ?va6 rfl (by kernel_rfl) (fun _ _ _ h => h) (by rfl) ?ya6 HSd.out ?za6
    case ya6 => (intro wq hSw; (try dsimp only at hSw); obtain ⟨s1, s2⟩ := hSw; go_simp; try with_reducible rfl)
    try simp only [mz1, mz2, mz3, Act.put, mz4, mz5, mz6]
    refine wtkq 7 ?va7 rfl (by kernel_rfl) (fun _ _ _ h => h) (by rfl) ?ya7 HSd.out ?za7
    case ya7 => (intro wq hSw; (try dsimp only at hSw); obtain ⟨s1, s2⟩ := hSw; go_simp; try with_reducible rfl)
    try simp only [mz1, mz2, mz3, Act.put, mz4, mz5, mz6]
    refine wtkq 8 ?va8 rfl (by kernel_rfl) (fun _ _ _ h => h) (by rfl) ?ya8 HSd.out ?za8
    case ya8 => (intro wq hSw; (try dsimp only at hSw); obtain ⟨s1, s2⟩ := hSw; go_simp; try with_reducible rfl)
    try simp only [mz1, mz2, mz3, Act.put, mz4, mz5, mz6]
    refine wtkq 9 ?va9 rfl (by kernel_rfl) (fun _ _ _ h => h) (by rfl) ?ya9 HSd.out ?za9
    case ya9 => (intro wq hSw; (try dsimp only at hSw); obtain ⟨s1, s2⟩ := hSw; go_simp; try with_reducible rfl)
    try simp only [mz1, mz2, mz3, Act.put, mz4, mz5, mz6]
    refine wtkq 10 ?va10 rfl (by kernel_rfl) (fun _ _ _ h => h) (by rfl) ?ya10 HSd.out ?za10
    case ya10 => (intro wq hSw; (try dsimp only at hSw); obtain ⟨s1, s2⟩ := hSw; go_simp; try with_reducible rfl)
    try simp only [mz1, mz2, mz3, Act.put, mz4, mz5, mz6]
    refine wtkq 11 ?va11 rfl (by kernel_rfl) (fun _ _ _ h => h) (by rfl) ?ya11 HSd.out ?za11
    case ya11 => (intro wq hSw; (try dsimp only at hSw); obtain ⟨s1, s2⟩ := hSw; go_simp; try with_reducible rfl)
    try simp only [mz1, mz2, mz3, Act.put, mz4, mz5, mz6]
    refine wpAnyH_ready (rs := [12]) (by kernel_rfl) (by simp) ?_
    refine AllReadyH.cons rfl (fun KK hKK => ?_) AllReadyH.nil
    refine qa3 26 _ _ rfl (w.heap.size + 1) _ #[.int .i64 121, .int .i64 uln, .int .i64 ucl] rfl rfl HFd.out qa4 rfl (all3 rfl rfl rfl) ?_
    intro w8 HF8 hg8
    have hb8 : Below (w.heap.size + 2) wd w8 → True := fun _ => trivial
    clear hb8
    have hge : w.heap.size + 2 ≤ g := HGe.out
    refine hKK.out _ _ ⟨by rw [World.cell?_of_block (a := ⟨g, i * 4 + 2, none⟩) (hg8.out.block g (qbe HSd.out.1) (fun e => by injection e with e; omega))]; exact HSd.out.1, by rw [World.cell?_of_block (a := ⟨g, i * 4 + 3, none⟩) (hg8.out.block g (qbe HSd.out.1) (fun e => by injection e with e; omega))]; exact HSd.out.2⟩ (fun _ => ?_)
    clear hKK KK
    try simp only [mz1, mz2, mz3, Act.put]
    refine wpAnyH_done (by kernel_rfl) ?_ _
    try simp only [mz1, mz2, mz3, Act.put, mz4, mz5, mz6]
    go_wp2
    have d0 := HF8.out.cell 0 _ rfl
    have d1 := HF8.out.cell 1 _ rfl
    have d2 := HF8.out.cell 2 _ rfl
    have HB8 : Below w.heap.size w w8 := HBd.out.trans (jbelow hg8.out HBd.out.size (fun g e => by cases e; omega))
    refine bodyPost_ret (v := .agg #[.int .i64 121, .int .i64 uln, .int .i64 ucl]) (by simp [results, Tryd.results24, go_sem, d0, d1, d2]) rfl ?_
    exact ⟨by rw [HBad.out], HB8⟩
   ·obtain ⟨yn, yk, yi, yv⟩ := y
    have HLk : Hid (∀ w' : World, SyL w' x T.length (fun j => T.getD j sy0) → Calls Tryd.prog 14 #[.slice x T.length dT, .string u.nm] w' fun e w'' => e = .returned (.tuple #[.agg #[.string yn, .int .u8 (yk : Int), .int .i64 yi, .int .i64 yv], .bool true]) ∧ Below w'.heap.size w' w'') := fun w' h => by
     have h2 := rlook w' x T.length dT _ u.nm h (by omega)
     rw [hl] at h2
     exact h2
    have hs : skd T u.nm = some yk := hs
    have hyk : yk < 256 := by
     obtain ⟨q, hq, _, _, hqk⟩ := qdl hs
     have := (HX.out q hq).1.k8
     dsimp only at this
     omega
    by_cases hkk : yk = u.k
    ·have HOk2 : Hid (∀ (q : Nat) (v : Us), q < i + 1 → U[q]? = some v → skd T v.nm = some v.k) := fun q v hq hv => by
      by_cases e : q = i
      ·subst e; rw [Hu.out] at hv; cases hv; rw [hs, hkk]
      ·exact HOk.out q v (by omega) hv
     obtain ⟨un, uk, uln, ucl⟩ := u
     dsimp only at *
     subst hkk
     have q1 : ((yk : Int) != (yk : Int)) = false := by simp
     clear hbad hs hl Hu HOk
     go_wp2_with (go_at_call 14; go_loud (refine (HLk.out _ HX.out).mono ?_; rintro e w4 ⟨rfl, hb⟩; obtain ⟨w5, HW5⟩ : ∃ w5, Hid (w5 = (w4.alloc (.cells #[.string yn, .int .u8 (yk : Int), .int .i64 yi, .int .i64 yv] 35))) := ⟨_, qa0 rfl⟩; have hb5 : Below w4.heap.size w4 w5 := (by rw [HW5.out]; exact jlow _ _); have HB5 := qa0 (jtwo (jtwo HB.out hb) hb5); have HX5 := qa0 ((HX.out.later hb).later hb5); have HU5 := qa0 ((HU.out.later hb).later hb5); have HF5 := qa0 ((HF.out.later hb).later hb5); have HV5 : Hid (Vn w5 w4.heap.size 35 #[.string yn, .int .u8 (yk : Int), .int .i64 yi, .int .i64 yv]) := (by show Vn _ _ _ _; rw [HW5.out]; exact Vn.new _ _ _); clear hb hb5))
     rw [← HW5.out]
     clear HW5
     have k1 := (HCu.out w5 HU5.out).2.1
     have v1 := HV5.out.cell 1 _ rfl
     go_quiet (fail)
     go_wp2
     exact ⟨⟨i + 1, by omega, by go_num, HOk2, HU5.out.later (below_drewN (Below.refl _ _) _), HF5.out.later (below_drewN (Below.refl _ _) _), HX5.out.later (below_drewN (Below.refl _ _) _), below_drewN HB5.out _⟩, by simp [intOf]; omega⟩
    ·have HBad : Hid (wfl (skd T) U = (131, u.ln, u.cl)) := hbad.2 yk hs hkk
     obtain ⟨un, uk, uln, ucl⟩ := u
     dsimp only at *
     have q1 : ((yk : Int) != (uk : Int)) = true := by simp; omega
     clear hbad hs hl Hu HOk
     go_wp2_with (go_at_call 14; go_loud (refine (HLk.out _ HX.out).mono ?_; rintro e w4 ⟨rfl, hb⟩; obtain ⟨w5, HW5⟩ : ∃ w5, Hid (w5 = (w4.alloc (.cells #[.string yn, .int .u8 (yk : Int), .int .i64 yi, .int .i64 yv] 35))) := ⟨_, qa0 rfl⟩; have hb5 : Below w4.heap.size w4 w5 := (by rw [HW5.out]; exact jlow _ _); have HB5 := qa0 (jtwo (jtwo HB.out hb) hb5); have HX5 := qa0 ((HX.out.later hb).later hb5); have HU5 := qa0 ((HU.out.later hb).later hb5); have HF5 := qa0 ((HF.out.later hb).later hb5); have HV5 : Hid (Vn w5 w4.heap.size 35 #[.string yn, .int .u8 (yk : Int), .int .i64 yi, .int .i64 yv]) := (by show Vn _ _ _ _; rw [HW5.out]; exact Vn.new _ _ _); clear hb hb5))
     rw [← HW5.out]
     clear HW5
     have k1 := (HCu.out w5 HU5.out).2.1
     have v1 := HV5.out.cell 1 _ rfl
     go_quiet (fail)
     go_wp2
     have hbq : Below w5.heap.size w5 (w5.drewN nq) := below_drewN (Below.refl _ _) _
     have HB6 := qa0 (jtwo HB5.out hbq)
     have HU6 := qa0 (HU5.out.later hbq)
     have HF6 := qa0 (HF5.out.later hbq)
     clear hbq
     generalize w5.drewN nq = w6 at *
     refine wp_region_held (S := fun w' => w'.cell? ⟨g, i * 4 + 2, none⟩ = some (.int .i64 uln) ∧ w'.cell? ⟨g, i * 4 + 3, none⟩ = some (.int .i64 ucl)) (by kernel_rfl) ?_
     change wpAnyH _ _ _ _ _ _ _ _ (World.drew _)
     obtain ⟨wd, HWd⟩ : ∃ wd, Hid (World.drew w6 = wd) := ⟨_, rfl⟩
     have hbd : Below w6.heap.size w6 wd := by rw [← HWd.out]; exact (Below.refl _ _).drew
     rw [HWd.out]
     clear HWd
     have HSd : Hid (wd.cell? ⟨g, i * 4 + 2, none⟩ = some (.int .i64 uln) ∧ wd.cell? ⟨g, i * 4 + 3, none⟩ = some (.int .i64 ucl)) := ⟨cell_kept (HCu.out w6 HU6.out).2.2.1 hbd, cell_kept (HCu.out w6 HU6.out).2.2.2 hbd⟩
     have HBd := qa0 (jtwo HB6.out hbd)
     have HFd := qa0 (HF6.out.later hbd)
     have HUd := qa0 (HU6.out.later hbd)
     clear hbd
     refine wtkq 0 ?vb0 rfl (by kernel_rfl) (fun _ _ _ h => h) (by rfl) ?yb0 HSd.out ?zb0
     case yb0 => (intro wq hSw; (try dsimp only at hSw); obtain ⟨s1, s2⟩ := hSw; go_simp; try with_reducible rfl)
     try simp only [mz1, mz3, Act.put, mz4, mz5, mz6]
     refine wtkq 1 ?vb1 rfl (by kernel_rfl) (fun _ _ _ h => h) (by rfl) ?yb1 HSd.out ?zb1
     case yb1 => (intro wq hSw; (try dsimp only at hSw); obtain ⟨s1, s2⟩ := hSw; go_simp; try with_reducible rfl)
     try simp only [mz1, mz2, mz3, Act.put, mz4, mz5, mz6]
     refine wtkq 2 ?vb2 rfl (by kernel_rfl) (fun _ _ _ h => h) (by rfl) ?yb2 HSd.out ?zb2
     case yb2 => (intro wq hSw; (try dsimp only at hSw); obtain ⟨s1, s2⟩ := hSw; go_simp; try with_reducible rfl)
     try simp only [mz1, mz2, mz3, Act.put, mz4, mz5, mz6]
     refine wtkq 3 ?vb3 rfl (by kernel_rfl) (fun _ _ _ h => h) (by rfl) ?yb3 HSd.out ?zb3
     case yb3 => (intro wq hSw; (try dsimp only at hSw); obtain ⟨s1, s2⟩ := hSw; go_simp; try with_reducible rfl)
     try simp only [mz1, mz2, mz3, Act.put, mz4, mz5, mz6]
     refine wtkq 4 ?vb4 rfl (by kernel_rfl) (fun _ _ _ h => h) (by rfl) ?yb4 HSd.out ?zb4
     case yb4 => (intro wq hSw; (try dsimp only at hSw); obtain ⟨s1, s2⟩ := hSw; go_simp; try with_reducible rfl)
     try simp only [mz1, mz2, mz3, Act.put, mz4, mz5, mz6]
     refine wtkq 5 ?vb5 rfl (by kernel_rfl) (fun _ _ _ h => h) (by rfl) ?yb5 HSd.out ?zb5
     case yb5 => (intro wq hSw; (try dsimp only at hSw); obtain ⟨s1, s2⟩ := hSw; go_simp; try with_reducible rfl)
     try simp only [mz1, mz2, mz3, Act.put, mz4, mz5, mz6]
     refine wtkq 6 ?vb6 rfl (by kernel_rfl) (fun _ _ _ h => h) (by rfl) ?yb6 HSd.out ?zb6
     case yb6 => (intro wq hSw; (try dsimp only at hSw); obtain ⟨s1, s2⟩ := hSw; go_simp; try with_reducible rfl)
     try simp only [mz1, mz2, mz3, Act.put, mz4, mz5, mz6]
     refine wtkq 7 ?vb7 rfl (by kernel_rfl) (fun _ _ _ h => h) (by rfl) ?yb7 HSd.out ?zb7
     case yb7 => (intro wq hSw; (try dsimp only at hSw); obtain ⟨s1, s2⟩ := hSw; go_simp; try with_reducible rfl)
     try simp only [mz1, mz2, mz3, Act.put, mz4, mz5, mz6]
     refine wtkq 8 ?vb8 rfl (by kernel_rfl) (fun _ _ _ h => h) (by rfl) ?yb8 HSd.out ?zb8
     case yb8 => (intro wq hSw; (try dsimp only at hSw); obtain ⟨s1, s2⟩ := hSw; go_simp; try with_reducible rfl)
     try simp only [mz1, mz2, mz3, Act.put, mz4, mz5, mz6]
     refine wtkq 9 ?vb9 rfl (by kernel_rfl) (fun _ _ _ h => h) (by rfl) ?yb9 HSd.out ?zb9
     case yb9 => (intro wq hSw; (try dsimp only at hSw); obtain ⟨s1, s2⟩ := hSw; go_simp; try with_reducible rfl)
     try simp only [mz1, mz2, mz3, Act.put, mz4, mz5, mz6]
     refine wtkq 10 ?vb10 rfl (by kernel_rfl) (fun _ _ _ h => h) (by rfl) ?yb10 HSd.out ?zb10
     case yb10 => (intro wq hSw; (try dsimp only at hSw); obtain ⟨s1, s2⟩ := hSw; go_simp; try with_reducible rfl)
     try simp only [mz1, mz2, mz3, Act.put, mz4, mz5, mz6]
     refine wtkq 11 ?vb11 rfl (by kernel_rfl) (fun _ _ _ h => h) (by rfl) ?yb11 HSd.out ?zb11
     case yb11 => (intro wq hSw; (try dsimp only at hSw); obtain ⟨s1, s2⟩ := hSw; go_simp; try with_reducible rfl)
     try simp only [mz1, mz2, mz3, Act.put, mz4, mz5, mz6]
     refine wpAnyH_ready (rs := [12]) (by kernel_rfl) (by simp) ?_
     refine AllReadyH.cons rfl (fun KK hKK => ?_) AllReadyH.nil
     refine qa3 26 _ _ rfl (w.heap.size + 1) _ #[.int .i64 131, .int .i64 uln, .int .i64 ucl] rfl rfl HFd.out qa4 rfl (all3 rfl rfl rfl) ?_
     intro w8 HF8 hg8
     have hb8 : Below (w.heap.size + 2) wd w8 → True := fun _ => trivial
     clear hb8
     have hge : w.heap.size + 2 ≤ g := HGe.out
     refine hKK.out _ _ ⟨by rw [World.cell?_of_block (a := ⟨g, i * 4 + 2, none⟩) (hg8.out.block g (qbe HSd.out.1) (fun e => by injection e with e; omega))]; exact HSd.out.1, by rw [World.cell?_of_block (a := ⟨g, i * 4 + 3, none⟩) (hg8.out.block g (qbe HSd.out.1) (fun e => by injection e with e; omega))]; exact HSd.out.2⟩ (fun _ => ?_)
     clear hKK KK
     try simp only [mz1, mz2, mz3, Act.put]
     refine wpAnyH_done (by kernel_rfl) ?_ _
     try simp only [mz1, mz2, mz3, Act.put, mz4, mz5, mz6]
     go_wp2
     have d0 := HF8.out.cell 0 _ rfl
     have d1 := HF8.out.cell 1 _ rfl
     have d2 := HF8.out.cell 2 _ rfl
     have HB8 : Below w.heap.size w w8 := HBd.out.trans (jbelow hg8.out HBd.out.size (fun g e => by cases e; omega))
     refine bodyPost_ret (v := .agg #[.int .i64 131, .int .i64 uln, .int .i64 ucl]) (by simp [results, Tryd.results24, go_sem, d0, d1, d2]) rfl ?_
     exact ⟨by rw [HBad.out], HB8⟩
  ·obtain rfl : i = U.length := by omega
   have HGood : Hid (wfl (skd T) U = (0, 0, 0)) := qex (fun j u hu => HOk.out j u ((List.getElem?_eq_some_iff.1 hu).1) hu)
   go_wp2_with (refine qa1 rfl 26 _ _ rfl (w.heap.size + 1) _ #[.int .i64 0, .int .i64 0, .int .i64 0] rfl rfl HF.out qa4 rfl (all3 rfl rfl rfl) ?_; intro w8 HF8 hg8)
   have d0 := HF8.out.cell 0 _ rfl
   have d1 := HF8.out.cell 1 _ rfl
   have d2 := HF8.out.cell 2 _ rfl
   have HB8 : Below w.heap.size w w8 := HB.out.trans (jbelow hg8.out HB.out.size (fun g e => by cases e; omega))
   refine bodyPost_ret (v := .agg #[.int .i64 0, .int .i64 0, .int .i64 0]) (by simp [results, Tryd.results24, go_sem, d0, d1, d2]) rfl ?_
   exact ⟨by rw [HGood.out], HB8⟩
end Go.Proofs.YtemhodenkgngmaaDoor
