/-
  slices.Compact of a list of sets: which sets there are stays.
  slices.Sorted and slices.Compact of a list of one set.
  Codes of portions: Pyramid.
  Codes of portions: Local.
  The document's answer: codes of portions.
  The document's answer: codes of portions, pyramids.
  The document's Local, Pyramid and Same; the law's like; what both sides answer, in pairs.
  A code with one group: allHang, isGenerator, May; the laws' anchor.
  shape.May of any code: isGenerator, allHang.
  Contracts of the rows' reference: the errors of Span, Basis, Needed, Circuit.
  May of any code, of the program and of the reference.
-/
import Derived.Test.YtlmanliinncdiaaGreatQggps00
import Derived.Test.YtlmanliinncdiaaGreatQggps03
import Derived.Deep.CutBlock
import Derived.Deep.LoopGhost
import Derived.Lib.SliceRun
import Derived.Test.YtlmanliinncdiaaGreatQggps04
import Derived.Test.YtlmanliinncdiaaGreatQggps44
import Derived.Test.YtlmanliinncdiaaGreatQggps42
import Derived.Test.YtlmanliinncdiaaGreatQggps43
import Derived.Test.YtlmanliinncdiaaGreatQggps48
import Derived.Test.YtlmanliinncdiaaGreatQggps07
import Derived.Test.YtlmanliinncdiaaGreatQggps47
import Derived.Test.YtlmanliinncdiaaGreatQggps46
set_option maxRecDepth 100000
set_option maxHeartbeats 16000000
namespace Go.Proofs.YtlmanliinncdiaaGreat
open Go.RowKit
/-- What the inner loop of Compact knows: k numbers are kept, those up to k0 + k2 were looked at. -/
structure Cpk (w w' : World) (g o n c : Nat) (q : Nat → Nat) (k0 k k2 : Nat) (f : Nat → Nat) : Prop where
 cell : ∀ t, t < n → w'.cell? ⟨g, o + t, none⟩ = some (.int .u64 (f t : Nat))
 sh : ∃ cur, w'.heap[g]? = some (.cells cur 26 (0, 0)) ∧ cur.size = c
 gr : w.grownBy w' (some g)
 rest : ∀ t, k0 + k2 ≤ t + 1 → t < n → f t = q t
 same : ∀ v, (∃ i, i < k0 + k2 ∧ q i = v) ↔ ∃ i, i < k ∧ f i = v
theorem Cpk.free {w w' : World} {g o n c k0 k k2 : Nat} {q f : Nat → Nat} (h : Cpk w w' g o n c q k0 k k2 f) (t : Nat) : w'.frozen? ⟨g, o + t, none⟩ = false := by
 obtain ⟨cur, hc, _⟩ := h.sh
 simp [World.frozen?, hc]
theorem Cpk.drewN {w w' : World} {g o n c k0 k k2 : Nat} {q f : Nat → Nat} (h : Cpk w w' g o n c q k0 k k2 f) (m : Nat) : Cpk w (w'.drewN m) g o n c q k0 k k2 f :=
 ⟨fun t ht => h.cell t ht, h.sh, qd1 h.gr ⟨rfl, rfl, rfl, Nat.le_refl _, fun _ _ _ => rfl⟩, h.rest, h.same⟩
theorem Cpk.start {w w' : World} {g o n c k0 : Nat} {q : Nat → Nat} (h : Sq w w' g o n c q q) (h1 : 1 ≤ k0) (e : q k0 = q (k0 - 1)) : Cpk w w' g o n c q k0 k0 1 q :=
 ⟨h.cell, h.sh, h.gr, fun _ _ _ => rfl, fun v => by
  constructor
  ·rintro ⟨i, hi, e'⟩
   by_cases hk : i = k0
   ·subst hk; exact ⟨i - 1, by omega, by rw [← e, e']⟩
   ·exact ⟨i, by omega, e'⟩
  ·rintro ⟨i, hi, e'⟩
   exact ⟨i, by omega, e'⟩⟩
theorem Cpk.skip {w w' : World} {g o n c k0 k k2 : Nat} {q f : Nat → Nat} (h : Cpk w w' g o n c q k0 k k2 f) (h1 : 1 ≤ k2) (hk : k0 + k2 < n) (e : f (k0 + k2) = f (k0 + k2 - 1)) : Cpk w w' g o n c q k0 k (k2 + 1) f :=
 ⟨h.cell, h.sh, h.gr, fun t ht hn => h.rest t (by omega) hn, fun v => by
  rw [← h.same v]
  have e1 := h.rest (k0 + k2) (by omega) hk
  have e2 := h.rest (k0 + k2 - 1) (by omega) (by omega)
  constructor
  ·rintro ⟨i, hi, e'⟩
   by_cases hk : i = k0 + k2
   ·subst hk; exact ⟨k0 + k2 - 1, by omega, by rw [← e2, ← e, e1, e']⟩
   ·exact ⟨i, by omega, e'⟩
  ·rintro ⟨i, hi, e'⟩
   exact ⟨i, by omega, e'⟩⟩
theorem Cpk.put {w w' : World} {g o n c k0 k k2 : Nat} {q f : Nat → Nat} (h : Cpk w w' g o n c q k0 k k2 f) (hk : k0 + k2 < n) (hk2 : k + 1 ≤ k0 + k2) :
  Cpk w (w'.setCell ⟨g, o + k, none⟩ (.int .u64 (f (k0 + k2) : Nat))) g o n c q k0 (k + 1) (k2 + 1) (fun t => if t = k then f (k0 + k2) else f t) := by
 obtain ⟨c1, s1⟩ := Sq.set h.cell h.sh k (f (k0 + k2)) (by omega)
 refine ⟨c1, s1, qd1 h.gr (qbw _ _ _ _), fun t ht hn => ?_, fun v => ?_⟩
 ·show (if t = k then f (k0 + k2) else f t) = q t
  rw [if_neg (by omega)]; exact h.rest t (by omega) hn
 ·have e1 := h.rest (k0 + k2) (by omega) hk
  constructor
  ·rintro ⟨i, hi, e'⟩
   by_cases hi2 : i = k0 + k2
   ·subst hi2; exact ⟨k, by omega, by show (if k = k then _ else _) = v; rw [if_pos rfl, e1, e']⟩
   ·obtain ⟨j, hj, e2⟩ := (h.same v).1 ⟨i, by omega, e'⟩
    exact ⟨j, by omega, by show (if j = k then _ else f j) = v; rw [if_neg (by omega)]; exact e2⟩
  ·rintro ⟨j, hj, e'⟩
   have e' : (if j = k then f (k0 + k2) else f j) = v := e'
   by_cases hj2 : j = k
   ·rw [if_pos hj2] at e'
    exact ⟨k0 + k2, by omega, by rw [← e1, e']⟩
   ·rw [if_neg hj2] at e'
    obtain ⟨i, hi, e2⟩ := (h.same v).2 ⟨j, by omega, e'⟩
    exact ⟨i, by omega, e2⟩
/-- What Compact answers. -/
def CpA (w : World) (g o n cap : Nat) (q : Nat → Nat) (e : Ending) (w' : World) : Prop := ∃ (m : Nat) (f : Nat → Nat), e = .returned (.slice (some ⟨g, o, none⟩) m cap) ∧ m ≤ n ∧ (∀ t, t < m → w'.cell? ⟨g, o + t, none⟩ = some (.int .u64 (f t : Nat))) ∧ (∀ v, (∃ i, i < n ∧ q i = v) ↔ ∃ i, i < m ∧ f i = v) ∧ w.grownBy w' (some g)
theorem qdi (g : Nat) : ∀ (vs : List Value) (o : Nat) (w : World), w.grownBy (w.setCells g o vs) (some g)
 | [], _, _ => ⟨rfl, rfl, rfl, Nat.le_refl _, fun _ _ _ => rfl⟩
 | v :: vs, o, w => qd1 (qbw w g o v) (qdi g vs (o + 1) _)
theorem qh7 (w : World) (g o n c cap : Nat) (q : Nat → Nat) (h2 : 2 ≤ n) (hn : n ≤ 17592186044416) (hcap : n ≤ cap) (hc : ∀ t, t < n → w.cell? ⟨g, o + t, none⟩ = some (.int .u64 (q t : Nat))) (hs : ∃ cur, w.heap[g]? = some (.cells cur 26 (0, 0)) ∧ cur.size = c) :
  Calls Tryz.prog 98 #[.slice (some ⟨g, o, none⟩) n cap] w fun e w' => CpA w g o n cap q e w' := by
 have H0 : Hid (Sq w w g o n c q q) := Sq.start hc hs
 clear hc hs
 go_enter Tryz.func98, Tryz.ntmps98
 go_wp2
 go_loopg [3] n (fun gh vk wr => ∃ k : Nat, vk = .int .i64 (k : Int) ∧ 1 ≤ k ∧ k ≤ n ∧ n - k ≤ gh ∧ Sq w wr g o n c q q)
 case atStart => exact ⟨1, rfl, by omega, by omega, by omega, H0.out⟩
 case round =>
  obtain ⟨k0, rfl, hk1, hk2, hgh, hS⟩ := hrel
  have hcw := hS.cell
  have HQ : Hid (Sq w wr g o n c q q) := hS
  clear hS H0
  by_cases hlt : k0 < n
  ·have hlt2 : (k0 : Int) < (n : Int) := by omega
   obtain ⟨r, hr⟩ : ∃ r, n = k0 + r := ⟨n - k0, by omega⟩
   have HR : Hid (n - k0 = r) := by show _ = _; omega
   have hr1 : 1 ≤ r := by omega
   have hr2 : k0 + r ≤ n := by omega
   have hr3 : n ≤ k0 + r := by omega
   clear hr
   by_cases he : q k0 = q (k0 - 1)
   ·have HE : Hid (q k0 = q (k0 - 1)) := he
    have heb : ((q k0 : Int) == (q (k0 - 1) : Int)) = true := by simp; omega
    clear he
    go_wp2
    go_quiet (fail)
    go_wp2
    rw [HR.out]
    have HC : Hid (Cpk w (wr.drewN nq) g o n c q k0 k0 1 q) := Cpk.start (HQ.out.drewN _) hk1 HE.out
    clear hcw heb HE HQ
    go_loopg [3, 5] n (fun gh v3 v5 wr => ∃ (k k2 : Nat) (f : Nat → Nat), v3 = .int .i64 (k : Int) ∧ v5 = .int .i64 (k2 : Int) ∧ 1 ≤ k2 ∧ k0 ≤ k ∧ k + 1 ≤ k0 + k2 ∧ k2 ≤ r ∧ r - k2 ≤ gh ∧ Cpk w wr g o n c q k0 k k2 f)
    case atStart => exact ⟨k0, 1, q, rfl, rfl, by omega, by omega, by omega, by omega, by omega, HC.out⟩
    case round =>
     obtain ⟨k, k2, f, rfl, rfl, hm1, hm2, hm3, hm4, hgh2, hC⟩ := hrel
     have hcw := hC.cell
     have hfw : ∀ t, t < n → wr.frozen? ⟨g, o + t, none⟩ = false := fun t _ => hC.free t
     have HC1 : Hid (Cpk w wr g o n c q k0 k k2 f) := hC
     clear hC HC
     by_cases hl : k2 < r
     ·have hl2 : (k2 : Int) < (r : Int) := by omega
      by_cases he : f (k0 + k2) = f (k0 + (k2 - 1))
      ·have HE : Hid (f (k0 + k2) = f (k0 + (k2 - 1))) := he
       have heb : ((f (k0 + k2) : Int) != (f (k0 + (k2 - 1)) : Int)) = false := by simp; omega
       clear he
       go_wp2
       go_quiet (fail)
       go_wp2
       go_roundg (gk - 1)
       case measure => omega
       case rel => exact ⟨k, k2 + 1, f, rfl, by go_num, by omega, by omega, by omega, by omega, by omega, (HC1.out.drewN _).skip hm1 (by omega) (by rw [HE.out, show k0 + (k2 - 1) = k0 + k2 - 1 by omega])⟩
      ·have heb : ((f (k0 + k2) : Int) != (f (k0 + (k2 - 1)) : Int)) = true := by simp; omega
       clear he
       go_wp2
       go_quiet (fail)
       go_wp2
       go_roundg (gk - 1)
       case measure => omega
       case rel => exact ⟨k + 1, k2 + 1, _, by go_num, by go_num, by omega, by omega, by omega, by omega, by omega, (HC1.out.drewN _).put (by omega) (by omega)⟩
     ·have hl2 : ¬ (k2 : Int) < (r : Int) := by omega
      obtain ⟨z, HZ⟩ : ∃ z : List Value, Hid (List.replicate (n - k) (.int .u64 0) = z) := ⟨_, rfl⟩
      have hcl : ∀ ty, (Builtin.clear_ #[39] ty #[.slice (some ⟨g, o + k, none⟩) (n - k) (cap - k)]).run Tryz.prog wr = .ok (.tuple #[]) (wr.setCells g (o + k) z) := fun ty => by
       rw [← HZ.out]
       exact Lib.run_clear_slice wr _ _ ty _ Tryz.underlying39 Tryz.zeroValue26 rfl rfl g (o + k) _ _ (by omega) (fun j hj => by rw [show o + k + j = o + (k + j) by omega, hcw (k + j) (by omega)]; rfl) (fun j hj => by rw [show o + k + j = o + (k + j) by omega]; exact hfw (k + j) (by omega))
      go_wp2
      go_ret
      refine ⟨k, f, rfl, by omega, fun t ht => ?_, fun v => ?_, qd1 HC1.out.gr (qdi _ _ _ _)⟩
      ·rw [World.cell?_setCells_out g z (o + k) wr ⟨g, o + t, none⟩ (fun _ _ => .inl (by show o + t < o + k; omega))]
       exact HC1.out.cell t (by omega)
      ·rw [← HC1.out.same v, show k0 + k2 = n by omega]
   ·have heb : ((q k0 : Int) == (q (k0 - 1) : Int)) = false := by simp; omega
    clear he
    go_wp2
    go_quiet (fail)
    go_wp2
    go_roundg (gk - 1)
    case measure => omega
    case rel => exact ⟨k0 + 1, by go_num, by omega, by omega, by omega, HQ.out.drewN _⟩
  ·have hlt2 : ¬ (k0 : Int) < (n : Int) := by omega
   go_wp2
   go_ret
   exact ⟨n, q, rfl, by omega, HQ.out.cell, fun v => Iff.rfl, HQ.out.gr⟩
open Go.RowKit
theorem qgx (w : World) (a : Option Addr) (n k : Nat) (h : n < 2) : Calls Tryz.prog 98 #[.slice a n k] w fun e w' => e = .returned (.slice a n k) ∧ w = w' := by
 have h2 : (n : Int) < 2 := by omega
 go_enter Tryz.func98, Tryz.ntmps98
 go_wp2
 go_ret
 exact ⟨rfl, rfl⟩
/-- What Sorted answers. -/
def SdA (w : World) (n : Nat) (q : Nat → Nat) (e : Ending) (w' : World) : Prop := ∃ s d f, e = .returned (.slice s n d) ∧ Jo w' w.heap.size 26 .u64 (.slice s n d) n f ∧ Hs n q f ∧ Below w.heap.size w w'
theorem sorted16 (w : World) (a : Option Addr) (n k bv : Nat) (q : Nat → Nat) (hn : n ≤ 17592186044416) (hv : w.cell? ⟨bv, 0, none⟩ = some (.slice a n k)) (hj : Jl w a .u64 n (fun i => (q i : Int))) :
  Calls Tryz.prog 99 #[.func (.func 117) #[] #[.pointer (some ⟨bv, 0, none⟩)]] w fun e w' => SdA w n q e w' := by
 have HC := jhidv (qio w a n k bv q hn hv hj)
 clear hv hj
 go_enter Tryz.func99, Tryz.ntmps99
 go_wp2_with (first
  | (go_at_call 115; refine HC.out.mono ?_; rintro e w1 ⟨s, d, rfl, ho, hb⟩; have HO : Hid (Jo w1 w.heap.size 26 .u64 (.slice s n d) n q) := ho; have HB : Hid (Below w.heap.size w w1) := hb; clear ho hb)
  | (go_at_call 116; refine (sort16 _ w.heap.size n d s q hn HO.out).mono ?_; rintro e w2 ⟨rfl, f, hf1, hf2, hf3⟩; have HF : Hid (Jo w2 w.heap.size 26 .u64 (.slice s n d) n f ∧ Hs n q f ∧ w1.grownBy w2 (Value.slice s n d).ownBlock) := ⟨hf1, hf2, hf3⟩; clear hf1 hf2 hf3))
 go_ret
 exact ⟨s, d, f, rfl, HF.out.1, HF.out.2.1, HB.out.trans (jbelow HF.out.2.2 HB.out.size (qaa HO.out))⟩
/-- What Compact of a list of the call's own answers. -/
def CcA (w : World) (B n : Nat) (q : Nat → Nat) (e : Ending) (w' : World) : Prop := ∃ (s : Option Addr) (m d : Nat) (f : Nat → Nat), e = .returned (.slice s m d) ∧ m ≤ n ∧ Jl w' s .u64 m (fun i => (f i : Int)) ∧ (∀ v, (∃ i, i < n ∧ q i = v) ↔ ∃ i, i < m ∧ f i = v) ∧ Below B w w'
theorem qgy (w : World) (B n d : Nat) (s : Option Addr) (q : Nat → Nat) (hn : n ≤ 17592186044416) (hB : B ≤ w.heap.size) (h : Jo w B 26 .u64 (.slice s n d) n q) :
  Calls Tryz.prog 98 #[.slice s n d] w fun e w' => CcA w B n q e w' := by
 by_cases h2 : n < 2
 ·refine (qgx w s n d h2).mono ?_
  rintro e w' ⟨rfl, rfl⟩
  exact ⟨s, n, d, q, rfl, Nat.le_refl _, h.jl, fun _ => Iff.rfl, Below.refl _ _⟩
 ·rcases h.2 with ⟨e, h0⟩ | ⟨g, cap, cur, e, hBg, hg, hc, hm, hs, ht⟩
  ·omega
  ·cases e
   refine (qh7 w g 0 n cur.size d q (by omega) hn hc (fun t ht => by rw [Nat.zero_add]; exact h.cell t ht) ⟨cur, hg, rfl⟩).mono ?_
   rintro e w' ⟨m, f, rfl, hm2, hce, hsm, hgr⟩
   exact ⟨_, m, d, f, rfl, hm2, fun i hi => ⟨g, 0, rfl, hce i hi⟩, hsm, jbelow hgr hB (fun k hk => by cases hk; exact hBg)⟩
theorem qiy (w : World) (r c n k d m : Nat) (a b : Option Addr) (F q : Nat → Nat) (ha : Mt w a n k F) (hb : Jl w b .u64 m (fun i => (q i : Int))) (R : Rt r c n) (hm : m ≤ 17592186044416) (hq : ∀ i, i < m → q i < 18446744073709551616) (v : Bool) (hv : v = true ↔ ∀ i, i < m → HangP F r c (q i)) :
  Calls Tryz.prog 79 #[mv r c a n k, .slice b m d] w fun e w' => e = .returned (.bool v) ∧ Below w.heap.size w w' := by
 obtain ⟨wb, HW⟩ : ∃ wb, Hid (w.alloc (.cells #[.int .i64 (r : Int), .int .i64 (c : Int), .slice a n k] 114) = wb) := ⟨_, rfl⟩
 have HB0 : Hid (Below w.heap.size w wb) := by rw [← HW.out]; exact qa1 _ _
 have HV : Hid (Vq wb w.heap.size 114 #[.int .i64 (r : Int), .int .i64 (c : Int), .slice a n k]) := by rw [← HW.out]; exact Vq.new w _ _
 have HA : Hid (Mt w a n k F) := ha
 have HJ : Hid (Jl wb b .u64 m (fun i => (q i : Int))) := hb.later HB0.out
 have HHg : Hid (∀ w s t, Mt w a n k F → s < 18446744073709551616 → (t = true ↔ HangP F r c s) → Calls Tryz.prog 101 #[mv r c a n k, .int .u64 (s : Int)] w fun e w' => e = .returned (.bool t) ∧ Below w.heap.size w w') := fun w s t hw hs ht => hang16 w r c n k s a F hw R hs t ht
 have HQ : Hid (∀ i, i < m → q i < 18446744073709551616) := hq
 have HVd : Hid (v = true ↔ ∀ i, i < m → HangP F r c (q i)) := hv
 clear ha hb R hq hv
 go_enter Tryz.func79, Tryz.ntmps79
 go_wp2_with (first
  | (go_at_call 100; rw [HW.out]; refine (values16 _ _ _ _).mono ?_; rintro e w1 ⟨rfl, hw1⟩; have HB1 : Hid (Below wb.heap.size wb w1) := (by rw [← hw1]; exact qa1 _ _); have hcv : w1.cell? ⟨wb.heap.size, 0, none⟩ = some (.slice b m d) := (by rw [← hw1]; exact (Vq.new wb _ _).cell 0 _ rfl); clear hw1)
  | (go_at_call 99; refine (sorted16 _ b m d wb.heap.size q hm hcv (HJ.out.later HB1.out)).mono ?_; rintro e w2 ⟨s2, d2, f2, rfl, ho2, hs2, hb2⟩; have HO2 : Hid (Jo w2 w1.heap.size 26 .u64 (.slice s2 m d2) m f2) := ho2; have HS2 : Hid (Hs m q f2) := hs2; have HB2 : Hid (Below w1.heap.size w1 w2) := hb2; clear ho2 hb2 hcv hs2)
  | (go_at_call 98; refine (qgy _ w1.heap.size m d2 s2 f2 hm HB2.out.size HO2.out).mono ?_; rintro e w3 ⟨s3, m3, d3, f3, rfl, hm3, hj3, hs3, hb3⟩; have HJ3 : Hid (Jl w3 s3 .u64 m3 (fun i => (f3 i : Int))) := hj3; have HS3 : Hid (∀ v, (∃ i, i < m ∧ q i = v) ↔ ∃ i, i < m3 ∧ f3 i = v) := (fun v => (HS2.out v).trans (hs3 v)); have HB3 : Hid (Below wb.heap.size wb w3) := (jtwo HB1.out (HB2.out.trans hb3)); clear hj3 hs3 hb3))
 clear HO2 HS2 HB2 HB1
 go_loopg [7, 14] m3 (fun gh _ vi wr => ∃ i : Nat, vi = .int .i64 (i : Int) ∧ i ≤ m3 ∧ m3 - i ≤ gh ∧ (∀ j, j < i → HangP F r c (f3 j)) ∧ Below w3.heap.size w3 wr)
 case atStart => exact ⟨0, rfl, by omega, by omega, fun j hj => by omega, Below.refl _ _⟩
 case round =>
  obtain ⟨i, rfl, hi, hgh, hall, hbr⟩ := hrel
  have HL : Hid (∀ j, j < i → HangP F r c (f3 j)) := hall
  have HB : Hid (Below w3.heap.size w3 wr) := hbr
  have v0 := ((HV.out.later HB3.out).later hbr).cell 0 _ rfl
  have v1 := ((HV.out.later HB3.out).later hbr).cell 1 _ rfl
  have v2 := ((HV.out.later HB3.out).later hbr).cell 2 _ rfl
  have HMr : Hid (Mt wr a n k F) := HA.out.later (qa0 (qa0 HB0.out HB3.out) hbr)
  by_cases hlt : i < m3
  ·have hlt2 : (i : Int) < (m3 : Int) := by omega
   obtain ⟨x, o, ea, hc⟩ := (HJ3.out.later hbr) i hlt
   obtain ⟨y, HY⟩ : ∃ y, Hid (f3 i = y) := ⟨_, rfl⟩
   have hc2 : wr.cell? ⟨x, o + i, none⟩ = some (.int .u64 (y : Int)) := by rw [← HY.out]; exact hc
   have hy : y < 18446744073709551616 := by
    obtain ⟨j, hj, ej⟩ := (HS3.out y).2 ⟨i, hlt, HY.out⟩
    rw [← ej]; exact HQ.out j hj
   subst ea
   clear hc hall hbr
   by_cases hh : HangP F r c y
   ·have HT : Hid (HangP F r c y) := hh
    clear hh
    go_wp2_with (go_at_call 101; refine (HHg.out _ y true HMr.out hy ⟨fun _ => HT.out, fun _ => rfl⟩).mono ?_; rintro e w4 ⟨rfl, hb4⟩; have HB4 : Hid (Below w3.heap.size w3 w4) := qa0 HB.out hb4; clear hb4)
    go_roundg (gk - 1)
    case measure => omega
    case rel => exact ⟨i + 1, by go_num, by omega, by omega, fun j hj => (by
     by_cases e : j = i
     ·subst e; rw [HY.out]; exact HT.out
     ·exact HL.out j (by omega)), HB4.out⟩
   ·have HT : Hid (¬ HangP F r c y) := hh
    clear hh
    go_wp2_with (go_at_call 101; refine (HHg.out _ y false HMr.out hy ⟨fun h => (by cases h), fun h => (HT.out h).elim⟩).mono ?_; rintro e w4 ⟨rfl, hb4⟩; have HB4 : Hid (Below w3.heap.size w3 w4) := qa0 HB.out hb4; clear hb4)
    go_ret
    refine ⟨?_, qa0 (qa0 HB0.out HB3.out) HB4.out⟩
    cases v with
    | false => rfl
    | true =>
     obtain ⟨j, hj, ej⟩ := (HS3.out y).2 ⟨i, hlt, HY.out⟩
     exact (HT.out (ej ▸ HVd.out.1 rfl j hj)).elim
  ·have hlt2 : ¬ (i : Int) < (m3 : Int) := by omega
   clear hall hbr
   go_wp2
   go_ret
   refine ⟨?_, qa0 (qa0 HB0.out HB3.out) HB.out⟩
   have : v = true := HVd.out.2 (fun j hj => by
    obtain ⟨t, ht, et⟩ := (HS3.out (q j)).1 ⟨j, hj, rfl⟩
    rw [← et]; exact HL.out t (by omega))
   rw [this]; rfl
open Go.RowKit
theorem qiz (w : World) (r c E : Int) (n k s : Nat) (a : Option Addr) (hs6 : s < 18446744073709551616) (h : BadE r c n s E) :
  Calls Tryz.prog 50 #[mv r c a n k, .int .u64 (s : Int)] w fun e w' => e = .returned (.tuple #[.int .u64 0, .int .i64 E]) ∧ Below w.heap.size w w' := by
 have HC : Hid (∀ w' : World, Calls Tryz.prog 51 #[mv r c a n k, .int .u64 (s : Int)] w' fun e w'' => e = .returned (.tuple #[.int .i64 0, .int .i64 E]) ∧ Below w'.heap.size w' w'') := fun w' => qit w' r c E n k s a hs6 h
 have hE := h.ne
 clear h hs6
 go_enter Tryz.func50, Tryz.ntmps50
 go_wp2_with (go_at_call 51; refine (HC.out _).mono ?_; rintro e w1 ⟨rfl, hb⟩; have HV1 := (Vr.new w (.int .i64 r) (.int .i64 c) (.slice a n k)).later hb; have v0 := HV1.c0; have HB1 : Hid (Below w.heap.size w w1) := qa0 (qa1 _ _) hb; clear hb HV1)
 refine wp_loop_rounds 1 ?_
 rw [rounds_succ]
 go_wp2
 all_goals go_ret2
 all_goals exact ⟨rfl, HB1.out⟩
open Go.RowKit
/-- A matrix may be a generator. -/
def GenP (r c : Int) (n : Nat) : Prop := RightP r c n ∧ 1 ≤ c ∧ c ≤ r
/-- A code may be. -/
def MayP (F : Nat → Nat) (r c : Int) (n m : Nat) (q : Nat → Nat) : Prop := GenP r c n ∧ ∀ i, i < m → HangP F r.toNat c.toNat (q i)
theorem GenP.nat {r c : Int} {n : Nat} (h : GenP r c n) : ∃ r' c' : Nat, r = (r' : Int) ∧ c = (c' : Int) ∧ Rt r' c' n ∧ 1 ≤ c' ∧ c' ≤ r' := by
  obtain ⟨⟨h1, h2, h3, h4, h5⟩, h6, h7⟩ := h
  obtain ⟨x, rfl⟩ := Int.eq_ofNat_of_zero_le h1
  obtain ⟨y, rfl⟩ := Int.eq_ofNat_of_zero_le h3
  exact ⟨x, y, rfl, rfl, ⟨by omega, by omega, by have : (n : Int) = ((x * y : Nat) : Int) := by rw [h5]; simp
                                                 omega⟩, by omega, by omega⟩
theorem bld_zero {P : Nat → Prop} {R p : Nat} (h : Bld P R p) : p = 0 ↔ ∀ i, i < R → ¬ P i := by
 constructor
 ·intro e i hi hp
  have := (h.2 i hi).2 hp
  rw [e] at this
  simp [bt] at this
 ·intro hn
  refine bt_ext fun i => ?_
  have z : bt 0 i = 0 := by simp [bt]
  rw [z]
  constructor
  ·intro hi
   by_cases hR : i < R
   ·exact (hn i hR ((h.2 i hR).1 hi)).elim
   ·have hp : p < 2 ^ i := Nat.lt_of_lt_of_le h.1 (Nat.pow_le_pow_right (by decide) (by omega))
    rw [bt, Nat.div_eq_of_lt hp] at hi
    omega
  ·intro hi
   omega
theorem need16 (w : World) (r c n k s : Nat) (a : Option Addr) (F : Nat → Nat) (ha : Sl w a n F) (R : Rt r c n) (hs : s < 18446744073709551616) :
  Calls Tryz.prog 50 #[mv r c a n k, .int .u64 (s : Int)] w fun e w' => ∃ (p : Nat) (E : Int), e = .returned (.tuple #[.int .u64 (p : Int), .int .i64 E]) ∧ ((E = 0 ∧ p = 0) ↔ HangP F r c s) ∧ Below w.heap.size w w' := by
 by_cases h : s < 2 ^ r
 ·refine (rNeed_ok w r c n k s a F ha R h).mono ?_
  rintro e w' ⟨p, rfl, hp, hb⟩
  refine ⟨p, 0, rfl, ?_, hb⟩
  rw [bld_zero hp]
  constructor
  ·rintro ⟨_, h0⟩
   exact ⟨h, fun i hi hbi => Classical.byContradiction fun hn => h0 i hi ⟨hbi, hn⟩⟩
  ·rintro ⟨_, h1⟩
   exact ⟨rfl, fun i hi hn => hn.2 (h1 i hi hn.1)⟩
 ·refine (qiz w r c 2 n k s a hs (.inr ⟨R.p, by rw [Int.toNat_natCast]; exact h, rfl⟩)).mono ?_
  rintro e w' ⟨rfl, hb⟩
  exact ⟨0, 2, rfl, ⟨fun h2 => by have := h2.1; omega, fun h2 => (h h2.1).elim⟩, hb⟩
theorem genx16 (w : World) (r c : Int) (n k : Nat) (a : Option Addr) (b : Bool) (hb : b = true ↔ GenP r c n) :
  Calls Tryz.prog 78 #[mv r c a n k] w fun e w' => e = .returned (.bool b) ∧ Below w.heap.size w w' := by
 obtain ⟨wb, HW⟩ : ∃ wb, Hid (w.alloc (.cells #[.int .i64 r, .int .i64 c, .slice a n k] 24) = wb) := ⟨_, rfl⟩
 have HB0 : Hid (Below w.heap.size w wb) := by rw [← HW.out]; exact qa1 _ _
 have HV : Hid (Vq wb w.heap.size 24 #[.int .i64 r, .int .i64 c, .slice a n k]) := by rw [← HW.out]; exact Vq.new w _ _
 by_cases h : RightP r c n
 ·have HP : Hid (RightP r c n) := h
  have HE : Hid (b = (decide (1 ≤ c) && decide (c ≤ r))) := by
   show b = _
   cases b with
   | true =>
    have := hb.1 rfl
    simp [this.2.1, this.2.2]
   | false =>
    have : ¬ (1 ≤ c ∧ c ≤ r) := fun h2 => by have := hb.2 ⟨h, h2.1, h2.2⟩; cases this
    by_cases h1 : 1 ≤ c
    ·simp [h1]; omega
    ·simp [h1]
  clear h hb
  by_cases h1 : 1 ≤ c
  ·have g1 : decide ((1 : Int) ≤ c) = true := by simpa using h1
   go_enter Tryz.func78, Tryz.ntmps78
   go_wp2_with (go_at_call 57; rw [HW.out]; refine (qaq _ _ _ _ _ _ HP.out).mono ?_; rintro e w1 ⟨rfl, hb1⟩; have HB1 : Hid (Below wb.heap.size wb w1) := hb1; have v0 := (HV.out.later hb1).cell 0 _ rfl; have v1 := (HV.out.later hb1).cell 1 _ rfl; clear hb1)
   go_ret
   exact ⟨by rw [HE.out, g1]; simp, qa0 HB0.out HB1.out⟩
  ·have g1 : decide ((1 : Int) ≤ c) = false := by simpa using h1
   go_enter Tryz.func78, Tryz.ntmps78
   go_wp2_with (go_at_call 57; rw [HW.out]; refine (qaq _ _ _ _ _ _ HP.out).mono ?_; rintro e w1 ⟨rfl, hb1⟩; have HB1 : Hid (Below wb.heap.size wb w1) := hb1; have v0 := (HV.out.later hb1).cell 0 _ rfl; have v1 := (HV.out.later hb1).cell 1 _ rfl; clear hb1)
   go_ret
   exact ⟨by rw [HE.out, g1]; simp, qa0 HB0.out HB1.out⟩
 ·have HP : Hid (¬ RightP r c n) := h
  have HE : Hid (b = false) := by
   show b = _
   cases b with
   | true => exact (h (hb.1 rfl).1).elim
   | false => rfl
  clear h hb
  go_enter Tryz.func78, Tryz.ntmps78
  go_wp2_with (go_at_call 57; rw [HW.out]; refine (qhu _ _ _ _ _ _ HP.out).mono ?_; rintro e w1 ⟨rfl, hb1⟩; have HB1 : Hid (Below wb.heap.size wb w1) := hb1; have v0 := (HV.out.later hb1).cell 0 _ rfl; have v1 := (HV.out.later hb1).cell 1 _ rfl; clear hb1)
  go_ret
  exact ⟨by rw [HE.out]; rfl, qa0 HB0.out HB1.out⟩
theorem qj0 (w : World) (r c : Int) (n k : Nat) (a : Option Addr) (b : Bool) (hb : b = true ↔ GenP r c n) :
  Calls Tryz.prog 40 #[mv r c a n k] w fun e w' => e = .returned (.bool b) ∧ Below w.heap.size w w' := by
 obtain ⟨wb, HW⟩ : ∃ wb, Hid (w.alloc (.cells #[.int .i64 r, .int .i64 c, .slice a n k] 24) = wb) := ⟨_, rfl⟩
 have HB0 : Hid (Below w.heap.size w wb) := by rw [← HW.out]; exact qa1 _ _
 have HV : Hid (Vq wb w.heap.size 24 #[.int .i64 r, .int .i64 c, .slice a n k]) := by rw [← HW.out]; exact Vq.new w _ _
 by_cases h : RightP r c n
 ·have HP : Hid (RightP r c n) := h
  have HE : Hid (b = (decide (1 ≤ c) && decide (c ≤ r))) := by
   show b = _
   cases b with
   | true =>
    have := hb.1 rfl
    simp [this.2.1, this.2.2]
   | false =>
    have : ¬ (1 ≤ c ∧ c ≤ r) := fun h2 => by have := hb.2 ⟨h, h2.1, h2.2⟩; cases this
    by_cases h1 : 1 ≤ c
    ·simp [h1]; omega
    ·simp [h1]
  clear h hb
  by_cases h1 : 1 ≤ c
  ·have g1 : decide ((1 : Int) ≤ c) = true := by simpa using h1
   go_enter Tryz.func40, Tryz.ntmps40
   go_wp2_with (go_at_call 65; rw [HW.out]; refine (qav _ _ _ _ _ _ HP.out).mono ?_; rintro e w1 ⟨rfl, hb1⟩; have HB1 : Hid (Below wb.heap.size wb w1) := hb1; have v0 := (HV.out.later hb1).cell 0 _ rfl; have v1 := (HV.out.later hb1).cell 1 _ rfl; clear hb1)
   go_ret
   exact ⟨by rw [HE.out, g1]; simp, qa0 HB0.out HB1.out⟩
  ·have g1 : decide ((1 : Int) ≤ c) = false := by simpa using h1
   go_enter Tryz.func40, Tryz.ntmps40
   go_wp2_with (go_at_call 65; rw [HW.out]; refine (qav _ _ _ _ _ _ HP.out).mono ?_; rintro e w1 ⟨rfl, hb1⟩; have HB1 : Hid (Below wb.heap.size wb w1) := hb1; have v0 := (HV.out.later hb1).cell 0 _ rfl; have v1 := (HV.out.later hb1).cell 1 _ rfl; clear hb1)
   go_ret
   exact ⟨by rw [HE.out, g1]; simp, qa0 HB0.out HB1.out⟩
 ·have HP : Hid (¬ RightP r c n) := h
  have HE : Hid (b = false) := by
   show b = _
   cases b with
   | true => exact (h (hb.1 rfl).1).elim
   | false => rfl
  clear h hb
  go_enter Tryz.func40, Tryz.ntmps40
  go_wp2_with (go_at_call 65; rw [HW.out]; refine (qfp _ _ _ _ _ _ HP.out).mono ?_; rintro e w1 ⟨rfl, hb1⟩; have HB1 : Hid (Below wb.heap.size wb w1) := hb1; have v0 := (HV.out.later hb1).cell 0 _ rfl; have v1 := (HV.out.later hb1).cell 1 _ rfl; clear hb1)
  go_ret
  exact ⟨by rw [HE.out]; rfl, qa0 HB0.out HB1.out⟩
theorem may16 (w : World) (r c : Int) (n k d m : Nat) (a b : Option Addr) (F q : Nat → Nat) (ha : Mt w a n k F) (hb : Jl w b .u64 m (fun i => (q i : Int))) (hm : m ≤ 17592186044416) (hq : ∀ i, i < m → q i < 18446744073709551616) (v : Bool) (hv : v = true ↔ MayP F r c n m q) :
  Calls Tryz.prog 47 #[cv r c a n k b m d] w fun e w' => e = .returned (.bool v) ∧ Below w.heap.size w w' := by
 obtain ⟨wb, HW⟩ : ∃ wb, Hid (w.alloc (.cells #[.int .i64 r, .int .i64 c, .slice a n k, .slice b m d] 48) = wb) := ⟨_, rfl⟩
 have HB0 : Hid (Below w.heap.size w wb) := by rw [← HW.out]; exact qa1 _ _
 have HV : Hid (Vq wb w.heap.size 48 #[.int .i64 r, .int .i64 c, .slice a n k, .slice b m d]) := by rw [← HW.out]; exact Vq.new w _ _
 by_cases hg : GenP r c n
 ·have HG : Hid (∀ w, Calls Tryz.prog 78 #[mv r c a n k] w fun e w' => e = .returned (.bool true) ∧ Below w.heap.size w w') := fun w => genx16 w r c n k a true ⟨fun _ => hg, fun _ => rfl⟩
  have HH : Hid (∀ w', Below w.heap.size w w' → Calls Tryz.prog 79 #[mv r c a n k, .slice b m d] w' fun e w'' => e = .returned (.bool v) ∧ Below w'.heap.size w' w'') := fun w' hw => by
   obtain ⟨x, y, e1, e2, R, _, _⟩ := hg.nat
   have h2 : v = true ↔ ∀ i, i < m → HangP F x y (q i) := by
    rw [hv, MayP, e1, e2, Int.toNat_natCast, Int.toNat_natCast]
    exact ⟨fun h => h.2, fun h => ⟨by rw [← e1, ← e2]; exact hg, h⟩⟩
   rw [e1, e2]
   exact qiy w' x y n k d m a b F q (ha.later hw) (hb.later hw) R hm hq v h2
  clear ha hb hg hv hq
  go_enter Tryz.func47, Tryz.ntmps47
  go_wp2_with (first
   | (go_at_call 78; rw [HW.out]; refine (HG.out _).mono ?_; rintro e w1 ⟨rfl, hb1⟩; have HB1 : Hid (Below w.heap.size w w1) := qa0 HB0.out hb1; have v0 := (HV.out.later hb1).cell 0 _ rfl; have v1 := (HV.out.later hb1).cell 1 _ rfl; have v2 := (HV.out.later hb1).cell 2 _ rfl; have v3 := (HV.out.later hb1).cell 3 _ rfl; clear hb1)
   | (go_at_call 79; refine (HH.out _ HB1.out).mono ?_; rintro e w2 ⟨rfl, hb2⟩; have HB2 : Hid (Below w.heap.size w w2) := qa0 HB1.out hb2; clear hb2))
  go_ret
  exact ⟨rfl, HB2.out⟩
 ·have HG : Hid (∀ w, Calls Tryz.prog 78 #[mv r c a n k] w fun e w' => e = .returned (.bool false) ∧ Below w.heap.size w w') := fun w => genx16 w r c n k a false ⟨fun h => (by cases h), fun h => (hg h).elim⟩
  have HE : Hid (v = false) := by
   show v = _
   cases v with
   | true => exact (hg (hv.1 rfl).1).elim
   | false => rfl
  clear ha hb hg hv hq
  go_enter Tryz.func47, Tryz.ntmps47
  go_wp2_with (go_at_call 78; rw [HW.out]; refine (HG.out _).mono ?_; rintro e w1 ⟨rfl, hb1⟩; have HB1 : Hid (Below w.heap.size w w1) := qa0 HB0.out hb1; have v0 := (HV.out.later hb1).cell 0 _ rfl; have v1 := (HV.out.later hb1).cell 1 _ rfl; have v2 := (HV.out.later hb1).cell 2 _ rfl; have v3 := (HV.out.later hb1).cell 3 _ rfl; clear hb1)
  go_ret
  exact ⟨by rw [HE.out]; rfl, HB1.out⟩
theorem rmay16 (w : World) (r c : Int) (n k d m : Nat) (a b : Option Addr) (F q : Nat → Nat) (ha : Mt w a n k F) (hb : Jl w b .u64 m (fun i => (q i : Int))) (hm : m ≤ 17592186044416) (hq : ∀ i, i < m → q i < 18446744073709551616) (v : Bool) (hv : v = true ↔ MayP F r c n m q) :
  Calls Tryz.prog 18 #[cv r c a n k b m d] w fun e w' => e = .returned (.bool v) ∧ Below w.heap.size w w' := by
 obtain ⟨wb, HW⟩ : ∃ wb, Hid (w.alloc (.cells #[.int .i64 r, .int .i64 c, .slice a n k, .slice b m d] 48) = wb) := ⟨_, rfl⟩
 have HB0 : Hid (Below w.heap.size w wb) := by rw [← HW.out]; exact qa1 _ _
 have HV : Hid (Vq wb w.heap.size 48 #[.int .i64 r, .int .i64 c, .slice a n k, .slice b m d]) := by rw [← HW.out]; exact Vq.new w _ _
 by_cases hg : GenP r c n
 ·obtain ⟨x, y, e1, e2, R, _, _⟩ := hg.nat
  have HG : Hid (∀ w, Calls Tryz.prog 40 #[mv r c a n k] w fun e w' => e = .returned (.bool true) ∧ Below w.heap.size w w') := fun w => qj0 w r c n k a true ⟨fun _ => hg, fun _ => rfl⟩
  have HN : Hid (∀ (w' : World) (s : Nat), Below w.heap.size w w' → s < 18446744073709551616 → Calls Tryz.prog 50 #[mv r c a n k, .int .u64 (s : Int)] w' fun e w'' => ∃ (p : Nat) (E : Int), e = .returned (.tuple #[.int .u64 (p : Int), .int .i64 E]) ∧ ((E = 0 ∧ p = 0) ↔ HangP F r.toNat c.toNat s) ∧ Below w'.heap.size w' w'') := fun w' s hw hs => by
   rw [e1, e2, Int.toNat_natCast, Int.toNat_natCast]
   exact need16 w' x y n k s a F (ha.later hw).sl R hs
  have HVd : Hid (v = true ↔ ∀ i, i < m → HangP F r.toNat c.toNat (q i)) := hv.trans ⟨fun h => h.2, fun h => ⟨hg, h⟩⟩
  have HJ : Hid (Jl wb b .u64 m (fun i => (q i : Int))) := hb.later HB0.out
  have HQ : Hid (∀ i, i < m → q i < 18446744073709551616) := hq
  clear ha hb hg hv hq R e1 e2
  go_enter Tryz.func18, Tryz.ntmps18
  go_wp2_with (go_at_call 40; rw [HW.out]; refine (HG.out _).mono ?_; rintro e w1 ⟨rfl, hb1⟩; have HB1 : Hid (Below wb.heap.size wb w1) := hb1; clear hb1)
  go_loopg [3, 4, 5] m (fun gh vi _ _ wr => ∃ i : Nat, vi = .int .i64 (i : Int) ∧ i ≤ m ∧ m - i ≤ gh ∧ (∀ j, j < i → HangP F r.toNat c.toNat (q j)) ∧ Below wb.heap.size wb wr)
  case atStart => exact ⟨0, rfl, by omega, by omega, fun j hj => by omega, HB1.out⟩
  case round =>
   obtain ⟨i, rfl, hi, hgh, hall, hbr⟩ := hrel
   have HL : Hid (∀ j, j < i → HangP F r.toNat c.toNat (q j)) := hall
   have HB : Hid (Below wb.heap.size wb wr) := hbr
   have v0 := (HV.out.later hbr).cell 0 _ rfl
   have v1 := (HV.out.later hbr).cell 1 _ rfl
   have v2 := (HV.out.later hbr).cell 2 _ rfl
   have v3 := (HV.out.later hbr).cell 3 _ rfl
   by_cases hlt : i < m
   ·have hlt2 : (i : Int) < (m : Int) := by omega
    have i0 : (0 : Int) ≤ (i : Int) := Int.natCast_nonneg _
    obtain ⟨z, o, ea, hc⟩ := (HJ.out.later hbr) i hlt
    obtain ⟨u, HU⟩ : ∃ u, Hid (q i = u) := ⟨_, rfl⟩
    have hc2 : wr.cell? ⟨z, o + i, none⟩ = some (.int .u64 (u : Int)) := by rw [← HU.out]; exact hc
    have hu : u < 18446744073709551616 := by rw [← HU.out]; exact HQ.out i hlt
    subst ea
    have HD : Hid (wr.drew.cell? ⟨w.heap.size, 0, none⟩ = some (.int .i64 r) ∧ wr.drew.cell? ⟨w.heap.size, 1, none⟩ = some (.int .i64 c) ∧ wr.drew.cell? ⟨w.heap.size, 2, none⟩ = some (.slice a n k) ∧ wr.drew.cell? ⟨w.heap.size, 3, none⟩ = some (.slice (some ⟨z, o, none⟩) m d) ∧ wr.drew.cell? ⟨z, o + i, none⟩ = some (.int .u64 (u : Int))) := ⟨v0, v1, v2, v3, hc2⟩
    have HBd : Hid (Below w.heap.size w wr.drew) := (qa0 HB0.out hbr).trans ⟨rfl, rfl, rfl, Nat.le_refl _, fun _ _ => rfl⟩
    have HBe : Hid (Below wb.heap.size wb wr.drew) := hbr.trans ⟨rfl, rfl, rfl, Nat.le_refl _, fun _ _ => rfl⟩
    have HV4 : Hid (Vq wr.drew w.heap.size 48 #[.int .i64 r, .int .i64 c, .slice a n k, .slice (some ⟨z, o, none⟩) m d]) := HV.out.later HBe.out
    clear hc hall hbr
    go_wp2
    go_region_held3 (fun w' => w'.cell? ⟨w.heap.size, 0, none⟩ = some (.int .i64 r) ∧ w'.cell? ⟨w.heap.size, 1, none⟩ = some (.int .i64 c) ∧ w'.cell? ⟨w.heap.size, 2, none⟩ = some (.slice a n k) ∧ w'.cell? ⟨w.heap.size, 3, none⟩ = some (.slice (some ⟨z, o, none⟩) m d) ∧ w'.cell? ⟨z, o + i, none⟩ = some (.int .u64 (u : Int)))
     (first
      | exact HK2.out
      | exact HD.out)
     (first | (go_at_call 50; refine (HN.out _ u HBd.out hu).mono ?_; rintro e w4 ⟨p, E, rfl, hpe, hb4⟩; have HPE : Hid ((E = 0 ∧ p = 0) ↔ HangP F r.toNat c.toNat u) := hpe; have HB4 : Hid (Below wb.heap.size wb w4) := qa0 HBe.out hb4; have HK2 : Hid (w4.cell? ⟨w.heap.size, 0, none⟩ = some (.int .i64 r) ∧ w4.cell? ⟨w.heap.size, 1, none⟩ = some (.int .i64 c) ∧ w4.cell? ⟨w.heap.size, 2, none⟩ = some (.slice a n k) ∧ w4.cell? ⟨w.heap.size, 3, none⟩ = some (.slice (some ⟨z, o, none⟩) m d) ∧ w4.cell? ⟨z, o + i, none⟩ = some (.int .u64 (u : Int))) := ⟨(HV4.out.later hb4).cell 0 _ rfl, (HV4.out.later hb4).cell 1 _ rfl, (HV4.out.later hb4).cell 2 _ rfl, (HV4.out.later hb4).cell 3 _ rfl, keepc hb4 hc2⟩; clear hb4 hpe))
    by_cases hE : E = 0 ∧ p = 0
    ·obtain ⟨rfl, rfl⟩ := hE
     have HT : Hid (HangP F r.toNat c.toNat u) := HPE.out.1 ⟨rfl, rfl⟩
     clear HPE
     go_wp2
     go_roundg (gk - 1)
     case measure => omega
     case rel => exact ⟨i + 1, by go_num, by omega, by omega, fun j hj => (by
      by_cases e : j = i
      ·subst e; rw [HU.out]; exact HT.out
      ·exact HL.out j (by omega)), HB4.out⟩
    ·have HNo : Hid (¬ (E = 0 ∧ p = 0)) := hE
     by_cases hE0 : E = 0
     ·have hp : ((p : Int) != 0) = true := by simp; omega
      have hE1 : (E != 0) = false := by simpa using hE0
      clear hE hE0
      go_wp2
      go_ret
      refine ⟨?_, qa0 HB0.out HB4.out⟩
      cases v with
      | false => rfl
      | true => exact (HNo.out (HPE.out.2 (HU.out ▸ HVd.out.1 rfl i hlt))).elim
     ·have hE1 : (E != 0) = true := by simpa using hE0
      clear hE hE0
      go_wp2
      go_ret
      refine ⟨?_, qa0 HB0.out HB4.out⟩
      cases v with
      | false => rfl
      | true => exact (HNo.out (HPE.out.2 (HU.out ▸ HVd.out.1 rfl i hlt))).elim
   ·have hlt2 : ¬ (i : Int) < (m : Int) := by omega
    clear hall hbr
    go_wp2
    go_ret
    refine ⟨?_, qa0 HB0.out HB.out⟩
    have : v = true := HVd.out.2 (fun j hj => HL.out j (by omega))
    rw [this]; rfl
 ·have HG : Hid (∀ w, Calls Tryz.prog 40 #[mv r c a n k] w fun e w' => e = .returned (.bool false) ∧ Below w.heap.size w w') := fun w => qj0 w r c n k a false ⟨fun h => (by cases h), fun h => (hg h).elim⟩
  have HE : Hid (v = false) := by
   show v = _
   cases v with
   | true => exact (hg (hv.1 rfl).1).elim
   | false => rfl
  clear ha hb hg hv hq
  go_enter Tryz.func18, Tryz.ntmps18
  go_wp2_with (go_at_call 40; rw [HW.out]; refine (HG.out _).mono ?_; rintro e w1 ⟨rfl, hb1⟩; have HB1 : Hid (Below wb.heap.size wb w1) := hb1; clear hb1)
  go_ret
  exact ⟨by rw [HE.out]; rfl, qa0 HB0.out HB1.out⟩
end Go.Proofs.YtlmanliinncdiaaGreat
