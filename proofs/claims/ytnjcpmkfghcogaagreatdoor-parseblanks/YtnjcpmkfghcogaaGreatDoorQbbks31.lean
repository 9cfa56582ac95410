/-
  Stage 11: so many parts in round brackets.
  Stage 11: the kind of a shape by its first token.
-/
import Derived.Test.YtnjcpmkfghcogaaGreatDoorQbbks00
import Derived.Test.YtnjcpmkfghcogaaGreatDoorQbbks30
set_option maxRecDepth 100000
set_option maxHeartbeats 16000000
namespace Go.Proofs.YtnjcpmkfghcogaaGreatDoor
open Go.RowKit
def pcl {α : Type} (f : List TV → Rd α) : Nat → List α → List TV → Rd (List α)
 | 0, l, s => .ok (l, s)
 | m + 1, l, s => thn (if l.length = 0 then f s else thn (ask ⟨#[44]⟩ () s) (fun _ q => f q)) (fun y z => pcl f m (l ++ [y]) z)
theorem qap {α β γ : Type} (r : Rd α) (f : α → List TV → Rd β) (g : β → List TV → Rd γ) : thn (thn r f) g = thn r (fun x s => thn (f x s) g) := by
 cases r with
 | error e => rfl
 | ok p => rfl
theorem pcl_more {α : Type} (f : List TV → Rd α) : ∀ (c : Nat) (l : List α) (s : List TV), l.length ≠ 0 → pcl f (c + 1) l s = thn (ask ⟨#[44]⟩ () s) (fun _ q => thn (pcnt f c q) (fun m z => .ok (l ++ m, z))) := by
 intro c
 induction c with
 | zero =>
  intro l s hl
  show thn (if l.length = 0 then f s else thn (ask ⟨#[44]⟩ () s) (fun _ q => f q)) (fun y z => .ok (l ++ [y], z)) = _
  rw [if_neg hl, qap]
  refine qam rfl (fun _ q _ => ?_)
  show _ = thn (thn (f q) (fun y s => .ok ([y], s))) _
  rw [qap]
  rfl
 | succ c ih =>
  intro l s hl
  show thn (if l.length = 0 then f s else thn (ask ⟨#[44]⟩ () s) (fun _ q => f q)) (fun y z => pcl f (c + 1) (l ++ [y]) z) = _
  rw [if_neg hl, qap]
  refine qam rfl (fun _ q _ => ?_)
  show _ = thn (thn (f q) (fun y s => thn (ask ⟨#[44]⟩ () s) (fun _ q => thn (pcnt f c q) (fun l z => .ok (y :: l, z))))) _
  rw [qap]
  refine qam rfl (fun y z _ => ?_)
  rw [ih _ _ (by rw [List.length_append, List.length_singleton]; omega), qap]
  refine qam rfl (fun _ a _ => ?_)
  rw [qap]
  refine qam rfl (fun m b _ => ?_)
  rw [qa4, List.append_assoc]
  rfl
theorem qfg {α : Type} (f : List TV → Rd α) (c : Nat) (L : List TV) : pcnt f c L = pcl f (c + 1) [] L := by
 cases c with
 | zero => rfl
 | succ c =>
  show thn (f L) _ = thn (f L) _
  refine qam rfl (fun y s _ => ?_)
  rw [pcl_more f c _ _ (by simp)]
  rfl
theorem qfv {α : Type} (f : List TV → Rd α) (m : Nat) (s : List TV) : pcl f (m + 1) [] s = thn (f s) (fun y z => pcl f m ([] ++ [y]) z) := rfl
theorem qhj {α : Type} (f : List TV → Rd α) (m : Nat) (l : List α) (s : List TV) (hl : l.length ≠ 0) : pcl f (m + 1) l s = thn (ask ⟨#[44]⟩ () s) (fun _ q => thn (f q) (fun y z => pcl f m (l ++ [y]) z)) := by
 show thn (if l.length = 0 then f s else thn (ask ⟨#[44]⟩ () s) (fun _ q => f q)) _ = _
 rw [if_neg hl, qap]
def SLv (u : World) (v : Value) (l : List St) : Prop := ∃ a cap, v = .slice a l.length cap ∧ l.length ≤ 1000000000 ∧ ∀ d, SL d u a l.length (gs l)
theorem gs_at {l : List St} {i : Nat} (h : i < l.length) : l[i]? = some (gs l i) := getD_at h
theorem Gl.slv {s : Nat} {w : World} {v : Value} {l : List St} {cs : List Value} (h : Gl SC 44 7 s w v l cs) (hl : l.length ≤ 1000000000) : Fr s w (fun u => SLv u v l) := fun u hu => by
 obtain ⟨a, cap, e, hr⟩ := h.done
 refine ⟨a, cap, e, hl, fun d i hi => ?_⟩
 obtain ⟨b, o, cs', e', hQ, hc⟩ := hr u hu i _ (gs_at hi)
 exact ⟨b, o, e', hQ.at_ hc d⟩
theorem SV.sc {w : World} {S : St} {cs : Array Value} (h : SV w (.agg cs) S) : SC w cs.toList S := by
 obtain ⟨⟨aa, pa, ra, ca, cp, cr, e, h1, h2, h3⟩, hok⟩ := h
 cases e
 exact ⟨aa, pa, ra, ca, cp, cr, rfl, hok, h1, h2, h3⟩
theorem infS11 : (Tryz.prog.info? 44).map (fun i => (i.zero, i.size, i.bytes)) = some (some (.agg #[.int .u8 0, .string ⟨#[]⟩, .slice none 0 0, .slice none 0 0, .slice none 0 0, .int .i64 0, .int .i64 0]), 7, 112) := by kernel_rfl
theorem sev11 {x y z u v t s : Value} (h0 : x.oneCell' = true) (h1 : y.oneCell' = true) (h2 : z.oneCell' = true) (h3 : u.oneCell' = true) (h4 : v.oneCell' = true) (h5 : t.oneCell' = true) (h6 : s.oneCell' = true) : ∀ q ∈ [x, y, z, u, v, t, s], q.oneCell' = true := by
 intro q hq
 simp only [List.mem_cons, List.not_mem_nil, or_false] at hq
 rcases hq with rfl | rfl | rfl | rfl | rfl | rfl | rfl <;> assumption
theorem rbr_x (K : Rk) (hK : RkOk K) (f : List TV → Rd Xt) (hlf : ∀ L y s, f L = .ok (y, s) → s.length < L.length) (hsf : ∀ L, Suf (f L) L) (w : World) (j c : Nat) (hc3 : c ≤ 10) (hR : Rr K w j)
  (hP : ∀ jr w', j < jr → Rr K w' jr → Calls Tryz.prog 39 #[.pointer (some ⟨K.r, 0, none⟩)] w' (RY XV K w' (f (lst K jr)))) :
  Calls Tryz.prog 92 #[.pointer (some ⟨K.r, 0, none⟩), .int .i64 ((c + 1 : Nat) : Int), .func (.func 39) #[] #[]] w (RY XLv K w (pbr f c (lst K j))) := by
 unfold pbr
 have hlow := hR.low
 have HR := qa0 hR
 have HKo := qa0 hK
 have HPp := qa0 hP
 have hfew := hR.fn.few
 have hjn := hR.le
 clear hR hK hP
 have hr := hlow.1
 have hbt := hlow.2
 clear hlow
 by_cases ho : (K.g j).tx = ⟨#[40]⟩
 case neg =>
  rw [qbh K ho, qa7]
  have HO : Hid (∀ w', Rr K w' j → Calls Tryz.prog 121 #[.pointer (some ⟨K.r, 0, none⟩), .string ⟨#[40]⟩] w' fun e w'' => e = mis (K.g j) ∧ Gk K w' w'') := fun w' hr => qbg hr ho
  unfold mis at HO
  clear ho
  go_enter Tryz.func92, Tryz.ntmps92
  go_wp2_with (go_at_call 121; refine (HO.out _ HR.out).mono ?_; rintro e w1 ⟨rfl, hg1⟩)
  exact ⟨rfl, qb4 hjn hg1⟩
 have hjn1 := qao K HKo.out hjn (fun e => by cases e) ho
 rw [qb1 K hjn1 ho, qa4, qfg]
 have HO : Hid (∀ w', Rr K w' j → Calls Tryz.prog 121 #[.pointer (some ⟨K.r, 0, none⟩), .string ⟨#[40]⟩] w' fun e w'' => e = .returned (.tuple #[]) ∧ Rr K w'' (j + 1) ∧ Gk K w' w'') := fun w' hr => (qb0 hr ho).mono (fun e w'' h => by rw [show min (j + 1) K.n = j + 1 by omega] at h; exact h)
 clear ho
 obtain ⟨Q, HQ⟩ : ∃ Q, Hid (pcl f (c + 1) [] (lst K (j + 1)) = Q) := ⟨_, rfl⟩
 rw [HQ.out]
 obtain ⟨i0, hi0, hz0, hz1, hz2⟩ := info_parts infX11
 go_enter Tryz.func92, Tryz.ntmps92
 go_wp2_with (go_at_call 121; refine (HO.out _ HR.out).mono ?_; rintro e w0 ⟨rfl, hr0, hg0⟩; have HR0 := qa0 hr0; have HG0 := qa0 hg0; clear hr0 hg0)
 go_loopw [7, 12] (fun vp vi wr => ∃ (i : Nat) (l : List Xt) (cs : List Value) (jr : Nat), i ≤ c + 1 ∧ vi = .int .i64 (i : Int) ∧ l.length = i ∧ Hid (Q = pcl f (c + 1 - i) l (lst K jr)) ∧ j < jr ∧ Hid (Gl XC 37 6 w.heap.size wr vp l cs) ∧ Hid (Rr K wr jr) ∧ Hid (Gk K w wr)) (fun _ vi _ => c + 1 - (intOf vi).toNat)
 case atStart => exact ⟨0, [], [], j + 1, by omega, rfl, rfl, HQ.out.symm, by omega, Gl.nil _ _ _ _ _, HR0, HG0⟩
 case round =>
  clear HQ HR0 HG0 HO
  obtain ⟨i, l, cs, jr, hi, rfl, hll, HQr, hjj, HGl, HRr, HGr⟩ := hrel
  have hjr := HRr.out.le
  have hzr := HGr.out.size
  by_cases hlt : i < c + 1
  ·obtain ⟨m, hm⟩ : ∃ m, c + 1 - i = m + 1 := ⟨c - i, by omega⟩
   have hm2 : c + 1 - (i + 1) = m := by omega
   have p1 : (i : Int) < ((c + 1 : Nat) : Int) := by omega
   by_cases hi0' : i = 0
   ·subst hi0'
    obtain rfl : l = [] := List.eq_nil_of_length_eq_zero hll
    have hQ2 := HQr.out
    rw [hm, qfv] at hQ2
    cases hq2 : f (lst K jr) with
    | error s =>
     rw [hq2, qa7] at hQ2
     have HS2 : Hid (∀ w', Rr K w' jr → Calls Tryz.prog 39 #[.pointer (some ⟨K.r, 0, none⟩)] w' fun e w'' => e = mis (K.g (K.n - s.length)) ∧ Gk K w' w'') := fun w' hr => (HPp.out jr w' hjj hr).mono (fun e w'' h => by rw [hq2] at h; exact qat h)
     subst hQ2
     unfold mis at HS2
     clear HQr hq2 HPp
     go_wp2_with (go_at_call 39; refine (HS2.out _ HRr.out).mono ?_; rintro e w4 ⟨rfl, hg4⟩)
     exact ⟨rfl, HGr.out.trans hg4, rfl⟩
    | ok p =>
     obtain ⟨y, s⟩ := p
     rw [hq2, qa4] at hQ2
     have hlen2 := hlf _ _ _ hq2
     rw [qan] at hlen2
     have hsuf2 := hsf (lst K jr)
     rw [hq2] at hsuf2
     have hs2 := qaw K _ jr rfl hsuf2
     have HS2 : Hid (∀ w', Rr K w' jr → Calls Tryz.prog 39 #[.pointer (some ⟨K.r, 0, none⟩)] w' fun e w'' => (∃ v, e = .returned v ∧ Fr w'.heap.size w'' (fun u => XV u v y) ∧ Rr K w'' (K.n - s.length)) ∧ Gk K w' w'') := fun w' hr => (HPp.out jr w' (by omega) hr).mono (fun e w'' h => by rw [hq2] at h; exact qbe h)
     obtain ⟨j2, Hj2⟩ : ∃ j2, Hid (K.n - s.length = j2) := ⟨_, rfl⟩
     have hj2 : jr < j2 ∧ j2 ≤ K.n := by have := Hj2.out; omega
     rw [hs2, Hj2.out] at hQ2
     rw [Hj2.out] at HS2
     have HQ3 := qa0 hQ2
     clear hQ2 hq2 hsuf2 hs2 hlen2 HQr Hj2 HPp
     go_wp2_with (first
      | (go_at_call 39; refine (HS2.out _ HRr.out).mono ?_; rintro e w4 ⟨⟨v, rfl, hfr, hr4⟩, hg4⟩; obtain ⟨⟨ra, rcap, rfl, _⟩, _⟩ := hfr.now; have HF4 := qa0 hfr; have HR4 := qa0 hr4; have HG4 := qa0 hg4; have HL4 := qa0 (HGl.out.step (hg4.ag (by omega) (by omega))); have hz4 := hg4.size; clear hfr hr4 hg4)
      | (at_builtin; refine wpList_append_own_at _ rfl _ _ 35 rfl w.heap.size 37 i0 (.agg #[.int .u8 0, .int .i64 0, .string ⟨#[]⟩, .slice none 0 0, .int .i64 0, .int .i64 0]) 6 72 Tryz.underlying35 hi0 hz0 hz1 hz2 rfl (by decide) _ _ cs rfl (HL4.out.step (Ag.of (jlow w4 _))).1 ⟨w4.heap.size, 0, none⟩ 1 1 [.int .u8 ((y []).k : Int), .int .i64 (y []).n, .string (y []).nm, .slice ra (y []).len rcap, .int .i64 (y []).ln, .int .i64 (y []).cl] rfl rfl (qbm _ _ _) (qjj rfl rfl rfl rfl rfl rfl) (by unfold maxLen; simp only [List.length_nil]; omega) (by simp only [List.length_nil]; omega) (by rw [qak]; omega) ?_; intro v5 w5 hO5 hg5 _ hl5))
     have hbase := HGl.out.1.lt
     have HA : Hid (Below w4.heap.size w4 (w4.alloc (.cells (List.toArray [.int .u8 ((y []).k : Int), .int .i64 (y []).n, .string (y []).nm, .slice ra (y []).len rcap, .int .i64 (y []).ln, .int .i64 (y []).cl]) 37))) := jlow _ _
     have HL5 := qa0 ((HL4.out.step (Ag.of HA.out)).snoc (x := y) rfl (t := wr.heap.size) (fun u hu => (HF4.out u ((Ag.of HA.out).trans hu)).xc) (by omega) (fun g hg => (hbase g hg).2) hO5 hg5 hl5)
     have HGa : Hid (Gk K w (w4.alloc (.cells (List.toArray [.int .u8 ((y []).k : Int), .int .i64 (y []).n, .string (y []).nm, .slice ra (y []).len rcap, .int .i64 (y []).ln, .int .i64 (y []).cl]) 37))) := (HGr.out.trans HG4.out).trans (Gk.of HA.out)
     have HG5 := qa0 (HGa.out.app hg5 (fun x hx => (hbase x hx).1))
     have HR5 := qa0 (HR.out.step (HR4.out.later HA.out) (fun b hb => hg5.block b (by have := HA.out.size; omega) (fun e => by have := (hbase b e.symm).1; omega)))
     exact ⟨⟨0 + 1, _, _, j2, by omega, by go_num, rfl, by rw [hm2]; exact HQ3, by omega, HL5, HR5, HG5⟩, by simp [intOf]⟩
   ·have hl0 : l.length ≠ 0 := by omega
    have hQ2 := HQr.out
    rw [hm, qhj f m l _ hl0] at hQ2
    have p2 : decide ((0 : Int) < (i : Int)) = true := decide_eq_true (by omega)
    by_cases hcm : (K.g jr).tx = ⟨#[44]⟩
    case neg =>
     rw [qbh K hcm, qa7] at hQ2
     have HM : Hid (∀ w', Rr K w' jr → Calls Tryz.prog 121 #[.pointer (some ⟨K.r, 0, none⟩), .string ⟨#[44]⟩] w' fun e w'' => e = mis (K.g jr) ∧ Gk K w' w'') := fun w' hr => qbg hr hcm
     unfold mis at HM
     subst hQ2
     clear HQr hcm HPp
     go_wp2_with (go_at_call 121; refine (HM.out _ HRr.out).mono ?_; rintro e w3 ⟨rfl, hg3⟩)
     exact ⟨rfl, qb4 hjr (HGr.out.trans hg3)⟩
    have hjlt := qao K HKo.out hjr (fun e => by cases e) hcm
    rw [qb1 K hjlt hcm, qa4] at hQ2
    have HM : Hid (∀ w', Rr K w' jr → Calls Tryz.prog 121 #[.pointer (some ⟨K.r, 0, none⟩), .string ⟨#[44]⟩] w' fun e w'' => e = .returned (.tuple #[]) ∧ Rr K w'' (jr + 1) ∧ Gk K w' w'') := fun w' hr => (qb0 hr hcm).mono (fun e w'' h => by rw [show min (jr + 1) K.n = jr + 1 by omega] at h; exact h)
    cases hq2 : f (lst K (jr + 1)) with
    | error s =>
     rw [hq2, qa7] at hQ2
     have HS2 : Hid (∀ w', Rr K w' (jr + 1) → Calls Tryz.prog 39 #[.pointer (some ⟨K.r, 0, none⟩)] w' fun e w'' => e = mis (K.g (K.n - s.length)) ∧ Gk K w' w'') := fun w' hr => (HPp.out (jr + 1) w' (by omega) hr).mono (fun e w'' h => by rw [hq2] at h; exact qat h)
     subst hQ2
     unfold mis at HS2
     clear HQr hq2 HPp hcm
     go_wp2_with (first
      | (go_at_call 121; refine (HM.out _ HRr.out).mono ?_; rintro e w3 ⟨rfl, hr3, hg3⟩; have HR3 := qa0 hr3; have HG3 := qa0 hg3; clear hr3 hg3)
      | (go_at_call 39; refine (HS2.out _ HR3.out).mono ?_; rintro e w4 ⟨rfl, hg4⟩))
     exact ⟨rfl, (HGr.out.trans HG3.out).trans hg4, rfl⟩
    | ok p =>
     obtain ⟨y, s⟩ := p
     rw [hq2, qa4] at hQ2
     have hlen2 := hlf _ _ _ hq2
     rw [qan] at hlen2
     have hsuf2 := hsf (lst K (jr + 1))
     rw [hq2] at hsuf2
     have hs2 := qaw K _ (jr + 1) rfl hsuf2
     have HS2 : Hid (∀ w', Rr K w' (jr + 1) → Calls Tryz.prog 39 #[.pointer (some ⟨K.r, 0, none⟩)] w' fun e w'' => (∃ v, e = .returned v ∧ Fr w'.heap.size w'' (fun u => XV u v y) ∧ Rr K w'' (K.n - s.length)) ∧ Gk K w' w'') := fun w' hr => (HPp.out (jr + 1) w' (by omega) hr).mono (fun e w'' h => by rw [hq2] at h; exact qbe h)
     obtain ⟨j2, Hj2⟩ : ∃ j2, Hid (K.n - s.length = j2) := ⟨_, rfl⟩
     have hj2 : jr < j2 ∧ j2 ≤ K.n := by have := Hj2.out; omega
     rw [hs2, Hj2.out] at hQ2
     rw [Hj2.out] at HS2
     have HQ3 := qa0 hQ2
     clear hQ2 hq2 hsuf2 hs2 hlen2 HQr Hj2 HPp hcm
     go_wp2_with (first
      | (go_at_call 121; refine (HM.out _ HRr.out).mono ?_; rintro e w3 ⟨rfl, hr3, hg3⟩; have HR3 := qa0 hr3; have HG3 := qa0 hg3; have HL3 := qa0 (HGl.out.step (hg3.ag (by omega) (by omega))); have hz3 := hg3.size; clear hr3 hg3)
      | (go_at_call 39; refine (HS2.out _ HR3.out).mono ?_; rintro e w4 ⟨⟨v, rfl, hfr, hr4⟩, hg4⟩; obtain ⟨⟨ra, rcap, rfl, _⟩, _⟩ := hfr.now; have HF4 := qa0 hfr; have HR4 := qa0 hr4; have HG4 := qa0 hg4; have HL4 := qa0 (HL3.out.step (hg4.ag (by omega) (by omega))); have hz4 := hg4.size; clear hfr hr4 hg4)
      | (at_builtin; refine wpList_append_own_at _ rfl _ _ 35 rfl w.heap.size 37 i0 (.agg #[.int .u8 0, .int .i64 0, .string ⟨#[]⟩, .slice none 0 0, .int .i64 0, .int .i64 0]) 6 72 Tryz.underlying35 hi0 hz0 hz1 hz2 rfl (by decide) _ _ cs rfl (HL4.out.step (Ag.of (jlow w4 _))).1 ⟨w4.heap.size, 0, none⟩ 1 1 [.int .u8 ((y []).k : Int), .int .i64 (y []).n, .string (y []).nm, .slice ra (y []).len rcap, .int .i64 (y []).ln, .int .i64 (y []).cl] rfl rfl (qbm _ _ _) (qjj rfl rfl rfl rfl rfl rfl) (by unfold maxLen; omega) (by omega) (by rw [qak]; omega) ?_; intro v5 w5 hO5 hg5 _ hl5))
     have hbase := HL3.out.1.lt
     have HA : Hid (Below w4.heap.size w4 (w4.alloc (.cells (List.toArray [.int .u8 ((y []).k : Int), .int .i64 (y []).n, .string (y []).nm, .slice ra (y []).len rcap, .int .i64 (y []).ln, .int .i64 (y []).cl]) 37))) := jlow _ _
     have HL5 := qa0 ((HL4.out.step (Ag.of HA.out)).snoc (x := y) rfl (t := w3.heap.size) (fun u hu => (HF4.out u ((Ag.of HA.out).trans hu)).xc) (by omega) (fun g hg => (hbase g hg).2) hO5 hg5 hl5)
     have HGa : Hid (Gk K w (w4.alloc (.cells (List.toArray [.int .u8 ((y []).k : Int), .int .i64 (y []).n, .string (y []).nm, .slice ra (y []).len rcap, .int .i64 (y []).ln, .int .i64 (y []).cl]) 37))) := ((HGr.out.trans HG3.out).trans HG4.out).trans (Gk.of HA.out)
     have HG5 := qa0 (HGa.out.app hg5 (fun x hx => (hbase x hx).1))
     have HR5 := qa0 (HR.out.step (HR4.out.later HA.out) (fun b hb => hg5.block b (by have := HA.out.size; omega) (fun e => by have := (hbase b e.symm).1; omega)))
     exact ⟨⟨i + 1, _, _, j2, by omega, by go_num, by rw [List.length_append, List.length_singleton]; omega, by rw [hm2]; exact HQ3, by omega, HL5, HR5, HG5⟩, by simp [intOf]; omega⟩
  ·obtain rfl : i = c + 1 := by omega
   have p1 : decide (((c + 1 : Nat) : Int) < ((c + 1 : Nat) : Int)) = false := decide_eq_false (by omega)
   have hQ2 : Q = .ok (l, lst K jr) := by rw [HQr.out, Nat.sub_self]; rfl
   subst hQ2
   clear HQr HPp
   by_cases hcl : (K.g jr).tx = ⟨#[41]⟩
   ·have hjlt := qao K HKo.out hjr (fun e => by cases e) hcl
    have HC : Hid (∀ w', Rr K w' jr → Calls Tryz.prog 121 #[.pointer (some ⟨K.r, 0, none⟩), .string ⟨#[41]⟩] w' fun e w'' => e = .returned (.tuple #[]) ∧ Rr K w'' (jr + 1) ∧ Gk K w' w'') := fun w' hr => (qb0 hr hcl).mono (fun e w'' h => by rw [show min (jr + 1) K.n = jr + 1 by omega] at h; exact h)
    have HE : Hid (ask ⟨#[41]⟩ l (lst K jr) = .ok (l, lst K (jr + 1))) := qb1 K hjlt hcl
    clear hcl
    go_wp2_with (go_at_call 121; refine (HC.out _ HRr.out).mono ?_; rintro e w4 ⟨rfl, hr4, hg4⟩; have HR4 := qa0 hr4; have HG4 := qa0 hg4; have HL4 := qa0 (HGl.out.step (hg4.ag (by omega) (by omega))); clear hr4 hg4)
    go_ret
    rw [qa4, HE.out]
    exact qc0 (HGr.out.trans HG4.out) (HL4.out.xlv (by omega)) HR4.out
   ·have HC : Hid (∀ w', Rr K w' jr → Calls Tryz.prog 121 #[.pointer (some ⟨K.r, 0, none⟩), .string ⟨#[41]⟩] w' fun e w'' => e = mis (K.g jr) ∧ Gk K w' w'') := fun w' hr => qbg hr hcl
    have HE : Hid (ask ⟨#[41]⟩ l (lst K jr) = .error (lst K jr)) := qbh K hcl
    unfold mis at HC
    clear hcl
    go_wp2_with (go_at_call 121; refine (HC.out _ HRr.out).mono ?_; rintro e w4 ⟨rfl, hg4⟩)
    refine ⟨rfl, ?_⟩
    rw [qa4, HE.out]
    exact qb4 hjr (HGr.out.trans hg4)
theorem rbr_s (K : Rk) (hK : RkOk K) (f : List TV → Rd St) (hlf : ∀ L y s, f L = .ok (y, s) → s.length < L.length) (hsf : ∀ L, Suf (f L) L) (w : World) (j c : Nat) (hc3 : c ≤ 10) (hR : Rr K w j)
  (hP : ∀ jr w', j < jr → Rr K w' jr → Calls Tryz.prog 44 #[.pointer (some ⟨K.r, 0, none⟩)] w' (RY SV K w' (f (lst K jr)))) :
  Calls Tryz.prog 93 #[.pointer (some ⟨K.r, 0, none⟩), .int .i64 ((c + 1 : Nat) : Int), .func (.func 44) #[] #[]] w (RY SLv K w (pbr f c (lst K j))) := by
 unfold pbr
 have hlow := hR.low
 have HR := qa0 hR
 have HKo := qa0 hK
 have HPp := qa0 hP
 have hfew := hR.fn.few
 have hjn := hR.le
 clear hR hK hP
 have hr := hlow.1
 have hbt := hlow.2
 clear hlow
 by_cases ho : (K.g j).tx = ⟨#[40]⟩
 case neg =>
  rw [qbh K ho, qa7]
  have HO : Hid (∀ w', Rr K w' j → Calls Tryz.prog 121 #[.pointer (some ⟨K.r, 0, none⟩), .string ⟨#[40]⟩] w' fun e w'' => e = mis (K.g j) ∧ Gk K w' w'') := fun w' hr => qbg hr ho
  unfold mis at HO
  clear ho
  go_enter Tryz.func93, Tryz.ntmps93
  go_wp2_with (go_at_call 121; refine (HO.out _ HR.out).mono ?_; rintro e w1 ⟨rfl, hg1⟩)
  exact ⟨rfl, qb4 hjn hg1⟩
 have hjn1 := qao K HKo.out hjn (fun e => by cases e) ho
 rw [qb1 K hjn1 ho, qa4, qfg]
 have HO : Hid (∀ w', Rr K w' j → Calls Tryz.prog 121 #[.pointer (some ⟨K.r, 0, none⟩), .string ⟨#[40]⟩] w' fun e w'' => e = .returned (.tuple #[]) ∧ Rr K w'' (j + 1) ∧ Gk K w' w'') := fun w' hr => (qb0 hr ho).mono (fun e w'' h => by rw [show min (j + 1) K.n = j + 1 by omega] at h; exact h)
 clear ho
 obtain ⟨Q, HQ⟩ : ∃ Q, Hid (pcl f (c + 1) [] (lst K (j + 1)) = Q) := ⟨_, rfl⟩
 rw [HQ.out]
 obtain ⟨i0, hi0, hz0, hz1, hz2⟩ := info_parts infS11
 go_enter Tryz.func93, Tryz.ntmps93
 go_wp2_with (go_at_call 121; refine (HO.out _ HR.out).mono ?_; rintro e w0 ⟨rfl, hr0, hg0⟩; have HR0 := qa0 hr0; have HG0 := qa0 hg0; clear hr0 hg0)
 go_loopw [7, 12] (fun vp vi wr => ∃ (i : Nat) (l : List St) (cs : List Value) (jr : Nat), i ≤ c + 1 ∧ vi = .int .i64 (i : Int) ∧ l.length = i ∧ Hid (Q = pcl f (c + 1 - i) l (lst K jr)) ∧ j < jr ∧ Hid (Gl SC 44 7 w.heap.size wr vp l cs) ∧ Hid (Rr K wr jr) ∧ Hid (Gk K w wr)) (fun _ vi _ => c + 1 - (intOf vi).toNat)
 case atStart => exact ⟨0, [], [], j + 1, by omega, rfl, rfl, HQ.out.symm, by omega, Gl.nil _ _ _ _ _, HR0, HG0⟩
 case round =>
  clear HQ HR0 HG0 HO
  obtain ⟨i, l, cs, jr, hi, rfl, hll, HQr, hjj, HGl, HRr, HGr⟩ := hrel
  have hjr := HRr.out.le
  have hzr := HGr.out.size
  by_cases hlt : i < c + 1
  ·obtain ⟨m, hm⟩ : ∃ m, c + 1 - i = m + 1 := ⟨c - i, by omega⟩
   have hm2 : c + 1 - (i + 1) = m := by omega
   have p1 : (i : Int) < ((c + 1 : Nat) : Int) := by omega
   by_cases hi0' : i = 0
   ·subst hi0'
    obtain rfl : l = [] := List.eq_nil_of_length_eq_zero hll
    have hQ2 := HQr.out
    rw [hm, qfv] at hQ2
    cases hq2 : f (lst K jr) with
    | error s =>
     rw [hq2, qa7] at hQ2
     have HS2 : Hid (∀ w', Rr K w' jr → Calls Tryz.prog 44 #[.pointer (some ⟨K.r, 0, none⟩)] w' fun e w'' => e = mis (K.g (K.n - s.length)) ∧ Gk K w' w'') := fun w' hr => (HPp.out jr w' hjj hr).mono (fun e w'' h => by rw [hq2] at h; exact qat h)
     subst hQ2
     unfold mis at HS2
     clear HQr hq2 HPp
     go_wp2_with (go_at_call 44; refine (HS2.out _ HRr.out).mono ?_; rintro e w4 ⟨rfl, hg4⟩)
     exact ⟨rfl, HGr.out.trans hg4, rfl⟩
    | ok p =>
     obtain ⟨y, s⟩ := p
     rw [hq2, qa4] at hQ2
     have hlen2 := hlf _ _ _ hq2
     rw [qan] at hlen2
     have hsuf2 := hsf (lst K jr)
     rw [hq2] at hsuf2
     have hs2 := qaw K _ jr rfl hsuf2
     have HS2 : Hid (∀ w', Rr K w' jr → Calls Tryz.prog 44 #[.pointer (some ⟨K.r, 0, none⟩)] w' fun e w'' => (∃ v, e = .returned v ∧ Fr w'.heap.size w'' (fun u => SV u v y) ∧ Rr K w'' (K.n - s.length)) ∧ Gk K w' w'') := fun w' hr => (HPp.out jr w' (by omega) hr).mono (fun e w'' h => by rw [hq2] at h; exact qbe h)
     obtain ⟨j2, Hj2⟩ : ∃ j2, Hid (K.n - s.length = j2) := ⟨_, rfl⟩
     have hj2 : jr < j2 ∧ j2 ≤ K.n := by have := Hj2.out; omega
     rw [hs2, Hj2.out] at hQ2
     rw [Hj2.out] at HS2
     have HQ3 := qa0 hQ2
     clear hQ2 hq2 hsuf2 hs2 hlen2 HQr Hj2 HPp
     go_wp2_with (first
      | (go_at_call 44; refine (HS2.out _ HRr.out).mono ?_; rintro e w4 ⟨⟨v, rfl, hfr, hr4⟩, hg4⟩; obtain ⟨⟨aa, pa, ra, ca, cp, cr, rfl, _, _, _⟩, _⟩ := hfr.now; have HF4 := qa0 hfr; have HR4 := qa0 hr4; have HG4 := qa0 hg4; have HL4 := qa0 (HGl.out.step (hg4.ag (by omega) (by omega))); have hz4 := hg4.size; clear hfr hr4 hg4)
      | (at_builtin; refine wpList_append_own_at _ rfl _ _ 41 rfl w.heap.size 44 i0 (.agg #[.int .u8 0, .string ⟨#[]⟩, .slice none 0 0, .slice none 0 0, .slice none 0 0, .int .i64 0, .int .i64 0]) 7 112 Tryz.underlying41 hi0 hz0 hz1 hz2 rfl (by decide) _ _ cs rfl (HL4.out.step (Ag.of (jlow w4 _))).1 ⟨w4.heap.size, 0, none⟩ 1 1 [.int .u8 ((y []).k : Int), .string (y []).nm, .slice aa (y []).na ca, .slice pa (y []).np cp, .slice ra (y []).nr cr, .int .i64 (y []).ln, .int .i64 (y []).cl] rfl rfl (qbm _ _ _) (sev11 rfl rfl rfl rfl rfl rfl rfl) (by unfold maxLen; simp only [List.length_nil]; omega) (by simp only [List.length_nil]; omega) (by rw [qak]; omega) ?_; intro v5 w5 hO5 hg5 _ hl5))
     have hbase := HGl.out.1.lt
     have HA : Hid (Below w4.heap.size w4 (w4.alloc (.cells (List.toArray [.int .u8 ((y []).k : Int), .string (y []).nm, .slice aa (y []).na ca, .slice pa (y []).np cp, .slice ra (y []).nr cr, .int .i64 (y []).ln, .int .i64 (y []).cl]) 44))) := jlow _ _
     have HL5 := qa0 ((HL4.out.step (Ag.of HA.out)).snoc (x := y) rfl (t := wr.heap.size) (fun u hu => (HF4.out u ((Ag.of HA.out).trans hu)).sc) (by omega) (fun g hg => (hbase g hg).2) hO5 hg5 hl5)
     have HGa : Hid (Gk K w (w4.alloc (.cells (List.toArray [.int .u8 ((y []).k : Int), .string (y []).nm, .slice aa (y []).na ca, .slice pa (y []).np cp, .slice ra (y []).nr cr, .int .i64 (y []).ln, .int .i64 (y []).cl]) 44))) := (HGr.out.trans HG4.out).trans (Gk.of HA.out)
     have HG5 := qa0 (HGa.out.app hg5 (fun x hx => (hbase x hx).1))
     have HR5 := qa0 (HR.out.step (HR4.out.later HA.out) (fun b hb => hg5.block b (by have := HA.out.size; omega) (fun e => by have := (hbase b e.symm).1; omega)))
     exact ⟨⟨0 + 1, _, _, j2, by omega, by go_num, rfl, by rw [hm2]; exact HQ3, by omega, HL5, HR5, HG5⟩, by simp [intOf]⟩
   ·have hl0 : l.length ≠ 0 := by omega
    have hQ2 := HQr.out
    rw [hm, qhj f m l _ hl0] at hQ2
    have p2 : decide ((0 : Int) < (i : Int)) = true := decide_eq_true (by omega)
    by_cases hcm : (K.g jr).tx = ⟨#[44]⟩
    case neg =>
     rw [qbh K hcm, qa7] at hQ2
     have HM : Hid (∀ w', Rr K w' jr → Calls Tryz.prog 121 #[.pointer (some ⟨K.r, 0, none⟩), .string ⟨#[44]⟩] w' fun e w'' => e = mis (K.g jr) ∧ Gk K w' w'') := fun w' hr => qbg hr hcm
     unfold mis at HM
     subst hQ2
     clear HQr hcm HPp
     go_wp2_with (go_at_call 121; refine (HM.out _ HRr.out).mono ?_; rintro e w3 ⟨rfl, hg3⟩)
     exact ⟨rfl, qb4 hjr (HGr.out.trans hg3)⟩
    have hjlt := qao K HKo.out hjr (fun e => by cases e) hcm
    rw [qb1 K hjlt hcm, qa4] at hQ2
    have HM : Hid (∀ w', Rr K w' jr → Calls Tryz.prog 121 #[.pointer (some ⟨K.r, 0, none⟩), .string ⟨#[44]⟩] w' fun e w'' => e = .returned (.tuple #[]) ∧ Rr K w'' (jr + 1) ∧ Gk K w' w'') := fun w' hr => (qb0 hr hcm).mono (fun e w'' h => by rw [show min (jr + 1) K.n = jr + 1 by omega] at h; exact h)
    cases hq2 : f (lst K (jr + 1)) with
    | error s =>
     rw [hq2, qa7] at hQ2
     have HS2 : Hid (∀ w', Rr K w' (jr + 1) → Calls Tryz.prog 44 #[.pointer (some ⟨K.r, 0, none⟩)] w' fun e w'' => e = mis (K.g (K.n - s.length)) ∧ Gk K w' w'') := fun w' hr => (HPp.out (jr + 1) w' (by omega) hr).mono (fun e w'' h => by rw [hq2] at h; exact qat h)
     subst hQ2
     unfold mis at HS2
     clear HQr hq2 HPp hcm
     go_wp2_with (first
      | (go_at_call 121; refine (HM.out _ HRr.out).mono ?_; rintro e w3 ⟨rfl, hr3, hg3⟩; have HR3 := qa0 hr3; have HG3 := qa0 hg3; clear hr3 hg3)
      | (go_at_call 44; refine (HS2.out _ HR3.out).mono ?_; rintro e w4 ⟨rfl, hg4⟩))
     exact ⟨rfl, (HGr.out.trans HG3.out).trans hg4, rfl⟩
    | ok p =>
     obtain ⟨y, s⟩ := p
     rw [hq2, qa4] at hQ2
     have hlen2 := hlf _ _ _ hq2
     rw [qan] at hlen2
     have hsuf2 := hsf (lst K (jr + 1))
     rw [hq2] at hsuf2
     have hs2 := qaw K _ (jr + 1) rfl hsuf2
     have HS2 : Hid (∀ w', Rr K w' (jr + 1) → Calls Tryz.prog 44 #[.pointer (some ⟨K.r, 0, none⟩)] w' fun e w'' => (∃ v, e = .returned v ∧ Fr w'.heap.size w'' (fun u => SV u v y) ∧ Rr K w'' (K.n - s.length)) ∧ Gk K w' w'') := fun w' hr => (HPp.out (jr + 1) w' (by omega) hr).mono (fun e w'' h => by rw [hq2] at h; exact qbe h)
     obtain ⟨j2, Hj2⟩ : ∃ j2, Hid (K.n - s.length = j2) := ⟨_, rfl⟩
     have hj2 : jr < j2 ∧ j2 ≤ K.n := by have := Hj2.out; omega
     rw [hs2, Hj2.out] at hQ2
     rw [Hj2.out] at HS2
     have HQ3 := qa0 hQ2
     clear hQ2 hq2 hsuf2 hs2 hlen2 HQr Hj2 HPp hcm
     go_wp2_with (first
      | (go_at_call 121; refine (HM.out _ HRr.out).mono ?_; rintro e w3 ⟨rfl, hr3, hg3⟩; have HR3 := qa0 hr3; have HG3 := qa0 hg3; have HL3 := qa0 (HGl.out.step (hg3.ag (by omega) (by omega))); have hz3 := hg3.size; clear hr3 hg3)
      | (go_at_call 44; refine (HS2.out _ HR3.out).mono ?_; rintro e w4 ⟨⟨v, rfl, hfr, hr4⟩, hg4⟩; obtain ⟨⟨aa, pa, ra, ca, cp, cr, rfl, _, _, _⟩, _⟩ := hfr.now; have HF4 := qa0 hfr; have HR4 := qa0 hr4; have HG4 := qa0 hg4; have HL4 := qa0 (HL3.out.step (hg4.ag (by omega) (by omega))); have hz4 := hg4.size; clear hfr hr4 hg4)
      | (at_builtin; refine wpList_append_own_at _ rfl _ _ 41 rfl w.heap.size 44 i0 (.agg #[.int .u8 0, .string ⟨#[]⟩, .slice none 0 0, .slice none 0 0, .slice none 0 0, .int .i64 0, .int .i64 0]) 7 112 Tryz.underlying41 hi0 hz0 hz1 hz2 rfl (by decide) _ _ cs rfl (HL4.out.step (Ag.of (jlow w4 _))).1 ⟨w4.heap.size, 0, none⟩ 1 1 [.int .u8 ((y []).k : Int), .string (y []).nm, .slice aa (y []).na ca, .slice pa (y []).np cp, .slice ra (y []).nr cr, .int .i64 (y []).ln, .int .i64 (y []).cl] rfl rfl (qbm _ _ _) (sev11 rfl rfl rfl rfl rfl rfl rfl) (by unfold maxLen; omega) (by omega) (by rw [qak]; omega) ?_; intro v5 w5 hO5 hg5 _ hl5))
     have hbase := HL3.out.1.lt
     have HA : Hid (Below w4.heap.size w4 (w4.alloc (.cells (List.toArray [.int .u8 ((y []).k : Int), .string (y []).nm, .slice aa (y []).na ca, .slice pa (y []).np cp, .slice ra (y []).nr cr, .int .i64 (y []).ln, .int .i64 (y []).cl]) 44))) := jlow _ _
     have HL5 := qa0 ((HL4.out.step (Ag.of HA.out)).snoc (x := y) rfl (t := w3.heap.size) (fun u hu => (HF4.out u ((Ag.of HA.out).trans hu)).sc) (by omega) (fun g hg => (hbase g hg).2) hO5 hg5 hl5)
     have HGa : Hid (Gk K w (w4.alloc (.cells (List.toArray [.int .u8 ((y []).k : Int), .string (y []).nm, .slice aa (y []).na ca, .slice pa (y []).np cp, .slice ra (y []).nr cr, .int .i64 (y []).ln, .int .i64 (y []).cl]) 44))) := ((HGr.out.trans HG3.out).trans HG4.out).trans (Gk.of HA.out)
     have HG5 := qa0 (HGa.out.app hg5 (fun x hx => (hbase x hx).1))
     have HR5 := qa0 (HR.out.step (HR4.out.later HA.out) (fun b hb => hg5.block b (by have := HA.out.size; omega) (fun e => by have := (hbase b e.symm).1; omega)))
     exact ⟨⟨i + 1, _, _, j2, by omega, by go_num, by rw [List.length_append, List.length_singleton]; omega, by rw [hm2]; exact HQ3, by omega, HL5, HR5, HG5⟩, by simp [intOf]; omega⟩
  ·obtain rfl : i = c + 1 := by omega
   have p1 : decide (((c + 1 : Nat) : Int) < ((c + 1 : Nat) : Int)) = false := decide_eq_false (by omega)
   have hQ2 : Q = .ok (l, lst K jr) := by rw [HQr.out, Nat.sub_self]; rfl
   subst hQ2
   clear HQr HPp
   by_cases hcl : (K.g jr).tx = ⟨#[41]⟩
   ·have hjlt := qao K HKo.out hjr (fun e => by cases e) hcl
    have HC : Hid (∀ w', Rr K w' jr → Calls Tryz.prog 121 #[.pointer (some ⟨K.r, 0, none⟩), .string ⟨#[41]⟩] w' fun e w'' => e = .returned (.tuple #[]) ∧ Rr K w'' (jr + 1) ∧ Gk K w' w'') := fun w' hr => (qb0 hr hcl).mono (fun e w'' h => by rw [show min (jr + 1) K.n = jr + 1 by omega] at h; exact h)
    have HE : Hid (ask ⟨#[41]⟩ l (lst K jr) = .ok (l, lst K (jr + 1))) := qb1 K hjlt hcl
    clear hcl
    go_wp2_with (go_at_call 121; refine (HC.out _ HRr.out).mono ?_; rintro e w4 ⟨rfl, hr4, hg4⟩; have HR4 := qa0 hr4; have HG4 := qa0 hg4; have HL4 := qa0 (HGl.out.step (hg4.ag (by omega) (by omega))); clear hr4 hg4)
    go_ret
    rw [qa4, HE.out]
    exact qc0 (HGr.out.trans HG4.out) (HL4.out.slv (by omega)) HR4.out
   ·have HC : Hid (∀ w', Rr K w' jr → Calls Tryz.prog 121 #[.pointer (some ⟨K.r, 0, none⟩), .string ⟨#[41]⟩] w' fun e w'' => e = mis (K.g jr) ∧ Gk K w' w'') := fun w' hr => qbg hr hcl
    have HE : Hid (ask ⟨#[41]⟩ l (lst K jr) = .error (lst K jr)) := qbh K hcl
    unfold mis at HC
    clear hcl
    go_wp2_with (go_at_call 121; refine (HC.out _ HRr.out).mono ?_; rintro e w4 ⟨rfl, hg4⟩)
    refine ⟨rfl, ?_⟩
    rw [qa4, HE.out]
    exact qb4 hjr (HGr.out.trans hg4)
open Go.RowKit
theorem rshk (w : World) (t : TV) : Calls Tryz.prog 91 #[.agg (tvq t)] w fun e w' => e = .returned (.int .u8 (kshape t : Int)) ∧ Below w.heap.size w w' := by
 have hV := Vn.new w 104 #[.int .u8 (t.k : Int), .string t.tx, .int .i64 t.n, .int .i64 t.ln, .int .i64 t.cl]
 have m0 := hV.cell 0 (.int .u8 (t.k : Int)) rfl
 have m1 := hV.cell 1 (.string t.tx) rfl
 clear hV
 unfold tvq kshape
 obtain ⟨tk, tx, tn, tl, tc⟩ := t
 by_cases h2 : tx = ⟨#[114, 101, 101, 100]⟩
 ·rw [if_pos (show (⟨tk, tx, tn, tl, tc⟩ : TV).tx = ⟨(wdb 2).toArray⟩ from h2)]
  subst h2
  go_enter Tryz.func91, Tryz.ntmps91
  go_wp2
  go_ret
  exact ⟨rfl, jlow _ _⟩
 rw [if_neg (show ¬ (⟨tk, tx, tn, tl, tc⟩ : TV).tx = ⟨(wdb 2).toArray⟩ from h2)]
 have q2 := qba h2
 by_cases h3 : tx = ⟨#[99, 114, 111, 115, 115]⟩
 ·rw [if_pos (show (⟨tk, tx, tn, tl, tc⟩ : TV).tx = ⟨(wdb 3).toArray⟩ from h3)]
  subst h3
  go_enter Tryz.func91, Tryz.ntmps91
  go_wp2
  go_ret
  exact ⟨rfl, jlow _ _⟩
 rw [if_neg (show ¬ (⟨tk, tx, tn, tl, tc⟩ : TV).tx = ⟨(wdb 3).toArray⟩ from h3)]
 have q3 := qba h3
 by_cases h4 : tx = ⟨#[108, 111, 99, 97, 108]⟩
 ·rw [if_pos (show (⟨tk, tx, tn, tl, tc⟩ : TV).tx = ⟨(wdb 4).toArray⟩ from h4)]
  subst h4
  go_enter Tryz.func91, Tryz.ntmps91
  go_wp2
  go_ret
  exact ⟨rfl, jlow _ _⟩
 rw [if_neg (show ¬ (⟨tk, tx, tn, tl, tc⟩ : TV).tx = ⟨(wdb 4).toArray⟩ from h4)]
 have q4 := qba h4
 by_cases h5 : tx = ⟨#[112, 121, 114, 97, 109, 105, 100]⟩
 ·rw [if_pos (show (⟨tk, tx, tn, tl, tc⟩ : TV).tx = ⟨(wdb 5).toArray⟩ from h5)]
  subst h5
  go_enter Tryz.func91, Tryz.ntmps91
  go_wp2
  go_ret
  exact ⟨rfl, jlow _ _⟩
 rw [if_neg (show ¬ (⟨tk, tx, tn, tl, tc⟩ : TV).tx = ⟨(wdb 5).toArray⟩ from h5)]
 have q5 := qba h5
 by_cases h6 : tx = ⟨#[112, 114, 111, 100, 117, 99, 116]⟩
 ·rw [if_pos (show (⟨tk, tx, tn, tl, tc⟩ : TV).tx = ⟨(wdb 6).toArray⟩ from h6)]
  subst h6
  go_enter Tryz.func91, Tryz.ntmps91
  go_wp2
  go_ret
  exact ⟨rfl, jlow _ _⟩
 rw [if_neg (show ¬ (⟨tk, tx, tn, tl, tc⟩ : TV).tx = ⟨(wdb 6).toArray⟩ from h6)]
 have q6 := qba h6
 by_cases h7 : tx = ⟨#[106, 111, 105, 110]⟩
 ·rw [if_pos (show (⟨tk, tx, tn, tl, tc⟩ : TV).tx = ⟨(wdb 7).toArray⟩ from h7)]
  subst h7
  go_enter Tryz.func91, Tryz.ntmps91
  go_wp2
  go_ret
  exact ⟨rfl, jlow _ _⟩
 rw [if_neg (show ¬ (⟨tk, tx, tn, tl, tc⟩ : TV).tx = ⟨(wdb 7).toArray⟩ from h7)]
 have q7 := qba h7
 by_cases h8 : tx = ⟨#[109, 97, 116, 114, 105, 120]⟩
 ·rw [if_pos (show (⟨tk, tx, tn, tl, tc⟩ : TV).tx = ⟨(wdb 8).toArray⟩ from h8)]
  subst h8
  go_enter Tryz.func91, Tryz.ntmps91
  go_wp2
  go_ret
  exact ⟨rfl, jlow _ _⟩
 rw [if_neg (show ¬ (⟨tk, tx, tn, tl, tc⟩ : TV).tx = ⟨(wdb 8).toArray⟩ from h8)]
 have q8 := qba h8
 by_cases h1 : tk = 1
 ·rw [if_pos h1]
  subst h1
  go_enter Tryz.func91, Tryz.ntmps91
  go_wp2
  go_ret
  exact ⟨rfl, jlow _ _⟩
 rw [if_neg h1]
 have q1 : ((tk : Int) == 1) = false := by simp; omega
 go_enter Tryz.func91, Tryz.ntmps91
 go_wp2
 go_ret
 exact ⟨rfl, jlow _ _⟩
end Go.Proofs.YtnjcpmkfghcogaaGreatDoor
