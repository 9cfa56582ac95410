/-
  Contract of the program's Cut.
-/
import Derived.Test.YtnjcpmkfghcogaaGreatDoorQbbks00
import Derived.Test.YtnjcpmkfghcogaaGreatDoorQbbks39
set_option maxRecDepth 100000
set_option maxHeartbeats 16000000
namespace Go.Proofs.YtnjcpmkfghcogaaGreatDoor
open Go.RowKit
theorem all6h {x y z u v t : Value} (h0 : x.oneCell' = true) (h1 : y.oneCell' = true) (h2 : z.oneCell' = true) (h3 : u.oneCell' = true) (h4 : v.oneCell' = true) (h5 : t.oneCell' = true) : (#[x, y, z, u, v, t] : Array Value).all (·.oneCell') = true := by simp [h0, h1, h2, h3, h4, h5]
theorem sizeCut : (Tryz.prog.info? 134).map (·.size) = some 6 := by kernel_rfl
theorem CSt.go {w0 : World} {s : ByteArray} {L : List Tk} {E a0 : Nat} {w w2 : World} {bg p ln fs bg' e ln' fs' : Nat} {v : Value} {L0 R : List Tk} (h : CSt w0 s L E a0 w bg p ln fs v L0 R) (hv : Cu w2 (w0.heap.size + 1) s bg' e ln' fs' v) (hg : w.grownBy w2 (some (w0.heap.size + 1))) (he : e ≤ s.size) (hpe : p ≤ e) (hl : lnn s e = ln') (hf : fs' + cln s e = e + 1) (hc : Cuts s e R E a0) : CSt w0 s L E a0 w2 bg' e ln' fs' v L0 R :=
 ⟨he, hv, h.tl.kept hg (qcp fun _ e => (h.tl.base e).1), hl, hf, h.eq, hc, Nat.le_trans h.len hpe, jb9 h.bel hg (Nat.le_refl _)⟩
theorem CSt.tell {w0 : World} {s : ByteArray} {L : List Tk} {E a0 : Nat} {w w2 : World} {bg p ln fs bg' e ln' fs' : Nat} {v v' : Value} {L0 R R' : List Tk} {t : Tk} (h : CSt w0 s L E a0 w bg p ln fs v L0 R) (hR : R = t :: R') (hv : Cu w2 (w0.heap.size + 1) s bg' e ln' fs' v') (ht : Tls w2 (w0.heap.size + 1 + 1) v' s (L0 ++ [t])) (hb : Below (w0.heap.size + 1) (W9 w0) w2) (he : e ≤ s.size) (hpe : p < e) (hl : lnn s e = ln') (hf : fs' + cln s e = e + 1) (hc : Cuts s e R' E a0) : CSt w0 s L E a0 w2 bg' e ln' fs' v' (L0 ++ [t]) R' :=
 ⟨he, hv, ht, hl, hf, by rw [h.eq, hR]; simp, hc, by have := h.len; simp; omega, hb⟩
theorem qce {w0 : World} {s : ByteArray} {L : List Tk} {E a0 : Nat} {w w2 : World} {bg p ln fs : Nat} {v : Value} {L0 R : List Tk} (h : CSt w0 s L E a0 w bg p ln fs v L0 R) (hb : Below w.heap.size w w2) : CSt w0 s L E a0 w2 bg p ln fs v L0 R :=
 ⟨h.fit, h.cu.later hb, h.tl.later hb, h.hln, h.hfs, h.eq, h.cut, h.len, jl9 h.bel hb⟩
theorem fs_at {s : ByteArray} {p e fs : Nat} {lt : Bool} (h : Ends s lt p e) (hf : fs + cln s p = p + 1) : fs + cln s e = e + 1 := by
 rw [h.line.2]
 have := h.le
 omega
theorem qgy {s : ByteArray} {p E a : Nat} {R : List Tk} (h : Cuts s p R E a) (hp : p < s.size) (hc : isL (tb s p) = true) :
  ∃ e, Ends s true p e ∧ ((16 < e - p ∧ E = 90 ∧ p = a) ∨ (e - p ≤ 16 ∧ ∃ k R', k ≠ 3 ∧ k = (if isW (s.extract p e) then 2 else 1) ∧ Cuts s e R' E a ∧ R = ⟨k, p, e, 0⟩ :: R')) := by
 obtain ⟨e, hE, h | h | h⟩ := h.letter hp hc
 ·obtain ⟨hw, R', hcu, hR⟩ := h
  have := word_le _ (qf0.1 hw)
  rw [size_extract hE.fits] at this
  exact ⟨e, hE, .inr ⟨by omega, 2, R', by decide, by rw [hw]; rfl, hcu, hR⟩⟩
 ·obtain ⟨hw, h16, R', hcu, hR⟩ := h
  exact ⟨e, hE, .inr ⟨h16, 1, R', by decide, by rw [hw]; rfl, hcu, hR⟩⟩
 ·exact ⟨e, hE, .inl h⟩
theorem tcut_any (w : World) (s : ByteArray) (L : List Tk) (E a0 : Nat) (hs : s.size ≤ 65536) (HC : Hid (Cuts s 0 L E a0)) (HW : Hid (Wt9 w)) (HR : Hid (Er9 w)) :
  Calls Tryz.prog 53 #[.string s] w fun e w' => CutP w w' e s L E a0 := by
 have hlim : decide (65536 < s.size) = false := decide_eq_false (by omega)
 have hlim2 : decide ((65536 : Int) < (s.size : Int)) = false := decide_eq_false (by omega)
 go_enter Tryz.func53, Tryz.ntmps53
 go_wp2
 refine qeq (CJ w s L E a0) (cm w s) (fun l a w h => h.lt) rfl rfl rfl rfl rfl rfl rfl ?first ?p0 ?p1 ?p2 ?p3 ?p4 ?p5 ?p6
 case first =>
  intro hX
  have HX := qa0 hX
  clear hX
  have HVc : Hid (Vn ((W9 w).alloc (.cells #[.string ⟨#[]⟩, .int .i64 0, .int .i64 0, .int .i64 0, .int .i64 0, .slice none 0 0] 134)) (w.heap.size + 1) 134 #[.string ⟨#[]⟩, .int .i64 0, .int .i64 0, .int .i64 0, .int .i64 0, .slice none 0 0]) := by
   have h := Vn.new (W9 w) 134 #[.string ⟨#[]⟩, .int .i64 0, .int .i64 0, .int .i64 0, .int .i64 0, .slice none 0 0]
   rw [qf2] at h
   exact h
  go_wp2_with (refine qa1 rfl 134 _ _ rfl (w.heap.size + 1) _ #[.string s, .int .i64 0, .int .i64 0, .int .i64 1, .int .i64 0, .slice none 0 0] rfl rfl HVc.out sizeCut rfl (all6h rfl rfl rfl rfl rfl rfl) ?_; intro w1 HV1 hg1; have HG1 := hg1; clear hg1)
  go_step3
  rename_i KX aX
  refine aX _ _ (HX.out _ _ ⟨(CFr.mk _ _ _ _ _ _ _ _ _ _ _ _ _ _ _ _ _ _ _ _ _ _ _ _ _ _ _ _ _ _ _ _ _ _ _ _ _ _ _ _ _ _ _ _ _ _ _ _ _ _ _ _ _ _ _ _ _ _ _ _ _ _ _ _ _ _ _ _ _ _ _ _ _ _ _ _ _ _ _ _ _ _ _ _ _ _ _ _ _ _ _ _ _ _), .inl ⟨rfl, 0, 0, 1, 0, .slice none 0 0, [], L, by omega, HV1.out, Tls.nil _ _ _, rfl, rfl, rfl, HC.out, by simp, ?_⟩⟩)
  exact (jlow (W9 w) _).mono (by rw [qf2]; exact Nat.le_refl _) |>.trans (jbelow HG1.out (by simp [W9]) (fun g e => by cases e; exact Nat.le_refl _))
 case p0 =>
  intro a' wr hJ
  obtain ⟨⟨f, rfl⟩, hJ⟩ := hJ
  rcases hJ with ⟨_, bg, p, ln, fs, v, L0, R, hst⟩ | ⟨h, _⟩ | ⟨h, _⟩
  rotate_left
  ·omega
  ·omega
  have HST := qa0 hst
  have HV := qa0 hst.cu
  have HT := qa0 hst.tl
  have HB := qa0 hst.bel
  have hpf := hst.fit
  have hlen := hst.len
  have hlnb : ln ≤ 65537 := by rw [← hst.hln]; have := (qco s p).2; omega
  obtain ⟨cl, HCL⟩ : ∃ cl, Hid (cln s p = cl) := ⟨_, rfl⟩
  have hfs : fs + cl = p + 1 := by rw [← HCL.out]; exact hst.hfs
  have hcl1 : 1 ≤ cl := by rw [← HCL.out]; exact (qcb s p).1
  have hLN := qa0 hst.hln
  clear hst HC
  have z2 := HV.out.c2
  by_cases hp : p < s.size
  ·obtain ⟨c, HCc⟩ : ∃ c, Hid (tb s p = c) := ⟨_, rfl⟩
   have hc : s[p].toNat = c := by rw [← HCc.out]; exact qca hp
   have hc8 : c < 256 := by rw [← HCc.out]; exact qem s p
   have r0 : (0 : Int) ≤ (p : Int) := by omega
   have r1 : (p : Int) < (s.size : Int) := by omega
   have HFb : Hid (∀ w' : World, Calls Tryz.prog 101 #[.int .u8 (c : Int)] w' fun r w'' => r = .returned (.bool (isB c)) ∧ w' = w'') := fun w' => qht w' c hc8
   have HFl : Hid (∀ w' : World, Calls Tryz.prog 102 #[.int .u8 (c : Int)] w' fun r w'' => r = .returned (.bool (isL c)) ∧ w' = w'') := fun w' => qd5 w' c hc8
   have HFd : Hid (∀ w' : World, Calls Tryz.prog 103 #[.int .u8 (c : Int)] w' fun r w'' => r = .returned (.bool (isD c)) ∧ w' = w'') := fun w' => qcv w' c hc8
   have HFs : Hid (∀ w' : World, Calls Tryz.prog 104 #[.int .u8 (c : Int)] w' fun r w'' => r = .returned (.bool (isS c)) ∧ w' = w'') := fun w' => qfo w' c hc8
   have HCut := qa0 HST.out.cut
   have HEq := qa0 HST.out.eq
   cases hB : isB c with
   | true =>
    have HB : Hid (isB c = true) := hB
    go_wp2_with (first
     | (refine wpList_store_one rfl 3 _ _ rfl (w.heap.size + 1) 1 134 _ (.int .i64 (p : Int)) rfl rfl szInt rfl rfl HV.out (by simp) ?_; intro w2 hv2 hg2'; have hg2 := hg2'.out; have HV2 : Hid (Cu w2 (w.heap.size + 1) s p p ln fs v) := hv2; have HS2 := qa0 (HST.out.go HV2.out hg2 hpf (Nat.le_refl _) hLN.out (by rw [HCL.out]; exact hfs) HCut.out); clear hv2 hg2 hg2')
     | (go_at_call 100; refine (qau _ (w.heap.size + 1) p p ln fs s v HV2 hp).mono ?_; rintro r w3 ⟨rfl, hb3⟩; have HS3 := qa0 (qce HS2.out hb3); have y2 := HS3.out.cu.c2; clear hb3)
     | (go_at_call 101; refine (HFb.out _).mono ?_; rintro r w' ⟨rfl, rfl⟩; rw [HB.out]))
    go_step3
    exact CJ.on (by decide) (by decide) (CFr.mk _ _ _ _ _ _ _ _ _ _ _ _ _ _ _ _ _ _ _ _ _ _ _ _ _ _ _ _ _ _ _ _ _ _ _ _ _ _ _ _ _ _ _ _ _ _ _ _ _ _ _ _ _ _ _ _ _ _ _ _ _ _ _ _ _ _ _ _ _ _ _ _ _ _ _ _ _ _ _ _ _ _ _ _ _ _ _ _ _ _ _ _ _ _) HS3.out hp (fun _ => (by rw [HCc.out]; exact HB.out)) (fun h => by omega) (fun h => by omega) (fun h => by omega) (fun h => by omega) HV.out
   | false =>
    by_cases hR : c = 35
    ·subst hR
     have HB : Hid (isB 35 = false) := hB
     go_wp2_with (first
      | (refine wpList_store_one rfl 3 _ _ rfl (w.heap.size + 1) 1 134 _ (.int .i64 (p : Int)) rfl rfl szInt rfl rfl HV.out (by simp) ?_; intro w2 hv2 hg2'; have hg2 := hg2'.out; have HV2 : Hid (Cu w2 (w.heap.size + 1) s p p ln fs v) := hv2; have HS2 := qa0 (HST.out.go HV2.out hg2 hpf (Nat.le_refl _) hLN.out (by rw [HCL.out]; exact hfs) HCut.out); clear hv2 hg2 hg2')
      | (go_at_call 100; refine (qau _ (w.heap.size + 1) p p ln fs s v HV2 hp).mono ?_; rintro r w3 ⟨rfl, hb3⟩; have HS3 := qa0 (qce HS2.out hb3); have y2 := HS3.out.cu.c2; clear hb3)
      | (go_at_call 101; refine (HFb.out _).mono ?_; rintro r w' ⟨rfl, rfl⟩; rw [HB.out]))
     go_step3
     exact CJ.on (by decide) (by decide) (CFr.mk _ _ _ _ _ _ _ _ _ _ _ _ _ _ _ _ _ _ _ _ _ _ _ _ _ _ _ _ _ _ _ _ _ _ _ _ _ _ _ _ _ _ _ _ _ _ _ _ _ _ _ _ _ _ _ _ _ _ _ _ _ _ _ _ _ _ _ _ _ _ _ _ _ _ _ _ _ _ _ _ _ _ _ _ _ _ _ _ _ _ _ _ _ _) HS3.out hp (fun h => by omega) (fun _ => HCc.out) (fun h => by omega) (fun h => by omega) (fun h => by omega) HV.out
    ·have q35 : ((c : Int) == 35) = false := by simp; omega
     cases hL : isL c with
     | true =>
      have HB : Hid (isB c = false) := hB
      have HL : Hid (isL c = true) := hL
      go_wp2_with (first
       | (refine wpList_store_one rfl 3 _ _ rfl (w.heap.size + 1) 1 134 _ (.int .i64 (p : Int)) rfl rfl szInt rfl rfl HV.out (by simp) ?_; intro w2 hv2 hg2'; have hg2 := hg2'.out; have HV2 : Hid (Cu w2 (w.heap.size + 1) s p p ln fs v) := hv2; have HS2 := qa0 (HST.out.go HV2.out hg2 hpf (Nat.le_refl _) hLN.out (by rw [HCL.out]; exact hfs) HCut.out); clear hv2 hg2 hg2')
       | (go_at_call 100; refine (qau _ (w.heap.size + 1) p p ln fs s v HV2 hp).mono ?_; rintro r w3 ⟨rfl, hb3⟩; have HS3 := qa0 (qce HS2.out hb3); have y2 := HS3.out.cu.c2; clear hb3)
       | (go_at_call 101; refine (HFb.out _).mono ?_; rintro r w' ⟨rfl, rfl⟩; rw [HB.out])
       | (go_at_call 102; refine (HFl.out _).mono ?_; rintro r w' ⟨rfl, rfl⟩; rw [HL.out]))
      go_step3
      exact CJ.on (by decide) (by decide) (CFr.mk _ _ _ _ _ _ _ _ _ _ _ _ _ _ _ _ _ _ _ _ _ _ _ _ _ _ _ _ _ _ _ _ _ _ _ _ _ _ _ _ _ _ _ _ _ _ _ _ _ _ _ _ _ _ _ _ _ _ _ _ _ _ _ _ _ _ _ _ _ _ _ _ _ _ _ _ _ _ _ _ _ _ _ _ _ _ _ _ _ _ _ _ _ _) HS3.out hp (fun h => by omega) (fun h => by omega) (fun _ => (by rw [HCc.out]; exact HL.out)) (fun h => by omega) (fun h => by omega) HV.out
     | false =>
      cases hD : isD c with
      | true =>
       have HB : Hid (isB c = false) := hB
       have HL : Hid (isL c = false) := hL
       have HD : Hid (isD c = true) := hD
       go_wp2_with (first
        | (refine wpList_store_one rfl 3 _ _ rfl (w.heap.size + 1) 1 134 _ (.int .i64 (p : Int)) rfl rfl szInt rfl rfl HV.out (by simp) ?_; intro w2 hv2 hg2'; have hg2 := hg2'.out; have HV2 : Hid (Cu w2 (w.heap.size + 1) s p p ln fs v) := hv2; have HS2 := qa0 (HST.out.go HV2.out hg2 hpf (Nat.le_refl _) hLN.out (by rw [HCL.out]; exact hfs) HCut.out); clear hv2 hg2 hg2')
        | (go_at_call 100; refine (qau _ (w.heap.size + 1) p p ln fs s v HV2 hp).mono ?_; rintro r w3 ⟨rfl, hb3⟩; have HS3 := qa0 (qce HS2.out hb3); have y2 := HS3.out.cu.c2; clear hb3)
        | (go_at_call 101; refine (HFb.out _).mono ?_; rintro r w' ⟨rfl, rfl⟩; rw [HB.out])
        | (go_at_call 102; refine (HFl.out _).mono ?_; rintro r w' ⟨rfl, rfl⟩; rw [HL.out])
        | (go_at_call 103; refine (HFd.out _).mono ?_; rintro r w' ⟨rfl, rfl⟩; rw [HD.out]))
       go_step3
       exact CJ.on (by decide) (by decide) (CFr.mk _ _ _ _ _ _ _ _ _ _ _ _ _ _ _ _ _ _ _ _ _ _ _ _ _ _ _ _ _ _ _ _ _ _ _ _ _ _ _ _ _ _ _ _ _ _ _ _ _ _ _ _ _ _ _ _ _ _ _ _ _ _ _ _ _ _ _ _ _ _ _ _ _ _ _ _ _ _ _ _ _ _ _ _ _ _ _ _ _ _ _ _ _ _) HS3.out hp (fun h => by omega) (fun h => by omega) (fun h => by omega) (fun _ => (by rw [HCc.out]; exact HD.out)) (fun h => by omega) HV.out
      | false =>
       cases hS : isS c with
       | true =>
        have HB : Hid (isB c = false) := hB
        have HL : Hid (isL c = false) := hL
        have HD : Hid (isD c = false) := hD
        have HS : Hid (isS c = true) := hS
        go_wp2_with (first
         | (refine wpList_store_one rfl 3 _ _ rfl (w.heap.size + 1) 1 134 _ (.int .i64 (p : Int)) rfl rfl szInt rfl rfl HV.out (by simp) ?_; intro w2 hv2 hg2'; have hg2 := hg2'.out; have HV2 : Hid (Cu w2 (w.heap.size + 1) s p p ln fs v) := hv2; have HS2 := qa0 (HST.out.go HV2.out hg2 hpf (Nat.le_refl _) hLN.out (by rw [HCL.out]; exact hfs) HCut.out); clear hv2 hg2 hg2')
         | (go_at_call 100; refine (qau _ (w.heap.size + 1) p p ln fs s v HV2 hp).mono ?_; rintro r w3 ⟨rfl, hb3⟩; have HS3 := qa0 (qce HS2.out hb3); have y2 := HS3.out.cu.c2; clear hb3)
         | (go_at_call 101; refine (HFb.out _).mono ?_; rintro r w' ⟨rfl, rfl⟩; rw [HB.out])
         | (go_at_call 102; refine (HFl.out _).mono ?_; rintro r w' ⟨rfl, rfl⟩; rw [HL.out])
         | (go_at_call 103; refine (HFd.out _).mono ?_; rintro r w' ⟨rfl, rfl⟩; rw [HD.out])
         | (go_at_call 104; refine (HFs.out _).mono ?_; rintro r w' ⟨rfl, rfl⟩; rw [HS.out]))
        go_step3
        exact CJ.on (by decide) (by decide) (CFr.mk _ _ _ _ _ _ _ _ _ _ _ _ _ _ _ _ _ _ _ _ _ _ _ _ _ _ _ _ _ _ _ _ _ _ _ _ _ _ _ _ _ _ _ _ _ _ _ _ _ _ _ _ _ _ _ _ _ _ _ _ _ _ _ _ _ _ _ _ _ _ _ _ _ _ _ _ _ _ _ _ _ _ _ _ _ _ _ _ _ _ _ _ _ _) HS3.out hp (fun h => by omega) (fun h => by omega) (fun h => by omega) (fun h => by omega) (fun _ => (by rw [HCc.out]; exact HS.out)) HV.out
       | false =>
        obtain ⟨hE, hpa⟩ := HCut.out.other hp (by rw [HCc.out]; exact hB) (by rw [HCc.out]; exact hR) (by rw [HCc.out]; exact hL) (by rw [HCc.out]; exact hD) (by rw [HCc.out]; exact hS)
        have HE9 := qa0 hE
        have HPa := qa0 hpa
        clear hE hpa
        have HB : Hid (isB c = false) := hB
        have HL : Hid (isL c = false) := hL
        have HD : Hid (isD c = false) := hD
        have HS : Hid (isS c = false) := hS
        go_wp2_with (first
         | (refine wpList_store_one rfl 3 _ _ rfl (w.heap.size + 1) 1 134 _ (.int .i64 (p : Int)) rfl rfl szInt rfl rfl HV.out (by simp) ?_; intro w2 hv2 hg2'; have hg2 := hg2'.out; have HV2 : Hid (Cu w2 (w.heap.size + 1) s p p ln fs v) := hv2; have HS2 := qa0 (HST.out.go HV2.out hg2 hpf (Nat.le_refl _) hLN.out (by rw [HCL.out]; exact hfs) HCut.out); clear hv2 hg2 hg2')
         | (go_at_call 100; refine (qau _ (w.heap.size + 1) p p ln fs s v HV2 hp).mono ?_; rintro r w3 ⟨rfl, hb3⟩; have HS3 := qa0 (qce HS2.out hb3); have y2 := HS3.out.cu.c2; clear hb3)
         | (go_at_call 101; refine (HFb.out _).mono ?_; rintro r w' ⟨rfl, rfl⟩; rw [HB.out])
         | (go_at_call 102; refine (HFl.out _).mono ?_; rintro r w' ⟨rfl, rfl⟩; rw [HL.out])
         | (go_at_call 103; refine (HFd.out _).mono ?_; rintro r w' ⟨rfl, rfl⟩; rw [HD.out])
         | (go_at_call 104; refine (HFs.out _).mono ?_; rintro r w' ⟨rfl, rfl⟩; rw [HS.out]))
        go_step3
        exact CJ.off (CFr.mk _ _ _ _ _ _ _ _ _ _ _ _ _ _ _ _ _ _ _ _ _ _ _ _ _ _ _ _ _ _ _ _ _ _ _ _ _ _ _ _ _ _ _ _ _ _ _ _ _ _ _ _ _ _ _ _ _ _ _ _ _ _ _ _ _ _ _ _ _ _ _ _ _ _ _ _ _ _ _ _ _ _ _ _ _ _ _ _ _ _ _ _ _ _) HE9.out (by rw [← HPa.out]; exact hpf) (by rw [← HPa.out]; exact HS3.out.cu) (by rw [← HPa.out]; exact hLN.out) (by rw [← HPa.out, HCL.out]; exact hfs) HS3.out.bel HV.out (by decide) hp
  ·have hpe : p = s.size := by omega
   obtain ⟨hR, hE⟩ := HST.out.cut.end hpe
   have HL0 : Hid (L = L0) := by show L = L0; rw [HST.out.eq, hR]; simp
   subst hE
   have HPe := qa0 hpe
   clear hR hpe hp
   obtain ⟨vb, vd, hvv, _⟩ := HT.out.form
   subst hvv
   go_wp2_with (first
    | (refine wpList_store_one rfl 3 _ _ rfl (w.heap.size + 1) 1 134 _ (.int .i64 (p : Int)) rfl rfl szInt rfl rfl HV.out (by simp) ?_; intro w2 hv2 hg2'; have hg2 := hg2'.out; have HV2 : Hid (Cu w2 (w.heap.size + 1) s p p ln fs (.slice vb L0.length vd)) := hv2; have HT2 := qa0 (HT.out.kept hg2 (qcp fun _ e => (HT.out.base e).1)); have HB2 := qa0 (jb9 HB.out hg2 (Nat.le_refl _)); clear hv2 hg2 hg2')
    | (go_at_call 100; refine (qcd _ (w.heap.size + 1) p p ln fs s _ HV2 HPe.out).mono ?_; rintro r w3 ⟨rfl, hb3⟩; have HV3 := qa0 (HV2.out.later hb3); have HT3 := qa0 (HT2.out.later hb3); have HB3 := qa0 (jl9 HB2.out hb3); clear hb3; have y5 := HV3.out.c5; have HVf := qa0 (W9_vn HB3.out))
    | (refine qa1 rfl 25 _ _ rfl w.heap.size _ #[.int .i64 0, .int .i64 0, .int .i64 0] rfl rfl HVf.out sizeFau rfl (all3 rfl rfl rfl) ?_; intro w8 HV8 hg8))
   have d0 := HV8.out.cell 0 _ rfl
   have d1 := HV8.out.cell 1 _ rfl
   have d2 := HV8.out.cell 2 _ rfl
   rw [qg0]
   refine bodyPost_ret (v := .tuple #[.slice vb L0.length vd, .agg #[.int .i64 0, .int .i64 0, .int .i64 0]]) (by simp [results, Tryz.results53, go_sem, d0, d1, d2]) rfl ?_
   refine ⟨_, rfl, fun _ => ?_, fun h => absurd rfl h, (qdd HB3.out).trans (jbelow hg8.out (qdd HB3.out).size (fun g e => by cases e; exact Nat.le_refl _))⟩
   rw [HL0.out]
   refine Tls.mono (B := w.heap.size + 1 + 1) (HT3.out.kept hg8.out ?_) (by omega)
   cases hvo : (Value.slice vb L0.length vd).ownBlock with
   | none => exact .inl rfl
   | some g => have := (HT3.out.base hvo).1; exact .inr (by simp; omega)
 case p1 =>
  intro a' wr hJ
  obtain ⟨⟨f, rfl⟩, hJ⟩ := hJ
  rcases hJ with ⟨h, _⟩ | ⟨_, _, p, ln, fs, v, L0, R, hst, hp, q1, q2, q3, q4, q5⟩ | ⟨h, _⟩
  ·omega
  rotate_left
  ·omega
  have HST := qa0 hst
  have HV := qa0 hst.cu
  have HT := qa0 hst.tl
  have HB := qa0 hst.bel
  have hpf := hst.fit
  have hlen := hst.len
  have hlnb : ln ≤ 65537 := by rw [← hst.hln]; have := (qco s p).2; omega
  obtain ⟨cl, HCL⟩ : ∃ cl, Hid (cln s p = cl) := ⟨_, rfl⟩
  have hfs : fs + cl = p + 1 := by rw [← HCL.out]; exact hst.hfs
  have hcl1 : 1 ≤ cl := by rw [← HCL.out]; exact (qcb s p).1
  have hLN := qa0 hst.hln
  clear hst HC
  have hq := q1 rfl
  have HCut := qa0 (HST.out.cut.blank hp hq)
  by_cases h10 : tb s p = 10
  ·have HN1 : Hid (lnn s (p + 1) = ln + 1) := by show _ = _; rw [qct, if_pos h10, hLN.out]
   have HN2 : Hid (p + 1 + cln s (p + 1) = p + 1 + 1) := by show _ = _; rw [qcu, if_pos h10]
   have H10 := qa0 h10
   clear h10 hq q1 q2 q3 q4 q5
   go_wp2_with (go_at_call 105; refine (qi8 _ (w.heap.size + 1) p ln fs s v HV hp hs hlnb H10).mono ?_; rintro r w2 ⟨rfl, hv2, hg2⟩; have HV2 := qa0 hv2; have HG2 := qa0 hg2; clear hv2 hg2)
   go_step3
   exact CJ.back (CFr.mk _ _ _ _ _ _ _ _ _ _ _ _ _ _ _ _ _ _ _ _ _ _ _ _ _ _ _ _ _ _ _ _ _ _ _ _ _ _ _ _ _ _ _ _ _ _ _ _ _ _ _ _ _ _ _ _ _ _ _ _ _ _ _ _ _ _ _ _ _ _ _ _ _ _ _ _ _ _ _ _ _ _ _ _ _ _ _ _ _ _ _ _ _ _) (HST.out.go HV2.out HG2.out (by omega) (by omega) HN1.out HN2.out HCut.out) (by decide) (by decide) HV.out (by omega)
  ·have HN1 : Hid (lnn s (p + 1) = ln) := by show _ = _; rw [qct, if_neg h10, hLN.out]
   have HN2 : Hid (fs + cln s (p + 1) = p + 1 + 1) := by show _ = _; rw [qcu, if_neg h10, HCL.out]; omega
   have H10 := qa0 h10
   clear h10 hq q1 q2 q3 q4 q5
   go_wp2_with (go_at_call 105; refine (qjr _ (w.heap.size + 1) p ln fs _ s v HV hp hs rfl H10.out).mono ?_; rintro r w2 ⟨rfl, hv2, hg2⟩; have HV2 := qa0 hv2; have HG2 := qa0 hg2; clear hv2 hg2)
   go_step3
   exact CJ.back (CFr.mk _ _ _ _ _ _ _ _ _ _ _ _ _ _ _ _ _ _ _ _ _ _ _ _ _ _ _ _ _ _ _ _ _ _ _ _ _ _ _ _ _ _ _ _ _ _ _ _ _ _ _ _ _ _ _ _ _ _ _ _ _ _ _ _ _ _ _ _ _ _ _ _ _ _ _ _ _ _ _ _ _ _ _ _ _ _ _ _ _ _ _ _ _ _) (HST.out.go HV2.out HG2.out (by omega) (by omega) HN1.out HN2.out HCut.out) (by decide) (by decide) HV.out (by omega)
 case p2 =>
  intro a' wr hJ
  obtain ⟨⟨f, rfl⟩, hJ⟩ := hJ
  rcases hJ with ⟨h, _⟩ | ⟨_, _, p, ln, fs, v, L0, R, hst, hp, q1, q2, q3, q4, q5⟩ | ⟨h, _⟩
  ·omega
  rotate_left
  ·omega
  have HST := qa0 hst
  have HV := qa0 hst.cu
  have HT := qa0 hst.tl
  have HB := qa0 hst.bel
  have hpf := hst.fit
  have hlen := hst.len
  have hlnb : ln ≤ 65537 := by rw [← hst.hln]; have := (qco s p).2; omega
  obtain ⟨cl, HCL⟩ : ∃ cl, Hid (cln s p = cl) := ⟨_, rfl⟩
  have hfs : fs + cl = p + 1 := by rw [← HCL.out]; exact hst.hfs
  have hcl1 : 1 ≤ cl := by rw [← HCL.out]; exact (qcb s p).1
  have hLN := qa0 hst.hln
  clear hst HC
  obtain ⟨e, hpe, hes, hno, hst, hcu⟩ := HST.out.cut.remark hp (q2 rfl)
  have hli := qie (s := s) (p := p) (e - p) (fun j h1 h2 => hno j h1 (by omega))
  rw [show p + (e - p) = e by omega] at hli
  have HN1 : Hid (lnn s e = ln) := hli.1.trans hLN.out
  have HN2 : Hid (fs + cln s e = e + 1) := by show _ = _; rw [hli.2, HCL.out]; omega
  have HA : Hid (∀ j, p ≤ j → j < e → decide (tb s j ≠ 10) = true) := fun j h1 h2 => decide_eq_true (hno j h1 h2)
  have HE : Hid (e < s.size → decide (tb s e ≠ 10) = false) := fun h => decide_eq_false (fun k => k (hst h))
  have HCut := qa0 hcu
  clear hno hst hcu hli q1 q2 q3 q4 q5
  go_wp2_with (go_at_call 106; refine (tpassRemark _ (w.heap.size + 1) p p e ln fs s v HV (by omega) hes hs HA HE).mono ?_; rintro r w2 ⟨rfl, hv2, hg2⟩; have HV2 := qa0 hv2; have HG2 := qa0 hg2; clear hv2 hg2)
  go_step3
  exact CJ.back (CFr.mk _ _ _ _ _ _ _ _ _ _ _ _ _ _ _ _ _ _ _ _ _ _ _ _ _ _ _ _ _ _ _ _ _ _ _ _ _ _ _ _ _ _ _ _ _ _ _ _ _ _ _ _ _ _ _ _ _ _ _ _ _ _ _ _ _ _ _ _ _ _ _ _ _ _ _ _ _ _ _ _ _ _ _ _ _ _ _ _ _ _ _ _ _ _) (HST.out.go HV2.out HG2.out hes (by omega) HN1.out HN2.out HCut.out) (by decide) (by decide) HV.out hpe
 case p3 =>
  intro a' wr hJ
  obtain ⟨⟨f, rfl⟩, hJ⟩ := hJ
  rcases hJ with ⟨h, _⟩ | ⟨_, _, p, ln, fs, v, L0, R, hst, hp, q1, q2, q3, q4, q5⟩ | ⟨h, _⟩
  ·omega
  rotate_left
  ·omega
  have HST := qa0 hst
  have HV := qa0 hst.cu
  have HT := qa0 hst.tl
  have HB := qa0 hst.bel
  have hpf := hst.fit
  have hlen := hst.len
  have hlnb : ln ≤ 65537 := by rw [← hst.hln]; have := (qco s p).2; omega
  obtain ⟨cl, HCL⟩ : ∃ cl, Hid (cln s p = cl) := ⟨_, rfl⟩
  have hfs : fs + cl = p + 1 := by rw [← HCL.out]; exact hst.hfs
  have hcl1 : 1 ≤ cl := by rw [← HCL.out]; exact (qcb s p).1
  have hLN := qa0 hst.hln
  clear hst HC
  obtain ⟨e, hEn, hway⟩ := qgy HST.out.cut hp (q3 rfl)
  have hpe : p < e := hEn.more hp (by rw [q3 rfl]; simp)
  have hes := hEn.fits
  have HA : Hid (∀ j, p ≤ j → j < e → inN (tb s j) false = true) := fun j h1 h2 => by rw [qe0]; exact hEn.all j h1 h2
  have HE : Hid (e < s.size → inN (tb s e) false = false) := fun h => by rw [qe0]; exact hEn.stop h
  have HN1 : Hid (lnn s e = ln) := hEn.line.1.trans hLN.out
  have HN2 : Hid (fs + cln s e = e + 1) := fs_at hEn (by rw [HCL.out]; exact hfs)
  obtain ⟨d, hd⟩ : ∃ d, e - p = d := ⟨_, rfl⟩
  have ed : (e : Int) - (p : Int) = (d : Int) := by omega
  have hd2 : d ≤ 65536 := by omega
  rw [hd] at hway
  clear hEn q1 q2 q3 q4 q5 hd
  rcases hway with ⟨h16, hE, hpa⟩ | ⟨h16, k, R', hk3, hk, hcu, hR⟩
  ·have g1 : decide ((16 : Int) < (d : Int)) = true := decide_eq_true (by omega)
   have g2 : decide (16 < d) = true := decide_eq_true h16
   have HE9 := qa0 hE
   have HPa := qa0 hpa
   clear hE hpa
   go_wp2_with (go_at_call 107; refine (tpassName _ (w.heap.size + 1) p p e ln fs s v HV (by omega) hes hs HA HE).mono ?_; rintro r w2 ⟨rfl, hv2, hg2⟩; have HV2 := qa0 hv2; have HT2 := qa0 (HT.out.kept hg2 (qcp fun _ e => (HT.out.base e).1)); have HB2 := qa0 (jb9 HB.out hg2 (Nat.le_refl _)); have z1 := HV2.out.c1; have z2 := HV2.out.c2; clear hv2 hg2)
   go_step3
   exact CJ.off (CFr.mk _ _ _ _ _ _ _ _ _ _ _ _ _ _ _ _ _ _ _ _ _ _ _ _ _ _ _ _ _ _ _ _ _ _ _ _ _ _ _ _ _ _ _ _ _ _ _ _ _ _ _ _ _ _ _ _ _ _ _ _ _ _ _ _ _ _ _ _ _ _ _ _ _ _ _ _ _ _ _ _ _ _ _ _ _ _ _ _ _ _ _ _ _ _) HE9.out (by rw [← HPa.out]; exact hpf) (by rw [← HPa.out]; exact HV2.out) (by rw [← HPa.out]; exact hLN.out) (by rw [← HPa.out, HCL.out]; exact hfs) HB2.out HV.out (by decide) hp
  ·have g1 : decide ((16 : Int) < (d : Int)) = false := decide_eq_false (by omega)
   have g2 : decide (16 < d) = false := decide_eq_false (by omega)
   obtain ⟨X, HXx⟩ : ∃ X, Hid (s.extract p e = X) := ⟨_, rfl⟩
   rw [HXx.out] at hk
   have HK := qa0 hk
   have HRr := qa0 hR
   have HCut := qa0 hcu
   have HX : Hid (tcs s ⟨k, p, e, 0⟩ = [.int .u8 (k : Int), .string X, .int .i64 ((0 : Nat) : Int), .int .i64 (ln : Int), .int .i64 (cl : Int)]) := qin (by rw [if_neg hk3]; exact HXx.out) hLN.out HCL.out
   clear hk hR hcu hk3
   have HPc : Hid (∀ w' : World, Hid (Cu w' (w.heap.size + 1) s p e ln fs v) → Calls Tryz.prog 110 #[.pointer (some ⟨w.heap.size + 1, 0, none⟩)] w' fun r w'' => r = .returned (.string X) ∧ Below w'.heap.size w' w'') := fun w' h => by rw [← HXx.out]; exact tpiece w' _ p e ln fs s v h (by omega) hes
   go_wp2_with (first
    | (go_at_call 107; refine (tpassName _ (w.heap.size + 1) p p e ln fs s v HV (by omega) hes hs HA HE).mono ?_; rintro r w2 ⟨rfl, hv2, hg2⟩; have HV2 := qa0 hv2; have HT2 := qa0 (HT.out.kept hg2 (qcp fun _ e => (HT.out.base e).1)); have HB2 := qa0 (jb9 HB.out hg2 (Nat.le_refl _)); have z1 := HV2.out.c1; have z2 := HV2.out.c2; clear hv2 hg2)
    | (go_at_call 110; refine (HPc.out _ HV2).mono ?_; rintro r w3 ⟨rfl, hb3⟩; have HV3 := qa0 (HV2.out.later hb3); have HT3 := qa0 (HT2.out.later hb3); have HB3 := qa0 (jl9 HB2.out hb3); clear hb3; have HW3 := qa0 (HW.out.later (qdd HB3.out)))
    | (go_at_call 109; refine (tnamed _ X k HW3 HK).mono ?_; rintro r w4 ⟨rfl, hb4⟩; have HV4 := qa0 (HV3.out.later hb4); have HT4 := qa0 (HT3.out.later hb4); have HB4 := qa0 (jl9 HB3.out hb4); clear hb4)
    | (go_at_call 108; refine (ttell _ (w.heap.size + 1) p e ln fs cl k 0 s X v L0 ⟨k, p, e, 0⟩ HV4 HT4 hfs hcl1 (by omega) (by omega) HX).mono ?_; rintro r w5 ⟨rfl, v5, hv5, ht5, hb5⟩; have HV5 := qa0 hv5; have HT5 := qa0 ht5; have HB5 := qa0 (HB4.out.trans hb5); clear hv5 ht5 hb5))
   go_step3
   exact CJ.back (CFr.mk _ _ _ _ _ _ _ _ _ _ _ _ _ _ _ _ _ _ _ _ _ _ _ _ _ _ _ _ _ _ _ _ _ _ _ _ _ _ _ _ _ _ _ _ _ _ _ _ _ _ _ _ _ _ _ _ _ _ _ _ _ _ _ _ _ _ _ _ _ _ _ _ _ _ _ _ _ _ _ _ _ _ _ _ _ _ _ _ _ _ _ _ _ _) (HST.out.tell HRr.out HV5.out HT5.out HB5.out hes hpe HN1.out HN2.out HCut.out) (by decide) (by decide) HV.out hpe
 case p4 =>
  intro a' wr hJ
  obtain ⟨⟨f, rfl⟩, hJ⟩ := hJ
  rcases hJ with ⟨h, _⟩ | ⟨_, _, p, ln, fs, v, L0, R, hst, hp, q1, q2, q3, q4, q5⟩ | ⟨h, _⟩
  ·omega
  rotate_left
  ·omega
  have HST := qa0 hst
  have HV := qa0 hst.cu
  have HT := qa0 hst.tl
  have HB := qa0 hst.bel
  have hpf := hst.fit
  have hlen := hst.len
  have hlnb : ln ≤ 65537 := by rw [← hst.hln]; have := (qco s p).2; omega
  obtain ⟨cl, HCL⟩ : ∃ cl, Hid (cln s p = cl) := ⟨_, rfl⟩
  have hfs : fs + cl = p + 1 := by rw [← HCL.out]; exact hst.hfs
  have hcl1 : 1 ≤ cl := by rw [← HCL.out]; exact (qcb s p).1
  have hLN := qa0 hst.hln
  clear hst HC
  obtain ⟨e, hEn, hway⟩ := HST.out.cut.digit hp (q4 rfl)
  have hpe : p < e := hEn.more hp (by rw [q4 rfl]; rfl)
  have hes := hEn.fits
  have HA : Hid (∀ j, p ≤ j → j < e → isD (tb s j) = true) := fun j h1 h2 => by simpa using hEn.all j h1 h2
  have HE : Hid (e < s.size → isD (tb s e) = false) := fun h => by simpa using hEn.stop h
  have HN1 : Hid (lnn s e = ln) := hEn.line.1.trans hLN.out
  have HN2 : Hid (fs + cln s e = e + 1) := fs_at hEn (by rw [HCL.out]; exact hfs)
  obtain ⟨d, hd⟩ : ∃ d, e - p = d := ⟨_, rfl⟩
  have hd0 : 1 ≤ d := by omega
  have hd2 : d ≤ 65536 := by omega
  obtain ⟨X, HXx⟩ : ∃ X, Hid (s.extract p e = X) := ⟨_, rfl⟩
  have hXs : X.size = d := by rw [← HXx.out, size_extract hes, hd]
  have HXd : Hid (∀ j, j < d → isD (tb X j) = true) := fun j hj => by rw [← HXx.out, qaz (by omega) hes]; exact HA.out (p + j) (by omega) (by omega)
  have HOX : Hid (NumOk X 0 d ↔ NumOk s p e) := by show _ ↔ _; rw [← HXx.out, ← hd]; exact NumOk.extract hes hpe
  obtain ⟨V, HVv⟩ : ∃ V, Hid (nvl s p d = V) := ⟨_, rfl⟩
  have hV : nvl X 0 d = V := by rw [← HXx.out, qe7 hes d (by omega), HVv.out]
  have HPc : Hid (∀ w' : World, Hid (Cu w' (w.heap.size + 1) s p e ln fs v) → Calls Tryz.prog 110 #[.pointer (some ⟨w.heap.size + 1, 0, none⟩)] w' fun r w'' => r = .returned (.string X) ∧ Below w'.heap.size w' w'') := fun w' h => by rw [← HXx.out]; exact tpiece w' _ p e ln fs s v h (by omega) hes
  have HX : Hid (tcs s ⟨3, p, e, V⟩ = [.int .u8 ((3 : Nat) : Int), .string ⟨#[]⟩, .int .i64 (V : Int), .int .i64 (ln : Int), .int .i64 (cl : Int)]) := qin rfl hLN.out HCL.out
  rw [hd, HVv.out] at hway
  clear hEn q1 q2 q3 q4 q5 hd
  rcases hway with ⟨hok, hnl, R', hcu, hR⟩ | ⟨hno, hE, hpa⟩ | ⟨hok, hel, hlt, hE, hea⟩
  ·have HOk : Hid (NumOk X 0 d) := HOX.out.2 hok
   have HRr := qa0 hR
   have HCut := qa0 hcu
   clear hok hR hcu
   by_cases hee : e < s.size
   ·obtain ⟨c, HCc⟩ : ∃ c, Hid (tb s e = c) := ⟨_, rfl⟩
    have hc : s[e].toNat = c := by rw [← HCc.out]; exact qca hee
    have hc8 : c < 256 := by rw [← HCc.out]; exact qem s e
    have r0 : (0 : Int) ≤ (e : Int) := by omega
    have r1 : (e : Int) < (s.size : Int) := by omega
    have HFl : Hid (∀ w' : World, Calls Tryz.prog 102 #[.int .u8 (c : Int)] w' fun r w'' => r = .returned (.bool false) ∧ w' = w'') := fun w' => by have h := qd5 w' c hc8; rw [← HCc.out, hnl hee] at h; rw [← HCc.out]; exact h
    clear hnl
    go_wp2_with (first
    | (go_at_call 111; refine (tpassDigits _ (w.heap.size + 1) p p e ln fs s v HV (by omega) hes hs HA HE).mono ?_; rintro r w2 ⟨rfl, hv2, hg2⟩; have HV2 := qa0 hv2; have HT2 := qa0 (HT.out.kept hg2 (qcp fun _ e => (HT.out.base e).1)); have HB2 := qa0 (jb9 HB.out hg2 (Nat.le_refl _)); clear hv2 hg2)
    | (go_at_call 110; refine (HPc.out _ HV2).mono ?_; rintro r w3 ⟨rfl, hb3⟩; have HV3 := qa0 (HV2.out.later hb3); have HT3 := qa0 (HT2.out.later hb3); have HB3 := qa0 (jl9 HB2.out hb3); clear hb3; have HR3 := qa0 (HR.out.later (qdd HB3.out)))
    | (go_at_call 112; refine (qcn _ X d V hXs hd0 hd2 HXd HOk hV).mono ?_; rintro r w4 ⟨rfl, hb4⟩; have HV4 := qa0 (HV3.out.later hb4); have HT4 := qa0 (HT3.out.later hb4); have HB4 := qa0 (jl9 HB3.out hb4); clear hb4)
    | (go_at_call 108; refine (ttell _ (w.heap.size + 1) p e ln fs cl 3 V s ⟨#[]⟩ v L0 ⟨3, p, e, V⟩ HV4 HT4 hfs hcl1 (by omega) (by omega) HX).mono ?_; rintro r w5 ⟨rfl, v5, hv5, ht5, hb5⟩; have HV5 := qa0 hv5; have HT5 := qa0 ht5; have HB5 := qa0 (HB4.out.trans hb5); clear hv5 ht5 hb5)
    | (go_at_call 100; refine (qau _ (w.heap.size + 1) p e ln fs s v5 HV5 hee).mono ?_; rintro r w6 ⟨rfl, hb6⟩; have HV6 := qa0 (HV5.out.later hb6); have HT6 := qa0 (HT5.out.later hb6); have HB6 := qa0 (jl9 HB5.out hb6); clear hb6; have y2 := HV6.out.c2)
    | (go_at_call 102; refine (HFl.out _).mono ?_; rintro r w' ⟨rfl, rfl⟩))
    go_step3
    exact CJ.back (CFr.mk _ _ _ _ _ _ _ _ _ _ _ _ _ _ _ _ _ _ _ _ _ _ _ _ _ _ _ _ _ _ _ _ _ _ _ _ _ _ _ _ _ _ _ _ _ _ _ _ _ _ _ _ _ _ _ _ _ _ _ _ _ _ _ _ _ _ _ _ _ _ _ _ _ _ _ _ _ _ _ _ _ _ _ _ _ _ _ _ _ _ _ _ _ _) (HST.out.tell HRr.out HV6.out HT6.out HB6.out hes hpe HN1.out HN2.out HCut.out) (by decide) (by decide) HV.out hpe
   ·have hes2 : e = s.size := by omega
    clear hnl
    go_wp2_with (first
    | (go_at_call 111; refine (tpassDigits _ (w.heap.size + 1) p p e ln fs s v HV (by omega) hes hs HA HE).mono ?_; rintro r w2 ⟨rfl, hv2, hg2⟩; have HV2 := qa0 hv2; have HT2 := qa0 (HT.out.kept hg2 (qcp fun _ e => (HT.out.base e).1)); have HB2 := qa0 (jb9 HB.out hg2 (Nat.le_refl _)); clear hv2 hg2)
    | (go_at_call 110; refine (HPc.out _ HV2).mono ?_; rintro r w3 ⟨rfl, hb3⟩; have HV3 := qa0 (HV2.out.later hb3); have HT3 := qa0 (HT2.out.later hb3); have HB3 := qa0 (jl9 HB2.out hb3); clear hb3; have HR3 := qa0 (HR.out.later (qdd HB3.out)))
    | (go_at_call 112; refine (qcn _ X d V hXs hd0 hd2 HXd HOk hV).mono ?_; rintro r w4 ⟨rfl, hb4⟩; have HV4 := qa0 (HV3.out.later hb4); have HT4 := qa0 (HT3.out.later hb4); have HB4 := qa0 (jl9 HB3.out hb4); clear hb4)
    | (go_at_call 108; refine (ttell _ (w.heap.size + 1) p e ln fs cl 3 V s ⟨#[]⟩ v L0 ⟨3, p, e, V⟩ HV4 HT4 hfs hcl1 (by omega) (by omega) HX).mono ?_; rintro r w5 ⟨rfl, v5, hv5, ht5, hb5⟩; have HV5 := qa0 hv5; have HT5 := qa0 ht5; have HB5 := qa0 (HB4.out.trans hb5); clear hv5 ht5 hb5)
    | (go_at_call 100; refine (qcd _ (w.heap.size + 1) p e ln fs s v5 HV5 hes2).mono ?_; rintro r w6 ⟨rfl, hb6⟩; have HV6 := qa0 (HV5.out.later hb6); have HT6 := qa0 (HT5.out.later hb6); have HB6 := qa0 (jl9 HB5.out hb6); clear hb6))
    go_step3
    exact CJ.back (CFr.mk _ _ _ _ _ _ _ _ _ _ _ _ _ _ _ _ _ _ _ _ _ _ _ _ _ _ _ _ _ _ _ _ _ _ _ _ _ _ _ _ _ _ _ _ _ _ _ _ _ _ _ _ _ _ _ _ _ _ _ _ _ _ _ _ _ _ _ _ _ _ _ _ _ _ _ _ _ _ _ _ _ _ _ _ _ _ _ _ _ _ _ _ _ _) (HST.out.tell HRr.out HV6.out HT6.out HB6.out hes hpe HN1.out HN2.out HCut.out) (by decide) (by decide) HV.out hpe
  ·have HNo : Hid (¬ NumOk X 0 d) := fun h => hno (HOX.out.1 h)
   have HE9 := qa0 hE
   have HPa := qa0 hpa
   clear hE hpa hno
   go_wp2_with (first
    | (go_at_call 111; refine (tpassDigits _ (w.heap.size + 1) p p e ln fs s v HV (by omega) hes hs HA HE).mono ?_; rintro r w2 ⟨rfl, hv2, hg2⟩; have HV2 := qa0 hv2; have HT2 := qa0 (HT.out.kept hg2 (qcp fun _ e => (HT.out.base e).1)); have HB2 := qa0 (jb9 HB.out hg2 (Nat.le_refl _)); clear hv2 hg2)
    | (go_at_call 110; refine (HPc.out _ HV2).mono ?_; rintro r w3 ⟨rfl, hb3⟩; have HV3 := qa0 (HV2.out.later hb3); have HT3 := qa0 (HT2.out.later hb3); have HB3 := qa0 (jl9 HB2.out hb3); clear hb3; have HR3 := qa0 (HR.out.later (qdd HB3.out)))
    | (go_at_call 112; refine (qg1 _ X d hXs hd0 hd2 HXd HNo HR3).mono ?_; rintro r w4 ⟨mm, rfl, hb4⟩; have HV4 := qa0 (HV3.out.later hb4); have HT4 := qa0 (HT3.out.later hb4); have HB4 := qa0 (jl9 HB3.out hb4); clear hb4))
   go_step3
   exact CJ.off (CFr.mk _ _ _ _ _ _ _ _ _ _ _ _ _ _ _ _ _ _ _ _ _ _ _ _ _ _ _ _ _ _ _ _ _ _ _ _ _ _ _ _ _ _ _ _ _ _ _ _ _ _ _ _ _ _ _ _ _ _ _ _ _ _ _ _ _ _ _ _ _ _ _ _ _ _ _ _ _ _ _ _ _ _ _ _ _ _ _ _ _ _ _ _ _ _) HE9.out (by rw [← HPa.out]; exact hpf) (by rw [← HPa.out]; exact HV4.out) (by rw [← HPa.out]; exact hLN.out) (by rw [← HPa.out, HCL.out]; exact hfs) HB4.out HV.out (by decide) hp
  ·have HOk : Hid (NumOk X 0 d) := HOX.out.2 hok
   have HE9 := qa0 hE
   have HPa := qa0 hea
   obtain ⟨c, HCc⟩ : ∃ c, Hid (tb s e = c) := ⟨_, rfl⟩
   have hc : s[e].toNat = c := by rw [← HCc.out]; exact qca hel
   have hc8 : c < 256 := by rw [← HCc.out]; exact qem s e
   have r0 : (0 : Int) ≤ (e : Int) := by omega
   have r1 : (e : Int) < (s.size : Int) := by omega
   have HFl : Hid (∀ w' : World, Calls Tryz.prog 102 #[.int .u8 (c : Int)] w' fun r w'' => r = .returned (.bool true) ∧ w' = w'') := fun w' => by have h := qd5 w' c hc8; rw [← HCc.out, hlt] at h; rw [← HCc.out]; exact h
   clear hok hE hea hlt
   go_wp2_with (first
    | (go_at_call 111; refine (tpassDigits _ (w.heap.size + 1) p p e ln fs s v HV (by omega) hes hs HA HE).mono ?_; rintro r w2 ⟨rfl, hv2, hg2⟩; have HV2 := qa0 hv2; have HT2 := qa0 (HT.out.kept hg2 (qcp fun _ e => (HT.out.base e).1)); have HB2 := qa0 (jb9 HB.out hg2 (Nat.le_refl _)); clear hv2 hg2)
    | (go_at_call 110; refine (HPc.out _ HV2).mono ?_; rintro r w3 ⟨rfl, hb3⟩; have HV3 := qa0 (HV2.out.later hb3); have HT3 := qa0 (HT2.out.later hb3); have HB3 := qa0 (jl9 HB2.out hb3); clear hb3; have HR3 := qa0 (HR.out.later (qdd HB3.out)))
    | (go_at_call 112; refine (qcn _ X d V hXs hd0 hd2 HXd HOk hV).mono ?_; rintro r w4 ⟨rfl, hb4⟩; have HV4 := qa0 (HV3.out.later hb4); have HT4 := qa0 (HT3.out.later hb4); have HB4 := qa0 (jl9 HB3.out hb4); clear hb4)
    | (go_at_call 108; refine (ttell _ (w.heap.size + 1) p e ln fs cl 3 V s ⟨#[]⟩ v L0 ⟨3, p, e, V⟩ HV4 HT4 hfs hcl1 (by omega) (by omega) HX).mono ?_; rintro r w5 ⟨rfl, v5, hv5, ht5, hb5⟩; have HV5 := qa0 hv5; have HT5 := qa0 ht5; have HB5 := qa0 (HB4.out.trans hb5); clear hv5 ht5 hb5)
    | (go_at_call 100; refine (qau _ (w.heap.size + 1) p e ln fs s v5 HV5 hel).mono ?_; rintro r w6 ⟨rfl, hb6⟩; have HV6 := qa0 (HV5.out.later hb6); have HT6 := qa0 (HT5.out.later hb6); have HB6 := qa0 (jl9 HB5.out hb6); clear hb6; have y2 := HV6.out.c2)
    | (go_at_call 102; refine (HFl.out _).mono ?_; rintro r w' ⟨rfl, rfl⟩)
    | (refine wpList_store_one rfl 3 _ _ rfl (w.heap.size + 1) 1 134 _ (.int .i64 (e : Int)) rfl rfl szInt rfl rfl HV6.out (by simp) ?_; intro w7 hv7 hg7; have HV7 : Hid (Cu w7 (w.heap.size + 1) s e e ln fs v5) := hv7; have HB7 := qa0 (jb9 HB6.out hg7.out (Nat.le_refl _)); clear hv7 hg7))
   go_step3
   exact CJ.off (CFr.mk _ _ _ _ _ _ _ _ _ _ _ _ _ _ _ _ _ _ _ _ _ _ _ _ _ _ _ _ _ _ _ _ _ _ _ _ _ _ _ _ _ _ _ _ _ _ _ _ _ _ _ _ _ _ _ _ _ _ _ _ _ _ _ _ _ _ _ _ _ _ _ _ _ _ _ _ _ _ _ _ _ _ _ _ _ _ _ _ _ _ _ _ _ _) HE9.out (by rw [← HPa.out]; exact hes) (by rw [← HPa.out]; exact HV7.out) (by rw [← HPa.out]; exact HN1.out) (by rw [← HPa.out]; exact HN2.out) HB7.out HV.out (by decide) hp
 case p5 =>
  intro a' wr hJ
  obtain ⟨⟨f, rfl⟩, hJ⟩ := hJ
  rcases hJ with ⟨h, _⟩ | ⟨_, _, p, ln, fs, v, L0, R, hst, hp, q1, q2, q3, q4, q5⟩ | ⟨h, _⟩
  ·omega
  rotate_left
  ·omega
  have HST := qa0 hst
  have HV := qa0 hst.cu
  have HT := qa0 hst.tl
  have HB := qa0 hst.bel
  have hpf := hst.fit
  have hlen := hst.len
  have hlnb : ln ≤ 65537 := by rw [← hst.hln]; have := (qco s p).2; omega
  obtain ⟨cl, HCL⟩ : ∃ cl, Hid (cln s p = cl) := ⟨_, rfl⟩
  have hfs : fs + cl = p + 1 := by rw [← HCL.out]; exact hst.hfs
  have hcl1 : 1 ≤ cl := by rw [← HCL.out]; exact (qcb s p).1
  have hLN := qa0 hst.hln
  clear hst HC
  obtain ⟨R', hcu, hR⟩ := HST.out.cut.signed hp (q5 rfl)
  have h10 : tb s p ≠ 10 := by have := qdq.1 (q5 rfl); omega
  obtain ⟨k1, hk1⟩ : ∃ k1, p + 1 = k1 := ⟨_, rfl⟩
  rw [hk1] at hcu hR
  have e1 : (p : Int) + 1 = (k1 : Int) := by omega
  have hk65 : k1 ≤ s.size := by omega
  have hpk : p < k1 := by omega
  have HN1 : Hid (lnn s k1 = ln) := by show _ = _; rw [← hk1, qct, if_neg h10, hLN.out]
  have HN2 : Hid (fs + cln s k1 = k1 + 1) := by show _ = _; rw [← hk1, qcu, if_neg h10, HCL.out]; omega
  obtain ⟨X, HXx⟩ : ∃ X, Hid (s.extract p k1 = X) := ⟨_, rfl⟩
  have HX : Hid (tcs s ⟨4, p, k1, 0⟩ = [.int .u8 ((4 : Nat) : Int), .string X, .int .i64 ((0 : Nat) : Int), .int .i64 (ln : Int), .int .i64 (cl : Int)]) := qin HXx.out hLN.out HCL.out
  have HPc : Hid (∀ w' : World, Hid (Cu w' (w.heap.size + 1) s p k1 ln fs v) → Calls Tryz.prog 110 #[.pointer (some ⟨w.heap.size + 1, 0, none⟩)] w' fun r w'' => r = .returned (.string X) ∧ Below w'.heap.size w' w'') := fun w' h => by rw [← HXx.out]; exact tpiece w' _ p k1 ln fs s v h (by omega) hk65
  have HRr := qa0 hR
  have HCut := qa0 hcu
  have z2 := HV.out.c2
  clear hcu hR h10 q1 q2 q3 q4 q5 hk1
  go_wp2_with (first
   | (refine wpList_store_one rfl 3 _ _ rfl (w.heap.size + 1) 2 134 _ (.int .i64 (k1 : Int)) rfl rfl szInt rfl rfl HV.out (by simp) ?_; intro w2 hv2 hg2'; have hg2 := hg2'.out; have HV2 : Hid (Cu w2 (w.heap.size + 1) s p k1 ln fs v) := hv2; have HT2 := qa0 (HT.out.kept hg2 (qcp fun _ e => (HT.out.base e).1)); have HB2 := qa0 (jb9 HB.out hg2 (Nat.le_refl _)); clear hv2 hg2 hg2')
   | (go_at_call 110; refine (HPc.out _ HV2).mono ?_; rintro r w3 ⟨rfl, hb3⟩; have HV3 := qa0 (HV2.out.later hb3); have HT3 := qa0 (HT2.out.later hb3); have HB3 := qa0 (jl9 HB2.out hb3); clear hb3)
   | (go_at_call 108; refine (ttell _ (w.heap.size + 1) p k1 ln fs cl 4 0 s X v L0 ⟨4, p, k1, 0⟩ HV3 HT3 hfs hcl1 (by omega) (by omega) HX).mono ?_; rintro r w5 ⟨rfl, v5, hv5, ht5, hb5⟩; have HV5 := qa0 hv5; have HT5 := qa0 ht5; have HB5 := qa0 (HB3.out.trans hb5); clear hv5 ht5 hb5))
  go_step3
  exact CJ.back (CFr.mk _ _ _ _ _ _ _ _ _ _ _ _ _ _ _ _ _ _ _ _ _ _ _ _ _ _ _ _ _ _ _ _ _ _ _ _ _ _ _ _ _ _ _ _ _ _ _ _ _ _ _ _ _ _ _ _ _ _ _ _ _ _ _ _ _ _ _ _ _ _ _ _ _ _ _ _ _ _ _ _ _ _ _ _ _ _ _ _ _ _ _ _ _ _) (HST.out.tell HRr.out HV5.out HT5.out HB5.out hk65 hpk HN1.out HN2.out HCut.out) (by decide) (by decide) HV.out hpk
 case p6 =>
  intro a' wr hJ
  obtain ⟨⟨f, rfl⟩, hJ⟩ := hJ
  rcases hJ with ⟨h, _⟩ | ⟨_, h, _⟩ | ⟨_, hE, ha, p, ln, fs, v, hv, hl, hf, hb⟩
  ·omega
  ·omega
  have HV := qa0 hv
  have HB := qa0 hb
  have HLn := qa0 hl
  obtain ⟨cl, HCL⟩ : ∃ cl, Hid (cln s a0 = cl) := ⟨_, rfl⟩
  have hfs : fs + cl = a0 + 1 := by rw [← HCL.out]; exact hf
  have hcl1 : 1 ≤ cl := by rw [← HCL.out]; exact (qcb s a0).1
  subst hE
  clear hv hb hl hf HC
  go_wp2
  refine wp_region_held (S := fun w' => w'.cell? ⟨w.heap.size + 1, 3, none⟩ = some (.int .i64 (ln : Int))) (by kernel_rfl) ?_
  change wpAnyH _ _ _ _ _ _ _ _ (World.drew _)
  obtain ⟨W0, HW0⟩ : ∃ W0, Hid (wr.drew = W0) := ⟨_, rfl⟩
  rw [HW0.out]
  have HBW : Hid (Below wr.heap.size wr W0) := by rw [← HW0.out]; exact qas wr
  have HX0 := qa0 (HV.out.later HBW.out)
  have HB0 := qa0 (jl9 HB.out HBW.out)
  refine wtkq 0 ?vs0 rfl (by kernel_rfl) (fun _ _ _ h => h) (by rfl) ?ys0 HX0.out.c3 ?zs0
  case ys0 => (intro w hSw; (try dsimp only at hSw); go_simp; try with_reducible rfl)
  try simp only [mz1, mz3, Act.put, mz4, mz5, mz6]
  refine wtkq 1 ?vs1 rfl (by kernel_rfl) (fun _ _ _ h => h) (by rfl) ?ys1 HX0.out.c3 ?zs1
  case ys1 => (intro w hSw; (try dsimp only at hSw); go_simp; try with_reducible rfl)
  try simp only [mz1, mz2, mz3, Act.put, mz4, mz5, mz6]
  refine wpAnyH_ready (rs := [2]) (by kernel_rfl) (by simp) ?_
  refine AllReadyH.cons rfl (fun KK hKK => ?_) AllReadyH.nil
  go_simp
  refine (tcol _ (w.heap.size + 1) a0 p ln fs cl s v HX0 hfs (by omega) hcl1).mono ?_; rintro r1 w1 ⟨rfl, hb1⟩; have HX1 := qa0 (HX0.out.later hb1); have HB1 := qa0 (jl9 HB0.out hb1); have HVf := qa0 (W9_vn HB1.out); clear hb1
  refine hKK.out _ _ HX1.out.c3 (fun _ => ?_)
  clear hKK KK
  try simp only [mz1, mz2, mz3, Act.put, mz4, mz5, mz6]
  refine wtkq 3 ?vs3 rfl (by kernel_rfl) (fun _ _ _ h => h) (by rfl) ?ys3 HX1.out.c3 ?zs3
  case ys3 => (intro w hSw; (try dsimp only at hSw); go_simp; try with_reducible rfl)
  try simp only [mz1, mz2, mz3, Act.put, mz4, mz5, mz6]
  refine wtkq 4 ?vs4 rfl (by kernel_rfl) (fun _ _ _ h => h) (by rfl) ?ys4 HX1.out.c3 ?zs4
  case ys4 => (intro w hSw; (try dsimp only at hSw); go_simp; try with_reducible rfl)
  try simp only [mz1, mz2, mz3, Act.put, mz4, mz5, mz6]
  refine wpAnyH_ready (rs := [5]) (by kernel_rfl) (by simp) ?_
  refine AllReadyH.cons rfl (fun KK hKK => ?_) AllReadyH.nil
  refine wp_store_row 25 _ _ rfl w.heap.size #[.int .i64 90, .int .i64 (ln : Int), .int .i64 (cl : Int)] rfl rfl 25 _ HVf.out sizeFau rfl (all3 rfl rfl rfl) ?_; have hg8 : w1.grownBy (w1.setRow w.heap.size #[.int .i64 90, .int .i64 (ln : Int), .int .i64 (cl : Int)]) (some w.heap.size) := qdc _ _ _; have HV8 := qa0 (Vn.row HVf.out #[.int .i64 90, .int .i64 (ln : Int), .int .i64 (cl : Int)]); have HG8 := qa0 hg8; have HX8 := qa0 (HX1.out.kept hg8 (by omega)); clear hg8; generalize w1.setRow w.heap.size #[.int .i64 90, .int .i64 (ln : Int), .int .i64 (cl : Int)] = w8 at *
  refine hKK.out _ _ HX8.out.c3 (fun _ => ?_)
  clear hKK KK
  try simp only [mz1, mz2, mz3, Act.put]
  refine wpAnyH_done (by kernel_rfl) ?_ _
  have d0 := HV8.out.cell 0 _ rfl
  have d1 := HV8.out.cell 1 _ rfl
  have d2 := HV8.out.cell 2 _ rfl
  go_wp2
  rw [qg0]
  refine bodyPost_ret (v := .tuple #[.slice none 0 0, .agg #[.int .i64 90, .int .i64 (ln : Int), .int .i64 (cl : Int)]]) (by simp [results, Tryz.results53, go_sem, d0, d1, d2]) rfl ?_
  exact ⟨_, by rw [if_neg (by decide), HLn.out, HCL.out]; rfl, fun h => absurd h (by decide), fun _ => rfl, (qdd HB1.out).trans (jbelow HG8.out (qdd HB1.out).size (fun g e => by cases e; exact Nat.le_refl _))⟩
end Go.Proofs.YtnjcpmkfghcogaaGreatDoor
