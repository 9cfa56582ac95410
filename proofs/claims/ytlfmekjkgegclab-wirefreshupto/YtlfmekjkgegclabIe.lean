/-
  Contracts of the landed wire: read, Read.
-/
import Derived.Test.YtlfmekjkgegclabId
namespace Go.Proofs.Ytlfmekjkgegclab
open Go.RowKit
/-- What is behind the first p bytes, in letters. -/
theorem behind_l {b o n c p : Nat} (hp : p ≤ n) (hnc : n ≤ c) : ∃ o', pca b o p n = some ⟨b, o', none⟩ ∧ ∀ w : World, Calls Try.prog 27 #[.slice (some ⟨b, o, none⟩) n c, .int .i64 (p : Int)] w fun e w'' => e = .returned (.slice (some ⟨b, o', none⟩) (n - p) (n - p)) ∧ w = w'' := by
  obtain ⟨o', h⟩ := behind_at b o n p
  refine ⟨o', h, fun w => ?_⟩
  have := behind_ok w b o n c p hp hnc
  rw [h] at this
  exact this
set_option maxRecDepth 20000 in
set_option maxHeartbeats 2000000 in
theorem srd_ok (w : World) (t : Nat) (a : Option Addr) (n c v s : Nat) (f : Nat → Nat) (HT : Hid (Tb w t)) (ha : Sl w a n f) (hnc : n ≤ c) (hn : n ≤ 140737488351232) (h : RdOk f n v s) :
    Calls Try.prog 24 #[.pointer (some ⟨t, 0, none⟩), .slice a n c] w fun e w' => ∃ x, e = .returned (.tuple #[.agg #[.int .u8 (f 0 : Nat), x], .int .i64 ((1 + (s + v) + 4 : Nat) : Int), .int .i64 0]) ∧ Jo w' w.heap.size 5 .u8 x v (fun j => f (1 + (s + j))) ∧ Below w.heap.size w w' := by
  obtain ⟨hnum, hsm, hfit, hsum⟩ := h
  have hs1 := hnum.s1
  have hs9 := hnum.s9
  obtain ⟨b, o, rfl⟩ : ∃ b o, a = some ⟨b, o, none⟩ := by
    obtain ⟨b, o, e, _⟩ := ha.2 0 (by omega)
    exact ⟨b, o, e⟩
  obtain ⟨z, HZ⟩ : ∃ z, Hid (s + v = z) := ⟨_, rfl⟩
  obtain ⟨p, HP⟩ : ∃ p, Hid (1 + z = p) := ⟨_, rfl⟩
  obtain ⟨q, HQ⟩ : ∃ q, Hid (p + 4 = q) := ⟨_, rfl⟩
  rw [HZ.out, HP.out] at hfit hsum
  rw [HZ.out, HP.out, HQ.out]
  obtain ⟨o1, ho1, hb1⟩ := behind_l (b := b) (o := o) (n := n) (c := c) (p := 1) (by omega) hnc
  obtain ⟨o2, ho2, hb2⟩ := behind_l (b := b) (o := o) (n := n) (c := c) (p := p) (by omega) hnc
  obtain ⟨n1, HN1⟩ : ∃ n1, Hid (n - 1 = n1) := ⟨_, rfl⟩
  obtain ⟨r, HR⟩ : ∃ r, Hid (n - p = r) := ⟨_, rfl⟩
  rw [HN1.out] at hb1
  rw [HR.out] at hb2
  have HBh1 := jhid8 hb1
  have HBh2 := jhid8 hb2
  have ez : (z : Int) + 1 = (p : Int) := by have := HP.out; omega
  have eq : (p : Int) + 4 = (q : Int) := by have := HQ.out; omega
  have hq47 : q ≤ 140737488351232 := by have := HQ.out; omega
  have HRt : Hid (∀ w' : World, Below w.heap.size w w' → Calls Try.prog 19 #[.slice (some ⟨b, o1, none⟩) n1 n1, .int .i64 4194304] w' fun e w'' => ∃ x, e = .returned (.tuple #[x, .int .i64 (z : Int), .int .i64 0]) ∧ Jo w'' w'.heap.size 5 .u8 x v (fun j => f (1 + (s + j))) ∧ Below w'.heap.size w' w'') := fun w' hb => by
    have hp := sl_part (c := n) (p := 1) (m := n - 1) (ha.later hb) (by omega) (Nat.le_refl _)
    rw [ho1] at hp
    have := qrt_ok w' _ (n - 1) (n - 1) v s 4194304 _ hp (by omega) (by omega) (by decide) hnum hsm (by have := HZ.out; have := HP.out; omega)
    rw [HZ.out, HN1.out] at this
    exact this
  obtain ⟨S, HS⟩ : ∃ S, Hid (cs f p = S) := ⟨_, rfl⟩
  have hS4 : S < 4294967296 := by rw [← HS.out]; exact cs_lt f p
  obtain ⟨G, HG⟩ : ∃ G : Nat → Nat, Hid ((fun j => f (1 + (s + j))) = G) := ⟨_, rfl⟩
  rw [HG.out] at HRt
  rw [HG.out]
  obtain ⟨y, HY⟩ : ∃ y, Hid (f 0 = y) := ⟨_, rfl⟩
  rw [HY.out]
  have HCe : Hid (∀ w' : World, Below w.heap.size w w' → w'.cell? ⟨b, o, none⟩ = some (.int .u8 (y : Int))) := fun w' hb => by
    obtain ⟨b', o', e, hc⟩ := (ha.later hb).2 0 (by omega)
    cases e
    rw [Nat.add_zero, HY.out] at hc
    exact hc
  have HOf : Hid (∀ w' : World, Below w.heap.size w w' → Calls Try.prog 28 #[.pointer (some ⟨t, 0, none⟩), .slice (some ⟨b, o, none⟩) p c] w' fun e w'' => e = .returned (.int .u32 (S : Int)) ∧ w' = w'') := fun w' hb => by
    rw [← HS.out]
    exact of_ok w' t _ p c f (HT.out.later hb) ⟨fun i hi => ha.1 i (by omega), fun i hi => (ha.later hb).2 i (by omega)⟩ (by omega)
  have HSa : Hid (∀ w' : World, Below w.heap.size w w' → Calls Try.prog 32 #[.slice (some ⟨b, o2, none⟩) r r] w' fun e w'' => e = .returned (.int .u32 (S : Int)) ∧ w' = w'') := fun w' hb => by
    have hp := sl_part (c := n) (p := p) (m := n - p) (ha.later hb) (by omega) (Nat.le_refl _)
    rw [ho2, HR.out] at hp
    have e : S = hv4 (fun j => f (p + j)) 4 := (hv4_iff (fun i hi => ha.1 _ (by omega)) hS4).2 (fun j hj => by rw [hsum j hj, HS.out])
    rw [e]
    exact sumat_ok w' b o2 r r _ hp (Nat.le_refl _) (by have := HR.out; omega)
  have q1 : (p : Int) ≤ (c : Int) := by omega
  have q2 : decide ((r : Int) < 4) = false := decide_eq_false (by have := HR.out; omega)
  have q3 : decide (r < 4) = false := decide_eq_false (by have := HR.out; omega)
  have q4 : ((n : Int) == 0) = false := by simp; omega
  have q5 : 4 ≤ r := by have := HR.out; omega
  have q6 : 0 < n := by omega
  clear ha hnum hsum hb1 hb2 ho1 ho2
  go_enter Try.func24, Try.ntmps24
  go_wp2_with (first
    | (go_at_call 27; have _x := HB1; refine (HBh2.out _).mono ?_; rintro e w' ⟨rfl, rfl⟩)
    | (go_at_call 27; refine (HBh1.out _).mono ?_; rintro e w' ⟨rfl, rfl⟩)
    | (go_at_call 19; refine (HRt.out _ (jlow _ _)).mono ?_; rintro e w1 ⟨x0, rfl, ho1, hb1⟩; obtain ⟨x1, dx, ex1, _⟩ := ho1.form; subst ex1; have HB1 : Hid (Below w.heap.size w w1) := jtwo (jlow _ _) hb1; have HO1 : Hid (Jo w1 (w.heap.size + 1) 5 .u8 (.slice x1 v dx) v G) := (by have h := ho1; simp only [size_alloc8] at h; exact h); have HV1 : Hid (Vc w1 w.heap.size (.int .u8 0) (.slice none 0 0)) := (Vc.new w (.int .u8 0) (.slice none 0 0)).later hb1; have hc1 := HCe.out _ HB1.out; clear ho1 hb1)
    | (go_at_call 28; refine (HOf.out _ HB1.out).mono ?_; rintro e w' ⟨rfl, rfl⟩)
    | (go_at_call 32; refine (HSa.out _ HB1.out).mono ?_; rintro e w' ⟨rfl, rfl⟩)
    | (refine wpList_store_vc rfl _ _ rfl w.heap.size _ _ (.int .u8 (y : Int)) (.slice x1 v dx) rfl rfl HV1.out rfl rfl ?_; intro w8 HV8 HG8))
  have d0 := HV8.out.c0
  have d1 := HV8.out.c1
  refine bodyPost_ret (v := .tuple #[.agg #[.int .u8 (y : Int), .slice x1 v dx], .int .i64 (q : Int), .int .i64 0]) (by simp [results, Try.results24, go_sem, d0, d1]) rfl ?_
  refine ⟨_, rfl, ?_, HB1.out.trans (jbelow HG8.out HB1.out.size (fun g e => by cases e; exact Nat.le_refl _))⟩
  refine (HO1.out.kept HG8.out ?_).mono (by omega)
  cases hv : (Value.slice x1 v dx).ownBlock with
  | none => exact .inl rfl
  | some g => have := (HO1.out.base hv).1; exact .inr (by simp; omega)
set_option maxRecDepth 20000 in
set_option maxHeartbeats 2000000 in
theorem srd_bad (w : World) (t : Nat) (a : Option Addr) (n c E : Nat) (f : Nat → Nat) (HT : Hid (Tb w t)) (ha : Sl w a n f) (hnc : n ≤ c) (hn : n ≤ 140737488351232) (h : RdE f n E) :
    Calls Try.prog 24 #[.pointer (some ⟨t, 0, none⟩), .slice a n c] w fun e w' => e = .returned (.tuple #[.agg #[.int .u8 0, .slice none 0 0], .int .i64 0, .int .i64 (E : Int)]) ∧ Below w.heap.size w w' := by
  have HV0 : Hid (Vc (w.alloc (.cells #[.int .u8 0, .slice none 0 0] 30)) w.heap.size (.int .u8 0) (.slice none 0 0)) := Vc.new w _ _
  have HB0 : Hid (Below w.heap.size w (w.alloc (.cells #[.int .u8 0, .slice none 0 0] 30))) := jlow _ _
  rcases h with ⟨rfl, rfl⟩ | ⟨hn0, h⟩ | ⟨v, s, hnum, hsm, hfit, h⟩
  · clear ha
    go_enter Try.func24, Try.ntmps24
    go_wp2_with (refine wpList_store_vc rfl _ _ rfl w.heap.size _ _ (.int .u8 0) (.slice none 0 0) rfl rfl HV0.out rfl rfl ?_; intro w8 HV8 HG8)
    have d0 := HV8.out.c0
    have d1 := HV8.out.c1
    refine bodyPost_ret (v := .tuple #[.agg #[.int .u8 0, .slice none 0 0], .int .i64 0, .int .i64 7]) (by simp [results, Try.results24, go_sem, d0, d1]) rfl ?_
    exact ⟨rfl, HB0.out.trans (jbelow HG8.out HB0.out.size (fun g e => by cases e; exact Nat.le_refl _))⟩
  · obtain ⟨b, o, rfl⟩ : ∃ b o, a = some ⟨b, o, none⟩ := by
      obtain ⟨b, o, e, _⟩ := ha.2 0 (by omega)
      exact ⟨b, o, e⟩
    have hE := h.ne
    have hE0 : ((E : Int) == 0) = false := by simp; omega
    have q4 : ((n : Int) == 0) = false := by simp; omega
    obtain ⟨o1, ho1, hb1⟩ := behind_l (b := b) (o := o) (n := n) (c := c) (p := 1) (by omega) hnc
    obtain ⟨n1, HN1⟩ : ∃ n1, Hid (n - 1 = n1) := ⟨_, rfl⟩
    rw [HN1.out] at hb1
    have HBh1 := jhid8 hb1
    have HRt : Hid (∀ w' : World, Below w.heap.size w w' → Calls Try.prog 19 #[.slice (some ⟨b, o1, none⟩) n1 n1, .int .i64 4194304] w' fun e w'' => e = .returned (.tuple #[.slice none 0 0, .int .i64 0, .int .i64 (E : Int)]) ∧ w' = w'') := fun w' hb => by
      have hp := sl_part (c := n) (p := 1) (m := n - 1) (ha.later hb) (by omega) (Nat.le_refl _)
      rw [ho1] at hp
      have := qrt_bad w' _ (n - 1) (n - 1) E 4194304 _ hp (Nat.le_refl _) (by omega) (by decide) h
      rw [HN1.out] at this
      exact this
    clear ha h hE hb1 ho1
    go_enter Try.func24, Try.ntmps24
    go_wp2_with (first
      | (go_at_call 27; refine (HBh1.out _).mono ?_; rintro e w' ⟨rfl, rfl⟩)
      | (go_at_call 19; refine (HRt.out _ (jlow _ _)).mono ?_; rintro e w' ⟨rfl, rfl⟩)
      | (refine wpList_store_vc rfl _ _ rfl w.heap.size _ _ (.int .u8 0) (.slice none 0 0) rfl rfl HV0.out rfl rfl ?_; intro w8 HV8 HG8))
    have d0 := HV8.out.c0
    have d1 := HV8.out.c1
    refine bodyPost_ret (v := .tuple #[.agg #[.int .u8 0, .slice none 0 0], .int .i64 0, .int .i64 (E : Int)]) (by simp [results, Try.results24, go_sem, d0, d1]) rfl ?_
    exact ⟨rfl, HB0.out.trans (jbelow HG8.out HB0.out.size (fun g e => by cases e; exact Nat.le_refl _))⟩
  · have hs1 := hnum.s1
    have hs9 := hnum.s9
    have hsn := hnum.fits
    obtain ⟨b, o, rfl⟩ : ∃ b o, a = some ⟨b, o, none⟩ := by
      obtain ⟨b, o, e, _⟩ := ha.2 0 (by omega)
      exact ⟨b, o, e⟩
    obtain ⟨z, HZ⟩ : ∃ z, Hid (s + v = z) := ⟨_, rfl⟩
    obtain ⟨p, HP⟩ : ∃ p, Hid (1 + z = p) := ⟨_, rfl⟩
    rw [HZ.out, HP.out] at hfit h
    obtain ⟨o1, ho1, hb1⟩ := behind_l (b := b) (o := o) (n := n) (c := c) (p := 1) (by omega) hnc
    obtain ⟨o2, ho2, hb2⟩ := behind_l (b := b) (o := o) (n := n) (c := c) (p := p) (by omega) hnc
    obtain ⟨n1, HN1⟩ : ∃ n1, Hid (n - 1 = n1) := ⟨_, rfl⟩
    obtain ⟨r, HR⟩ : ∃ r, Hid (n - p = r) := ⟨_, rfl⟩
    rw [HN1.out] at hb1
    rw [HR.out] at hb2
    have HBh1 := jhid8 hb1
    have HBh2 := jhid8 hb2
    have ez : (z : Int) + 1 = (p : Int) := by have := HP.out; omega
    have hp47 : p ≤ 140737488351232 := by omega
    have HRt : Hid (∀ w' : World, Below w.heap.size w w' → Calls Try.prog 19 #[.slice (some ⟨b, o1, none⟩) n1 n1, .int .i64 4194304] w' fun e w'' => ∃ x, e = .returned (.tuple #[x, .int .i64 (z : Int), .int .i64 0]) ∧ Below w'.heap.size w' w'') := fun w' hb => by
      have hp := sl_part (c := n) (p := 1) (m := n - 1) (ha.later hb) (by omega) (Nat.le_refl _)
      rw [ho1] at hp
      have := qrt_ok w' _ (n - 1) (n - 1) v s 4194304 _ hp (by omega) (by omega) (by decide) hnum hsm (by have := HZ.out; have := HP.out; omega)
      rw [HZ.out, HN1.out] at this
      exact this.mono (fun e w'' ⟨x, he, _, hb⟩ => ⟨x, he, hb⟩)
    have q1 : (p : Int) ≤ (c : Int) := by omega
    have q4 : ((n : Int) == 0) = false := by simp; omega
    have q6 : 0 < n := by omega
    rcases h with ⟨hsh, rfl⟩ | ⟨hle, hne, rfl⟩
    · have q5 : r < 4 := by have := HR.out; omega
      have q2 : decide ((r : Int) < 4) = true := decide_eq_true (by omega)
      have q3 : decide (r < 4) = true := decide_eq_true q5
      clear ha hnum hb1 hb2 ho1 ho2
      go_enter Try.func24, Try.ntmps24
      go_wp2_with (first
        | (go_at_call 27; have _x := HB1; refine (HBh2.out _).mono ?_; rintro e w' ⟨rfl, rfl⟩)
        | (go_at_call 27; refine (HBh1.out _).mono ?_; rintro e w' ⟨rfl, rfl⟩)
        | (go_at_call 19; refine (HRt.out _ (jlow _ _)).mono ?_; rintro e w1 ⟨x0, rfl, hb1⟩; have HB1 : Hid (Below w.heap.size w w1) := jtwo (jlow _ _) hb1; have HV1 : Hid (Vc w1 w.heap.size (.int .u8 0) (.slice none 0 0)) := (Vc.new w (.int .u8 0) (.slice none 0 0)).later hb1; clear hb1)
        | (refine wpList_store_vc rfl _ _ rfl w.heap.size _ _ (.int .u8 0) (.slice none 0 0) rfl rfl HV1.out rfl rfl ?_; intro w8 HV8 HG8))
      have d0 := HV8.out.c0
      have d1 := HV8.out.c1
      refine bodyPost_ret (v := .tuple #[.agg #[.int .u8 0, .slice none 0 0], .int .i64 0, .int .i64 7]) (by simp [results, Try.results24, go_sem, d0, d1]) rfl ?_
      exact ⟨rfl, HB1.out.trans (jbelow HG8.out HB1.out.size (fun g e => by cases e; exact Nat.le_refl _))⟩
    · obtain ⟨S, HS⟩ : ∃ S, Hid (cs f p = S) := ⟨_, rfl⟩
      have hS4 : S < 4294967296 := by rw [← HS.out]; exact cs_lt f p
      obtain ⟨R, HRR⟩ : ∃ R, Hid (hv4 (fun j => f (p + j)) 4 = R) := ⟨_, rfl⟩
      have hSR : S ≠ R := fun e => by
        obtain ⟨j, hj, hx⟩ := hne
        rw [← HRR.out] at e
        have := (hv4_iff (fun i hi => ha.1 _ (by omega)) hS4).1 e j hj
        rw [← HS.out] at this
        exact hx this
      have hSR2 : ((S : Int) == (R : Int)) = false := by simp; omega
      have HOf : Hid (∀ w' : World, Below w.heap.size w w' → Calls Try.prog 28 #[.pointer (some ⟨t, 0, none⟩), .slice (some ⟨b, o, none⟩) p c] w' fun e w'' => e = .returned (.int .u32 (S : Int)) ∧ w' = w'') := fun w' hb => by
        rw [← HS.out]
        exact of_ok w' t _ p c f (HT.out.later hb) ⟨fun i hi => ha.1 i (by omega), fun i hi => (ha.later hb).2 i (by omega)⟩ (by omega)
      have HSa : Hid (∀ w' : World, Below w.heap.size w w' → Calls Try.prog 32 #[.slice (some ⟨b, o2, none⟩) r r] w' fun e w'' => e = .returned (.int .u32 (R : Int)) ∧ w' = w'') := fun w' hb => by
        have hp := sl_part (c := n) (p := p) (m := n - p) (ha.later hb) (by omega) (Nat.le_refl _)
        rw [ho2, HR.out] at hp
        rw [← HRR.out]
        exact sumat_ok w' b o2 r r _ hp (Nat.le_refl _) (by have := HR.out; omega)
      have q5 : 4 ≤ r := by have := HR.out; omega
      have q2 : decide ((r : Int) < 4) = false := decide_eq_false (by omega)
      have q3 : decide (r < 4) = false := decide_eq_false (by omega)
      clear ha hnum hne hb1 hb2 ho1 ho2
      go_enter Try.func24, Try.ntmps24
      go_wp2_with (first
        | (go_at_call 27; have _x := HB1; refine (HBh2.out _).mono ?_; rintro e w' ⟨rfl, rfl⟩)
        | (go_at_call 27; refine (HBh1.out _).mono ?_; rintro e w' ⟨rfl, rfl⟩)
        | (go_at_call 19; refine (HRt.out _ (jlow _ _)).mono ?_; rintro e w1 ⟨x0, rfl, hb1⟩; have HB1 : Hid (Below w.heap.size w w1) := jtwo (jlow _ _) hb1; have HV1 : Hid (Vc w1 w.heap.size (.int .u8 0) (.slice none 0 0)) := (Vc.new w (.int .u8 0) (.slice none 0 0)).later hb1; clear hb1)
        | (go_at_call 28; refine (HOf.out _ HB1.out).mono ?_; rintro e w' ⟨rfl, rfl⟩)
        | (go_at_call 32; refine (HSa.out _ HB1.out).mono ?_; rintro e w' ⟨rfl, rfl⟩)
        | (refine wpList_store_vc rfl _ _ rfl w.heap.size _ _ (.int .u8 0) (.slice none 0 0) rfl rfl HV1.out rfl rfl ?_; intro w8 HV8 HG8))
      have d0 := HV8.out.c0
      have d1 := HV8.out.c1
      refine bodyPost_ret (v := .tuple #[.agg #[.int .u8 0, .slice none 0 0], .int .i64 0, .int .i64 80]) (by simp [results, Try.results24, go_sem, d0, d1]) rfl ?_
      exact ⟨rfl, HB1.out.trans (jbelow HG8.out HB1.out.size (fun g e => by cases e; exact Nat.le_refl _))⟩
end Go.Proofs.Ytlfmekjkgegclab
