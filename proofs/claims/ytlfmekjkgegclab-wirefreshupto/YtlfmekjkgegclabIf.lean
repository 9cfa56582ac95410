/-
  Contracts of the landed wire: Read, All.
-/
import Derived.Test.YtlfmekjkgegclabIe
namespace Go.Proofs.Ytlfmekjkgegclab
open Go.RowKit
set_option maxRecDepth 20000 in
set_option maxHeartbeats 1000000 in
theorem qrd_any (w : World) (a : Option Addr) (n c tag m : Nat) (q E : Int) (f : Nat → Nat) (hE : -9223372036854775808 ≤ E ∧ E ≤ 9223372036854775807) (HC : Hid (∀ (w' : World) (t : Nat), Tb w' t → Below w.heap.size w w' → Calls Try.prog 24 #[.pointer (some ⟨t, 0, none⟩), .slice a n c] w' fun e w'' => ∃ x, e = .returned (.tuple #[.agg #[.int .u8 (tag : Int), x], .int .i64 q, .int .i64 E]) ∧ Jo w'' w'.heap.size 5 .u8 x m f ∧ Below w'.heap.size w' w'')) :
    Calls Try.prog 11 #[.slice a n c] w fun e w' => ∃ x, e = .returned (.tuple #[.agg #[.int .u8 (tag : Int), x], .int .i64 q, .int .i64 E]) ∧ Jo w' w.heap.size 5 .u8 x m f ∧ Below w.heap.size w w' := by
  obtain ⟨hE1, hE2⟩ := hE
  obtain ⟨zs, HZ⟩ : ∃ zs, Hid (zs = jrow .u32 256 fun _ => 0) := ⟨_, rfl⟩
  obtain ⟨ls, HL⟩ : ∃ ls, Hid (ls = jrow .u32 256 tb8) := ⟨_, rfl⟩
  have z := zero_sl HZ
  go_enter Try.func11, Try.ntmps11
  go_wp2_with (first
    | (go_at_call 23; refine (made_l _ ls HL).mono ?_; rintro e w1 ⟨rfl, hb1⟩; have HV1 : Hid (Vc w1 w.heap.size (.int .u8 0) (.slice none 0 0)) := (Vc.new w (.int .u8 0) (.slice none 0 0)).later hb1; have HS1 : Hid (w.heap.size + 1 ≤ w1.heap.size) := (by have h := hb1.size; simp only [size_alloc8] at h; exact h); have HB1 : Hid (Below w.heap.size w w1) := jtwo (jlow _ _) hb1; clear hb1)
    | (refine wpList_store_tb rfl _ _ rfl w1 zs ls HZ HL rfl rfl rfl ?_; intro w2 HT2 hb2; have HV2 := jhid8 (HV1.out.later hb2.out); have HS2 : Hid (w.heap.size + 1 ≤ w2.heap.size) := Nat.le_trans HS1.out hb2.out.size; have HB2 : Hid (Below w.heap.size w w2) := jtwo HB1.out hb2.out; clear hb2)
    | (go_at_call 24; refine (HC.out _ _ HT2.out HB2.out).mono ?_; rintro e w3 ⟨x0, rfl, h1, h2⟩; obtain ⟨x, d, ex, _⟩ := h1.form; subst ex; have HO3 : Hid (Jo w3 (w.heap.size + 1) 5 .u8 (.slice x m d) m f) := h1.mono HS2.out; have HV3 := jhid8 (HV2.out.later h2); have HB3 : Hid (Below w.heap.size w w3) := jtwo HB2.out h2; clear h1 h2)
    | (refine wpList_store_vc rfl _ _ rfl w.heap.size _ _ (.int .u8 (tag : Int)) (.slice x m d) rfl rfl HV3.out rfl rfl ?_; intro w8 HV8 HG8))
  have d0 := HV8.out.c0
  have d1 := HV8.out.c1
  refine bodyPost_ret (v := .tuple #[.agg #[.int .u8 (tag : Int), .slice x m d], .int .i64 q, .int .i64 E]) (by simp [results, Try.results11, go_sem, d0, d1]) rfl ?_
  refine ⟨_, rfl, (HO3.out.kept HG8.out ?_).mono (by omega), HB3.out.trans (jbelow HG8.out HB3.out.size (fun g e => by cases e; exact Nat.le_refl _))⟩
  cases hv : (Value.slice x m d).ownBlock with
  | none => exact .inl rfl
  | some g => have := (HO3.out.base hv).1; exact .inr (by simp; omega)
theorem qrd_ok (w : World) (a : Option Addr) (n c v s : Nat) (f : Nat → Nat) (ha : Sl w a n f) (hnc : n ≤ c) (hn : n ≤ 140737488351232) (h : RdOk f n v s) :
    Calls Try.prog 11 #[.slice a n c] w fun e w' => ∃ x, e = .returned (.tuple #[.agg #[.int .u8 (f 0 : Nat), x], .int .i64 ((1 + (s + v) + 4 : Nat) : Int), .int .i64 0]) ∧ Jo w' w.heap.size 5 .u8 x v (fun j => f (1 + (s + j))) ∧ Below w.heap.size w w' :=
  qrd_any w a n c (f 0) v _ 0 _ (by omega) (fun w' t ht hb => srd_ok w' t a n c v s f ht (ha.later hb) hnc hn h)
theorem qrd_bad (w : World) (a : Option Addr) (n c E : Nat) (f : Nat → Nat) (ha : Sl w a n f) (hnc : n ≤ c) (hn : n ≤ 140737488351232) (h : RdE f n E) (hE : E ≤ 80) :
    Calls Try.prog 11 #[.slice a n c] w fun e w' => ∃ x, e = .returned (.tuple #[.agg #[.int .u8 ((0 : Nat) : Int), x], .int .i64 0, .int .i64 (E : Int)]) ∧ Jo w' w.heap.size 5 .u8 x 0 (fun _ => 0) ∧ Below w.heap.size w w' :=
  qrd_any w a n c 0 0 0 (E : Int) _ (by omega) (fun w' t ht hb => (srd_bad w' t a n c E f ht (ha.later hb) hnc hn h).mono (fun e w'' h => ⟨_, h.1, Jo.nil _ _ _ _ _, h.2⟩))
theorem Cls.mono {w : World} {B B' k : Nat} {v : Value} {tag m : Nat → Nat} {F : Nat → Nat → Nat} {S : Nat → Value} (h : Cls w B v k tag m F S) (hB : B' ≤ B) : Cls w B' v k tag m F S := by
  refine ⟨⟨h.own.1, ?_⟩, fun i hi => (h.body i hi).mono hB⟩
  rcases h.own.2 with h' | ⟨g, cap, cur, e, hb, r⟩
  · exact .inl h'
  · exact .inr ⟨g, cap, cur, e, by omega, r⟩
theorem cls_more2 {w w8 w6 : World} {i q y m n' : Nat} {v' vl : Value} {sx : Option Addr} {dx : Nat} {f pos v s : Nat → Nat} {S : Nat → Value} {ys : Obj} (hC : Cls w8 w.heap.size vl i (fun i => f (pos i)) v (bdf f pos s) S) (hO : Jo w8 w.heap.size 5 .u8 (.slice sx m dx) m (bdf f pos s i)) (hB : Below w.heap.size w w8)
    (hq : pos i = q) (hy : f q = y) (hm : v i = m) (hown : w6.ownsRow w.heap.size 30 2 v' n' (crow (fun i => f (pos i)) S i ++ [.int .u8 (y : Int), .slice sx m dx])) (hg : (w8.alloc ys).grownBy w6 vl.ownBlock) (hn' : n' = i + 1 := by rfl) :
    Cls w6 w.heap.size v' (i + 1) (fun i => f (pos i)) v (bdf f pos s) (fun j => if j = i then .slice sx m dx else S j) ∧ Below w.heap.size w w6 := by
  subst hn'
  have hl : Below w8.heap.size w8 (w8.alloc ys) := jlow _ _
  have h := (hC.later hl).push (x := .slice sx m dx) (w2 := w6) (v' := v') (by rw [hm]; exact hO.later hl) (Nat.le_trans hB.size hl.size) (by
    show w6.ownsRow _ _ 2 _ _ (crow _ S i ++ [.int .u8 ((f (pos i) : Nat) : Int), _])
    rw [hq, hy]
    exact hown) hg
  exact ⟨h.1, (jtwo hB hl).trans h.2⟩
set_option maxRecDepth 20000 in
set_option maxHeartbeats 2000000 in
theorem qall_any (w : World) (a : Option Addr) (n c k E : Nat) (f pos v s : Nat → Nat) (ha : Sl w a n f) (hnc : n ≤ c) (hn : n ≤ 20000000000000) (h : AllA f n k pos v s E) (hE : E ≤ 80) :
    Calls Try.prog 14 #[.slice a n c] w fun e w' => AllP w w' e f k pos v s E := by
  obtain ⟨i0, hi0, hz0, hz1, hz2⟩ := info_parts jchunk
  obtain ⟨zs, HZs⟩ : ∃ zs, Hid (zs = jrow .u32 256 fun _ => 0) := ⟨_, rfl⟩
  obtain ⟨ls, HL⟩ : ∃ ls, Hid (ls = jrow .u32 256 tb8) := ⟨_, rfl⟩
  have z := zero_sl HZs
  obtain ⟨hp, hpk, hend⟩ := h
  by_cases hn0 : n = 0
  · subst hn0
    have hk0 : k = 0 := Classical.byContradiction fun hk => by have := hp.lt (i := 0) (by omega); omega
    subst hk0
    obtain ⟨rfl, h0⟩ : E = 0 ∧ pos 0 = 0 := by
      rcases hend with h | ⟨h, _⟩
      · exact h
      · omega
    have HP0 : Hid (pos 0 = 0) := h0
    clear ha hend hp hpk h0
    go_enter Try.func14, Try.ntmps14
    go_wp2_with (first
      | (go_at_call 23; refine (made_l _ ls HL).mono ?_; rintro e w1 ⟨rfl, hb1⟩; have HB1 : Hid (Below w.heap.size w w1) := hb1; clear hb1)
      | (refine wpList_store_tb rfl _ _ rfl w1 zs ls HZs HL rfl rfl rfl ?_; intro w2 HT2 hb2; have HB2 : Hid (Below w.heap.size w w2) := jtwo HB1.out hb2.out; clear hb2))
    refine wp_loop_rounds 1 ?_
    rw [rounds_succ]
    go_wp2
    go_ret3
    refine ⟨.slice none 0 0, ?_, fun _ => ⟨fun _ => undef, Cls.nil _ _ _ _ _ _⟩, fun h => absurd rfl h, HB2.out⟩
    rw [HP0.out]
    rfl
  · obtain ⟨b, o, rfl⟩ : ∃ b o, a = some ⟨b, o, none⟩ := by
      obtain ⟨b, o, e, _⟩ := ha.2 0 (by omega)
      exact ⟨b, o, e⟩
    have HPl : Hid (∀ i, i ≤ k → pos i ≤ n ∧ 6 * i ≤ pos i) := hp.le
    have HPlt : Hid (∀ i, i < k → pos i < n) := fun i hi => hp.lt hi
    have hp0 := hp.1
    have HStep : Hid (∀ i, i < k → ∃ z o' : Nat, pos (i + 1) = pos i + z ∧ 0 < z ∧ (∀ w' : World, Calls Try.prog 27 #[.slice (some ⟨b, o, none⟩) n c, .int .i64 (pos i : Nat)] w' fun e w'' => e = .returned (.slice (some ⟨b, o', none⟩) (n - pos i) (n - pos i)) ∧ w' = w'') ∧ ∀ (w' : World) (t : Nat), Tb w' t → Below w.heap.size w w' → Calls Try.prog 24 #[.pointer (some ⟨t, 0, none⟩), .slice (some ⟨b, o', none⟩) (n - pos i) (n - pos i)] w' fun e w'' => ∃ sx dx, e = .returned (.tuple #[.agg #[.int .u8 (f (pos i) : Nat), .slice sx (v i) dx], .int .i64 (z : Int), .int .i64 0]) ∧ Jo w'' w'.heap.size 5 .u8 (.slice sx (v i) dx) (v i) (bdf f pos s i) ∧ Below w'.heap.size w' w'') := fun i hi => by
      obtain ⟨h1, h2⟩ := hp.2 i hi
      have hlt := hp.lt hi
      obtain ⟨o', ho', hbh⟩ := behind_l (b := b) (o := o) (n := n) (c := c) (p := pos i) (by omega) hnc
      refine ⟨_, o', h2, by omega, hbh, fun w' t ht hb => ?_⟩
      have hsl := sl_part (c := n) (p := pos i) (m := n - pos i) (ha.later hb) (by omega) (Nat.le_refl _)
      rw [ho'] at hsl
      refine (srd_ok w' t _ (n - pos i) (n - pos i) (v i) (s i) _ ht hsl (Nat.le_refl _) (by omega) h1).mono (fun e w'' h => ?_)
      obtain ⟨x, he, ho, hbb⟩ := h
      obtain ⟨sx, dx, rfl, _⟩ := ho.form
      exact ⟨sx, dx, he, ho, hbb⟩
    have HEnd : Hid ((E = 0 ∧ pos k = n) ∨ (pos k < n ∧ ((E : Int) == 0) = false ∧ ∃ o' : Nat, (∀ w' : World, Calls Try.prog 27 #[.slice (some ⟨b, o, none⟩) n c, .int .i64 (pos k : Nat)] w' fun e w'' => e = .returned (.slice (some ⟨b, o', none⟩) (n - pos k) (n - pos k)) ∧ w' = w'') ∧ ∀ (w' : World) (t : Nat), Tb w' t → Below w.heap.size w w' → Calls Try.prog 24 #[.pointer (some ⟨t, 0, none⟩), .slice (some ⟨b, o', none⟩) (n - pos k) (n - pos k)] w' fun e w'' => e = .returned (.tuple #[.agg #[.int .u8 0, .slice none 0 0], .int .i64 0, .int .i64 (E : Int)]) ∧ Below w'.heap.size w' w'')) := by
      rcases hend with h | ⟨h1, h2⟩
      · exact .inl h
      · obtain ⟨o', ho', hbh⟩ := behind_l (b := b) (o := o) (n := n) (c := c) (p := pos k) (by omega) hnc
        refine .inr ⟨h1, by have := h2.ne; simp; omega, o', hbh, fun w' t ht hb => ?_⟩
        have hsl := sl_part (c := n) (p := pos k) (m := n - pos k) (ha.later hb) (by omega) (Nat.le_refl _)
        rw [ho'] at hsl
        exact srd_bad w' t _ (n - pos k) (n - pos k) E _ ht hsl (Nat.le_refl _) (by omega) h2
    clear ha hend hp
    go_enter Try.func14, Try.ntmps14
    go_wp2_with (first
      | (go_at_call 23; refine (made_l _ ls HL).mono ?_; rintro e w1 ⟨rfl, hb1⟩; have HB1 : Hid (Below w.heap.size w w1) := hb1; clear hb1)
      | (refine wpList_store_tb rfl _ _ rfl w1 zs ls HZs HL rfl rfl rfl ?_; intro w2 HT2 hb2; have HB2 : Hid (Below w.heap.size w w2) := jtwo HB1.out hb2.out; clear hb2))
    have HNil : Hid (Cls w2 w2.heap.size (.slice none 0 0) 0 (fun i => f (pos i)) v (bdf f pos s) (fun _ => undef)) := Cls.nil _ _ _ _ _ _
    clear z
    simp only [Act.put]
    go_loopw [2, 3, 6, 7, 8] (fun vl va _ _ _ wr => ∃ (i q : Nat) (S : Nat → Value), i ≤ k ∧ Hid (pos i = q) ∧ va = .int .i64 (q : Int) ∧ Cls wr w2.heap.size vl i (fun i => f (pos i)) v (bdf f pos s) S ∧ Below w2.heap.size w2 wr) (fun _ va _ _ _ _ => n - (intOf va).toNat)
    case atStart => exact ⟨0, 0, _, by omega, hp0, rfl, HNil.out, Below.refl _ _⟩
    case round =>
      clear HNil
      obtain ⟨i, q, S, hi, HQ, rfl, hcl, hb⟩ := hrel
      obtain ⟨ps, pd, rfl, _⟩ := hcl.form
      have HC := jhid8 hcl
      have HB := jhid8 hb
      have HTr := jhid8 (HT2.out.later hb)
      have HBr : Hid (Below w.heap.size w wr) := jtwo HB2.out hb
      have hqn := (HPl.out i hi).1
      have h6 := (HPl.out i hi).2
      rw [HQ.out] at hqn h6
      clear hcl
      by_cases hik : i < k
      · obtain ⟨z, o', hpz, hz0', hbh, hrd⟩ := HStep.out i hik
        have hlt := HPlt.out i hik
        have hle2 := (HPl.out (i + 1) (by omega)).1
        obtain ⟨q', HQ'⟩ : ∃ q', Hid (pos (i + 1) = q') := ⟨_, rfl⟩
        rw [HQ.out, HQ'.out] at hpz
        rw [HQ'.out] at hle2
        rw [HQ.out] at hlt
        obtain ⟨r, HRr⟩ : ∃ r, Hid (n - q = r) := ⟨_, rfl⟩
        rw [HQ.out, HRr.out] at hbh hrd
        have HBh := jhid8 hbh
        have hrd2 := hrd _ _ HTr.out HBr.out
        obtain ⟨y, HY⟩ : ∃ y, Hid (f q = y) := ⟨_, rfl⟩
        obtain ⟨m, HM⟩ : ∃ m, Hid (v i = m) := ⟨_, rfl⟩
        rw [HY.out, HM.out] at hrd2
        have HRd := jhid8 hrd2
        have eq' : (q : Int) + (z : Int) = (q' : Int) := by omega
        have q1 : (q : Int) < (n : Int) := by omega
        have hwsz := hb.size
        have hk63 : i + 1 ≤ maxLen := by unfold maxLen; omega
        have hqq : q < q' := by omega
        clear hrd hrd2 hb HEnd hpz hbh
        go_wp2_with (first
          | (go_at_call 27; refine (HBh.out _).mono ?_; rintro e w' ⟨rfl, rfl⟩)
          | (go_at_call 24; refine HRd.out.mono ?_; rintro e w3 ⟨sx, dx, rfl, ho1, hb1⟩; have HB3 : Hid (Below w2.heap.size w2 w3) := jtwo HB.out hb1; have HO3 : Hid (Jo w3 w2.heap.size 5 .u8 (.slice sx m dx) m (bdf f pos s i)) := ho1.mono HB.out.size; have HC3 := jhid8 (HC.out.later hb1); have HV3 : Hid (Vc (w3.alloc (.cells #[.int .u8 0, .slice none 0 0] 30)) w3.heap.size (.int .u8 0) (.slice none 0 0)) := Vc.new w3 _ _; clear ho1 hb1)
          | (refine wpList_store_vc rfl _ _ rfl w3.heap.size _ _ (.int .u8 (y : Int)) (.slice sx m dx) rfl rfl HV3.out rfl rfl ?_; intro w8 HV8 hg8; have hb8 : Below w3.heap.size w3 w8 := (jlow _ _).trans (jbelow hg8.out (jlow _ _).size (fun g e => by cases e; exact Nat.le_refl _)); have HC8 := jhid8 (HC3.out.later hb8); have HO8 := jhid8 (HO3.out.later hb8); have HB8 : Hid (Below w2.heap.size w2 w8) := jtwo HB3.out hb8; have a0 := HV8.out.c0; have a1 := HV8.out.c1; clear hb8 hg8)
          | (at_builtin; refine wpList_append_own _ rfl _ _ 36 rfl w2.heap.size 30 i0 (.agg #[.int .u8 0, .slice none 0 0]) 2 32 Try.underlying36 hi0 hz0 hz1 hz2 rfl (by decide) _ i _ rfl (HC8.out.later (jlow _ _)).own ⟨w8.heap.size, 0, none⟩ 1 1 [.int .u8 (y : Int), .slice sx m dx] (by first | rfl | (simp; rfl)) rfl (two_new _ _ _ _) (by intro u hu; simp at hu; rcases hu with rfl | rfl <;> rfl) hk63 (by omega) (by have := HB8.out.size; simp; omega) ?_; intro v' w6 hown' hgrow' _; have HP6 := jhid8 (cls_more2 HC8.out HO8.out HB8.out HQ.out HY.out HM.out hown' hgrow'); clear hown' hgrow'))
        exact ⟨⟨i + 1, q', _, by omega, HQ', by go_num, HP6.out.1, HP6.out.2⟩, by simp [intOf]; omega⟩
      · obtain rfl : i = k := by omega
        rcases HEnd.out with ⟨rfl, hpe⟩ | ⟨hlt, hE0, o', hbh, hrd⟩
        · rw [HQ.out] at hpe
          subst hpe
          have HE : Hid (pos i = q) := HQ
          go_wp2
          go_ret3
          refine ⟨_, ?_, fun _ => ⟨S, HC.out.mono HB2.out.size⟩, fun h => absurd rfl h, HBr.out⟩
          rw [HE.out]
          rfl
        · rw [HQ.out] at hlt
          obtain ⟨r, HRr⟩ : ∃ r, Hid (n - q = r) := ⟨_, rfl⟩
          rw [HQ.out, HRr.out] at hbh hrd
          have HBh := jhid8 hbh
          have HRd := jhid8 (hrd _ _ HTr.out HBr.out)
          have q1 : (q : Int) < (n : Int) := by omega
          clear hrd hbh
          go_wp2_with (first
            | (go_at_call 27; refine (HBh.out _).mono ?_; rintro e w' ⟨rfl, rfl⟩)
            | (go_at_call 24; refine HRd.out.mono ?_; rintro e w3 ⟨rfl, hb1⟩; have HB3 : Hid (Below w.heap.size w w3) := jtwo HBr.out hb1; have HV3 : Hid (Vc (w3.alloc (.cells #[.int .u8 0, .slice none 0 0] 30)) w3.heap.size (.int .u8 0) (.slice none 0 0)) := Vc.new w3 _ _; clear hb1)
            | (refine wpList_store_vc rfl _ _ rfl w3.heap.size _ _ (.int .u8 0) (.slice none 0 0) rfl rfl HV3.out rfl rfl ?_; intro w8 HV8 hg8; have HB8 : Hid (Below w.heap.size w w8) := jtwo HB3.out ((jlow _ _).trans (jbelow hg8.out (jlow _ _).size (fun g e => by cases e; exact Nat.le_refl _)))))
          go_ret3
          refine ⟨.slice none 0 0, ?_, fun h => ?_, fun _ => rfl, HB8.out⟩
          · rw [HQ.out]
            rfl
          · subst h
            cases hE0
end Go.Proofs.Ytlfmekjkgegclab
