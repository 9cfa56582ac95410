/-
  Contracts of the landed wire: withText, Text, behind, ReadText.
-/
import Derived.Test.YtlfmekjkgegclabIb
namespace Go.Proofs.Ytlfmekjkgegclab
open Go.RowKit
theorem cat_assoc (f h g : Nat → Nat) (m L i : Nat) : cat (cat f h m) g (m + L) i = cat f (cat h g L) m i := by
  unfold cat
  by_cases h1 : i < m
  · simp [h1, show i < m + L by omega]
  · by_cases h2 : i < m + L
    · simp [h1, h2, show i - m < L by omega]
    · simp [h1, h2, show ¬ i - m < L by omega, Nat.sub_sub]
set_option maxRecDepth 20000 in
set_option maxHeartbeats 1000000 in
theorem wtext_own (w : World) (B m n c L : Nat) (v : Value) (a : Option Addr) (f g : Nat → Nat) (hJ : Jo w B 5 .u8 v m f) (hB : B ≤ w.heap.size) (hm : m ≤ 1000)
    (HA : Hid (∀ w' : World, Below B w w' → Sl w' a n g)) (h0 : a = none → n = 0 ∧ c = 0) (hn : n ≤ 4194304) (HN : Hid (NF n L)) :
    Calls Try.prog 25 #[v, .slice a n c] w fun e w' => ∃ v', e = .returned v' ∧ Jo w' B 5 .u8 v' (m + (L + n)) (cat f (txf g n L) m) ∧ Below B w w' := by
  have HC : Hid (Calls Try.prog 22 #[v, .int .i64 (n : Int)] w fun e w' => ∃ v', e = .returned v' ∧ Jo w' B 5 .u8 v' (m + L) (cat f (nby n) m) ∧ Below B w w') := wnum_own w B m n L v f hJ hB hm (by omega) HN
  obtain ⟨ps, pd, rfl, _⟩ := hJ.form
  have hL9 := nf_nine HN.out (by omega)
  have H0 := jhid8 h0
  obtain ⟨C, HCC⟩ : ∃ C, Hid (cat f (nby n) m = C) := ⟨_, rfl⟩
  obtain ⟨p, HP⟩ : ∃ p, Hid (m + L = p) := ⟨_, rfl⟩
  rw [HCC.out, HP.out] at HC
  have hp : p ≤ 2000 := by have := HP.out; omega
  clear hJ h0
  go_enter Try.func25, Try.ntmps25
  go_wp2_with (first
    | (go_at_call 22; refine HC.out.mono ?_; rintro e w1 ⟨v1, rfl, ho, hb⟩; have HO1 := jhid8 ho; have HS1 : Hid (Sl w1 a n g) := HA.out _ hb; have HB1 := jhid8 hb; have HZ1 : Hid (B ≤ w1.heap.size) := (by have := hb.size; show _ ≤ _; omega); clear ho hb)
    | (at_builtin; refine wpList_append_sl rfl _ _ rfl B p v1 C rfl HO1.out a n c g rfl HS1.out H0.out (by omega) HZ1.out ?_; intro v2 w2 ho2 _ hb2; have HO2 := jhid8 ho2; have HB2 : Hid (Below B w w2) := HB1.out.trans hb2; clear ho2 hb2))
  go_ret
  refine ⟨_, rfl, ?_, HB2.out⟩
  have h := HO2.out
  rw [← HP.out, ← HCC.out] at h
  rw [← Nat.add_assoc]
  exact h.congr (fun i _ => cat_assoc f (nby n) g m L i)
set_option maxRecDepth 20000 in
set_option maxHeartbeats 400000 in
theorem qtext_ok (w : World) (a : Option Addr) (n c L : Nat) (f : Nat → Nat) (ha : Sl w a n f) (h0 : a = none → n = 0 ∧ c = 0) (hn : n ≤ 4194304) (HN : Hid (NF n L)) :
    Calls Try.prog 18 #[.slice a n c] w fun e w' => ∃ v, e = .returned (.tuple #[v, .int .i64 0]) ∧ Jo w' w.heap.size 5 .u8 v (L + n) (txf f n L) ∧ Below w.heap.size w w' := by
  have HC : Hid (Calls Try.prog 25 #[.slice none 0 0, .slice a n c] w fun e w' => ∃ v, e = .returned v ∧ Jo w' w.heap.size 5 .u8 v (L + n) (txf f n L) ∧ Below w.heap.size w w') := (wtext_own w w.heap.size 0 n c L _ a (fun _ => 0) f (Jo.nil _ _ _ _ _) (Nat.le_refl _) (by omega) (fun w' hb => ha.later hb) h0 hn HN).mono (fun e w' h => by
    obtain ⟨v', he, ho, hb⟩ := h
    rw [Nat.zero_add] at ho
    exact ⟨v', he, ho.congr (fun i _ => by rw [cat_high (by omega), Nat.sub_zero]), hb⟩)
  have hd : decide ((4194304 : Int) < (n : Int)) = false := decide_eq_false (by omega)
  clear ha
  go_enter Try.func18, Try.ntmps18
  go_wp2_with (go_at_call 25; refine HC.out.mono ?_; rintro e w1 ⟨v1, rfl, h1, h2⟩; have H1 := jhid8 h1; have H2 := jhid8 h2; clear h1 h2)
  go_ret2
  exact ⟨_, rfl, H1.out, H2.out⟩
set_option maxHeartbeats 400000 in
theorem qtext_limit (w : World) (a : Option Addr) (n c : Nat) (hn : 4194304 < n) : Calls Try.prog 18 #[.slice a n c] w fun e w' => e = .returned (.tuple #[.slice none 0 0, .int .i64 4]) ∧ w = w' := by
  have hd : decide ((4194304 : Int) < (n : Int)) = true := decide_eq_true (by omega)
  go_enter Try.func18, Try.ntmps18
  go_wp2
  go_ret2
  exact ⟨rfl, rfl⟩
set_option maxRecDepth 20000 in
set_option maxHeartbeats 400000 in
theorem behind_ok (w : World) (b o n c p : Nat) (hp : p ≤ n) (hnc : n ≤ c) :
    Calls Try.prog 27 #[.slice (some ⟨b, o, none⟩) n c, .int .i64 (p : Int)] w fun e w' => e = .returned (.slice (pca b o p n) (n - p) (n - p)) ∧ w = w' := by
  have q1 : (p : Int) ≤ (n : Int) := by omega
  have q2 : (n : Int) ≤ (c : Int) := by omega
  unfold pca
  by_cases h : n = p
  · subst h
    go_enter Try.func27, Try.ntmps27
    go_wp2
    go_ret
    exact ⟨by simp, rfl⟩
  · have hne : ¬ n - p = 0 := by omega
    go_enter Try.func27, Try.ntmps27
    go_wp2
    go_ret
    exact ⟨by simp, rfl⟩
/-- What is behind the first p bytes: its place. -/
theorem behind_at (b o n p : Nat) : ∃ o', pca b o p n = some ⟨b, o', none⟩ := by
  unfold pca
  split
  · exact ⟨_, rfl⟩
  · exact ⟨_, rfl⟩
set_option maxRecDepth 20000 in
set_option maxHeartbeats 1000000 in
theorem qrt_ok (w : World) (a : Option Addr) (n c v s most : Nat) (f : Nat → Nat) (ha : Sl w a n f) (hnc : n ≤ c) (hn : n ≤ 140737488351232) (hm : most < 9223372036854775808) (h : RnOk f n v s) (hv : v ≤ most) (hfit : v + s ≤ n) :
    Calls Try.prog 19 #[.slice a n c, .int .i64 (most : Int)] w fun e w' => ∃ x, e = .returned (.tuple #[x, .int .i64 ((s + v : Nat) : Int), .int .i64 0]) ∧ Jo w' w.heap.size 5 .u8 x v (fun j => f (s + j)) ∧ Below w.heap.size w w' := by
  have hs1 := h.s1
  have hs9 := h.s9
  obtain ⟨b, o, rfl⟩ : ∃ b o, a = some ⟨b, o, none⟩ := by
    obtain ⟨b, o, e, _⟩ := ha.2 0 (by omega)
    exact ⟨b, o, e⟩
  have HR : Hid (Calls Try.prog 8 #[.slice (some ⟨b, o, none⟩) n c] w fun e w'' => e = .returned (.tuple #[.int .i64 (v : Int), .int .i64 (s : Int), .int .i64 0]) ∧ w = w'') := qread_ok w _ n c v s 0 f ha hn (.inl ⟨rfl, h⟩)
  obtain ⟨t, HT⟩ : ∃ t, Hid (s + v = t) := ⟨_, rfl⟩
  have et : (s : Int) + (v : Int) = (t : Int) := by have := HT.out; omega
  obtain ⟨o', HO'⟩ : ∃ o', Hid (pca b o s n = some ⟨b, o', none⟩) := behind_at b o n s
  obtain ⟨r, HRr⟩ : ∃ r, Hid (n - s = r) := ⟨_, rfl⟩
  have HBh : Hid (Calls Try.prog 27 #[.slice (some ⟨b, o, none⟩) n c, .int .i64 (s : Int)] w fun e w'' => e = .returned (.slice (some ⟨b, o', none⟩) r r) ∧ w = w'') := by
    have := behind_ok w b o n c s (by omega) hnc
    rw [HO'.out, HRr.out] at this
    exact this
  obtain ⟨G, HG⟩ : ∃ G : Nat → Nat, Hid ((fun j => f (s + j)) = G) := ⟨_, rfl⟩
  have HSl : Hid (Sl w (some ⟨b, o', none⟩) v G) := by
    have := sl_part (c := n) (p := s) (m := v) ha (by omega) (Nat.le_refl _)
    rw [HO'.out, HG.out] at this
    exact this
  rw [HT.out, HG.out]
  have hr : r ≤ 140737488351232 := by have := HRr.out; omega
  have q1 : (v : Int) ≤ (r : Int) := by have := HRr.out; omega
  have q3 : decide ((r : Int) < (v : Int)) = false := decide_eq_false (by omega)
  have q4 : decide ((most : Int) < 0) = false := decide_eq_false (by omega)
  have q5 : decide ((most : Int) < (v : Int)) = false := decide_eq_false (by omega)
  have hv47 : v ≤ 140737488351232 := by omega
  clear ha h
  go_enter Try.func19, Try.ntmps19
  go_wp2_with (first
    | (go_at_call 8; refine HR.out.mono ?_; rintro e w' ⟨rfl, rfl⟩)
    | (go_at_call 27; refine HBh.out.mono ?_; rintro e w' ⟨rfl, rfl⟩)
    | (at_builtin; refine wpList_append_sl rfl _ _ rfl w.heap.size 0 (.slice none 0 0) (fun _ => 0) rfl (Jo.nil _ _ _ _ _) (some ⟨b, o', none⟩) v r G rfl HSl.out (fun e => by cases e) (by omega) (Nat.le_refl _) ?_; intro v2 w2 ho2 _ hb2; have HO2 := jhid8 ho2; have HB2 := jhid8 hb2; clear ho2 hb2))
  go_ret3
  refine ⟨_, rfl, ?_, HB2.out⟩
  have h := HO2.out
  rw [Nat.zero_add] at h
  exact h.congr (fun i _ => by rw [cat_high (by omega), Nat.sub_zero])
set_option maxRecDepth 20000 in
set_option maxHeartbeats 1000000 in
theorem qrt_bad (w : World) (a : Option Addr) (n c E : Nat) (most : Int) (f : Nat → Nat) (ha : Sl w a n f) (hnc : n ≤ c) (hn : n ≤ 140737488351232) (hm : most < 9223372036854775808) (h : RtE f n most E) :
    Calls Try.prog 19 #[.slice a n c, .int .i64 most] w fun e w' => e = .returned (.tuple #[.slice none 0 0, .int .i64 0, .int .i64 (E : Int)]) ∧ w = w' := by
  have HA : Hid (Sl w a n f) := ha
  clear ha
  rcases h with ⟨hm0, rfl⟩ | ⟨hm0, ⟨v, s, hr, hE⟩ | ⟨v, s, hr, h⟩⟩
  · go_enter Try.func19, Try.ntmps19
    go_wp2
    go_ret3
    exact ⟨rfl, rfl⟩
  · have HR : Hid (Calls Try.prog 8 #[.slice a n c] w fun e w'' => e = .returned (.tuple #[.int .i64 (v : Int), .int .i64 (s : Int), .int .i64 (E : Int)]) ∧ w = w'') := qread_ok w a n c v s E f HA.out hn hr
    have hE0 : ((E : Int) == 0) = false := by simp; omega
    clear hr
    go_enter Try.func19, Try.ntmps19
    go_wp2_with (go_at_call 8; refine HR.out.mono ?_; rintro e w' ⟨rfl, rfl⟩)
    go_ret3
    exact ⟨rfl, rfl⟩
  · have HR : Hid (Calls Try.prog 8 #[.slice a n c] w fun e w'' => e = .returned (.tuple #[.int .i64 (v : Int), .int .i64 (s : Int), .int .i64 0]) ∧ w = w'') := qread_ok w a n c v s 0 f HA.out hn (.inl ⟨rfl, hr⟩)
    have hsn := hr.fits
    have hs1 := hr.s1
    have q4 : decide (most < 0) = false := decide_eq_false (by omega)
    have hv63 : v < 9223372036854775808 := by
      have h1 := v7_lt f s
      have h2 : 128 ^ s ≤ 128 ^ 9 := Nat.pow_le_pow_right (by decide) hr.s9
      have h3 : (128 : Nat) ^ 9 = 9223372036854775808 := by decide
      rw [hr.val]
      omega
    have hs9 := hr.s9
    clear hr
    rcases h with ⟨h1, rfl⟩ | ⟨h1, h2, rfl⟩
    · have q3 : decide (most < (v : Int)) = true := decide_eq_true h1
      go_enter Try.func19, Try.ntmps19
      go_wp2_with (go_at_call 8; refine HR.out.mono ?_; rintro e w' ⟨rfl, rfl⟩)
      go_ret3
      exact ⟨rfl, rfl⟩
    · obtain ⟨b, o, rfl⟩ : ∃ b o, a = some ⟨b, o, none⟩ := by
        obtain ⟨b, o, e, _⟩ := HA.out.2 0 (by omega)
        exact ⟨b, o, e⟩
      obtain ⟨o', HO'⟩ : ∃ o', Hid (pca b o s n = some ⟨b, o', none⟩) := behind_at b o n s
      obtain ⟨r, HRr⟩ : ∃ r, Hid (n - s = r) := ⟨_, rfl⟩
      have HBh : Hid (Calls Try.prog 27 #[.slice (some ⟨b, o, none⟩) n c, .int .i64 (s : Int)] w fun e w'' => e = .returned (.slice (some ⟨b, o', none⟩) r r) ∧ w = w'') := by
        have := behind_ok w b o n c s (by omega) hnc
        rw [HO'.out, HRr.out] at this
        exact this
      have q3 : decide (most < (v : Int)) = false := decide_eq_false (by omega)
      have q6 : r < v := by have := HRr.out; omega
      have q5 : decide ((r : Int) < (v : Int)) = true := decide_eq_true (by omega)
      have q7 : decide (r < v) = true := decide_eq_true q6
      have hr : r ≤ 140737488351232 := by have := HRr.out; omega
      go_enter Try.func19, Try.ntmps19
      go_wp2_with (first
        | (go_at_call 8; refine HR.out.mono ?_; rintro e w' ⟨rfl, rfl⟩)
        | (go_at_call 27; refine HBh.out.mono ?_; rintro e w' ⟨rfl, rfl⟩))
      go_ret3
      exact ⟨rfl, rfl⟩
end Go.Proofs.Ytlfmekjkgegclab
