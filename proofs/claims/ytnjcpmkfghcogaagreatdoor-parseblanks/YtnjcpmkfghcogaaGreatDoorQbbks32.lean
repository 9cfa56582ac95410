/-
  Stage 11: the reader's shape.
-/
import Derived.Test.YtnjcpmkfghcogaaGreatDoorQbbks00
import Derived.Test.YtnjcpmkfghcogaaGreatDoorQbbks31
import Derived.Test.YtnjcpmkfghcogaaGreatDoorQbbks12
import Derived.Test.YtnjcpmkfghcogaaGreatDoorQbbks24
import Derived.Test.YtnjcpmkfghcogaaGreatDoorQbbks23
import Derived.Deep.Cut
import Derived.Deep.CutRange
set_option maxRecDepth 100000
set_option maxHeartbeats 16000000
namespace Go.Proofs.YtnjcpmkfghcogaaGreatDoor
open Go.RowKit
theorem qd4 {x y z u v t s : Value} (h0 : x.oneCell' = true) (h1 : y.oneCell' = true) (h2 : z.oneCell' = true) (h3 : u.oneCell' = true) (h4 : v.oneCell' = true) (h5 : t.oneCell' = true) (h6 : s.oneCell' = true) : (#[x, y, z, u, v, t, s] : Array Value).all (·.oneCell') = true := by simp [h0, h1, h2, h3, h4, h5, h6]
theorem szS11 : (Tryz.prog.info? 9).map (·.size) = some 1 := by kernel_rfl
theorem qi2 : (Tryz.prog.info? 35).map (·.size) = some 1 := by kernel_rfl
theorem szM11 : (Tryz.prog.info? 42).map (·.size) = some 1 := by kernel_rfl
theorem szP11 : (Tryz.prog.info? 41).map (·.size) = some 1 := by kernel_rfl
structure ShH (K : Rk) (w wx : World) (j2 b4 b3 kk tk : Nat) (tx : ByteArray) (tn tl tc : Int) : Prop where
 s4 : Vn wx b4 44 #[.int .u8 (kk : Int), .string ⟨#[]⟩, .slice none 0 0, .slice none 0 0, .slice none 0 0, .int .i64 tl, .int .i64 tc]
 s0 : Vn wx w.heap.size 44 #[.int .u8 0, .string ⟨#[]⟩, .slice none 0 0, .slice none 0 0, .slice none 0 0, .int .i64 0, .int .i64 0]
 t3 : Vn wx b3 104 #[.int .u8 (tk : Int), .string tx, .int .i64 tn, .int .i64 tl, .int .i64 tc]
 rr : Rr K wx j2
 gk : Gk K w wx
 lo : w.heap.size < b3 ∧ b3 < b4
theorem qbo {α : Type} {P : World → Value → α → Prop} {K : Rk} {w w' : World} {y : α} {s : List TV} {v : Value} (hg : Gk K w w') (hf : Fr w.heap.size w' (fun u => P u v y)) (hr : Rr K w' (K.n - s.length)) : RY P K w (.ok (y, s)) (.returned v) w' := ⟨hg, v, rfl, hf, hr⟩
theorem qjl (t : TV) : kshape t ≤ 8 := by
 unfold kshape
 repeat' split
 all_goals omega
theorem qi3 (K : Rk) (hK : RkOk K) : kshape (K.g K.n) = 0 := by
 unfold kshape
 rw [hK.et, hK.ek]
 rfl
theorem Gk.up {K : Rk} {w u v : World} {g : Nat} (h : Gk K w u) (hg : u.grownBy v (some g)) (hx : w.heap.size ≤ g) : Gk K w v := h.app hg (fun x e => by cases e; exact hx)
theorem rshape_s (K : Rk) (hK : RkOk K) (n : Nat) (w : World) (j : Nat) (hR : Rr K w j) (hn : ∀ L y s, psh n L = .ok (y, s) → s.length < L.length) (hsn : ∀ L, Suf (psh n L) L)
  (IH : ∀ jr w', j < jr → Rr K w' jr → Calls Tryz.prog 44 #[.pointer (some ⟨K.r, 0, none⟩)] w' (RY SV K w' (psh n (lst K jr)))) : Calls Tryz.prog 44 #[.pointer (some ⟨K.r, 0, none⟩)] w (RY SV K w (psh (n + 1) (lst K j))) := by
 obtain ⟨⟨tk, tx, tn, tl, tc⟩, ht⟩ : ∃ t, K.g j = t := ⟨_, rfl⟩
 obtain ⟨kk, hkk⟩ : ∃ kk, kshape ⟨tk, tx, tn, tl, tc⟩ = kk := ⟨_, rfl⟩
 have hkk8 : kk ≤ 8 := by rw [← hkk]; exact qjl _
 have hok := hK.ok j hR.le
 rw [ht] at hok
 have htx : tx.size ≤ 140737488351232 := hok.tx47
 clear hok
 have hj0 : kk ≠ 0 → j < K.n := fun h0 => by
  rcases Nat.lt_or_ge j K.n with g | g
  ·exact g
  ·have hle := hR.le
   obtain rfl : j = K.n := by omega
   have h := qi3 K hK
   rw [ht, hkk] at h
   exact absurd h h0
 have HIH := qa0 IH
 have HCx : Hid (∀ c w', c ≤ 10 → j + 1 ≤ K.n → Rr K w' (j + 1) → Calls Tryz.prog 92 #[.pointer (some ⟨K.r, 0, none⟩), .int .i64 ((c + 1 : Nat) : Int), .func (.func 39) #[] #[]] w' (RY XLv K w' (pbr pX c (lst K (j + 1))))) := fun c w' hc _ hr => rbr_x K hK pX (fun L y s h => qev h) qd3 w' (j + 1) c hc hr (fun jr w'' _ hr' => qbp K hK w'' jr hr')
 have HCs : Hid (∀ w', Rr K w' (j + 1) → Calls Tryz.prog 93 #[.pointer (some ⟨K.r, 0, none⟩), .int .i64 ((1 + 1 : Nat) : Int), .func (.func 44) #[] #[]] w' (RY SLv K w' (pbr (psh n) 1 (lst K (j + 1))))) := fun w' hr => rbr_s K hK (psh n) hn hsn w' (j + 1) 1 (by omega) hr (fun jr w'' hjr hr' => IH jr w'' (by omega) hr')
 have HCr : Hid (∀ w', Rr K w' (j + 1) → Calls Tryz.prog 94 #[.pointer (some ⟨K.r, 0, none⟩)] w' (RY XRv K w' (prwb (lst K (j + 1))))) := fun w' hr => rrows_y K hK w' (j + 1) hr
 obtain ⟨Q, HQ⟩ : ∃ Q, Hid (psh (n + 1) (lst K j) = Q) := ⟨_, rfl⟩
 rw [HQ.out]
 have HQc : Hid (j < K.n → Q = if kk = 1 then .ok (ySn ⟨tk, tx, tn, tl, tc⟩, lst K (j + 1))
   else if kk = 2 ∨ kk = 3 then thn (pbr pX 1 (lst K (j + 1))) (fun l s => .ok (ySa kk ⟨tk, tx, tn, tl, tc⟩ l, s))
   else if kk = 4 ∨ kk = 5 then thn (pbr pX 2 (lst K (j + 1))) (fun l s => .ok (ySa kk ⟨tk, tx, tn, tl, tc⟩ l, s))
   else if kk = 6 ∨ kk = 7 then thn (pbr (psh n) 1 (lst K (j + 1))) (fun l s => .ok (ySp kk ⟨tk, tx, tn, tl, tc⟩ l, s))
   else if kk = 8 then thn (prwb (lst K (j + 1))) (fun l s => .ok (ySr ⟨tk, tx, tn, tl, tc⟩ l, s))
   else .error (lst K j)) := fun hj => by
  rw [← HQ.out, qaa K hj, qcy, ht, hkk]
  unfold prwb
  rw [qap]
  simp only [qap]
 have HQ0 : Hid (kk = 0 → Q = .error (lst K j)) := fun h0 => by
  rcases Nat.lt_or_ge j K.n with g | g
  ·rw [HQc.out g, h0]
   rfl
  ·rw [← HQ.out, qbl K g]
   rfl
 clear HQ hn hsn IH
 have hlow := hR.low
 have HR := qa0 hR
 have HKo := qa0 hK
 have hfew := hR.fn.few
 have hjn := hR.le
 have HTa : Hid (∀ w', Rr K w' j → Calls Tryz.prog 84 #[.pointer (some ⟨K.r, 0, none⟩)] w' fun e w'' => e = .returned (.agg #[.int .u8 (tk : Int), .string tx, .int .i64 tn, .int .i64 tl, .int .i64 tc]) ∧ Rr K w'' (min (j + 1) K.n) ∧ Gk K w' w'') := fun w' hr => by
  have h := rtake K w' j hr
  unfold tvq at h
  rw [ht] at h
  exact h
 have HKd : Hid (∀ w', Calls Tryz.prog 91 #[.agg #[.int .u8 (tk : Int), .string tx, .int .i64 tn, .int .i64 tl, .int .i64 tc]] w' fun e w'' => e = .returned (.int .u8 (kk : Int)) ∧ Below w'.heap.size w' w'') := fun w' => by
  have h := rshk w' ⟨tk, tx, tn, tl, tc⟩
  unfold tvq at h
  rw [hkk] at h
  exact h
 obtain ⟨j2, Hj2⟩ : ∃ j2, Hid (min (j + 1) K.n = j2) := ⟨_, rfl⟩
 rw [Hj2.out] at HTa
 have hr := hlow.1
 have hbt := hlow.2
 clear hlow hR hK
 have HB0 := qa0 (jlow w (.cells #[.int .u8 0, .string ⟨#[]⟩, .slice none 0 0, .slice none 0 0, .slice none 0 0, .int .i64 0, .int .i64 0] 44))
 have HS0 := qa0 (Vn.new w 44 #[.int .u8 0, .string ⟨#[]⟩, .slice none 0 0, .slice none 0 0, .slice none 0 0, .int .i64 0, .int .i64 0])
 have HR0 := qa0 (HR.out.later HB0.out)
 have hz0 : (w.alloc (.cells #[.int .u8 0, .string ⟨#[]⟩, .slice none 0 0, .slice none 0 0, .slice none 0 0, .int .i64 0, .int .i64 0] 44)).heap.size = w.heap.size + 1 := Array.size_push _
 go_enter Tryz.func44, Tryz.ntmps44
 go_wp2_with (first
  | (go_at_call 84; refine (HTa.out _ HR0.out).mono ?_; rintro e w1 ⟨rfl, hr1, hg1⟩; have HR1 := qa0 hr1; have HG1 := qa0 hg1; have HS1 := qa0 (HS0.out.keptBy (hg1.block _ HS0.out.lt (by omega) (by omega))); clear hr1 hg1)
  | (refine qa1 rfl 104 _ _ rfl w1.heap.size _ #[.int .u8 (tk : Int), .string tx, .int .i64 tn, .int .i64 tl, .int .i64 tc] rfl rfl (Vn.new w1 _ _) sizeTok rfl (all5 rfl rfl rfl rfl rfl) ?_; intro w2 HT2 hg2; have hb2 : Below w1.heap.size w1 w2 := (jlow _ _).trans (jbelow hg2.out (jlow _ _).size (fun g e => by cases e; exact Nat.le_refl _)); have HB2 := qa0 hb2; clear hg2 hb2))
 have hz1 := HG1.out.size
 rw [hz0] at hz1
 have hz2 := HT2.out.lt
 simp only [Act.put]
 go_cut [4] from 5 to 14 (fun s4 wx => ∃ b4 : Nat, s4 = .pointer (some ⟨b4, 0, none⟩) ∧ ShH K w wx j2 b4 w1.heap.size kk tk tx tn tl tc)
 case first =>
  refine qc9 (k := 8) (n := 8) (fun w' => w'.cell? ⟨w1.heap.size, 0, none⟩ = some (.int .u8 (tk : Int)) ∧ w'.cell? ⟨w1.heap.size, 1, none⟩ = some (.string tx) ∧ w'.cell? ⟨w1.heap.size, 2, none⟩ = some (.int .i64 tn) ∧ w'.cell? ⟨w1.heap.size, 3, none⟩ = some (.int .i64 tl) ∧ w'.cell? ⟨w1.heap.size, 4, none⟩ = some (.int .i64 tc)) (by kernel_rfl) (by kernel_rfl) (by decide) (by rfl) ?_
  change wpAnyH _ _ _ _ _ _ _ _ (World.drew _)
  obtain ⟨wd, HWd⟩ : ∃ wd, Hid (w2.drew = wd) := ⟨_, rfl⟩
  have HBd : Hid (Below w1.heap.size w1 wd) := by show Below _ _ _; rw [← HWd.out]; exact HB2.out.drew
  have HTd : Hid (Vn wd w1.heap.size 104 #[.int .u8 (tk : Int), .string tx, .int .i64 tn, .int .i64 tl, .int .i64 tc]) := by show Vn _ _ _ _; rw [← HWd.out]; exact HT2.out
  have HSd := qa0 (HS1.out.later HBd.out)
  have HRd := qa0 (HR1.out.later HBd.out)
  have HGd := qa0 (((Gk.of HB0.out).trans HG1.out).trans (Gk.of HBd.out))
  have hzd := HTd.out.lt
  rw [HWd.out]
  clear HWd HT2 HB2 HS1 HR1 HG1 hz2
  refine wtkq 0 ?vs0_1 rfl (by kernel_rfl) (fun _ _ _ h => h) (by rfl) ?ys0_1 ⟨HTd.out.cell 0 _ rfl, HTd.out.cell 1 _ rfl, HTd.out.cell 2 _ rfl, HTd.out.cell 3 _ rfl, HTd.out.cell 4 _ rfl⟩ ?zs0_1
  case ys0_1 => (intro w hSw; (try dsimp only at hSw); (try obtain ⟨s0, s1, s2, s3, s4⟩ := hSw); go_simp; try with_reducible rfl)
  try simp only [nz1, nz3, Act.put, nz4, nz5, nz6]
  refine wtkq 2 ?vs2_2 rfl (by kernel_rfl) (fun _ _ _ h => h) (by rfl) ?ys2_2 ⟨HTd.out.cell 0 _ rfl, HTd.out.cell 1 _ rfl, HTd.out.cell 2 _ rfl, HTd.out.cell 3 _ rfl, HTd.out.cell 4 _ rfl⟩ ?zs2_2
  case ys2_2 => (intro w hSw; (try dsimp only at hSw); (try obtain ⟨s0, s1, s2, s3, s4⟩ := hSw); go_simp; try with_reducible rfl)
  try simp only [nz1, nz2, nz3, Act.put, nz4, nz5, nz6]
  refine wtkq 3 ?vs3_3 rfl (by kernel_rfl) (fun _ _ _ h => h) (by rfl) ?ys3_3 ⟨HTd.out.cell 0 _ rfl, HTd.out.cell 1 _ rfl, HTd.out.cell 2 _ rfl, HTd.out.cell 3 _ rfl, HTd.out.cell 4 _ rfl⟩ ?zs3_3
  case ys3_3 => (intro w hSw; (try dsimp only at hSw); (try obtain ⟨s0, s1, s2, s3, s4⟩ := hSw); go_simp; try with_reducible rfl)
  try simp only [nz1, nz2, nz3, Act.put, nz4, nz5, nz6]
  refine wtkq 4 ?vs4_4 rfl (by kernel_rfl) (fun _ _ _ h => h) (by rfl) ?ys4_4 ⟨HTd.out.cell 0 _ rfl, HTd.out.cell 1 _ rfl, HTd.out.cell 2 _ rfl, HTd.out.cell 3 _ rfl, HTd.out.cell 4 _ rfl⟩ ?zs4_4
  case ys4_4 => (intro w hSw; (try dsimp only at hSw); (try obtain ⟨s0, s1, s2, s3, s4⟩ := hSw); go_simp; try with_reducible rfl)
  try simp only [nz1, nz2, nz3, Act.put, nz4, nz5, nz6]
  refine wtkq 5 ?vs5_5 rfl (by kernel_rfl) (fun _ _ _ h => h) (by rfl) ?ys5_5 ⟨HTd.out.cell 0 _ rfl, HTd.out.cell 1 _ rfl, HTd.out.cell 2 _ rfl, HTd.out.cell 3 _ rfl, HTd.out.cell 4 _ rfl⟩ ?zs5_5
  case ys5_5 => (intro w hSw; (try dsimp only at hSw); (try obtain ⟨s0, s1, s2, s3, s4⟩ := hSw); go_simp; try with_reducible rfl)
  try simp only [nz1, nz2, nz3, Act.put, nz4, nz5, nz6]
  refine wpAnyH_ready (rs := [1, 7]) (by kernel_rfl) (by simp) ?_
  refine AllReadyH.cons rfl (fun KK hKK => ?_) (AllReadyH.cons rfl (fun KK hKK => ?_) AllReadyH.nil)
  ·go_simp
   refine (HKd.out _).mono ?_
   rintro e w4 ⟨rfl, hb4⟩
   have HT4 := qa0 (HTd.out.later hb4)
   have HS4 := qa0 (HSd.out.later hb4)
   have HR4 := qa0 (HRd.out.later hb4)
   have HG4 := qa0 (HGd.out.trans (Gk.of hb4))
   have hz4 := hb4.size
   clear hb4
   refine hKK.out _ _ ⟨HT4.out.cell 0 _ rfl, HT4.out.cell 1 _ rfl, HT4.out.cell 2 _ rfl, HT4.out.cell 3 _ rfl, HT4.out.cell 4 _ rfl⟩ (fun _ => ?_)
   clear hKK KK
   try simp only [nz1, nz2, nz3, Act.put, nz4, nz5, nz6]
   refine wtkq 6 ?vs6_6 rfl (by kernel_rfl) (fun _ _ _ h => h) (by rfl) ?ys6_6 ⟨HT4.out.cell 0 _ rfl, HT4.out.cell 1 _ rfl, HT4.out.cell 2 _ rfl, HT4.out.cell 3 _ rfl, HT4.out.cell 4 _ rfl⟩ ?zs6_6
   case ys6_6 => (intro w hSw; (try dsimp only at hSw); (try obtain ⟨s0, s1, s2, s3, s4⟩ := hSw); go_simp; try with_reducible rfl)
   try simp only [nz1, nz2, nz3, Act.put, nz4, nz5, nz6]
   refine wpAnyH_ready (rs := [7]) (by kernel_rfl) (by simp) ?_
   refine AllReadyH.cons rfl (fun KK hKK => ?_) AllReadyH.nil
   go_simp
   have hb5 := jlow w4 (.cells #[.int .u8 0, .string ⟨#[]⟩, .slice none 0 0, .slice none 0 0, .slice none 0 0, .int .i64 0, .int .i64 0] 44)
   have HN5 := qa0 (Vn.new w4 44 #[.int .u8 0, .string ⟨#[]⟩, .slice none 0 0, .slice none 0 0, .slice none 0 0, .int .i64 0, .int .i64 0])
   have HT5 := qa0 (HT4.out.later hb5)
   have HS5 := qa0 (HS4.out.later hb5)
   have HR5 := qa0 (HR4.out.later hb5)
   have HG5 := qa0 (HG4.out.trans (Gk.of hb5))
   refine hKK.out _ _ ⟨HT5.out.cell 0 _ rfl, HT5.out.cell 1 _ rfl, HT5.out.cell 2 _ rfl, HT5.out.cell 3 _ rfl, HT5.out.cell 4 _ rfl⟩ (fun _ => ?_)
   clear hKK KK hb5
   try simp only [nz1, nz2, nz3, Act.put, nz4, nz5, nz6]
   refine wpAnyH_done (by kernel_rfl) ?_ _
   refine qdi rfl (fun KK hKK => ?_)
   refine qa9 44 _ _ rfl w4.heap.size _ #[.int .u8 (kk : Int), .string ⟨#[]⟩, .slice none 0 0, .slice none 0 0, .slice none 0 0, .int .i64 tl, .int .i64 tc] rfl rfl HN5.out sizeS rfl (qd4 rfl rfl rfl rfl rfl rfl rfl) ?_
   intro w8 HV8 hg8
   refine hKK.out _ _ ?_
   clear hKK KK
   try simp only [nz1, nz2, nz3, Act.put]
   go_wp2_with fail
   go_meet
   case rel => exact ⟨_, rfl, HV8.out, HS5.out.keptG hg8.out (by simp; omega), HT5.out.keptG hg8.out (by simp; omega), HR.out.step HR5.out (fun b hb => hg8.out.block b (by have := HG5.out.size; omega) (by simp; omega)), HG5.out.up hg8.out (by omega), by omega⟩
  ·go_simp
   have hb5 := jlow wd (.cells #[.int .u8 0, .string ⟨#[]⟩, .slice none 0 0, .slice none 0 0, .slice none 0 0, .int .i64 0, .int .i64 0] 44)
   have HN5 := qa0 (Vn.new wd 44 #[.int .u8 0, .string ⟨#[]⟩, .slice none 0 0, .slice none 0 0, .slice none 0 0, .int .i64 0, .int .i64 0])
   have HT5 := qa0 (HTd.out.later hb5)
   have HS5 := qa0 (HSd.out.later hb5)
   have HR5 := qa0 (HRd.out.later hb5)
   have HG5 := qa0 (HGd.out.trans (Gk.of hb5))
   refine hKK.out _ _ ⟨HT5.out.cell 0 _ rfl, HT5.out.cell 1 _ rfl, HT5.out.cell 2 _ rfl, HT5.out.cell 3 _ rfl, HT5.out.cell 4 _ rfl⟩ (fun _ => ?_)
   clear hKK KK hb5
   try simp only [nz1, nz2, nz3, Act.put, nz4, nz5, nz6]
   refine wpAnyH_ready (rs := [1]) (by kernel_rfl) (by simp) ?_
   refine AllReadyH.cons rfl (fun KK hKK => ?_) AllReadyH.nil
   go_simp
   refine (HKd.out _).mono ?_
   rintro e w4 ⟨rfl, hb4⟩
   have HN6 := qa0 (HN5.out.later hb4)
   have HT6 := qa0 (HT5.out.later hb4)
   have HS6 := qa0 (HS5.out.later hb4)
   have HR6 := qa0 (HR5.out.later hb4)
   have HG6 := qa0 (HG5.out.trans (Gk.of hb4))
   clear hb4
   refine hKK.out _ _ ⟨HT6.out.cell 0 _ rfl, HT6.out.cell 1 _ rfl, HT6.out.cell 2 _ rfl, HT6.out.cell 3 _ rfl, HT6.out.cell 4 _ rfl⟩ (fun _ => ?_)
   clear hKK KK
   try simp only [nz1, nz2, nz3, Act.put, nz4, nz5, nz6]
   refine wtkq 6 ?vs6_7 rfl (by kernel_rfl) (fun _ _ _ h => h) (by rfl) ?ys6_7 ⟨HT6.out.cell 0 _ rfl, HT6.out.cell 1 _ rfl, HT6.out.cell 2 _ rfl, HT6.out.cell 3 _ rfl, HT6.out.cell 4 _ rfl⟩ ?zs6_7
   case ys6_7 => (intro w hSw; (try dsimp only at hSw); (try obtain ⟨s0, s1, s2, s3, s4⟩ := hSw); go_simp; try with_reducible rfl)
   try simp only [nz1, nz2, nz3, Act.put, nz4, nz5, nz6]
   refine wpAnyH_done (by kernel_rfl) ?_ _
   refine qdi rfl (fun KK hKK => ?_)
   refine qa9 44 _ _ rfl wd.heap.size _ #[.int .u8 (kk : Int), .string ⟨#[]⟩, .slice none 0 0, .slice none 0 0, .slice none 0 0, .int .i64 tl, .int .i64 tc] rfl rfl HN6.out sizeS rfl (qd4 rfl rfl rfl rfl rfl rfl rfl) ?_
   intro w8 HV8 hg8
   refine hKK.out _ _ ?_
   clear hKK KK
   try simp only [nz1, nz2, nz3, Act.put]
   go_wp2_with fail
   go_meet
   case rel => exact ⟨_, rfl, HV8.out, HS6.out.keptG hg8.out (by simp; omega), HT6.out.keptG hg8.out (by simp; omega), HR.out.step HR6.out (fun b hb => hg8.out.block b (by have := HG6.out.size; omega) (by simp; omega)), HG6.out.up hg8.out (by omega), by omega⟩
 case rest =>
  clear HT2 HB2 HS1 HR1 HG1 hz2 HKd HTa HS0 HB0 HR0
  obtain ⟨b4, rfl, h4, h0, h3, hrr, hgk, hlo⟩ := hcut
  have H4 := qa0 h4
  have H0 := qa0 h0
  have H3 := qa0 h3
  have HRc := qa0 hrr
  have HGc := qa0 hgk
  have g0 := H4.out.cell 0 _ rfl
  clear h4 h0 h3 hrr hgk
  obtain rfl | rfl | rfl | rfl | rfl | rfl | rfl | rfl | rfl : kk = 0 ∨ kk = 1 ∨ kk = 2 ∨ kk = 3 ∨ kk = 4 ∨ kk = 5 ∨ kk = 6 ∨ kk = 7 ∨ kk = 8 := by omega
  ·have hQ := HQ0.out rfl
   subst hQ
   clear HQc HQ0 HCx HCs HCr HIH
   have e0 := H3.out.cell 0 _ rfl
   have e1 := H3.out.cell 1 _ rfl
   have e2 := H3.out.cell 2 _ rfl
   have e3 := H3.out.cell 3 _ rfl
   have e4 := H3.out.cell 4 _ rfl
   go_wp2
   have hy := qb4 (P := SV) hjn HGc.out
   rw [ht] at hy
   exact ⟨rfl, hy⟩
  ·have hj : j < K.n := hj0 (by omega)
   obtain rfl : j2 = j + 1 := by have := Hj2.out; omega
   have hQ0 := HQc.out hj
   have hQ : Q = .ok (ySn ⟨tk, tx, tn, tl, tc⟩, lst K (j + 1)) := hQ0
   clear hQ0
   subst hQ
   clear HQc HQ0 HCx HCs HCr HIH
   have e1 := H3.out.cell 1 _ rfl
   have M1 : True := trivial
   go_wp2_with (first
    | (clear M1; refine wpList_store_one rfl 9 _ _ rfl b4 1 44 _ (.string tx) rfl rfl szS11 rfl rfl H4.out (by show 1 < 7; omega) ?_; intro w5 H5 hg5; have H5b : Hid (Vn w5 b4 44 #[.int .u8 1, .string tx, .slice none 0 0, .slice none 0 0, .slice none 0 0, .int .i64 tl, .int .i64 tc]) := H5; have H05 := qa0 (H0.out.keptG hg5.out (by simp; omega)); have y0 := H5b.out.cell 0 _ rfl; have y1 := H5b.out.cell 1 _ rfl; have y2 := H5b.out.cell 2 _ rfl; have y3 := H5b.out.cell 3 _ rfl; have y4 := H5b.out.cell 4 _ rfl; have y5 := H5b.out.cell 5 _ rfl; have y6 := H5b.out.cell 6 _ rfl; clear H5)
    | (refine qa1 rfl 44 _ _ rfl w.heap.size _ #[.int .u8 1, .string tx, .slice none 0 0, .slice none 0 0, .slice none 0 0, .int .i64 tl, .int .i64 tc] rfl rfl H05.out sizeS rfl (qd4 rfl rfl rfl rfl rfl rfl rfl) ?_; intro w8 HV8 hg8))
   have d0 := HV8.out.cell 0 _ rfl
   have d1 := HV8.out.cell 1 _ rfl
   have d2 := HV8.out.cell 2 _ rfl
   have d3 := HV8.out.cell 3 _ rfl
   have d4 := HV8.out.cell 4 _ rfl
   have d5 := HV8.out.cell 5 _ rfl
   have d6 := HV8.out.cell 6 _ rfl
   refine bodyPost_ret (v := .agg #[.int .u8 1, .string tx, .slice none 0 0, .slice none 0 0, .slice none 0 0, .int .i64 tl, .int .i64 tc]) (by simp [results, Tryz.results44, go_sem, d0, d1, d2, d3, d4, d5, d6]) rfl ?_
   have hz5 := hg5.out.size
   have hzc := HGc.out.size
   refine qc0 ((HGc.out.up hg5.out (by omega)).up hg8.out (Nat.le_refl _)) (fun u _ => ⟨⟨none, none, none, 0, 0, 0, rfl, fun d i hi => absurd hi (Nat.not_lt_zero i), fun i hi => absurd hi (Nat.not_lt_zero i), fun d i hi => absurd hi (Nat.not_lt_zero i)⟩, ⟨by show 1 < 256; omega, htx, by show 0 ≤ _; omega, by show 0 ≤ _; omega, by show 0 ≤ _; omega, fun i hi => absurd hi (Nat.not_lt_zero i)⟩⟩) (HR.out.step HRc.out (fun b hb => ?_))
   rw [hg8.out.block b (by omega) (by simp; omega), hg5.out.block b (by omega) (by simp; omega)]
  ·have hj : j < K.n := hj0 (by omega)
   obtain rfl : j2 = j + 1 := by have := Hj2.out; omega
   have hQ0 := HQc.out hj
   have hQ : Q = thn (pbr pX 1 (lst K (j + 1))) (fun l s => .ok (ySa 2 ⟨tk, tx, tn, tl, tc⟩ l, s)) := hQ0
   clear hQ0
   have HC : Hid (∀ w', Rr K w' (j + 1) → Calls Tryz.prog 92 #[.pointer (some ⟨K.r, 0, none⟩), .int .i64 2, .func (.func 39) #[] #[]] w' (RY XLv K w' (pbr pX 1 (lst K (j + 1))))) := fun w' hr => HCx.out 1 w' (by omega) (by omega) hr
   clear HQc HQ0 HCx HCs HCr HIH
   cases hq : pbr pX 1 (lst K (j + 1)) with
   | error s =>
    rw [hq] at HC hQ
    have HCe : Hid (∀ w', Rr K w' (j + 1) → Calls Tryz.prog 92 #[.pointer (some ⟨K.r, 0, none⟩), .int .i64 2, .func (.func 39) #[] #[]] w' fun e w'' => e = mis (K.g (K.n - s.length)) ∧ Gk K w' w'') := fun w' hr => (HC.out w' hr).mono (fun e w'' h => qat h)
    unfold mis at HCe
    rw [qa7] at hQ
    subst hQ
    clear HC hq
    go_wp2_with (go_at_call 92; refine (HCe.out _ HRc.out).mono ?_; rintro e w5 ⟨rfl, hg5⟩)
    exact ⟨rfl, HGc.out.trans hg5, rfl⟩
   | ok p =>
    obtain ⟨l, s⟩ := p
    rw [hq] at HC hQ
    have HCo : Hid (∀ w', Rr K w' (j + 1) → Calls Tryz.prog 92 #[.pointer (some ⟨K.r, 0, none⟩), .int .i64 2, .func (.func 39) #[] #[]] w' fun e w'' => (∃ v, e = .returned v ∧ Fr w'.heap.size w'' (fun u => XLv u v l) ∧ Rr K w'' (K.n - s.length)) ∧ Gk K w' w'') := fun w' hr => (HC.out w' hr).mono (fun e w'' h => qbe h)
    rw [qa4] at hQ
    subst hQ
    clear HC hq
    have M1 : True := trivial
    go_wp2_with (first
     | (go_at_call 92; refine (HCo.out _ HRc.out).mono ?_; rintro e w5 ⟨⟨v, rfl, hfr, hr5⟩, hg5⟩; obtain ⟨la, lc, rfl, hle, _⟩ := hfr.now; have HF5 := qa0 hfr; have HR5 := qa0 hr5; have HG5 := qa0 hg5; have H45 := qa0 (H4.out.keptBy (hg5.block _ H4.out.lt (by omega) (by omega))); have H05 := qa0 (H0.out.keptBy (hg5.block _ H0.out.lt (by omega) (by omega))); clear hfr hr5 hg5)
     | (clear M1; refine wpList_store_one rfl 35 _ _ rfl b4 2 44 _ (.slice la l.length lc) rfl rfl qi2 rfl rfl H45.out (by show 2 < 7; omega) ?_; intro w6 H6 hg6; have H6b : Hid (Vn w6 b4 44 #[.int .u8 2, .string ⟨#[]⟩, .slice la l.length lc, .slice none 0 0, .slice none 0 0, .int .i64 tl, .int .i64 tc]) := H6; have H06 := qa0 (H05.out.keptG hg6.out (by simp; omega)); have y0 := H6b.out.cell 0 _ rfl; have y1 := H6b.out.cell 1 _ rfl; have y2 := H6b.out.cell 2 _ rfl; have y3 := H6b.out.cell 3 _ rfl; have y4 := H6b.out.cell 4 _ rfl; have y5 := H6b.out.cell 5 _ rfl; have y6 := H6b.out.cell 6 _ rfl; clear H6)
     | (refine qa1 rfl 44 _ _ rfl w.heap.size _ #[.int .u8 2, .string ⟨#[]⟩, .slice la l.length lc, .slice none 0 0, .slice none 0 0, .int .i64 tl, .int .i64 tc] rfl rfl H06.out sizeS rfl (qd4 rfl rfl rfl rfl rfl rfl rfl) ?_; intro w8 HV8 hg8))
    have d0 := HV8.out.cell 0 _ rfl
    have d1 := HV8.out.cell 1 _ rfl
    have d2 := HV8.out.cell 2 _ rfl
    have d3 := HV8.out.cell 3 _ rfl
    have d4 := HV8.out.cell 4 _ rfl
    have d5 := HV8.out.cell 5 _ rfl
    have d6 := HV8.out.cell 6 _ rfl
    refine bodyPost_ret (v := .agg #[.int .u8 2, .string ⟨#[]⟩, .slice la l.length lc, .slice none 0 0, .slice none 0 0, .int .i64 tl, .int .i64 tc]) (by simp [results, Tryz.results44, go_sem, d0, d1, d2, d3, d4, d5, d6]) rfl ?_
    have hz5 := HG5.out.size
    have hz6 := hg6.out.size
    have hzc := HGc.out.size
    have hl4 := H4.out.lt
    refine qbo (((HGc.out.trans HG5.out).up hg6.out (by omega)).up hg8.out (Nat.le_refl _)) (fun u hu => ?_) (HR.out.step HR5.out (fun b hb => ?_))
    ·obtain ⟨la2, lc2, e2, hle2, HFr⟩ := HF5.out u ⟨by have := hu.size; have := hg8.out.size; omega, fun b hb1 hb2 => by rw [hu.same b (by omega) (by have := hg8.out.size; omega), hg8.out.block b (by omega) (by simp; omega), hg6.out.block b hb2 (by simp; omega)]⟩
     cases e2
     exact ⟨⟨la, none, none, lc, 0, 0, rfl, HFr, fun i hi => absurd hi (Nat.not_lt_zero i), fun d i hi => absurd hi (Nat.not_lt_zero i)⟩, ⟨by show 2 < 256; omega, by show 0 ≤ _; omega, by show l.length ≤ _; omega, by show 0 ≤ _; omega, by show 0 ≤ _; omega, fun i hi => absurd hi (Nat.not_lt_zero i)⟩⟩
    ·rw [hg8.out.block b (by omega) (by simp; omega), hg6.out.block b (by omega) (by simp; omega)]
  ·have hj : j < K.n := hj0 (by omega)
   obtain rfl : j2 = j + 1 := by have := Hj2.out; omega
   have hQ0 := HQc.out hj
   have hQ : Q = thn (pbr pX 1 (lst K (j + 1))) (fun l s => .ok (ySa 3 ⟨tk, tx, tn, tl, tc⟩ l, s)) := hQ0
   clear hQ0
   have HC : Hid (∀ w', Rr K w' (j + 1) → Calls Tryz.prog 92 #[.pointer (some ⟨K.r, 0, none⟩), .int .i64 2, .func (.func 39) #[] #[]] w' (RY XLv K w' (pbr pX 1 (lst K (j + 1))))) := fun w' hr => HCx.out 1 w' (by omega) (by omega) hr
   clear HQc HQ0 HCx HCs HCr HIH
   cases hq : pbr pX 1 (lst K (j + 1)) with
   | error s =>
    rw [hq] at HC hQ
    have HCe : Hid (∀ w', Rr K w' (j + 1) → Calls Tryz.prog 92 #[.pointer (some ⟨K.r, 0, none⟩), .int .i64 2, .func (.func 39) #[] #[]] w' fun e w'' => e = mis (K.g (K.n - s.length)) ∧ Gk K w' w'') := fun w' hr => (HC.out w' hr).mono (fun e w'' h => qat h)
    unfold mis at HCe
    rw [qa7] at hQ
    subst hQ
    clear HC hq
    go_wp2_with (go_at_call 92; refine (HCe.out _ HRc.out).mono ?_; rintro e w5 ⟨rfl, hg5⟩)
    exact ⟨rfl, HGc.out.trans hg5, rfl⟩
   | ok p =>
    obtain ⟨l, s⟩ := p
    rw [hq] at HC hQ
    have HCo : Hid (∀ w', Rr K w' (j + 1) → Calls Tryz.prog 92 #[.pointer (some ⟨K.r, 0, none⟩), .int .i64 2, .func (.func 39) #[] #[]] w' fun e w'' => (∃ v, e = .returned v ∧ Fr w'.heap.size w'' (fun u => XLv u v l) ∧ Rr K w'' (K.n - s.length)) ∧ Gk K w' w'') := fun w' hr => (HC.out w' hr).mono (fun e w'' h => qbe h)
    rw [qa4] at hQ
    subst hQ
    clear HC hq
    have M1 : True := trivial
    go_wp2_with (first
     | (go_at_call 92; refine (HCo.out _ HRc.out).mono ?_; rintro e w5 ⟨⟨v, rfl, hfr, hr5⟩, hg5⟩; obtain ⟨la, lc, rfl, hle, _⟩ := hfr.now; have HF5 := qa0 hfr; have HR5 := qa0 hr5; have HG5 := qa0 hg5; have H45 := qa0 (H4.out.keptBy (hg5.block _ H4.out.lt (by omega) (by omega))); have H05 := qa0 (H0.out.keptBy (hg5.block _ H0.out.lt (by omega) (by omega))); clear hfr hr5 hg5)
     | (clear M1; refine wpList_store_one rfl 35 _ _ rfl b4 2 44 _ (.slice la l.length lc) rfl rfl qi2 rfl rfl H45.out (by show 2 < 7; omega) ?_; intro w6 H6 hg6; have H6b : Hid (Vn w6 b4 44 #[.int .u8 3, .string ⟨#[]⟩, .slice la l.length lc, .slice none 0 0, .slice none 0 0, .int .i64 tl, .int .i64 tc]) := H6; have H06 := qa0 (H05.out.keptG hg6.out (by simp; omega)); have y0 := H6b.out.cell 0 _ rfl; have y1 := H6b.out.cell 1 _ rfl; have y2 := H6b.out.cell 2 _ rfl; have y3 := H6b.out.cell 3 _ rfl; have y4 := H6b.out.cell 4 _ rfl; have y5 := H6b.out.cell 5 _ rfl; have y6 := H6b.out.cell 6 _ rfl; clear H6)
     | (refine qa1 rfl 44 _ _ rfl w.heap.size _ #[.int .u8 3, .string ⟨#[]⟩, .slice la l.length lc, .slice none 0 0, .slice none 0 0, .int .i64 tl, .int .i64 tc] rfl rfl H06.out sizeS rfl (qd4 rfl rfl rfl rfl rfl rfl rfl) ?_; intro w8 HV8 hg8))
    have d0 := HV8.out.cell 0 _ rfl
    have d1 := HV8.out.cell 1 _ rfl
    have d2 := HV8.out.cell 2 _ rfl
    have d3 := HV8.out.cell 3 _ rfl
    have d4 := HV8.out.cell 4 _ rfl
    have d5 := HV8.out.cell 5 _ rfl
    have d6 := HV8.out.cell 6 _ rfl
    refine bodyPost_ret (v := .agg #[.int .u8 3, .string ⟨#[]⟩, .slice la l.length lc, .slice none 0 0, .slice none 0 0, .int .i64 tl, .int .i64 tc]) (by simp [results, Tryz.results44, go_sem, d0, d1, d2, d3, d4, d5, d6]) rfl ?_
    have hz5 := HG5.out.size
    have hz6 := hg6.out.size
    have hzc := HGc.out.size
    have hl4 := H4.out.lt
    refine qbo (((HGc.out.trans HG5.out).up hg6.out (by omega)).up hg8.out (Nat.le_refl _)) (fun u hu => ?_) (HR.out.step HR5.out (fun b hb => ?_))
    ·obtain ⟨la2, lc2, e2, hle2, HFr⟩ := HF5.out u ⟨by have := hu.size; have := hg8.out.size; omega, fun b hb1 hb2 => by rw [hu.same b (by omega) (by have := hg8.out.size; omega), hg8.out.block b (by omega) (by simp; omega), hg6.out.block b hb2 (by simp; omega)]⟩
     cases e2
     exact ⟨⟨la, none, none, lc, 0, 0, rfl, HFr, fun i hi => absurd hi (Nat.not_lt_zero i), fun d i hi => absurd hi (Nat.not_lt_zero i)⟩, ⟨by show 3 < 256; omega, by show 0 ≤ _; omega, by show l.length ≤ _; omega, by show 0 ≤ _; omega, by show 0 ≤ _; omega, fun i hi => absurd hi (Nat.not_lt_zero i)⟩⟩
    ·rw [hg8.out.block b (by omega) (by simp; omega), hg6.out.block b (by omega) (by simp; omega)]
  ·have hj : j < K.n := hj0 (by omega)
   obtain rfl : j2 = j + 1 := by have := Hj2.out; omega
   have hQ0 := HQc.out hj
   have hQ : Q = thn (pbr pX 2 (lst K (j + 1))) (fun l s => .ok (ySa 4 ⟨tk, tx, tn, tl, tc⟩ l, s)) := hQ0
   clear hQ0
   have HC : Hid (∀ w', Rr K w' (j + 1) → Calls Tryz.prog 92 #[.pointer (some ⟨K.r, 0, none⟩), .int .i64 3, .func (.func 39) #[] #[]] w' (RY XLv K w' (pbr pX 2 (lst K (j + 1))))) := fun w' hr => HCx.out 2 w' (by omega) (by omega) hr
   clear HQc HQ0 HCx HCs HCr HIH
   cases hq : pbr pX 2 (lst K (j + 1)) with
   | error s =>
    rw [hq] at HC hQ
    have HCe : Hid (∀ w', Rr K w' (j + 1) → Calls Tryz.prog 92 #[.pointer (some ⟨K.r, 0, none⟩), .int .i64 3, .func (.func 39) #[] #[]] w' fun e w'' => e = mis (K.g (K.n - s.length)) ∧ Gk K w' w'') := fun w' hr => (HC.out w' hr).mono (fun e w'' h => qat h)
    unfold mis at HCe
    rw [qa7] at hQ
    subst hQ
    clear HC hq
    go_wp2_with (go_at_call 92; refine (HCe.out _ HRc.out).mono ?_; rintro e w5 ⟨rfl, hg5⟩)
    exact ⟨rfl, HGc.out.trans hg5, rfl⟩
   | ok p =>
    obtain ⟨l, s⟩ := p
    rw [hq] at HC hQ
    have HCo : Hid (∀ w', Rr K w' (j + 1) → Calls Tryz.prog 92 #[.pointer (some ⟨K.r, 0, none⟩), .int .i64 3, .func (.func 39) #[] #[]] w' fun e w'' => (∃ v, e = .returned v ∧ Fr w'.heap.size w'' (fun u => XLv u v l) ∧ Rr K w'' (K.n - s.length)) ∧ Gk K w' w'') := fun w' hr => (HC.out w' hr).mono (fun e w'' h => qbe h)
    rw [qa4] at hQ
    subst hQ
    clear HC hq
    have M1 : True := trivial
    go_wp2_with (first
     | (go_at_call 92; refine (HCo.out _ HRc.out).mono ?_; rintro e w5 ⟨⟨v, rfl, hfr, hr5⟩, hg5⟩; obtain ⟨la, lc, rfl, hle, _⟩ := hfr.now; have HF5 := qa0 hfr; have HR5 := qa0 hr5; have HG5 := qa0 hg5; have H45 := qa0 (H4.out.keptBy (hg5.block _ H4.out.lt (by omega) (by omega))); have H05 := qa0 (H0.out.keptBy (hg5.block _ H0.out.lt (by omega) (by omega))); clear hfr hr5 hg5)
     | (clear M1; refine wpList_store_one rfl 35 _ _ rfl b4 2 44 _ (.slice la l.length lc) rfl rfl qi2 rfl rfl H45.out (by show 2 < 7; omega) ?_; intro w6 H6 hg6; have H6b : Hid (Vn w6 b4 44 #[.int .u8 4, .string ⟨#[]⟩, .slice la l.length lc, .slice none 0 0, .slice none 0 0, .int .i64 tl, .int .i64 tc]) := H6; have H06 := qa0 (H05.out.keptG hg6.out (by simp; omega)); have y0 := H6b.out.cell 0 _ rfl; have y1 := H6b.out.cell 1 _ rfl; have y2 := H6b.out.cell 2 _ rfl; have y3 := H6b.out.cell 3 _ rfl; have y4 := H6b.out.cell 4 _ rfl; have y5 := H6b.out.cell 5 _ rfl; have y6 := H6b.out.cell 6 _ rfl; clear H6)
     | (refine qa1 rfl 44 _ _ rfl w.heap.size _ #[.int .u8 4, .string ⟨#[]⟩, .slice la l.length lc, .slice none 0 0, .slice none 0 0, .int .i64 tl, .int .i64 tc] rfl rfl H06.out sizeS rfl (qd4 rfl rfl rfl rfl rfl rfl rfl) ?_; intro w8 HV8 hg8))
    have d0 := HV8.out.cell 0 _ rfl
    have d1 := HV8.out.cell 1 _ rfl
    have d2 := HV8.out.cell 2 _ rfl
    have d3 := HV8.out.cell 3 _ rfl
    have d4 := HV8.out.cell 4 _ rfl
    have d5 := HV8.out.cell 5 _ rfl
    have d6 := HV8.out.cell 6 _ rfl
    refine bodyPost_ret (v := .agg #[.int .u8 4, .string ⟨#[]⟩, .slice la l.length lc, .slice none 0 0, .slice none 0 0, .int .i64 tl, .int .i64 tc]) (by simp [results, Tryz.results44, go_sem, d0, d1, d2, d3, d4, d5, d6]) rfl ?_
    have hz5 := HG5.out.size
    have hz6 := hg6.out.size
    have hzc := HGc.out.size
    have hl4 := H4.out.lt
    refine qbo (((HGc.out.trans HG5.out).up hg6.out (by omega)).up hg8.out (Nat.le_refl _)) (fun u hu => ?_) (HR.out.step HR5.out (fun b hb => ?_))
    ·obtain ⟨la2, lc2, e2, hle2, HFr⟩ := HF5.out u ⟨by have := hu.size; have := hg8.out.size; omega, fun b hb1 hb2 => by rw [hu.same b (by omega) (by have := hg8.out.size; omega), hg8.out.block b (by omega) (by simp; omega), hg6.out.block b hb2 (by simp; omega)]⟩
     cases e2
     exact ⟨⟨la, none, none, lc, 0, 0, rfl, HFr, fun i hi => absurd hi (Nat.not_lt_zero i), fun d i hi => absurd hi (Nat.not_lt_zero i)⟩, ⟨by show 4 < 256; omega, by show 0 ≤ _; omega, by show l.length ≤ _; omega, by show 0 ≤ _; omega, by show 0 ≤ _; omega, fun i hi => absurd hi (Nat.not_lt_zero i)⟩⟩
    ·rw [hg8.out.block b (by omega) (by simp; omega), hg6.out.block b (by omega) (by simp; omega)]
  ·have hj : j < K.n := hj0 (by omega)
   obtain rfl : j2 = j + 1 := by have := Hj2.out; omega
   have hQ0 := HQc.out hj
   have hQ : Q = thn (pbr pX 2 (lst K (j + 1))) (fun l s => .ok (ySa 5 ⟨tk, tx, tn, tl, tc⟩ l, s)) := hQ0
   clear hQ0
   have HC : Hid (∀ w', Rr K w' (j + 1) → Calls Tryz.prog 92 #[.pointer (some ⟨K.r, 0, none⟩), .int .i64 3, .func (.func 39) #[] #[]] w' (RY XLv K w' (pbr pX 2 (lst K (j + 1))))) := fun w' hr => HCx.out 2 w' (by omega) (by omega) hr
   clear HQc HQ0 HCx HCs HCr HIH
   cases hq : pbr pX 2 (lst K (j + 1)) with
   | error s =>
    rw [hq] at HC hQ
    have HCe : Hid (∀ w', Rr K w' (j + 1) → Calls Tryz.prog 92 #[.pointer (some ⟨K.r, 0, none⟩), .int .i64 3, .func (.func 39) #[] #[]] w' fun e w'' => e = mis (K.g (K.n - s.length)) ∧ Gk K w' w'') := fun w' hr => (HC.out w' hr).mono (fun e w'' h => qat h)
    unfold mis at HCe
    rw [qa7] at hQ
    subst hQ
    clear HC hq
    go_wp2_with (go_at_call 92; refine (HCe.out _ HRc.out).mono ?_; rintro e w5 ⟨rfl, hg5⟩)
    exact ⟨rfl, HGc.out.trans hg5, rfl⟩
   | ok p =>
    obtain ⟨l, s⟩ := p
    rw [hq] at HC hQ
    have HCo : Hid (∀ w', Rr K w' (j + 1) → Calls Tryz.prog 92 #[.pointer (some ⟨K.r, 0, none⟩), .int .i64 3, .func (.func 39) #[] #[]] w' fun e w'' => (∃ v, e = .returned v ∧ Fr w'.heap.size w'' (fun u => XLv u v l) ∧ Rr K w'' (K.n - s.length)) ∧ Gk K w' w'') := fun w' hr => (HC.out w' hr).mono (fun e w'' h => qbe h)
    rw [qa4] at hQ
    subst hQ
    clear HC hq
    have M1 : True := trivial
    go_wp2_with (first
     | (go_at_call 92; refine (HCo.out _ HRc.out).mono ?_; rintro e w5 ⟨⟨v, rfl, hfr, hr5⟩, hg5⟩; obtain ⟨la, lc, rfl, hle, _⟩ := hfr.now; have HF5 := qa0 hfr; have HR5 := qa0 hr5; have HG5 := qa0 hg5; have H45 := qa0 (H4.out.keptBy (hg5.block _ H4.out.lt (by omega) (by omega))); have H05 := qa0 (H0.out.keptBy (hg5.block _ H0.out.lt (by omega) (by omega))); clear hfr hr5 hg5)
     | (clear M1; refine wpList_store_one rfl 35 _ _ rfl b4 2 44 _ (.slice la l.length lc) rfl rfl qi2 rfl rfl H45.out (by show 2 < 7; omega) ?_; intro w6 H6 hg6; have H6b : Hid (Vn w6 b4 44 #[.int .u8 5, .string ⟨#[]⟩, .slice la l.length lc, .slice none 0 0, .slice none 0 0, .int .i64 tl, .int .i64 tc]) := H6; have H06 := qa0 (H05.out.keptG hg6.out (by simp; omega)); have y0 := H6b.out.cell 0 _ rfl; have y1 := H6b.out.cell 1 _ rfl; have y2 := H6b.out.cell 2 _ rfl; have y3 := H6b.out.cell 3 _ rfl; have y4 := H6b.out.cell 4 _ rfl; have y5 := H6b.out.cell 5 _ rfl; have y6 := H6b.out.cell 6 _ rfl; clear H6)
     | (refine qa1 rfl 44 _ _ rfl w.heap.size _ #[.int .u8 5, .string ⟨#[]⟩, .slice la l.length lc, .slice none 0 0, .slice none 0 0, .int .i64 tl, .int .i64 tc] rfl rfl H06.out sizeS rfl (qd4 rfl rfl rfl rfl rfl rfl rfl) ?_; intro w8 HV8 hg8))
    have d0 := HV8.out.cell 0 _ rfl
    have d1 := HV8.out.cell 1 _ rfl
    have d2 := HV8.out.cell 2 _ rfl
    have d3 := HV8.out.cell 3 _ rfl
    have d4 := HV8.out.cell 4 _ rfl
    have d5 := HV8.out.cell 5 _ rfl
    have d6 := HV8.out.cell 6 _ rfl
    refine bodyPost_ret (v := .agg #[.int .u8 5, .string ⟨#[]⟩, .slice la l.length lc, .slice none 0 0, .slice none 0 0, .int .i64 tl, .int .i64 tc]) (by simp [results, Tryz.results44, go_sem, d0, d1, d2, d3, d4, d5, d6]) rfl ?_
    have hz5 := HG5.out.size
    have hz6 := hg6.out.size
    have hzc := HGc.out.size
    have hl4 := H4.out.lt
    refine qbo (((HGc.out.trans HG5.out).up hg6.out (by omega)).up hg8.out (Nat.le_refl _)) (fun u hu => ?_) (HR.out.step HR5.out (fun b hb => ?_))
    ·obtain ⟨la2, lc2, e2, hle2, HFr⟩ := HF5.out u ⟨by have := hu.size; have := hg8.out.size; omega, fun b hb1 hb2 => by rw [hu.same b (by omega) (by have := hg8.out.size; omega), hg8.out.block b (by omega) (by simp; omega), hg6.out.block b hb2 (by simp; omega)]⟩
     cases e2
     exact ⟨⟨la, none, none, lc, 0, 0, rfl, HFr, fun i hi => absurd hi (Nat.not_lt_zero i), fun d i hi => absurd hi (Nat.not_lt_zero i)⟩, ⟨by show 5 < 256; omega, by show 0 ≤ _; omega, by show l.length ≤ _; omega, by show 0 ≤ _; omega, by show 0 ≤ _; omega, fun i hi => absurd hi (Nat.not_lt_zero i)⟩⟩
    ·rw [hg8.out.block b (by omega) (by simp; omega), hg6.out.block b (by omega) (by simp; omega)]
  ·have hj : j < K.n := hj0 (by omega)
   obtain rfl : j2 = j + 1 := by have := Hj2.out; omega
   have hQ0 := HQc.out hj
   have hQ : Q = thn (pbr (psh n) 1 (lst K (j + 1))) (fun l s => .ok (ySp 6 ⟨tk, tx, tn, tl, tc⟩ l, s)) := hQ0
   clear hQ0
   have HC : Hid (∀ w', Rr K w' (j + 1) → Calls Tryz.prog 93 #[.pointer (some ⟨K.r, 0, none⟩), .int .i64 2, .func (.func 44) #[] #[]] w' (RY SLv K w' (pbr (psh n) 1 (lst K (j + 1))))) := fun w' hr => HCs.out w' hr
   clear HQc HQ0 HCx HCs HCr HIH
   cases hq : pbr (psh n) 1 (lst K (j + 1)) with
   | error s =>
    rw [hq] at HC hQ
    have HCe : Hid (∀ w', Rr K w' (j + 1) → Calls Tryz.prog 93 #[.pointer (some ⟨K.r, 0, none⟩), .int .i64 2, .func (.func 44) #[] #[]] w' fun e w'' => e = mis (K.g (K.n - s.length)) ∧ Gk K w' w'') := fun w' hr => (HC.out w' hr).mono (fun e w'' h => qat h)
    unfold mis at HCe
    rw [qa7] at hQ
    subst hQ
    clear HC hq
    go_wp2_with (go_at_call 93; refine (HCe.out _ HRc.out).mono ?_; rintro e w5 ⟨rfl, hg5⟩)
    exact ⟨rfl, HGc.out.trans hg5, rfl⟩
   | ok p =>
    obtain ⟨l, s⟩ := p
    rw [hq] at HC hQ
    have HCo : Hid (∀ w', Rr K w' (j + 1) → Calls Tryz.prog 93 #[.pointer (some ⟨K.r, 0, none⟩), .int .i64 2, .func (.func 44) #[] #[]] w' fun e w'' => (∃ v, e = .returned v ∧ Fr w'.heap.size w'' (fun u => SLv u v l) ∧ Rr K w'' (K.n - s.length)) ∧ Gk K w' w'') := fun w' hr => (HC.out w' hr).mono (fun e w'' h => qbe h)
    rw [qa4] at hQ
    subst hQ
    clear HC hq
    have M1 : True := trivial
    go_wp2_with (first
     | (go_at_call 93; refine (HCo.out _ HRc.out).mono ?_; rintro e w5 ⟨⟨v, rfl, hfr, hr5⟩, hg5⟩; obtain ⟨la, lc, rfl, hle, _⟩ := hfr.now; have HF5 := qa0 hfr; have HR5 := qa0 hr5; have HG5 := qa0 hg5; have H45 := qa0 (H4.out.keptBy (hg5.block _ H4.out.lt (by omega) (by omega))); have H05 := qa0 (H0.out.keptBy (hg5.block _ H0.out.lt (by omega) (by omega))); clear hfr hr5 hg5)
     | (clear M1; refine wpList_store_one rfl 41 _ _ rfl b4 3 44 _ (.slice la l.length lc) rfl rfl szP11 rfl rfl H45.out (by show 3 < 7; omega) ?_; intro w6 H6 hg6; have H6b : Hid (Vn w6 b4 44 #[.int .u8 6, .string ⟨#[]⟩, .slice none 0 0, .slice la l.length lc, .slice none 0 0, .int .i64 tl, .int .i64 tc]) := H6; have H06 := qa0 (H05.out.keptG hg6.out (by simp; omega)); have y0 := H6b.out.cell 0 _ rfl; have y1 := H6b.out.cell 1 _ rfl; have y2 := H6b.out.cell 2 _ rfl; have y3 := H6b.out.cell 3 _ rfl; have y4 := H6b.out.cell 4 _ rfl; have y5 := H6b.out.cell 5 _ rfl; have y6 := H6b.out.cell 6 _ rfl; clear H6)
     | (refine qa1 rfl 44 _ _ rfl w.heap.size _ #[.int .u8 6, .string ⟨#[]⟩, .slice none 0 0, .slice la l.length lc, .slice none 0 0, .int .i64 tl, .int .i64 tc] rfl rfl H06.out sizeS rfl (qd4 rfl rfl rfl rfl rfl rfl rfl) ?_; intro w8 HV8 hg8))
    have d0 := HV8.out.cell 0 _ rfl
    have d1 := HV8.out.cell 1 _ rfl
    have d2 := HV8.out.cell 2 _ rfl
    have d3 := HV8.out.cell 3 _ rfl
    have d4 := HV8.out.cell 4 _ rfl
    have d5 := HV8.out.cell 5 _ rfl
    have d6 := HV8.out.cell 6 _ rfl
    refine bodyPost_ret (v := .agg #[.int .u8 6, .string ⟨#[]⟩, .slice none 0 0, .slice la l.length lc, .slice none 0 0, .int .i64 tl, .int .i64 tc]) (by simp [results, Tryz.results44, go_sem, d0, d1, d2, d3, d4, d5, d6]) rfl ?_
    have hz5 := HG5.out.size
    have hz6 := hg6.out.size
    have hzc := HGc.out.size
    have hl4 := H4.out.lt
    refine qbo (((HGc.out.trans HG5.out).up hg6.out (by omega)).up hg8.out (Nat.le_refl _)) (fun u hu => ?_) (HR.out.step HR5.out (fun b hb => ?_))
    ·obtain ⟨la2, lc2, e2, hle2, HFr⟩ := HF5.out u ⟨by have := hu.size; have := hg8.out.size; omega, fun b hb1 hb2 => by rw [hu.same b (by omega) (by have := hg8.out.size; omega), hg8.out.block b (by omega) (by simp; omega), hg6.out.block b hb2 (by simp; omega)]⟩
     cases e2
     exact ⟨⟨none, la, none, 0, lc, 0, rfl, fun d i hi => absurd hi (Nat.not_lt_zero i), fun i hi => absurd hi (Nat.not_lt_zero i), HFr⟩, ⟨by show 6 < 256; omega, by show 0 ≤ _; omega, by show 0 ≤ _; omega, by show l.length ≤ _; omega, by show 0 ≤ _; omega, fun i hi => absurd hi (Nat.not_lt_zero i)⟩⟩
    ·rw [hg8.out.block b (by omega) (by simp; omega), hg6.out.block b (by omega) (by simp; omega)]
  ·have hj : j < K.n := hj0 (by omega)
   obtain rfl : j2 = j + 1 := by have := Hj2.out; omega
   have hQ0 := HQc.out hj
   have hQ : Q = thn (pbr (psh n) 1 (lst K (j + 1))) (fun l s => .ok (ySp 7 ⟨tk, tx, tn, tl, tc⟩ l, s)) := hQ0
   clear hQ0
   have HC : Hid (∀ w', Rr K w' (j + 1) → Calls Tryz.prog 93 #[.pointer (some ⟨K.r, 0, none⟩), .int .i64 2, .func (.func 44) #[] #[]] w' (RY SLv K w' (pbr (psh n) 1 (lst K (j + 1))))) := fun w' hr => HCs.out w' hr
   clear HQc HQ0 HCx HCs HCr HIH
   cases hq : pbr (psh n) 1 (lst K (j + 1)) with
   | error s =>
    rw [hq] at HC hQ
    have HCe : Hid (∀ w', Rr K w' (j + 1) → Calls Tryz.prog 93 #[.pointer (some ⟨K.r, 0, none⟩), .int .i64 2, .func (.func 44) #[] #[]] w' fun e w'' => e = mis (K.g (K.n - s.length)) ∧ Gk K w' w'') := fun w' hr => (HC.out w' hr).mono (fun e w'' h => qat h)
    unfold mis at HCe
    rw [qa7] at hQ
    subst hQ
    clear HC hq
    go_wp2_with (go_at_call 93; refine (HCe.out _ HRc.out).mono ?_; rintro e w5 ⟨rfl, hg5⟩)
    exact ⟨rfl, HGc.out.trans hg5, rfl⟩
   | ok p =>
    obtain ⟨l, s⟩ := p
    rw [hq] at HC hQ
    have HCo : Hid (∀ w', Rr K w' (j + 1) → Calls Tryz.prog 93 #[.pointer (some ⟨K.r, 0, none⟩), .int .i64 2, .func (.func 44) #[] #[]] w' fun e w'' => (∃ v, e = .returned v ∧ Fr w'.heap.size w'' (fun u => SLv u v l) ∧ Rr K w'' (K.n - s.length)) ∧ Gk K w' w'') := fun w' hr => (HC.out w' hr).mono (fun e w'' h => qbe h)
    rw [qa4] at hQ
    subst hQ
    clear HC hq
    have M1 : True := trivial
    go_wp2_with (first
     | (go_at_call 93; refine (HCo.out _ HRc.out).mono ?_; rintro e w5 ⟨⟨v, rfl, hfr, hr5⟩, hg5⟩; obtain ⟨la, lc, rfl, hle, _⟩ := hfr.now; have HF5 := qa0 hfr; have HR5 := qa0 hr5; have HG5 := qa0 hg5; have H45 := qa0 (H4.out.keptBy (hg5.block _ H4.out.lt (by omega) (by omega))); have H05 := qa0 (H0.out.keptBy (hg5.block _ H0.out.lt (by omega) (by omega))); clear hfr hr5 hg5)
     | (clear M1; refine wpList_store_one rfl 41 _ _ rfl b4 3 44 _ (.slice la l.length lc) rfl rfl szP11 rfl rfl H45.out (by show 3 < 7; omega) ?_; intro w6 H6 hg6; have H6b : Hid (Vn w6 b4 44 #[.int .u8 7, .string ⟨#[]⟩, .slice none 0 0, .slice la l.length lc, .slice none 0 0, .int .i64 tl, .int .i64 tc]) := H6; have H06 := qa0 (H05.out.keptG hg6.out (by simp; omega)); have y0 := H6b.out.cell 0 _ rfl; have y1 := H6b.out.cell 1 _ rfl; have y2 := H6b.out.cell 2 _ rfl; have y3 := H6b.out.cell 3 _ rfl; have y4 := H6b.out.cell 4 _ rfl; have y5 := H6b.out.cell 5 _ rfl; have y6 := H6b.out.cell 6 _ rfl; clear H6)
     | (refine qa1 rfl 44 _ _ rfl w.heap.size _ #[.int .u8 7, .string ⟨#[]⟩, .slice none 0 0, .slice la l.length lc, .slice none 0 0, .int .i64 tl, .int .i64 tc] rfl rfl H06.out sizeS rfl (qd4 rfl rfl rfl rfl rfl rfl rfl) ?_; intro w8 HV8 hg8))
    have d0 := HV8.out.cell 0 _ rfl
    have d1 := HV8.out.cell 1 _ rfl
    have d2 := HV8.out.cell 2 _ rfl
    have d3 := HV8.out.cell 3 _ rfl
    have d4 := HV8.out.cell 4 _ rfl
    have d5 := HV8.out.cell 5 _ rfl
    have d6 := HV8.out.cell 6 _ rfl
    refine bodyPost_ret (v := .agg #[.int .u8 7, .string ⟨#[]⟩, .slice none 0 0, .slice la l.length lc, .slice none 0 0, .int .i64 tl, .int .i64 tc]) (by simp [results, Tryz.results44, go_sem, d0, d1, d2, d3, d4, d5, d6]) rfl ?_
    have hz5 := HG5.out.size
    have hz6 := hg6.out.size
    have hzc := HGc.out.size
    have hl4 := H4.out.lt
    refine qbo (((HGc.out.trans HG5.out).up hg6.out (by omega)).up hg8.out (Nat.le_refl _)) (fun u hu => ?_) (HR.out.step HR5.out (fun b hb => ?_))
    ·obtain ⟨la2, lc2, e2, hle2, HFr⟩ := HF5.out u ⟨by have := hu.size; have := hg8.out.size; omega, fun b hb1 hb2 => by rw [hu.same b (by omega) (by have := hg8.out.size; omega), hg8.out.block b (by omega) (by simp; omega), hg6.out.block b hb2 (by simp; omega)]⟩
     cases e2
     exact ⟨⟨none, la, none, 0, lc, 0, rfl, fun d i hi => absurd hi (Nat.not_lt_zero i), fun i hi => absurd hi (Nat.not_lt_zero i), HFr⟩, ⟨by show 7 < 256; omega, by show 0 ≤ _; omega, by show 0 ≤ _; omega, by show l.length ≤ _; omega, by show 0 ≤ _; omega, fun i hi => absurd hi (Nat.not_lt_zero i)⟩⟩
    ·rw [hg8.out.block b (by omega) (by simp; omega), hg6.out.block b (by omega) (by simp; omega)]
  ·have hj : j < K.n := hj0 (by omega)
   obtain rfl : j2 = j + 1 := by have := Hj2.out; omega
   have hQ0 := HQc.out hj
   have hQ : Q = thn (prwb (lst K (j + 1))) (fun l s => .ok (ySr ⟨tk, tx, tn, tl, tc⟩ l, s)) := hQ0
   clear hQ0
   have HC : Hid (∀ w', Rr K w' (j + 1) → Calls Tryz.prog 94 #[.pointer (some ⟨K.r, 0, none⟩)] w' (RY XRv K w' (prwb (lst K (j + 1))))) := fun w' hr => HCr.out w' hr
   clear HQc HQ0 HCx HCs HCr HIH
   cases hq : prwb (lst K (j + 1)) with
   | error s =>
    rw [hq] at HC hQ
    have HCe : Hid (∀ w', Rr K w' (j + 1) → Calls Tryz.prog 94 #[.pointer (some ⟨K.r, 0, none⟩)] w' fun e w'' => e = mis (K.g (K.n - s.length)) ∧ Gk K w' w'') := fun w' hr => (HC.out w' hr).mono (fun e w'' h => qat h)
    unfold mis at HCe
    rw [qa7] at hQ
    subst hQ
    clear HC hq
    go_wp2_with (go_at_call 94; refine (HCe.out _ HRc.out).mono ?_; rintro e w5 ⟨rfl, hg5⟩)
    exact ⟨rfl, HGc.out.trans hg5, rfl⟩
   | ok p =>
    obtain ⟨l, s⟩ := p
    rw [hq] at HC hQ
    have HCo : Hid (∀ w', Rr K w' (j + 1) → Calls Tryz.prog 94 #[.pointer (some ⟨K.r, 0, none⟩)] w' fun e w'' => (∃ v, e = .returned v ∧ Fr w'.heap.size w'' (fun u => XRv u v l) ∧ Rr K w'' (K.n - s.length)) ∧ Gk K w' w'') := fun w' hr => (HC.out w' hr).mono (fun e w'' h => qbe h)
    rw [qa4] at hQ
    subst hQ
    clear HC hq
    have M1 : True := trivial
    go_wp2_with (first
     | (go_at_call 94; refine (HCo.out _ HRc.out).mono ?_; rintro e w5 ⟨⟨v, rfl, hfr, hr5⟩, hg5⟩; obtain ⟨la, lc, rfl, hle, _, _⟩ := hfr.now; have HF5 := qa0 hfr; have HR5 := qa0 hr5; have HG5 := qa0 hg5; have H45 := qa0 (H4.out.keptBy (hg5.block _ H4.out.lt (by omega) (by omega))); have H05 := qa0 (H0.out.keptBy (hg5.block _ H0.out.lt (by omega) (by omega))); clear hfr hr5 hg5)
     | (clear M1; refine wpList_store_one rfl 42 _ _ rfl b4 4 44 _ (.slice la l.length lc) rfl rfl szM11 rfl rfl H45.out (by show 4 < 7; omega) ?_; intro w6 H6 hg6; have H6b : Hid (Vn w6 b4 44 #[.int .u8 8, .string ⟨#[]⟩, .slice none 0 0, .slice none 0 0, .slice la l.length lc, .int .i64 tl, .int .i64 tc]) := H6; have H06 := qa0 (H05.out.keptG hg6.out (by simp; omega)); have y0 := H6b.out.cell 0 _ rfl; have y1 := H6b.out.cell 1 _ rfl; have y2 := H6b.out.cell 2 _ rfl; have y3 := H6b.out.cell 3 _ rfl; have y4 := H6b.out.cell 4 _ rfl; have y5 := H6b.out.cell 5 _ rfl; have y6 := H6b.out.cell 6 _ rfl; clear H6)
     | (refine qa1 rfl 44 _ _ rfl w.heap.size _ #[.int .u8 8, .string ⟨#[]⟩, .slice none 0 0, .slice none 0 0, .slice la l.length lc, .int .i64 tl, .int .i64 tc] rfl rfl H06.out sizeS rfl (qd4 rfl rfl rfl rfl rfl rfl rfl) ?_; intro w8 HV8 hg8))
    have d0 := HV8.out.cell 0 _ rfl
    have d1 := HV8.out.cell 1 _ rfl
    have d2 := HV8.out.cell 2 _ rfl
    have d3 := HV8.out.cell 3 _ rfl
    have d4 := HV8.out.cell 4 _ rfl
    have d5 := HV8.out.cell 5 _ rfl
    have d6 := HV8.out.cell 6 _ rfl
    refine bodyPost_ret (v := .agg #[.int .u8 8, .string ⟨#[]⟩, .slice none 0 0, .slice none 0 0, .slice la l.length lc, .int .i64 tl, .int .i64 tc]) (by simp [results, Tryz.results44, go_sem, d0, d1, d2, d3, d4, d5, d6]) rfl ?_
    have hz5 := HG5.out.size
    have hz6 := hg6.out.size
    have hzc := HGc.out.size
    have hl4 := H4.out.lt
    refine qbo (((HGc.out.trans HG5.out).up hg6.out (by omega)).up hg8.out (Nat.le_refl _)) (fun u hu => ?_) (HR.out.step HR5.out (fun b hb => ?_))
    ·obtain ⟨la2, lc2, e2, hle2, HLn, HFr⟩ := HF5.out u ⟨by have := hu.size; have := hg8.out.size; omega, fun b hb1 hb2 => by rw [hu.same b (by omega) (by have := hg8.out.size; omega), hg8.out.block b (by omega) (by simp; omega), hg6.out.block b hb2 (by simp; omega)]⟩
     cases e2
     exact ⟨⟨none, none, la, 0, 0, lc, rfl, fun d i hi => absurd hi (Nat.not_lt_zero i), HFr, fun d i hi => absurd hi (Nat.not_lt_zero i)⟩, ⟨by show 8 < 256; omega, by show 0 ≤ _; omega, by show 0 ≤ _; omega, by show 0 ≤ _; omega, by show l.length ≤ _; omega, fun i hi => Nat.le_trans (HLn i hi) (by omega)⟩⟩
    ·rw [hg8.out.block b (by omega) (by simp; omega), hg6.out.block b (by omega) (by simp; omega)]
end Go.Proofs.YtnjcpmkfghcogaaGreatDoor
