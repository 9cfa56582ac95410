/-
  The program's verdict.firstLeft: the sources among the left rows.
  The program's verdict.ifRecovered of sets, Sources and Recovers.
-/
import Derived.Test.YtokdejhbjoglcaaQffer00
import Derived.Test.YtokdejhbjoglcaaQffer46
import Derived.Deep.RegionHeld3
set_option maxRecDepth 100000
set_option maxHeartbeats 16000000
namespace Go.Proofs.Ytokdejhbjoglcaa
open Go.RowKit Go.Shelf
attribute [local go_sem] Oper.semAt_some
/-- What holds while the left rows are gathered: those below j. -/
structure LfI (w W : World) (r c : Int) (n k s t bm bs : Nat) (a : Option Addr) (j : Nat) : Prop where
 vg : Vr W w.heap.size (.int .i64 r) (.int .i64 c) (.slice a n k)
 cs : Cl W (w.heap.size + 1) (.int .u64 ((t % 2 ^ j : Nat) : Int)) 26
 vm : Vr W bm (.int .i64 r) (.int .i64 c) (.slice a n k)
 vs : Cl W bs (.int .u64 (s : Int)) 26
 below : Below w.heap.size w W
theorem LfI.later {w W W' : World} {r c : Int} {n k s t bm bs j : Nat} {a : Option Addr} (I : LfI w W r c n k s t bm bs a j) (hb : Below W.heap.size W W') : LfI w W' r c n k s t bm bs a j :=
 ⟨I.vg.later hb, I.cs.later hb, I.vm.later hb, I.vs.later hb, qa1 I.below hb⟩
theorem qgo (w : World) (r c n k s t p : Nat) (a : Option Addr) (F : Nat → Nat) (ha : Mt w a n k F) (R : Rt r c n) (hs : s < 2 ^ r) (ht : t < 2 ^ r) (htb : ∀ i, i < r → (bt t i = 1 ↔ ¬ bt s i = 1)) (hp : BaS (m2 F r c) r t p) :
  Calls Try.prog 45 #[mv r c a n k, .int .u64 (s : Int)] w fun e w' => e = .returned (.int .u64 (p : Int)) ∧ Below w.heap.size w w' := by
 have hr := R.r64
 have hs6 := qbj hr hs
 have HB : Hid (∀ w' : World, Below w.heap.size w w' → Calls Try.prog 66 #[mv r c a n k, .int .u64 (t : Int)] w' fun e w'' => e = .returned (.tuple #[.int .u64 (p : Int), .int .i64 0]) ∧ Below w'.heap.size w' w'') := base_num ha R ht hp
 have HT := qbq htb
 have HL : Hid (t < 2 ^ r) := ht
 clear ha R hs ht htb hp
 obtain ⟨wb, HW⟩ : ∃ wb, Hid ((w.alloc (.cells #[.int .i64 (r : Int), .int .i64 (c : Int), .slice a n k] 24)).alloc (.cells #[.int .u64 0] 26) = wb) := ⟨_, rfl⟩
 have hsb : wb.heap.size = w.heap.size + 2 := by rw [← HW.out]; simp
 have HBb : Hid (Below w.heap.size w wb) := by rw [← HW.out]; exact qa1 (qa0 _ _) (qa0 _ _)
 have HVb : Hid (Vr wb w.heap.size (.int .i64 (r : Int)) (.int .i64 (c : Int)) (.slice a n k)) := by rw [← HW.out]; exact (Vr.new w _ _ _).later (qa0 _ _)
 have HCb : Hid (Cl wb (w.heap.size + 1) (.int .u64 0) 26) := by
  have e : (w.alloc (.cells #[.int .i64 (r : Int), .int .i64 (c : Int), .slice a n k] 24)).heap.size = w.heap.size + 1 := by simp
  rw [← HW.out, ← e]
  exact Cl.new _ _ _
 refine (callsIn_wide (n := 4)).1 (callsIn_of_wp_marks Try.func45 rfl trivial ?_ rfl)
 simp only [Try.ntmps45, List.size_toArray, List.length_cons, List.length_nil, Nat.reduceAdd, Nat.reduceSub, Array.replicate_succ, Array.replicate_zero, List.push_toArray, List.append_toArray, List.nil_append, List.cons_append]
 refine wpIn_wide.2 ?_
 go_wp2_with (go_at_call 65; rw [HW.out]; refine (vleft18 _ _ _ _ _ _ _).mono ?_; rintro e w1 ⟨bm, bs, rfl, hvm, hvs, hgm, hgs, hb⟩; have HB1 : Hid (Below wb.heap.size wb w1) := hb; have HI0 : Hid (LfI w w1 (r : Int) (c : Int) n k s t bm bs a 0) := ⟨HVb.out.later hb, (by rw [Nat.pow_zero, Nat.mod_one]; exact HCb.out.later hb), hvm, hvs, qa1 HBb.out hb⟩; clear hb hvm hvs)
 have hlm : bm < w1.heap.size := HI0.out.vm.lt
 have hls : bs < w1.heap.size := HI0.out.vs.lt
 have hl1 : w.heap.size + 2 ≤ w1.heap.size := by have := HB1.out.size; omega
 refine (wpIn_wide (n := 4)).1 ?_
 refine qhj (nn := 4) (r := r) (s := s) (bm := bm) (bs := bs) (fun j W => LfI w W (r : Int) (c : Int) n k s t bm bs a j ∧ w1.heap.size + 2 ≤ W.heap.size) (by omega) hr hs6 rfl ?hKp ?hKc ?hKn ?h0
  (fun j => { tmps := #[mv r c a n k, .int .u64 (s : Int), .pointer (some ⟨w.heap.size, 0, none⟩), undef, .int .u64 0, .pointer (some ⟨w.heap.size + 1, 0, none⟩), .int .i64 (j : Int), undef, undef, mv r c a n k, .int .u64 (s : Int), .func (.func 79) #[] #[.pointer (some ⟨bm, 0, none⟩), .pointer (some ⟨bs, 0, none⟩)], .int .i64 (j : Int), undef, undef, undef, undef, undef, undef, undef, undef, undef, undef, undef], defers := [] }) ?hassign ?hbody ?hdone
 case hKp =>
  rintro j W W' ⟨I, hsz⟩ hg
  exact ⟨⟨I.vg.kept hg (by omega), I.cs.kept hg (fun e => by have h := Option.some.inj e; omega), I.vm.kept hg (by omega), I.vs.kept hg (fun e => by have h := Option.some.inj e; omega), I.below.grown hg I.below.size (fun g e => by have h := Option.some.inj e; omega)⟩, Nat.le_trans hsz hg.size⟩
 case hKc => exact fun j W h => ⟨h.1.vm.c0, h.1.vs.cell⟩
 case hKn =>
  rintro j W hj hbt ⟨I, hsz⟩
  refine ⟨⟨I.vg, ?_, I.vm, I.vs, I.below⟩, hsz⟩
  rw [qdm (fun h => (HT.out j hj).1 h hbt)]
  exact I.cs
 case h0 =>
  intro W1 hb hsz
  exact ⟨HI0.out.later hb, hsz⟩
 case hassign =>
  intro l j W K hK
  gi_wp2
  exact hK
 case hbody =>
  rintro l j W hj hbt ⟨I, hsz⟩
  have HI := qbq I
  have hbj : bt t j = 1 := (HT.out j hj).2 hbt
  obtain ⟨x, HX⟩ : ∃ x, Hid (t % 2 ^ j = x) := ⟨_, rfl⟩
  obtain ⟨z, HZ⟩ : ∃ z : Nat, Hid ((2 ^ j : Nat) = z) := ⟨_, rfl⟩
  obtain ⟨u, HU⟩ : ∃ u, Hid (x ||| z = u) := ⟨_, rfl⟩
  have hxr : x < 2 ^ r := by rw [← HX.out]; exact Nat.lt_of_le_of_lt (Nat.mod_le _ _) HL.out
  have hp2 : IntKind.u64.wrap (2 ^ j) = (z : Int) := by rw [← HZ.out]; exact qhe j (by omega)
  have hor : bits .or .u64 (x : Int) (z : Int) = (u : Int) := j_or7 hr hxr hj HZ.out HU.out
  have HE : Hid (t % 2 ^ (j + 1) = u) := by
   show _ = _
   rw [qey hbj, HX.out, HZ.out, HU.out]
  have HC : Hid (Cl W (w.heap.size + 1) (.int .u64 (x : Int)) 26) := by rw [← HX.out]; exact I.cs
  have c0 := HC.out.cell
  have f0 := HC.out.free
  have hj64 : j < 64 := by omega
  clear hbj hbt I hxr HX HZ HU
  have HF : Hid ((LfI w (W.setCell ⟨w.heap.size + 1, 0, none⟩ (.int .u64 (u : Int))).drew (r : Int) (c : Int) n k s t bm bs a (j + 1) ∧ w1.heap.size + 2 ≤ (W.setCell ⟨w.heap.size + 1, 0, none⟩ (.int .u64 (u : Int))).drew.heap.size) ∧ (W.setCell ⟨w.heap.size + 1, 0, none⟩ (.int .u64 (u : Int))).drew.heap[w1.heap.size]? = W.heap[w1.heap.size]? ∧ (W.setCell ⟨w.heap.size + 1, 0, none⟩ (.int .u64 (u : Int))).drew.heap[w1.heap.size + 1]? = W.heap[w1.heap.size + 1]?) := by
   have g0 := qa2 W (w.heap.size + 1) 0 (.int .u64 (u : Int))
   have gs : W.grownBy (W.setCell ⟨w.heap.size + 1, 0, none⟩ (.int .u64 (u : Int))).drew (some (w.heap.size + 1)) := ⟨g0.os, g0.tape, g0.output, g0.size, g0.block⟩
   have I := HI.out
   refine ⟨⟨⟨I.vg.kept gs (by omega), ?_, I.vm.kept gs ?_, I.vs.kept gs ?_, I.below.grown gs I.below.size (fun g e => by have h := Option.some.inj e; omega)⟩, Nat.le_trans hsz gs.size⟩, ?_, ?_⟩
   ·rw [HE.out]; exact HC.out.set _
   ·omega
   ·exact fun e => by have h := Option.some.inj e; omega
   ·exact gs.block _ (by omega) (fun e => by have h := Option.some.inj e; omega)
   ·exact gs.block _ (by omega) (fun e => by have h := Option.some.inj e; omega)
  have hmix : Try.prog.follows .mixedOrders = true := by kernel_rfl
  gi_wp2
  gi_region_o
  all_goals exact HF.out
 case hdone =>
  rintro D W hD ⟨I, hsz⟩ hdf
  have HDf := qbq hdf
  have HI := qbq I
  have HC : Hid (Cl W (w.heap.size + 1) (.int .u64 (t : Int)) 26) := by
   have h := I.cs
   rw [Nat.mod_eq_of_lt HL.out] at h
   exact h
  have c0 := HC.out.cell
  have v0 := I.vg.c0
  have v1 := I.vg.c1
  have v2 := I.vg.c2
  clear hdf I
  go_wp2_with (go_at_call 66; refine (HB.out _ HI.out.below).mono ?_; rintro e w5 ⟨rfl, hb⟩; have HD5 : Hid (w5.heap[D]? = some (.deferred (some []))) := (by rw [hb.block D (lt_of_block HDf.out)]; exact HDf.out); have HB5 : Hid (Below w.heap.size w w5) := qa1 HI.out.below hb; clear hb)
  refine ⟨by simp, .inl ⟨_, _, rfl, run_takeDeferred HD5.out, ?_⟩⟩
  refine ⟨.int .u64 (p : Int), by simp [results, Try.results45, go_sem], ?_⟩
  exact ⟨rfl, HB5.out.grown (grownBy_putObj' w5 D (.deferred none)) HB5.out.size (fun g e => by cases e; omega)⟩
open Go.RowKit Go.Shelf
attribute [local go_sem] Oper.semAt_some
theorem vsrc1_ok (w : World) (p : Nat) :
  Calls Try.prog 26 #[.int .u64 (p : Int)] w fun e w' => e = .returned (.int .u64 (p : Int)) ∧ w = w' := by
 go_enter Try.func26, Try.ntmps26
 go_wp2
 go_ret
 exact ⟨rfl, rfl⟩
theorem qjg (w : World) (r c : Int) (n k s : Nat) (a : Option Addr) (h : ¬ GenP r c n) :
  Calls Try.prog 25 #[mv r c a n k, .int .u64 (s : Int), .func (.func 26) #[] #[]] w fun e w' => e = .returned (.tuple #[.int .u64 0, .bool false, .int .i64 3]) ∧ Below w.heap.size w w' := by
 have HP : Hid (∀ w' : World, Calls Try.prog 43 #[mv r c a n k] w' fun e w'' => e = .returned (.bool false) ∧ Below w'.heap.size w' w'') := fun w' => qf3 w' r c n k a false (by simp [h])
 clear h
 go_enter Try.func25, Try.ntmps25
 go_wp2_with (go_at_call 43; refine (HP.out _).mono ?_; rintro e w1 ⟨rfl, hb⟩; have HB1 : Hid (Below w.heap.size w w1) := qa1 (qa0 _ _) hb; clear hb)
 go_ret3
 exact ⟨rfl, HB1.out⟩
theorem vif_arg (w : World) (r c n k s : Nat) (a : Option Addr) (G : GenP r c n) (hr : r ≤ 64) (hs6 : s < 18446744073709551616) (h : ¬ s < 2 ^ r) :
  Calls Try.prog 25 #[mv r c a n k, .int .u64 (s : Int), .func (.func 26) #[] #[]] w fun e w' => e = .returned (.tuple #[.int .u64 0, .bool false, .int .i64 2]) ∧ Below w.heap.size w w' := by
 have HP : Hid (∀ w' : World, Calls Try.prog 43 #[mv r c a n k] w' fun e w'' => e = .returned (.bool true) ∧ Below w'.heap.size w' w'') := fun w' => qf3 w' r c n k a true (by simp [G])
 have HR : Hid (∀ w' : World, Calls Try.prog 44 #[mv r c a n k, .int .u64 (s : Int)] w' fun e w'' => e = .returned (.bool false) ∧ Below w'.heap.size w' w'') := fun w' => by
  have h2 := qfh w' r s n k c a hr hs6
  rw [decide_eq_false h] at h2
  exact h2
 clear h G hr hs6
 go_enter Try.func25, Try.ntmps25
 go_wp2_with (first
  | (go_at_call 43; refine (HP.out _).mono ?_; rintro e w1 ⟨rfl, hb⟩; have HV1 : Hid (Vr w1 w.heap.size (.int .i64 (r : Int)) (.int .i64 (c : Int)) (.slice a n k)) := (Vr.new w _ _ _).later hb; have v0 := HV1.out.c0; have v1 := HV1.out.c1; have v2 := HV1.out.c2; have HB1 : Hid (Below w.heap.size w w1) := qa1 (qa0 _ _) hb; clear hb)
  | (go_at_call 44; refine (HR.out _).mono ?_; rintro e w2 ⟨rfl, hb⟩; have HB2 : Hid (Below w.heap.size w w2) := qa1 HB1.out hb; clear hb))
 go_ret3
 exact ⟨rfl, HB2.out⟩
theorem vif_ok (w : World) (r c n k s t p : Nat) (a : Option Addr) (F : Nat → Nat) (b : Bool) (q : Nat) (ha : Mt w a n k F) (R : Rt r c n) (G : GenP r c n) (hs : s < 2 ^ r) (ht : t < 2 ^ r) (htb : ∀ i, i < r → (bt t i = 1 ↔ ¬ bt s i = 1)) (hp : BaS (m2 F r c) r t p) (hb : b = true ↔ ¬ cn p r < c) (hq : q = if b then p else 0) :
  Calls Try.prog 25 #[mv r c a n k, .int .u64 (s : Int), .func (.func 26) #[] #[]] w fun e w' => e = .returned (.tuple #[.int .u64 (q : Int), .bool b, .int .i64 0]) ∧ Below w.heap.size w w' := by
 have hr := R.r64
 have HP : Hid (∀ w' : World, Calls Try.prog 43 #[mv r c a n k] w' fun e w'' => e = .returned (.bool true) ∧ Below w'.heap.size w' w'') := fun w' => qf3 w' r c n k a true (by simp [G])
 have HR : Hid (∀ w' : World, Calls Try.prog 44 #[mv r c a n k, .int .u64 (s : Int)] w' fun e w'' => e = .returned (.bool true) ∧ Below w'.heap.size w' w'') := fun w' => by
  have h2 := qfh w' r s n k c a hr (qbj hr hs)
  rw [decide_eq_true hs] at h2
  exact h2
 have HF : Hid (∀ w' : World, Below w.heap.size w w' → Calls Try.prog 45 #[mv r c a n k, .int .u64 (s : Int)] w' fun e w'' => e = .returned (.int .u64 (p : Int)) ∧ Below w'.heap.size w' w'') := fun w' hbl => qgo w' r c n k s t p a F (ha.later hbl) R hs ht htb hp
 obtain ⟨K, HK⟩ : ∃ K, Hid (cn p r = K) := ⟨_, rfl⟩
 have HC : Hid (∀ w' : World, Calls Try.prog 46 #[.int .u64 (p : Int)] w' fun e w'' => e = .returned (.int .i64 (K : Int)) ∧ w' = w'') := fun w' => by
  have h := qdj p w' (qbj hr hp.1)
  rw [qdk hr hp.1, HK.out] at h
  exact h
 rw [HK.out] at hb
 clear ha R G hs ht htb hp hr HK
 cases b with
 | false =>
  have hlt : (K : Int) < (c : Int) := by
   apply Classical.byContradiction
   intro h
   have := hb.2 (by omega)
   cases this
  subst hq
  clear hb
  go_enter Try.func25, Try.ntmps25
  go_wp2_with (first
   | (go_at_call 43; refine (HP.out _).mono ?_; rintro e w1 ⟨rfl, hb⟩; have HV1 : Hid (Vr w1 w.heap.size (.int .i64 (r : Int)) (.int .i64 (c : Int)) (.slice a n k)) := (Vr.new w _ _ _).later hb; have v0 := HV1.out.c0; have v1 := HV1.out.c1; have v2 := HV1.out.c2; have HB1 : Hid (Below w.heap.size w w1) := qa1 (qa0 _ _) hb; clear hb)
   | (go_at_call 44; refine (HR.out _).mono ?_; rintro e w2 ⟨rfl, hb⟩; have HV2 : Hid (Vr w2 w.heap.size (.int .i64 (r : Int)) (.int .i64 (c : Int)) (.slice a n k)) := HV1.out.later hb; have v0' := HV2.out.c0; have v1' := HV2.out.c1; have v2' := HV2.out.c2; have HB2 : Hid (Below w.heap.size w w2) := qa1 HB1.out hb; clear hb)
   | (go_at_call 45; refine (HF.out _ HB2.out).mono ?_; rintro e w3 ⟨rfl, hb⟩; have HV3 : Hid (Vr w3 w.heap.size (.int .i64 (r : Int)) (.int .i64 (c : Int)) (.slice a n k)) := HV2.out.later hb; have v1'' := HV3.out.c1; have HB3 : Hid (Below w.heap.size w w3) := qa1 HB2.out hb; clear hb))
  go_region_held3 (fun w' => w'.cell? ⟨w.heap.size, 1, none⟩ = some (.int .i64 (c : Int)))
   (first | go_keep | assumption)
   (first | (go_at_call 46; refine (HC.out _).mono ?_; rintro e w' ⟨rfl, rfl⟩))
  go_wp2
  go_ret3
  exact ⟨rfl, HB3.out.drew⟩
 | true =>
  have hlt : ¬ (K : Int) < (c : Int) := by have := hb.1 rfl; omega
  have hlt2 : decide ((K : Int) < (c : Int)) = false := decide_eq_false hlt
  subst hq
  clear hb
  go_enter Try.func25, Try.ntmps25
  go_wp2_with (first
   | (go_at_call 43; refine (HP.out _).mono ?_; rintro e w1 ⟨rfl, hb⟩; have HV1 : Hid (Vr w1 w.heap.size (.int .i64 (r : Int)) (.int .i64 (c : Int)) (.slice a n k)) := (Vr.new w _ _ _).later hb; have v0 := HV1.out.c0; have v1 := HV1.out.c1; have v2 := HV1.out.c2; have HB1 : Hid (Below w.heap.size w w1) := qa1 (qa0 _ _) hb; clear hb)
   | (go_at_call 44; refine (HR.out _).mono ?_; rintro e w2 ⟨rfl, hb⟩; have HV2 : Hid (Vr w2 w.heap.size (.int .i64 (r : Int)) (.int .i64 (c : Int)) (.slice a n k)) := HV1.out.later hb; have v0' := HV2.out.c0; have v1' := HV2.out.c1; have v2' := HV2.out.c2; have HB2 : Hid (Below w.heap.size w w2) := qa1 HB1.out hb; clear hb)
   | (go_at_call 45; refine (HF.out _ HB2.out).mono ?_; rintro e w3 ⟨rfl, hb⟩; have HV3 : Hid (Vr w3 w.heap.size (.int .i64 (r : Int)) (.int .i64 (c : Int)) (.slice a n k)) := HV2.out.later hb; have v1'' := HV3.out.c1; have HB3 : Hid (Below w.heap.size w w3) := qa1 HB2.out hb; clear hb))
  go_region_held3 (fun w' => w'.cell? ⟨w.heap.size, 1, none⟩ = some (.int .i64 (c : Int)))
   (first | go_keep | assumption)
   (first | (go_at_call 46; refine (HC.out _).mono ?_; rintro e w' ⟨rfl, rfl⟩))
  go_wp2_with (go_at_call 26; refine (vsrc1_ok _ _).mono ?_; rintro e w' ⟨rfl, rfl⟩)
  go_ret3
  exact ⟨rfl, HB3.out.drew⟩
theorem vsrc_of (w : World) (r c E : Int) (n k s q : Nat) (a : Option Addr) (b : Bool)
  (HL : Hid (∀ w' : World, Below w.heap.size w w' → Calls Try.prog 25 #[mv r c a n k, .int .u64 (s : Int), .func (.func 26) #[] #[]] w' fun e w'' => e = .returned (.tuple #[.int .u64 (q : Int), .bool b, .int .i64 E]) ∧ Below w'.heap.size w' w'')) :
  Calls Try.prog 9 #[mv r c a n k, .int .u64 (s : Int)] w fun e w' => e = .returned (.tuple #[.int .u64 (q : Int), .bool b, .int .i64 E]) ∧ Below w.heap.size w w' := by
 go_enter Try.func9, Try.ntmps9
 go_wp2_with (go_at_call 25; refine (HL.out _ (qa0 _ _)).mono ?_; rintro e w1 ⟨rfl, hb⟩; have HB1 : Hid (Below w.heap.size w w1) := qa1 (qa0 _ _) hb; clear hb)
 go_ret3
 exact ⟨rfl, HB1.out⟩
theorem vrec_of (w : World) (r c E : Int) (n k s q : Nat) (a : Option Addr) (b : Bool)
  (HL : Hid (∀ w' : World, Below w.heap.size w w' → Calls Try.prog 9 #[mv r c a n k, .int .u64 (s : Int)] w' fun e w'' => e = .returned (.tuple #[.int .u64 (q : Int), .bool b, .int .i64 E]) ∧ Below w'.heap.size w' w'')) :
  Calls Try.prog 7 #[mv r c a n k, .int .u64 (s : Int)] w fun e w' => e = .returned (.tuple #[.bool b, .int .i64 E]) ∧ Below w.heap.size w w' := by
 go_enter Try.func7, Try.ntmps7
 go_wp2_with (go_at_call 9; refine (HL.out _ (qa0 _ _)).mono ?_; rintro e w1 ⟨rfl, hb⟩; have HB1 : Hid (Below w.heap.size w w1) := qa1 (qa0 _ _) hb; clear hb)
 go_ret2
 exact ⟨rfl, HB1.out⟩
end Go.Proofs.Ytokdejhbjoglcaa
