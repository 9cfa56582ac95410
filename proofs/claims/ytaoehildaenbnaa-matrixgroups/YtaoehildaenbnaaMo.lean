/-
  The program's answers and the reference's, told alike: for each function what both answer.
-/
import Derived.Test.YtaoehildaenbnaaMn
namespace Go.Proofs.Ytaoehildaenbnaa
open Go.RowKit
/-- A matrix and an error are answered. -/
def MAns (w w' : World) (e : Ending) (R C : Int) (N : Nat) (f : Nat → Nat) (E : Int) : Prop := ∃ s d, e = .returned (.tuple #[mv R C s N d, .int .i64 E]) ∧ Mt w' s N d f ∧ Below w.heap.size w w'
/-- A list and an error are answered. -/
def LAns (w w' : World) (e : Ending) (N : Nat) (f : Nat → Nat) (E : Int) : Prop := ∃ s d, e = .returned (.tuple #[.slice s N d, .int .i64 E]) ∧ Mt w' s N d f ∧ Below w.heap.size w w'
theorem mans_row {w w' : World} {e : Ending} {R C E : Int} {N : Nat} {f : Nat → Nat} (hf : ∀ i, i < N → f i < 256) (h : ∃ g, e = .returned (.tuple #[mv R C (some ⟨g, 0, none⟩) N N, .int .i64 E]) ∧ RowAt w' g 5 N f ∧ w.heap.size ≤ g ∧ Below w.heap.size w w') : MAns w w' e R C N f E := by
  obtain ⟨g, he, hr, _, hb⟩ := h
  exact ⟨_, _, he, hr.mt hf, hb⟩
theorem own_mt {w : World} {base n d : Nat} {s : Option Addr} {f : Nat → Nat} (h : w.ownsRow base 5 1 (.slice s n d) n (row n f).toList) (hf : ∀ i, i < n → f i < 256) : Mt w s n d f := by
  refine ⟨own_sl2 h hf, ?_, own_none h⟩
  rcases h.2 with ⟨e, h0⟩ | ⟨g, cap, cur, e, _, _, hc, _⟩
  · cases e; omega
  · cases e; omega
theorem mans_own {w w' : World} {e : Ending} {R C E : Int} {N : Nat} {f : Nat → Nat} (hf : ∀ i, i < N → f i < 256) (h : ∃ s d, e = .returned (.tuple #[mv R C s N d, .int .i64 E]) ∧ w'.ownsRow w.heap.size 5 1 (.slice s N d) N (row N f).toList ∧ Below w.heap.size w w') : MAns w w' e R C N f E := by
  obtain ⟨s, d, he, ho, hb⟩ := h
  exact ⟨s, d, he, own_mt ho hf, hb⟩
theorem mans_bad {w w' : World} {e : Ending} {E : Int} (h : e = .returned (.tuple #[mv 0 0 none 0 0, .int .i64 E]) ∧ Below w.heap.size w w') : MAns w w' e 0 0 0 (fun _ => 0) E := ⟨none, 0, h.1, Mt.none _ _, h.2⟩
theorem lans_row {w w' : World} {e : Ending} {E : Int} {N : Nat} {f : Nat → Nat} (hf : ∀ i, i < N → f i < 256) (h : ∃ g, e = .returned (.tuple #[.slice (some ⟨g, 0, none⟩) N N, .int .i64 E]) ∧ RowAt w' g 5 N f ∧ w.heap.size ≤ g ∧ Below w.heap.size w w') : LAns w w' e N f E := by
  obtain ⟨g, he, hr, _, hb⟩ := h
  exact ⟨_, _, he, hr.mt hf, hb⟩
theorem lans_own {w w' : World} {e : Ending} {E : Int} {N : Nat} {f : Nat → Nat} (hf : ∀ i, i < N → f i < 256) (h : ∃ v, e = .returned (.tuple #[v, .int .i64 E]) ∧ w'.ownsRow w.heap.size 5 1 v N (row N f).toList ∧ Below w.heap.size w w') : LAns w w' e N f E := by
  obtain ⟨v, he, ho, hb⟩ := h
  obtain ⟨s, d, rfl, _, _⟩ := own_sl' ho
  exact ⟨s, d, he, own_mt ho hf, hb⟩
theorem lans_bad {w w' : World} {e : Ending} {E : Int} (h : e = .returned (.tuple #[.slice none 0 0, .int .i64 E]) ∧ Below w.heap.size w w') : LAns w w' e 0 (fun _ => 0) E := ⟨none, 0, h.1, Mt.none _ _, h.2⟩
theorem hid_of {p : Prop} (h : p) : Hid p := h
theorem like_self (R C E : Int) (N : Nat) (f : Nat → Nat) : ((E == E) && likeB R C R C N N f f) = true := by rw [likeB_true (fun _ _ => rfl)]; simp
theorem prk_all {F : Nat → Nat} (G : Nat → Nat) {ra ca cb na n : Nat} (hF : ∀ i, i < na → F i < 256) (RA : Rt ra ca na) (RC : Rt ra cb n) : ∀ p, p < n → prk F G ca cb ca p < 256 := by
  intro p hp
  rw [← RC.len] at hp
  have hc : 0 < cb := by
    rcases Nat.eq_zero_or_pos cb with rfl | h
    · omega
    · exact h
  have e := Nat.div_add_mod p cb
  rw [Nat.mul_comm] at e
  rw [← e]
  exact prk_lt G hF RA ((Nat.div_lt_iff_lt_mul hc).2 hp) (Nat.mod_lt p hc) (Nat.le_refl _)
theorem mul_pair (r c r' c' : Int) (n m : Nat) (F G : Nat → Nat) (hF : ∀ i, i < n → F i < 256) : ∃ (R C : Int) (N : Nat) (f : Nat → Nat) (E : Int), ∀ (w : World) (k d : Nat) (a b : Option Addr), Mt w a n k F → Mt w b m d G →
    Calls Try.prog 23 #[mv r c a n k, mv r' c' b m d] w (fun e w' => MAns w w' e R C N f E) ∧ Calls Try.prog 24 #[mv r c a n k, mv r' c' b m d] w (fun e w' => MAns w w' e R C N f E) := by
  by_cases h : FitP r c n r' c' m
  · obtain ⟨h1, h2, h3⟩ := h
    obtain ⟨ra, ca, rfl, rfl, RA⟩ := right_rt h1
    obtain ⟨rb, cb, rfl, rfl, RB⟩ := right_rt h2
    obtain rfl : ca = rb := by omega
    have RC : Rt ra cb (ra * cb) := ⟨RA.r64, RB.c64, rfl⟩
    have hf := prk_all G hF RA RC
    exact ⟨_, _, _, _, _, fun w k d a b ha hb => ⟨(mmul_ok w ra ca cb n m _ k d a b F G ha hb RA RB RC).mono (fun _ _ h => mans_row hf h), (rmmul_ok w ra ca cb n m _ k d a b F G ha.sl hb.sl RA RB RC).mono (fun _ _ h => mans_row hf h)⟩⟩
  · exact ⟨_, _, _, _, _, fun w k d a b _ _ => ⟨(mmul_bad w r c r' c' n k m d a b h).mono (fun _ _ h => mans_bad h), (rmmul_bad w r c r' c' n k m d a b h).mono (fun _ _ h => mans_bad h)⟩⟩
theorem apf_lt {F : Nat → Nat} (X : Nat → Nat) {r c n : Nat} (hF : ∀ i, i < n → F i < 256) (R : Rt r c n) : ∀ i, i < r → apf F X c i < 256 := fun _ hi => xs_lt fun _ ht => fm_lt _ _ (hF _ (R.at hi ht))
theorem apply_pair (r c : Int) (n m : Nat) (F X : Nat → Nat) (hF : ∀ i, i < n → F i < 256) : ∃ (N : Nat) (f : Nat → Nat) (E : Int), ∀ (w : World) (k d : Nat) (a b : Option Addr), Mt w a n k F → Sl w b m X →
    Calls Try.prog 25 #[mv r c a n k, .slice b m d] w (fun e w' => LAns w w' e N f E) ∧ Calls Try.prog 26 #[mv r c a n k, .slice b m d] w (fun e w' => LAns w w' e N f E) := by
  by_cases h : RightP r c n ∧ (m : Int) = c
  · obtain ⟨h1, h2⟩ := h
    obtain ⟨ra, ca, rfl, rfl, RA⟩ := right_rt h1
    obtain rfl : m = ca := by omega
    have hf := apf_lt X hF RA
    exact ⟨_, _, _, fun w k d a b ha hb => ⟨(mapply_ok w ra m n k d a b F X ha hb RA).mono (fun _ _ h => lans_row hf h), (rapply_ok w ra m n k d a b F X ha.sl hb RA).mono (fun _ _ h => lans_row hf h)⟩⟩
  · exact ⟨_, _, _, fun w k d a b _ _ => ⟨(mapply_bad w r c n k m d a b h).mono (fun _ _ h => lans_bad h), (rapply_bad w r c n k m d a b h).mono (fun _ _ h => lans_bad h)⟩⟩
theorem trf_all {F : Nat → Nat} {r c n : Nat} (hF : ∀ i, i < n → F i < 256) (R : Rt r c n) : ∀ p, p < n → trf F r c p < 256 := by
  intro p hp
  have hl := R.len
  have hr : 0 < r := by
    rcases Nat.eq_zero_or_pos r with rfl | h
    · omega
    · exact h
  unfold trf
  exact hF _ (R.at (Nat.mod_lt p hr) ((Nat.div_lt_iff_lt_mul hr).2 (by rw [Nat.mul_comm, hl]; exact hp)))
theorem trans_pair (r c : Int) (n : Nat) (F : Nat → Nat) (hF : ∀ i, i < n → F i < 256) : ∃ (R C : Int) (N : Nat) (f : Nat → Nat) (E : Int), ∀ (w : World) (k : Nat) (a : Option Addr), Mt w a n k F →
    Calls Try.prog 27 #[mv r c a n k] w (fun e w' => MAns w w' e R C N f E) ∧ Calls Try.prog 28 #[mv r c a n k] w (fun e w' => MAns w w' e R C N f E) := by
  by_cases h : RightP r c n
  · obtain ⟨ra, ca, rfl, rfl, RA⟩ := right_rt h
    have hf := trf_all hF RA
    exact ⟨_, _, _, _, _, fun w k a ha => ⟨(mtrans_ok w ra ca n k a F ha RA).mono (fun _ _ h => mans_row hf h), (rtrans_ok w ra ca n k a F ha.sl RA).mono (fun _ _ h => mans_own hf h)⟩⟩
  · exact ⟨_, _, _, _, _, fun w k a _ => ⟨(mtrans_bad w r c n k a h).mono (fun _ _ h => mans_bad h), (rtrans_bad w r c n k a h).mono (fun _ _ h => mans_bad h)⟩⟩
theorem stf_all {F G : Nat → Nat} {n m : Nat} (hF : ∀ i, i < n → F i < 256) (hG : ∀ i, i < m → G i < 256) : ∀ p, p < n + m → stf F G n p < 256 := by
  intro p hp
  unfold stf
  by_cases h : p < n
  · rw [if_pos h]; exact hF p h
  · rw [if_neg h]; exact hG _ (by omega)
theorem stack_pair (r c r' c' : Int) (n m : Nat) (F G : Nat → Nat) (hF : ∀ i, i < n → F i < 256) (hG : ∀ i, i < m → G i < 256) : ∃ (R C : Int) (N : Nat) (f : Nat → Nat) (E : Int), ∀ (w : World) (k d : Nat) (a b : Option Addr), Mt w a n k F → Mt w b m d G →
    Calls Try.prog 29 #[mv r c a n k, mv r' c' b m d] w (fun e w' => MAns w w' e R C N f E) ∧ Calls Try.prog 30 #[mv r c a n k, mv r' c' b m d] w (fun e w' => MAns w w' e R C N f E) := by
  by_cases h : RightP r c n ∧ RightP r' c' m ∧ c = c'
  · obtain ⟨h1, h2, h3⟩ := h
    obtain ⟨ra, ca, rfl, rfl, RA⟩ := right_rt h1
    obtain ⟨rb, cb, rfl, rfl, RB⟩ := right_rt h2
    obtain rfl : ca = cb := by omega
    by_cases hl : 64 < ra + rb
    · exact ⟨_, _, _, _, _, fun w k d a b _ _ => ⟨(mstack_limit w ra ca rb n m _ k d a b RA RB rfl hl).mono (fun _ _ h => mans_bad h), (rstack_limit w ra ca rb n m _ k d a b RA RB rfl hl).mono (fun _ _ h => mans_bad h)⟩⟩
    · have hf := stf_all hF hG
      have ln := RA.le
      exact ⟨_, _, _, _, _, fun w k d a b ha hb => ⟨(mstack_ok w ra rb ca n m _ (n + m) k d a b F G ha hb RA RB rfl (by omega) rfl).mono (fun _ _ h => mans_row hf h), (rstack_ok w ra rb ca n m _ k d a b F G ha.sl (by omega) ha.nil hb.sl hb.nil RA RB rfl (by omega)).mono (fun _ _ h => mans_own hf h)⟩⟩
  · exact ⟨_, _, _, _, _, fun w k d a b _ _ => ⟨(mstack_bad w r c r' c' n k m d a b h).mono (fun _ _ h => mans_bad h), (rstack_bad w r c r' c' n k m d a b h).mono (fun _ _ h => mans_bad h)⟩⟩
theorem krf_all {F : Nat → Nat} (G : Nat → Nat) {ra ca rb cb na RR CC n : Nat} (hF : ∀ i, i < na → F i < 256) (RA : Rt ra ca na) (eR : ra * rb = RR) (eC : ca * cb = CC) (RC : Rt RR CC n) : ∀ p, p < n → krf F G ca rb cb CC p < 256 := by
  intro p hp
  rw [← RC.len, ← eR] at hp
  have hC : 0 < CC := by
    rcases Nat.eq_zero_or_pos CC with rfl | h
    · omega
    · exact h
  have hq : p / CC < ra * rb := (Nat.div_lt_iff_lt_mul hC).2 hp
  have hrb : 0 < rb := by
    rcases Nat.eq_zero_or_pos rb with rfl | h
    · omega
    · exact h
  have hcb : 0 < cb := by
    rcases Nat.eq_zero_or_pos cb with rfl | h
    · omega
    · exact h
  unfold krf
  refine fm_lt _ _ (hF _ (RA.at ((Nat.div_lt_iff_lt_mul hrb).2 hq) ((Nat.div_lt_iff_lt_mul hcb).2 ?_)))
  rw [eC]
  exact Nat.mod_lt p hC
theorem kron_pair (r c r' c' : Int) (n m : Nat) (F G : Nat → Nat) (hF : ∀ i, i < n → F i < 256) : ∃ (R C : Int) (N : Nat) (f : Nat → Nat) (E : Int), ∀ (w : World) (k d : Nat) (a b : Option Addr), Mt w a n k F → Mt w b m d G →
    Calls Try.prog 31 #[mv r c a n k, mv r' c' b m d] w (fun e w' => MAns w w' e R C N f E) ∧ Calls Try.prog 32 #[mv r c a n k, mv r' c' b m d] w (fun e w' => MAns w w' e R C N f E) := by
  by_cases h : RightP r c n ∧ RightP r' c' m
  · obtain ⟨h1, h2⟩ := h
    obtain ⟨ra, ca, rfl, rfl, RA⟩ := right_rt h1
    obtain ⟨rb, cb, rfl, rfl, RB⟩ := right_rt h2
    by_cases hl : 64 < ra * rb ∨ 64 < ca * cb
    · exact ⟨_, _, _, _, _, fun w k d a b _ _ => ⟨(mkron_limit w ra ca rb cb n m _ _ k d a b RA RB rfl rfl hl).mono (fun _ _ h => mans_bad h), (rkron_limit w ra ca rb cb n m _ _ k d a b RA RB rfl rfl hl).mono (fun _ _ h => mans_bad h)⟩⟩
    · have RC : Rt (ra * rb) (ca * cb) (ra * rb * (ca * cb)) := ⟨by omega, by omega, rfl⟩
      have hf := krf_all G hF RA rfl rfl RC
      exact ⟨_, _, _, _, _, fun w k d a b ha hb => ⟨(mkron_ok w ra ca rb cb n m _ _ _ k d a b F G ha hb RA RB rfl rfl RC).mono (fun _ _ h => mans_row hf h), (rkron_ok w ra ca rb cb n m _ _ _ k d a b F G ha.sl hb.sl RA RB rfl rfl RC).mono (fun _ _ h => mans_row hf h)⟩⟩
  · exact ⟨_, _, _, _, _, fun w k d a b _ _ => ⟨(mkron_bad w r c r' c' n k m d a b h).mono (fun _ _ h => mans_bad h), (rkron_bad w r c r' c' n k m d a b h).mono (fun _ _ h => mans_bad h)⟩⟩
theorem pick_pair (r c : Int) (n m : Nat) (F : Nat → Nat) (q : Nat → Int) (hF : ∀ i, i < n → F i < 256) (hm : m ≤ 140737488351232) : ∃ (R C : Int) (N : Nat) (f : Nat → Nat) (E : Int), ∀ (w : World) (k d : Nat) (a b : Option Addr), Mt w a n k F → Il w b m q →
    Calls Try.prog 33 #[mv r c a n k, .slice b m d] w (fun e w' => MAns w w' e R C N f E) ∧ Calls Try.prog 34 #[mv r c a n k, .slice b m d] w (fun e w' => MAns w w' e R C N f E) := by
  by_cases h : RightP r c n
  · obtain ⟨ra, ca, rfl, rfl, RA⟩ := right_rt h
    rcases first_bad (fun i => 0 ≤ q i ∧ q i < ra) m with hin | ⟨t, ht, hin, hbad⟩
    · by_cases hl : 64 < m
      · exact ⟨_, _, _, _, _, fun w k d a b _ hb => ⟨(mpick_limit w ra ca n k m d a b q RA hm hb hin hl).mono (fun _ _ h => mans_bad h), (rpick_limit w ra ca n k m d a b q RA hm hb hin hl).mono (fun _ _ h => mans_bad h)⟩⟩
      · have hz : ∀ i, i < m → (q i).toNat < ra := fun i hi => by have := hin i hi; omega
        have hf : ∀ p, p < m * ca → pkf F (fun i => (q i).toNat) ca p < 256 := fun p hp => pkf_lt hF RA hz p hp
        refine ⟨(m : Int), (ca : Int), m * ca, pkf F (fun i => (q i).toNat) ca, 0, fun w k d a b ha hb => ?_⟩
        have hb' : Il w b m (fun i => (((q i).toNat : Nat) : Int)) := fun i hi => by
          obtain ⟨x, o, e, hc⟩ := hb i hi
          exact ⟨x, o, e, by show w.cell? _ = some (.int .i64 (((q i).toNat : Nat) : Int)); rw [Int.toNat_of_nonneg (hin i hi).1]; exact hc⟩
        exact ⟨(mpick_ok w ra ca n k m d _ a b F _ ha RA hb' hz (by omega) rfl).mono (fun _ _ h => mans_row hf h), (rpick_ok w ra ca n k m d _ a b F _ ha.sl RA hb' hz (by omega) rfl).mono (fun _ _ h => mans_own hf h)⟩
    · exact ⟨_, _, _, _, _, fun w k d a b _ hb => ⟨(mpick_arg w ra ca n k m d t a b q RA hm hb ht hin hbad).mono (fun _ _ h => mans_bad h), (rpick_arg w ra ca n k m d t a b q RA hm hb ht hin hbad).mono (fun _ _ h => mans_bad h)⟩⟩
  · exact ⟨_, _, _, _, _, fun w k d a b _ _ => ⟨(mpick_shape w r c n k m d a b h).mono (fun _ _ h => mans_bad h), (rpick_shape w r c n k m d a b h).mono (fun _ _ h => mans_bad h)⟩⟩
theorem make_pair (r c : Int) : ∃ (R C : Int) (N : Nat) (f : Nat → Nat) (E : Int), ∀ (w : World),
    Calls Try.prog 9 #[.int .i64 r, .int .i64 c] w (fun e w' => MAns w w' e R C N f E) ∧ Calls Try.prog 10 #[.int .i64 r, .int .i64 c] w (fun e w' => MAns w w' e R C N f E) := by
  by_cases h : SideP r c
  · obtain ⟨h1, h2, h3, h4⟩ := h
    obtain ⟨ra, rfl⟩ := Int.eq_ofNat_of_zero_le h1
    obtain ⟨ca, rfl⟩ := Int.eq_ofNat_of_zero_le h3
    exact ⟨_, _, _, _, _, fun w => ⟨(mmake_ok w ra ca _ (by omega) (by omega) rfl).mono (fun _ _ h => mans_row (fun _ _ => by decide) h), (rmake_ok w ra ca _ (by omega) (by omega) rfl).mono (fun _ _ h => mans_row (fun _ _ => by decide) h)⟩⟩
  · exact ⟨_, _, _, _, _, fun w => ⟨(mmake_bad w r c h).mono (fun _ _ h => mans_bad h), (rmake_bad w r c h).mono (fun _ _ h => mans_bad h)⟩⟩
theorem ident_pair (n : Int) : ∃ (R C : Int) (N : Nat) (f : Nat → Nat) (E : Int), ∀ (w : World),
    Calls Try.prog 11 #[.int .i64 n] w (fun e w' => MAns w w' e R C N f E) ∧ Calls Try.prog 12 #[.int .i64 n] w (fun e w' => MAns w w' e R C N f E) := by
  by_cases h : 0 ≤ n ∧ n ≤ 64
  · obtain ⟨ra, rfl⟩ := Int.eq_ofNat_of_zero_le h.1
    exact ⟨_, _, _, _, _, fun w => ⟨(mident_ok w ra _ (by omega) rfl).mono (fun _ _ h => mans_row (fun p _ => idf_lt ra p) h), (rident_ok w ra _ (by omega) rfl).mono (fun _ _ h => mans_row (fun p _ => idf_lt ra p) h)⟩⟩
  · exact ⟨_, _, _, _, _, fun w => ⟨(mident_bad w n h).mono (fun _ _ h => mans_bad h), (rident_bad w n h).mono (fun _ _ h => mans_bad h)⟩⟩
theorem right_pair (r c : Int) (n : Nat) : ∃ x : Bool, ∀ (w : World) (k : Nat) (a : Option Addr),
    Calls Try.prog 13 #[mv r c a n k] w (fun e w' => e = .returned (.bool x) ∧ Below w.heap.size w w') ∧ Calls Try.prog 14 #[mv r c a n k] w (fun e w' => e = .returned (.bool x) ∧ Below w.heap.size w w') := by
  by_cases h : RightP r c n
  · exact ⟨true, fun w k a => ⟨mright_yes w r c a n k h, right_yes w r c a n k h⟩⟩
  · exact ⟨false, fun w k a => ⟨mright_no w r c a n k h, right_no w r c a n k h⟩⟩
theorem row_pair (r c i : Int) (n : Nat) (F : Nat → Nat) (hF : ∀ i, i < n → F i < 256) : ∃ (N : Nat) (f : Nat → Nat) (E : Int), ∀ (w : World) (k : Nat) (a : Option Addr), Mt w a n k F →
    Calls Try.prog 18 #[mv r c a n k, .int .i64 i] w (fun e w' => LAns w w' e N f E) ∧ Calls Try.prog 19 #[mv r c a n k, .int .i64 i] w (fun e w' => LAns w w' e N f E) := by
  by_cases h : RightP r c n
  · obtain ⟨ra, ca, rfl, rfl, RA⟩ := right_rt h
    by_cases hi : 0 ≤ i ∧ i < ra
    · obtain ⟨j, rfl⟩ := Int.eq_ofNat_of_zero_le hi.1
      have hj : j < ra := by omega
      have hf : ∀ t, t < ca → F (j * ca + t) < 256 := fun t ht => hF _ (RA.at hj ht)
      exact ⟨_, _, _, fun w k a ha => ⟨(mrow_ok w ra ca n k j a F ha RA hj).mono (fun _ _ h => lans_own hf h), (rrow_ok w ra ca n k j a F ha.sl RA hj).mono (fun _ _ h => lans_own hf h)⟩⟩
    · exact ⟨_, _, _, fun w k a _ => ⟨(mrow_arg w ra ca n k i a RA hi).mono (fun _ _ h => lans_bad h), (rrow_arg w ra ca n k i a RA hi).mono (fun _ _ h => lans_bad h)⟩⟩
  · exact ⟨_, _, _, fun w k a _ => ⟨(mrow_shape w r c i n k a h).mono (fun _ _ h => lans_bad h), (rrow_shape w r c i n k a h).mono (fun _ _ h => lans_bad h)⟩⟩
theorem same_pair (r c r' c' : Int) (n m : Nat) (F G : Nat → Nat) : ∃ x : Bool, ∀ (w : World) (k d : Nat) (a b : Option Addr), Sl w a n F → Sl w b m G →
    Calls Try.prog 21 #[mv r c a n k, mv r' c' b m d] w (fun e w' => e = .returned (.bool x) ∧ Below w.heap.size w w') ∧ Calls Try.prog 22 #[mv r c a n k, mv r' c' b m d] w (fun e w' => e = .returned (.bool x) ∧ Below w.heap.size w w') := by
  by_cases h : RightP r c n ∧ RightP r' c' m
  · exact ⟨_, fun w k d a b ha hb => ⟨msame_yes w r c r' c' a b n m k d F G ha hb h.1 h.2, same3_yes w r c r' c' a b n m k d F G ha hb h.1 h.2⟩⟩
  · exact ⟨_, fun w k d a b _ _ => ⟨msame_no w r c r' c' a b n m k d h, same3_no w r c r' c' a b n m k d h⟩⟩
theorem self_pair (r c : Int) (n : Nat) (F : Nat → Nat) : ∃ x : Bool, ∀ (w : World) (k : Nat) (a : Option Addr), Sl w a n F →
    Calls Try.prog 21 #[mv r c a n k, mv r c a n k] w (fun e w' => e = .returned (.bool x) ∧ Below w.heap.size w w') ∧ Calls Try.prog 14 #[mv r c a n k] w (fun e w' => e = .returned (.bool x) ∧ Below w.heap.size w w') := by
  by_cases h : RightP r c n
  · refine ⟨true, fun w k a ha => ⟨?_, right_yes w r c a n k h⟩⟩
    have := msame_yes w r c r c a a n n k k F F ha ha h h
    rw [likeB_true (fun _ _ => rfl)] at this
    exact this
  · exact ⟨false, fun w k a _ => ⟨msame_no w r c r c a a n n k k (fun x => h x.1), right_no w r c a n k h⟩⟩
theorem off_all {f : Nat → Nat → Nat} {m c : Nat} (hf : ∀ i j, i < m → j < c → f i j < 256) : ∀ p, p < m * c → off f c p < 256 := by
  intro p hp
  have hc : 0 < c := by
    rcases Nat.eq_zero_or_pos c with rfl | h
    · omega
    · exact h
  exact hf _ _ ((Nat.div_lt_iff_lt_mul hc).2 hp) (Nat.mod_lt p hc)
theorem of_pair (m : Nat) (A : Nat → Option Addr) (L C : Nat → Nat) (f : Nat → Nat → Nat) (hm : m ≤ 140737488351232) (hL : ∀ i, i < m → L i ≤ 140737488351232) (hf : ∀ i j, i < m → j < L i → f i j < 256) : ∃ (R K : Int) (N : Nat) (g : Nat → Nat) (E : Int), ∀ (w : World) (d : Nat) (b : Option Addr), Rl w b m A L C f →
    Calls Try.prog 16 #[.slice b m d] w (fun e w' => MAns w w' e R K N g E) ∧ Calls Try.prog 17 #[.slice b m d] w (fun e w' => MAns w w' e R K N g E) := by
  by_cases h0 : m = 0
  · subst h0
    exact ⟨0, 0, 0, fun _ => 0, 0, fun w d b _ => ⟨(mof_zero w d b (fun _ => 0)).mono (fun _ _ h => mans_row (fun _ _ => by decide) h), (rof_zero w d b (fun _ => 0)).mono (fun _ _ h => mans_own (fun _ _ => by decide) h)⟩⟩
  · rcases first_bad (fun i => L i = L 0) m with hin | ⟨t, ht, hin, hbad⟩
    · by_cases h8 : 64 < m ∨ 64 < L 0
      · exact ⟨_, _, _, _, _, fun w d b hb => ⟨(mof_limit w m (L 0) d b A L C f hb hin hm (hL 0 (by omega)) (by omega) h8).mono (fun _ _ h => mans_bad h), (rof_limit w m (L 0) d b A L C f hb hin hm (hL 0 (by omega)) (by omega) h8).mono (fun _ _ h => mans_bad h)⟩⟩
      · have hg : ∀ p, p < m * L 0 → off f (L 0) p < 256 := off_all (fun i j hi hj => hf i j hi (by rw [hin i hi]; exact hj))
        exact ⟨_, _, _, _, _, fun w d b hb => ⟨(mof_pos w m (L 0) d _ b A L C f hb hin (by omega) (by omega) (by omega) rfl).mono (fun _ _ h => mans_row hg h), (rof_pos w m (L 0) d _ b A L C f hb hin (by omega) (by omega) (by omega) rfl).mono (fun _ _ h => mans_own hg h)⟩⟩
    · exact ⟨_, _, _, _, _, fun w d b hb => ⟨(mof_shape w m d t b A L C f hb hm hL ht hin hbad).mono (fun _ _ h => mans_bad h), (rof_shape w m d t b A L C f hb hm hL ht hin hbad).mono (fun _ _ h => mans_bad h)⟩⟩
end Go.Proofs.Ytaoehildaenbnaa
