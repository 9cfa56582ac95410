/-
  The program's answers and the reference's, told alike: for each function what both answer.
-/
import Derived.Test.YtaoehildaenbnabMn
namespace Go.Proofs.Ytaoehildaenbnab
open Go.RowKit
/-- A matrix and an error are answered. -/
def MAns (w w' : World) (e : Ending) (R C : Int) (N : Nat) (f : Nat → Nat) (E : Int) : Prop := ∃ s d, e = .returned (.tuple #[mv R C s N d, .int .i64 E]) ∧ Mt w' s N d f ∧ Below w.heap.size w w'
/-- A list and an error are answered. -/
def LAns (w w' : World) (e : Ending) (N : Nat) (f : Nat → Nat) (E : Int) : Prop := ∃ s d, e = .returned (.tuple #[.slice s N d, .int .i64 E]) ∧ Mt w' s N d f ∧ Below w.heap.size w w'
theorem mans_row {w w' : World} {e : Ending} {R C E : Int} {N : Nat} {f : Nat → Nat} (hf : ∀ i, i < N → f i < 256) (h : ∃ g, e = .returned (.tuple #[mv R C (some ⟨g, 0, none⟩) N N, .int .i64 E]) ∧ RowAt w' g 5 N f ∧ w.heap.size ≤ g ∧ Below w.heap.size w w') : MAns w w' e R C N f E := by
  obtain ⟨g, he, hr, _, hb⟩ := h
  exact ⟨_, _, he, hr.mt hf, hb⟩
theorem own_mt {w : World} {base n d : Nat} {s : Option Addr} {f : Nat → Nat} (h : w.ownsRow base 5 1 (.slice s n d) n (row n f).toList) (hf : ∀ i, i < n → f i < 256) : Mt w s n d f := by
  refine ⟨own_sl2 h hf, ?_, own_none h⟩
  rcases h.2 with ⟨e, h0⟩ | ⟨g, cap, cur, e, _, _, hc, _⟩
  · cases e; omega
  · cases e; omega
theorem mans_own {w w' : World} {e : Ending} {R C E : Int} {N : Nat} {f : Nat → Nat} (hf : ∀ i, i < N → f i < 256) (h : ∃ s d, e = .returned (.tuple #[mv R C s N d, .int .i64 E]) ∧ w'.ownsRow w.heap.size 5 1 (.slice s N d) N (row N f).toList ∧ Below w.heap.size w w') : MAns w w' e R C N f E := by
  obtain ⟨s, d, he, ho, hb⟩ := h
  exact ⟨s, d, he, own_mt ho hf, hb⟩
theorem mans_bad {w w' : World} {e : Ending} {E : Int} (h : e = .returned (.tuple #[mv 0 0 none 0 0, .int .i64 E]) ∧ Below w.heap.size w w') : MAns w w' e 0 0 0 (fun _ => 0) E := ⟨none, 0, h.1, Mt.none _ _, h.2⟩
theorem lans_row {w w' : World} {e : Ending} {E : Int} {N : Nat} {f : Nat → Nat} (hf : ∀ i, i < N → f i < 256) (h : ∃ g, e = .returned (.tuple #[.slice (some ⟨g, 0, none⟩) N N, .int .i64 E]) ∧ RowAt w' g 5 N f ∧ w.heap.size ≤ g ∧ Below w.heap.size w w') : LAns w w' e N f E := by
  obtain ⟨g, he, hr, _, hb⟩ := h
  exact ⟨_, _, he, hr.mt hf, hb⟩
theorem lans_own {w w' : World} {e : Ending} {E : Int} {N : Nat} {f : Nat → Nat} (hf : ∀ i, i < N → f i < 256) (h : ∃ v, e = .returned (.tuple #[v, .int .i64 E]) ∧ w'.ownsRow w.heap.size 5 1 v N (row N f).toList ∧ Below w.heap.size w w') : LAns w w' e N f E := by
  obtain ⟨v, he, ho, hb⟩ := h
  obtain ⟨s, d, rfl, _, _⟩ := own_sl' ho
  exact ⟨s, d, he, own_mt ho hf, hb⟩
theorem lans_bad {w w' : World} {e : Ending} {E : Int} (h : e = .returned (.tuple #[.slice none 0 0, .int .i64 E]) ∧ Below w.heap.size w w') : LAns w w' e 0 (fun _ => 0) E := ⟨none, 0, h.1, Mt.none _ _, h.2⟩
theorem hid_of {p : Prop} (h : p) : Hid p := h
theorem like_self (R C E : Int) (N : Nat) (f : Nat → Nat) : ((E == E) && likeB R C R C N N f f) = true := by rw [likeB_true (fun _ _ => rfl)]; simp
theorem prk_all {F : Nat → Nat} (G : Nat → Nat) {ra ca cb na n : Nat} (hF : ∀ i, i < na → F i < 256) (RA : Rt ra ca na) (RC : Rt ra cb n) : ∀ p, p < n → prk F G ca cb ca p < 256 := by
  intro p hp
  rw [← RC.len] at hp
  have hc : 0 < cb := by
    rcases Nat.eq_zero_or_pos cb with rfl | h
    · omega
    · exact h
  have e := Nat.div_add_mod p cb
  rw [Nat.mul_comm] at e
  rw [← e]
  exact prk_lt G hF RA ((Nat.div_lt_iff_lt_mul hc).2 hp) (Nat.mod_lt p hc) (Nat.le_refl _)
theorem mul_pair (r c r' c' : Int) (n m : Nat) (F G : Nat → Nat) (hF : ∀ i, i < n → F i < 256) : ∃ (R C : Int) (N : Nat) (f : Nat → Nat) (E : Int), ∀ (w : World) (k d : Nat) (a b : Option Addr), Mt w a n k F → Mt w b m d G →
    Calls Try.prog 8 #[mv r c a n k, mv r' c' b m d] w (fun e w' => MAns w w' e R C N f E) ∧ Calls Try.prog 20 #[mv r c a n k, mv r' c' b m d] w (fun e w' => MAns w w' e R C N f E) := by
  by_cases h : FitP r c n r' c' m
  · obtain ⟨h1, h2, h3⟩ := h
    obtain ⟨ra, ca, rfl, rfl, RA⟩ := right_rt h1
    obtain ⟨rb, cb, rfl, rfl, RB⟩ := right_rt h2
    obtain rfl : ca = rb := by omega
    have RC : Rt ra cb (ra * cb) := ⟨RA.r64, RB.c64, rfl⟩
    have hf := prk_all G hF RA RC
    exact ⟨_, _, _, _, _, fun w k d a b ha hb => ⟨(mmul_ok w ra ca cb n m _ k d a b F G ha hb RA RB RC).mono (fun _ _ h => mans_row hf h), (rmmul_ok w ra ca cb n m _ k d a b F G ha.sl hb.sl RA RB RC).mono (fun _ _ h => mans_row hf h)⟩⟩
  · exact ⟨_, _, _, _, _, fun w k d a b _ _ => ⟨(mmul_bad w r c r' c' n k m d a b h).mono (fun _ _ h => mans_bad h), (rmmul_bad w r c r' c' n k m d a b h).mono (fun _ _ h => mans_bad h)⟩⟩
theorem apf_lt {F : Nat → Nat} (X : Nat → Nat) {r c n : Nat} (hF : ∀ i, i < n → F i < 256) (R : Rt r c n) : ∀ i, i < r → apf F X c i < 256 := fun _ hi => xs_lt fun _ ht => fm_lt _ _ (hF _ (R.at hi ht))
theorem trf_all {F : Nat → Nat} {r c n : Nat} (hF : ∀ i, i < n → F i < 256) (R : Rt r c n) : ∀ p, p < n → trf F r c p < 256 := by
  intro p hp
  have hl := R.len
  have hr : 0 < r := by
    rcases Nat.eq_zero_or_pos r with rfl | h
    · omega
    · exact h
  unfold trf
  exact hF _ (R.at (Nat.mod_lt p hr) ((Nat.div_lt_iff_lt_mul hr).2 (by rw [Nat.mul_comm, hl]; exact hp)))
theorem stf_all {F G : Nat → Nat} {n m : Nat} (hF : ∀ i, i < n → F i < 256) (hG : ∀ i, i < m → G i < 256) : ∀ p, p < n + m → stf F G n p < 256 := by
  intro p hp
  unfold stf
  by_cases h : p < n
  · rw [if_pos h]; exact hF p h
  · rw [if_neg h]; exact hG _ (by omega)
theorem krf_all {F : Nat → Nat} (G : Nat → Nat) {ra ca rb cb na RR CC n : Nat} (hF : ∀ i, i < na → F i < 256) (RA : Rt ra ca na) (eR : ra * rb = RR) (eC : ca * cb = CC) (RC : Rt RR CC n) : ∀ p, p < n → krf F G ca rb cb CC p < 256 := by
  intro p hp
  rw [← RC.len, ← eR] at hp
  have hC : 0 < CC := by
    rcases Nat.eq_zero_or_pos CC with rfl | h
    · omega
    · exact h
  have hq : p / CC < ra * rb := (Nat.div_lt_iff_lt_mul hC).2 hp
  have hrb : 0 < rb := by
    rcases Nat.eq_zero_or_pos rb with rfl | h
    · omega
    · exact h
  have hcb : 0 < cb := by
    rcases Nat.eq_zero_or_pos cb with rfl | h
    · omega
    · exact h
  unfold krf
  refine fm_lt _ _ (hF _ (RA.at ((Nat.div_lt_iff_lt_mul hrb).2 hq) ((Nat.div_lt_iff_lt_mul hcb).2 ?_)))
  rw [eC]
  exact Nat.mod_lt p hC
theorem right_pair (r c : Int) (n : Nat) : ∃ x : Bool, ∀ (w : World) (k : Nat) (a : Option Addr),
    Calls Try.prog 22 #[mv r c a n k] w (fun e w' => e = .returned (.bool x) ∧ Below w.heap.size w w') ∧ Calls Try.prog 9 #[mv r c a n k] w (fun e w' => e = .returned (.bool x) ∧ Below w.heap.size w w') := by
  by_cases h : RightP r c n
  · exact ⟨true, fun w k a => ⟨mright_yes w r c a n k h, right_yes w r c a n k h⟩⟩
  · exact ⟨false, fun w k a => ⟨mright_no w r c a n k h, right_no w r c a n k h⟩⟩
theorem off_all {f : Nat → Nat → Nat} {m c : Nat} (hf : ∀ i j, i < m → j < c → f i j < 256) : ∀ p, p < m * c → off f c p < 256 := by
  intro p hp
  have hc : 0 < c := by
    rcases Nat.eq_zero_or_pos c with rfl | h
    · omega
    · exact h
  exact hf _ _ ((Nat.div_lt_iff_lt_mul hc).2 hp) (Nat.mod_lt p hc)
end Go.Proofs.Ytaoehildaenbnab
