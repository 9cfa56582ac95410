/-
  What the checks of stage 7 with a loop over a list need: lists of numbers, bits of numbers.
-/
import Derived.Test.YtflflmdlhmhkdabGw
import Derived.Test.YtflflmdlhmhkdabGs
namespace Go.Proofs.Ytflflmdlhmhkdab
open Go.RowKit
/-- The list of a set. -/
theorem list_num2 {r s : Nat} (hr : r ≤ 64) (hs : s < 2 ^ r) : ∀ w' : World, Calls Try.prog 13 #[.int .u64 (s : Int)] w' fun e w'' => ∃ x d, Il w'' x (cn s r) (fun i => (lf s r i : Int)) ∧ e = .returned (.slice x (cn s r) d) ∧ Below w'.heap.size w' w'' := fun w' =>
  (rlist_ok s w' (lt_64 hr hs)).mono (fun e w'' h => by
    obtain ⟨v, he, ho, hb⟩ := h
    rw [cn_all hr hs] at ho
    have ho2 := ho.congr (fun t _ => lf_all hr hs t)
    obtain ⟨x, d, rfl, _⟩ := ho2.form
    exact ⟨x, d, il_of_jl ho2.jl, he, hb⟩)
theorem free_some {w : World} {r c n k s : Nat} {a : Option Addr} {F : Nat → Nat} (ha : Mt w a n k F) (R : Rt r c n) (hs : s < 2 ^ r) :
    ∃ b : Bool, (b = true ↔ FreeS (m2 F r c) r s) ∧ ∀ w' : World, Below w.heap.size w w' → Calls Try.prog 12 #[mv r c a n k, .int .u64 (s : Int)] w' fun e w'' => e = .returned (.tuple #[.bool b, .int .i64 0]) ∧ Below w'.heap.size w' w'' := by
  by_cases h : FreeS (m2 F r c) r s
  · exact ⟨true, ⟨fun _ => h, fun _ => rfl⟩, free_num ha R hs ⟨fun _ => h, fun _ => rfl⟩⟩
  · exact ⟨false, ⟨fun e => (by cases e), fun h' => absurd h' h⟩, free_num ha R hs ⟨fun e => (by cases e), fun h' => absurd h' h⟩⟩
theorem free_one : ∀ w' : World, Calls Try.prog 12 #[mv 1 0 none 0 0, .int .u64 1] w' fun e w'' => ∃ b : Bool, e = .returned (.tuple #[.bool b, .int .i64 0]) ∧ Below w'.heap.size w' w'' := fun w' =>
  (tFree_ok w' 1 0 0 0 1 none (fun _ => 0) (Mt.none _ _) ⟨by decide, by decide, rfl⟩ (by decide)).mono (fun _ _ h => by obtain ⟨b, he, _, hb⟩ := h; exact ⟨b, he, hb⟩)
theorem shift_m {m : Nat} (h : m < 64) : min (IntKind.u64.wrap (m : Int)).toNat 64 = m := by
  have e : IntKind.u64.wrap (m : Int) = (m : Int) := by rw [IntKind.wrap_u64]; omega
  rw [e]
  omega
theorem cell_aft7 {w w' : World} {b o : Nat} {v : Value} (h : w.cell? ⟨b, o, none⟩ = some v) (hb : Below w.heap.size w w') : w'.cell? ⟨b, o, none⟩ = some v := by
  have hlt := jcell_lt h
  have e : w'.cell? ⟨b, o, none⟩ = w.cell? ⟨b, o, none⟩ := by unfold World.cell?; rw [hb.block b hlt]
  rw [e]; exact h
theorem shift_T {m : Nat} (h : m < 64) : IntKind.u64.wrap (2 ^ min (IntKind.u64.wrap (m : Int)).toNat 64) = ((2 ^ m : Nat) : Int) := by rw [shift_m h]; exact j_pow m h
/-- Of a row of s: the span of the others has it just if Needed has not. -/
theorem need_step {w : World} {r c n k s N : Nat} {a : Option Addr} {F : Nat → Nat} (ha : Mt w a n k F) (R : Rt r c n) (hs : s < 2 ^ r) (hN : NeS (m2 F r c) r s N) {m : Nat} (hm : m < r) (hb : bt s m = 1) :
    ∃ (T q p : Nat) (ba bn : Bool), IntKind.u64.wrap (2 ^ m) = (T : Int) ∧ IntKind.u64.wrap (2 ^ min (IntKind.u64.wrap (m : Int)).toNat 64) = (T : Int) ∧ bits .andNot .u64 (s : Int) (T : Int) = (q : Int) ∧
      (∀ w' : World, Below w.heap.size w w' → Calls Try.prog 15 #[mv r c a n k, .int .u64 (q : Int)] w' fun e w'' => e = .returned (.tuple #[.int .u64 (p : Int), .int .i64 0]) ∧ Below w'.heap.size w' w'') ∧
      (∀ w' : World, Calls Try.prog 11 #[.int .u64 (p : Int), .int .i64 (m : Int)] w' fun e w'' => e = .returned (.bool ba) ∧ w' = w'') ∧
      (∀ w' : World, Calls Try.prog 11 #[.int .u64 (N : Int), .int .i64 (m : Int)] w' fun e w'' => e = .returned (.bool bn) ∧ w' = w'') ∧ (ba == bn) = false := by
  have hr := R.r64
  have hm6 : m < 64 := by omega
  obtain ⟨p, hp⟩ : ∃ p, SpS (m2 F r c) r (rem s m) p := bld_ex _ r
  have hq : rem s m < 2 ^ r := rem_lt7 hs
  refine ⟨2 ^ m, rem s m, p, decide (bt p m = 1), decide (bt N m = 1), j_pow m hm6, shift_T hm6, j_rem7 hr hs hm rfl rfl, span_num ha R hq hp, fun w' => jrhas_ok p m w' (lt_64 hr hp.1) hm6, fun w' => jrhas_ok N m w' (lt_64 hr hN.1) hm6, ?_⟩
  have h1 := hp.2 m hm
  have h2 := hN.2 m hm
  by_cases h : SS (m2 F r c) r (rem s m) (m2 F r c m)
  · rw [decide_eq_true (h1.2 h), decide_eq_false (fun x => (h2.1 x).2 h)]
    rfl
  · rw [decide_eq_false (fun x => h (h1.1 x)), decide_eq_true (h2.2 ⟨hb, h⟩)]
    rfl
/-- Of a row of a circuit: without it the circuit is independent. -/
theorem least_step {w : World} {r c n k b A x : Nat} {a : Option Addr} {F : Nat → Nat} (ha : Mt w a n k F) (R : Rt r c n) (hA : A < 2 ^ r) (hx : CiS (m2 F r c) r b A x) (hf : FreeS (m2 F r c) r A) (hb : b < r) {m : Nat} (hm : m < r) (hxm : bt x m = 1) :
    ∃ (T q : Nat), IntKind.u64.wrap (2 ^ m) = (T : Int) ∧ IntKind.u64.wrap (2 ^ min (IntKind.u64.wrap (m : Int)).toNat 64) = (T : Int) ∧ bits .andNot .u64 (x : Int) (T : Int) = (q : Int) ∧
      ∀ w' : World, Below w.heap.size w w' → Calls Try.prog 12 #[mv r c a n k, .int .u64 (q : Int)] w' fun e w'' => e = .returned (.tuple #[.bool true, .int .i64 0]) ∧ Below w'.heap.size w' w'' := by
  have hr := R.r64
  have hm6 : m < 64 := by omega
  have hM := m2_el ha.sl.1 R
  have hfr := hx.least hM hr (lt_64 hr hA) hf hb hm hxm
  exact ⟨2 ^ m, rem x m, j_pow m hm6, shift_T hm6, j_rem7 hr hx.1 hm rfl rfl, free_num ha R (rem_lt7 hx.1) ⟨fun _ => hfr, fun _ => rfl⟩⟩
theorem u8_of_wf7 {n : Int} (h : (Lit.int .u8 n).wf = true) : ∃ x : Nat, n = (x : Int) ∧ x < 256 := by
  simp [Lit.wf, IntKind.min, IntKind.max, IntKind.signed, IntKind.bits] at h
  exact ⟨n.toNat, by omega, by omega⟩
theorem rbase_num {w : World} {r c n k s p : Nat} {a : Option Addr} {F : Nat → Nat} (ha : Mt w a n k F) (R : Rt r c n) (hs : s < 2 ^ r) (hp : BaS (m2 F r c) r s p) :
    ∀ w' : World, Below w.heap.size w w' → Calls Try.prog 8 #[mv r c a n k, .int .u64 (s : Int)] w' fun e w'' => e = .returned (.tuple #[.int .u64 (p : Int), .int .i64 0]) ∧ Below w'.heap.size w' w'' := fun w' hb =>
  (rBase_ok w' r c n k s a F (ha.sl.later hb) R hs).mono (fun e w'' h => by
    obtain ⟨t', he, ht', hbb⟩ := h
    rw [ht'.one hp] at he
    exact ⟨he, hbb⟩)
theorem rspan_num {w : World} {r c n k s p : Nat} {a : Option Addr} {F : Nat → Nat} (ha : Mt w a n k F) (R : Rt r c n) (hs : s < 2 ^ r) (hp : SpS (m2 F r c) r s p) :
    ∀ w' : World, Below w.heap.size w w' → Calls Try.prog 10 #[mv r c a n k, .int .u64 (s : Int)] w' fun e w'' => e = .returned (.tuple #[.int .u64 (p : Int), .int .i64 0]) ∧ Below w'.heap.size w' w'' := fun w' hb =>
  (rSpan_ok w' r c n k s a F (ha.sl.later hb) R hs).mono (fun e w'' h => by
    obtain ⟨t', he, ht', hbb⟩ := h
    rw [ht'.one hp] at he
    exact ⟨he, hbb⟩)
theorem circ_num {w : World} {r c n k s b x : Nat} {a : Option Addr} {F : Nat → Nat} {o : Bool} (ha : Mt w a n k F) (R : Rt r c n) (hs : s < 2 ^ r) (hbr : b < r) (hbs : ¬ bt s b = 1) (hf : FreeS (m2 F r c) r s) (hx : CirA (m2 F r c) r b s x o) :
    ∀ w' : World, Below w.heap.size w w' → Calls Try.prog 9 #[mv r c a n k, .int .i64 (b : Int), .int .u64 (s : Int)] w' fun e w'' => e = .returned (.tuple #[.int .u64 (x : Int), .bool o, .int .i64 0]) ∧ Below w'.heap.size w' w'' := fun w' hb =>
  (tCirc_ok w' r c n k s b a F (ha.later hb) R hs hbr hbs hf).mono (fun e w'' h => by
    obtain ⟨x', o', he, ht', hbb⟩ := h
    obtain ⟨rfl, rfl⟩ := ht'.one hx
    exact ⟨he, hbb⟩)
theorem has_num {s i r : Nat} (hr : r ≤ 64) (hs : s < 2 ^ r) (hi : i < r) {o : Bool} (h : o = true ↔ bt s i = 1) : ∀ w' : World, Calls Try.prog 11 #[.int .u64 (s : Int), .int .i64 (i : Int)] w' fun e w'' => e = .returned (.bool o) ∧ Below w'.heap.size w' w'' := fun w' =>
  (jrhas_ok s i w' (lt_64 hr hs) (by omega)).mono (fun e w'' h2 => by
    obtain ⟨he, rfl⟩ := h2
    rw [bool_same (b' := o) ⟨fun h => of_decide_eq_true h, fun h => decide_eq_true h⟩ h] at he
    exact ⟨he, Below.refl _ _⟩)
end Go.Proofs.Ytflflmdlhmhkdab
