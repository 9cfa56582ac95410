/-
  Spiral, At.
-/
import Derived.Test.YtbhidokfclchlaaK1e
namespace Go.Proofs.Ytbhidokfclchlaa
open Go.RowKit
theorem jcx : (Try.prog.info? 25).map (fun i => (i.zero, i.size, i.bytes)) = some (some (.complex .f64 0 0), 1, 16) := by kernel_rfl
/-- A list of n complex numbers, of which the first j are the spiral's cells. -/
def Cl (w : World) (g n j : Nat) : Prop := ∃ arr : Array Value, w.heap[g]? = some (.cells arr 25 (0, 0)) ∧ arr.size = n ∧ ∀ i, i < n → ∃ a b, arr[i]? = some (.complex .f64 a b) ∧ (i < j → Fw a (spl i).x ∧ Fw b (spl i).y)
theorem Cl.cell {w : World} {g n j i : Nat} (h : Cl w g n j) (hi : i < n) : ∃ a b, w.cell? ⟨g, i, none⟩ = some (.complex .f64 a b) ∧ (i < j → Fw a (spl i).x ∧ Fw b (spl i).y) := by
  obtain ⟨arr, h1, h2, h3⟩ := h
  obtain ⟨a, b, e, f⟩ := h3 i hi
  exact ⟨a, b, by rw [cell_of_row w g i _ _ _ h1, e], f⟩
theorem Cl.free {w : World} {g n j : Nat} (h : Cl w g n j) (i : Nat) : w.frozen? ⟨g, i, none⟩ = false := by
  obtain ⟨arr, h1, h2, h3⟩ := h
  simp [World.frozen?, h1]
theorem Cl.lt {w : World} {g n j : Nat} (h : Cl w g n j) : g < w.heap.size := by
  obtain ⟨arr, h1, -, -⟩ := h
  exact lt_of_block h1
theorem Cl.same {w w' : World} {g n j : Nat} (h : Cl w g n j) (e : w'.heap[g]? = w.heap[g]?) : Cl w' g n j := by
  obtain ⟨arr, h1, h2, h3⟩ := h
  exact ⟨arr, by rw [e, h1], h2, h3⟩
theorem Cl.later {w w' : World} {g n j : Nat} (h : Cl w g n j) (hb : Below w.heap.size w w') : Cl w' g n j := h.same (hb.block _ h.lt)
theorem Cl.set {w : World} {g n j a b : Nat} (h : Cl w g n j) (fa : Fw a (spl j).x) (fb : Fw b (spl j).y) : Cl (w.setCell ⟨g, j, none⟩ (.complex .f64 a b)) g n (j + 1) := by
  obtain ⟨arr, h1, h2, h3⟩ := h
  refine ⟨arr.setIfInBounds j (.complex .f64 a b), ?_, by simpa using h2, fun i hi => ?_⟩
  · rw [setCell_eq_setRow w g j _ _ (0, 0) _ h1, setRow_heap w g _ _ _ (0, 0) h1]
  · by_cases e : j = i
    · subst e
      exact ⟨a, b, by simp [h2, hi], fun _ => ⟨fa, fb⟩⟩
    · obtain ⟨a', b', e', f'⟩ := h3 i hi
      exact ⟨a', b', by rw [Array.getElem?_setIfInBounds_ne e, e'], fun hlt => f' (by omega)⟩
theorem Cl.made {w1 : World} {base g n : Nat} (h : w1.ownsRow base 25 1 (.slice (some ⟨g, 0, none⟩) n n) n (madeCells (Value.complex .f64 0 0).cells (n * 1)).toList) : Cl w1 g n 0 := by
  rcases h.2 with ⟨e, _⟩ | ⟨g', cap, cur, e, _, hg, _, _, hs, ht⟩
  · cases e
  · cases e
    refine ⟨cur, hg, by omega, fun i hi => ⟨0, 0, ?_, fun h => by omega⟩⟩
    have e1 : (cur.toList.take (n * 1))[i]? = some (.complex .f64 0 0) := by
      rw [ht, Array.getElem?_toList]
      simp [madeCells, Value.cells, hi, Nat.mod_one]
    rw [List.getElem?_take, if_pos (by omega), Array.getElem?_toList] at e1
    exact e1
/-- Words of two whole numbers as '==' has them. -/
theorem fw_eq {x y : Nat} {a b : Int} (hx : Fw x a) (hy : Fw y b) (ha : -12 ≤ a ∧ a ≤ 12) (hb : -12 ≤ b ∧ b ≤ 12) : (FloatKind.f64.format.order x y == some .eq) = decide (a = b) := by
  rw [fw_order hx hy ha hb]
  by_cases e : a = b
  · subst e; simp
  · simp [e]
theorem two_no {p q : Prop} [Decidable p] [Decidable q] (h : ¬ (p ∧ q)) : (decide p && decide q) = false := by
  rw [← Bool.decide_and]; exact decide_eq_false h
theorem cx_eq {x y u v : Nat} {a b c d : Int} (hx : Fw x a) (hy : Fw y b) (hu : Fw u c) (hv : Fw v d) (ha : -12 ≤ a ∧ a ≤ 12) (hb : -12 ≤ b ∧ b ≤ 12) (hc : -12 ≤ c ∧ c ≤ 12) (hd : -12 ≤ d ∧ d ≤ 12) {r : Bool} (hr : (decide (a = c) && decide (b = d)) = r) (t : TypeId) (w : World) :
    (binOp .eql t (.complex .f64 x y) (.complex .f64 u v)).run Try.prog w = .ok (.bool r) w := by
  rw [run_eql_complex, fw_eq hx hu ha hc, fw_eq hy hv hb hd, hr]
set_option maxHeartbeats 1000000 in
theorem pat (w : World) (x y d : Nat) (hd : d < 64) (fx : Fw x (spl d).x) (fy : Fw y (spl d).y) :
    Calls Try.prog 10 #[.complex .f64 x y] w fun e w' => e = .returned (.tuple #[.int .i64 (d : Int), .bool true]) ∧ Below w.heap.size w w' := by
  have HF : Hid (Fw x (spl d).x ∧ Fw y (spl d).y) := ⟨fx, fy⟩
  clear fx fy
  go_enter Try.func10, Try.ntmps10
  go_wp2_with (go_at_call 15; refine (pwalk _).mono ?_; rintro e w1 ⟨b0, b1, b2, b3, rfl, hk1, hb1, hB1⟩; have HK1 : Hid (Wk w1 b0 b1 b2 b3 0) := hk1; have HB1 : Hid (Below w.heap.size w w1) := hB1; clear hk1 hB1)
  obtain ⟨h0, h1, h2, h3⟩ := hb1
  go_loopw [7] (fun vi wr => ∃ j : Nat, j ≤ d ∧ vi = .int .i64 (j : Int) ∧ Wk wr b0 b1 b2 b3 j ∧ Below w.heap.size w wr) (fun vi _ => 64 - (intOf vi).toNat)
  case atStart => exact ⟨0, by omega, rfl, HK1.out, HB1.out⟩
  case round =>
    clear HK1 HB1
    obtain ⟨j, hj, rfl, hk, hb⟩ := hrel
    have HK : Hid (Wk wr b0 b1 b2 b3 j) := hk
    have HB : Hid (Below w.heap.size w wr) := hb
    clear hk hb
    have d1 : decide ((j : Int) < 64) = true := decide_eq_true (by omega)
    by_cases he : j = d
    · subst he
      go_wp2_with (first
        | (go_at_call 22; refine (pwalk1 _ b0 b1 b2 b3 j (by omega) HK.out).mono ?_; rintro e w3 ⟨a, b, rfl, fa, fb, hk3, hp3⟩; have hq := cx_eq (r := true) fa fb HF.out.1 HF.out.2 (by have := spl_fit (k := j) (by omega); omega) (by have := spl_fit (k := j) (by omega); omega) (by have := spl_fit (k := j) (by omega); omega) (by have := spl_fit (k := j) (by omega); omega) (by simp); have HQ3 : Hid (Below w.heap.size w w3) := HB.out.trans (hp3.below h0 h1 h2 h3); clear fa fb hk3 hp3))
      go_ret2
      exact ⟨rfl, HQ3.out⟩
    · go_wp2_with (first
        | (go_at_call 22; refine (pwalk1 _ b0 b1 b2 b3 j (by omega) HK.out).mono ?_; rintro e w3 ⟨a, b, rfl, fa, fb, hk3, hp3⟩; have hq := cx_eq (r := false) fa fb HF.out.1 HF.out.2 (by have := spl_fit (k := j) (by omega); omega) (by have := spl_fit (k := j) (by omega); omega) (by have := spl_fit (k := d) (by omega); omega) (by have := spl_fit (k := d) (by omega); omega) (two_no fun h => he (spl_once (by omega) (by omega) h.1 h.2)); have HQ3 : Hid (Wk w3 b0 b1 b2 b3 (j + 1) ∧ Below w.heap.size w w3) := ⟨hk3, HB.out.trans (hp3.below h0 h1 h2 h3)⟩; clear fa fb hk3 hp3))
      exact ⟨⟨j + 1, by omega, by go_num, HQ3.out.1, HQ3.out.2⟩, by simp [intOf]; omega⟩
end Go.Proofs.Ytbhidokfclchlaa
