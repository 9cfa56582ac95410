/-
  Spiral, At.
-/
import Derived.Test.YtfajmoiffjbcbabK1e
namespace Go.Proofs.Ytfajmoiffjbcbab
open Go.RowKit
theorem jcx : (Try.prog.info? 44).map (fun i => (i.zero, i.size, i.bytes)) = some (some (.complex .f64 0 0), 1, 16) := by kernel_rfl
/-- A list of n complex numbers, of which the first j are the spiral's cells. -/
def Cl (w : World) (g n j : Nat) : Prop := ∃ arr : Array Value, w.heap[g]? = some (.cells arr 44 (0, 0)) ∧ arr.size = n ∧ ∀ i, i < n → ∃ a b, arr[i]? = some (.complex .f64 a b) ∧ (i < j → Fw a (spl i).x ∧ Fw b (spl i).y)
theorem Cl.cell {w : World} {g n j i : Nat} (h : Cl w g n j) (hi : i < n) : ∃ a b, w.cell? ⟨g, i, none⟩ = some (.complex .f64 a b) ∧ (i < j → Fw a (spl i).x ∧ Fw b (spl i).y) := by
  obtain ⟨arr, h1, h2, h3⟩ := h
  obtain ⟨a, b, e, f⟩ := h3 i hi
  exact ⟨a, b, by rw [cell_of_row w g i _ _ _ h1, e], f⟩
theorem Cl.free {w : World} {g n j : Nat} (h : Cl w g n j) (i : Nat) : w.frozen? ⟨g, i, none⟩ = false := by
  obtain ⟨arr, h1, h2, h3⟩ := h
  simp [World.frozen?, h1]
theorem Cl.lt {w : World} {g n j : Nat} (h : Cl w g n j) : g < w.heap.size := by
  obtain ⟨arr, h1, -, -⟩ := h
  exact lt_of_block h1
theorem Cl.same {w w' : World} {g n j : Nat} (h : Cl w g n j) (e : w'.heap[g]? = w.heap[g]?) : Cl w' g n j := by
  obtain ⟨arr, h1, h2, h3⟩ := h
  exact ⟨arr, by rw [e, h1], h2, h3⟩
theorem Cl.later {w w' : World} {g n j : Nat} (h : Cl w g n j) (hb : Below w.heap.size w w') : Cl w' g n j := h.same (hb.block _ h.lt)
theorem Cl.set {w : World} {g n j a b : Nat} (h : Cl w g n j) (fa : Fw a (spl j).x) (fb : Fw b (spl j).y) : Cl (w.setCell ⟨g, j, none⟩ (.complex .f64 a b)) g n (j + 1) := by
  obtain ⟨arr, h1, h2, h3⟩ := h
  refine ⟨arr.setIfInBounds j (.complex .f64 a b), ?_, by simpa using h2, fun i hi => ?_⟩
  · rw [setCell_eq_setRow w g j _ _ (0, 0) _ h1, setRow_heap w g _ _ _ (0, 0) h1]
  · by_cases e : j = i
    · subst e
      exact ⟨a, b, by simp [h2, hi], fun _ => ⟨fa, fb⟩⟩
    · obtain ⟨a', b', e', f'⟩ := h3 i hi
      exact ⟨a', b', by rw [Array.getElem?_setIfInBounds_ne e, e'], fun hlt => f' (by omega)⟩
theorem Cl.made {w1 : World} {base g n : Nat} (h : w1.ownsRow base 44 1 (.slice (some ⟨g, 0, none⟩) n n) n (madeCells (Value.complex .f64 0 0).cells (n * 1)).toList) : Cl w1 g n 0 := by
  rcases h.2 with ⟨e, _⟩ | ⟨g', cap, cur, e, _, hg, _, _, hs, ht⟩
  · cases e
  · cases e
    refine ⟨cur, hg, by omega, fun i hi => ⟨0, 0, ?_, fun h => by omega⟩⟩
    have e1 : (cur.toList.take (n * 1))[i]? = some (.complex .f64 0 0) := by
      rw [ht, Array.getElem?_toList]
      simp [madeCells, Value.cells, hi, Nat.mod_one]
    rw [List.getElem?_take, if_pos (by omega), Array.getElem?_toList] at e1
    exact e1
set_option maxHeartbeats 1000000 in
theorem pspiral_ok (w : World) (n : Nat) (hn : n ≤ 64) :
    Calls Try.prog 22 #[.int .i64 (n : Int)] w fun e w' => ∃ g, e = .returned (.tuple #[.slice (some ⟨g, 0, none⟩) n n, .int .i64 0]) ∧ Cl w' g n n ∧ w.heap.size ≤ g ∧ Below w.heap.size w w' := by
  obtain ⟨i0, hi0, hz0, hz1, hz2⟩ := info_parts jcx
  have g1 : decide ((n : Int) < 0) = false := decide_eq_false (by omega)
  have g2 : decide ((64 : Int) < (n : Int)) = false := decide_eq_false (by omega)
  go_enter Try.func22, Try.ntmps22
  go_wp2_with (first
    | (go_at_call 24; refine (pwalk _).mono ?_; rintro e w1 ⟨b0, b1, b2, b3, rfl, hk1, hb1, hB1⟩; have HK1 : Hid (Wk w1 b0 b1 b2 b3 0) := hk1; have HB1 : Hid (Below w.heap.size w w1) := hB1; clear hk1 hB1)
    | (at_make; refine wpList_make_full _ rfl _ _ 54 rfl w1.heap.size 44 i0 (.complex .f64 0 0) 1 Try.underlying54 hi0 hz0 hz1 .i64 .i64 _ _ n rfl rfl rfl rfl (by rw [hz2]; omega) (by unfold maxLen; omega) (Nat.le_refl _) ?_; intro w2 hown hgrow; have HC2 : Hid (Cl w2 w1.heap.size n 0) := Cl.made hown; have HB2 : Hid (Below w1.heap.size w1 w2) := jgrown.mp hgrow; clear hown hgrow))
  have n0 : ∀ {x}, x < w1.heap.size → x ≠ w1.heap.size := fun h => by omega
  obtain ⟨h0, h1, h2, h3⟩ := hb1
  have HN : Hid (w1.heap.size ≠ b0 ∧ w1.heap.size ≠ b1 ∧ w1.heap.size ≠ b2 ∧ w1.heap.size ≠ b3) := by
    obtain ⟨⟨_, _, e1, _⟩, ⟨_, _, e2, _⟩, e3, e4, _⟩ := HK1.out
    exact ⟨Ne.symm (n0 e1.lt), Ne.symm (n0 e2.lt), Ne.symm (n0 e3.lt), Ne.symm (n0 e4.lt)⟩
  have HK2 : Hid (Wk w2 b0 b1 b2 b3 0) := HK1.out.kept (jgrown.mpr HB2.out) (by simp) (by simp) (by simp) (by simp)
  have hsz := HB1.out.size
  have HBB : Hid (Below w.heap.size w w2) := jtwo HB1.out HB2.out
  obtain ⟨g, HG⟩ : ∃ g, Hid (w1.heap.size = g) := ⟨_, rfl⟩
  have hg : w.heap.size ≤ g := by rw [← HG.out]; exact hsz
  rw [HG.out] at HC2 HN ⊢
  clear n0 HK1 HB1 HB2 hsz HG
  go_loopw [18] (fun vi wr => ∃ j : Nat, j ≤ n ∧ vi = .int .i64 (j : Int) ∧ Wk wr b0 b1 b2 b3 j ∧ Cl wr g n j ∧ Below w.heap.size w wr) (fun vi _ => n - (intOf vi).toNat)
  case atStart => exact ⟨0, by omega, rfl, HK2.out, HC2.out, HBB.out⟩
  case round =>
    clear HK2 HC2 HBB
    obtain ⟨j, hj, rfl, hk, hc, hb⟩ := hrel
    have HK : Hid (Wk wr b0 b1 b2 b3 j) := hk
    have HC : Hid (Cl wr g n j) := hc
    have HB : Hid (Below w.heap.size w wr) := hb
    clear hk hc hb
    by_cases hlt : j < n
    · have d1 : decide ((j : Int) < (n : Int)) = true := decide_eq_true (by omega)
      have p0 : (0 : Int) ≤ (j : Int) := by omega
      have p1 : (j : Int) < (n : Int) := by omega
      go_wp2_with (first
        | (go_at_call 27; refine (pwalk1 _ b0 b1 b2 b3 j (by omega) HK.out).mono ?_; rintro e w3 ⟨a, b, rfl, fa, fb, hk3, hp3⟩; have HC3 : Hid (Cl w3 g n j) := HC.out.same (hp3.block g HN.out.1 HN.out.2.1 HN.out.2.2.1 HN.out.2.2.2); obtain ⟨a', b', hc3, -⟩ := HC3.out.cell hlt; have hz3 := HC3.out.free j; have HQ3 : Hid ((Fw a (spl j).x ∧ Fw b (spl j).y) ∧ Wk w3 b0 b1 b2 b3 (j + 1) ∧ Below w.heap.size w w3) := ⟨⟨fa, fb⟩, hk3, HB.out.trans (hp3.below h0 h1 h2 h3)⟩; clear fa fb hk3 hp3)
        | simp only [run_store_cx hc3 hz3])
      refine ⟨⟨j + 1, by omega, by go_num, ?_, HC3.out.set HQ3.out.1.1 HQ3.out.1.2, HQ3.out.2.2.setCell hg _⟩, by simp [intOf]; omega⟩
      have hgr : w3.grownBy (w3.setCell ⟨g, j, none⟩ (.complex .f64 a b)) (some g) := ⟨rfl, rfl, rfl, by simp [World.setCell], fun k _ hk => Below.heap_setCell _ _ _ k (fun e => hk (by rw [e]))⟩
      exact HQ3.out.2.1.kept hgr (by simpa using Ne.symm HN.out.1) (by simpa using Ne.symm HN.out.2.1) (by simpa using Ne.symm HN.out.2.2.1) (by simpa using Ne.symm HN.out.2.2.2)
    · obtain rfl : j = n := by omega
      have d1 : decide ((j : Int) < (j : Int)) = false := decide_eq_false (by omega)
      go_wp2
      go_ret2
      exact ⟨g, rfl, HC.out, hg, HB.out⟩
set_option maxHeartbeats 400000 in
theorem pspiral_bad (w : World) (n : Int) (hn : n < 0 ∨ 64 < n) :
    Calls Try.prog 22 #[.int .i64 n] w fun e w' => e = .returned (.tuple #[.slice none 0 0, .int .i64 2]) ∧ w = w' := by
  by_cases h : n < 0
  · have g1 : decide (n < 0) = true := decide_eq_true h
    go_enter Try.func22, Try.ntmps22
    go_wp2
    go_ret2
    exact ⟨rfl, rfl⟩
  · have g1 : decide (n < 0) = false := decide_eq_false h
    have g2 : decide ((64 : Int) < n) = true := decide_eq_true (by omega)
    go_enter Try.func22, Try.ntmps22
    go_wp2
    go_ret2
    exact ⟨rfl, rfl⟩
/-- Words of two whole numbers as '==' has them. -/
theorem fw_eq {x y : Nat} {a b : Int} (hx : Fw x a) (hy : Fw y b) (ha : -12 ≤ a ∧ a ≤ 12) (hb : -12 ≤ b ∧ b ≤ 12) : (FloatKind.f64.format.order x y == some .eq) = decide (a = b) := by
  rw [fw_order hx hy ha hb]
  by_cases e : a = b
  · subst e; simp
  · simp [e]
theorem two_no {p q : Prop} [Decidable p] [Decidable q] (h : ¬ (p ∧ q)) : (decide p && decide q) = false := by
  rw [← Bool.decide_and]; exact decide_eq_false h
theorem cx_eq {x y u v : Nat} {a b c d : Int} (hx : Fw x a) (hy : Fw y b) (hu : Fw u c) (hv : Fw v d) (ha : -12 ≤ a ∧ a ≤ 12) (hb : -12 ≤ b ∧ b ≤ 12) (hc : -12 ≤ c ∧ c ≤ 12) (hd : -12 ≤ d ∧ d ≤ 12) {r : Bool} (hr : (decide (a = c) && decide (b = d)) = r) (t : TypeId) (w : World) :
    (binOp .eql t (.complex .f64 x y) (.complex .f64 u v)).run Try.prog w = .ok (.bool r) w := by
  rw [run_eql_complex, fw_eq hx hu ha hc, fw_eq hy hv hb hd, hr]
set_option maxHeartbeats 1000000 in
theorem pat (w : World) (x y d : Nat) (hd : d < 64) (fx : Fw x (spl d).x) (fy : Fw y (spl d).y) :
    Calls Try.prog 17 #[.complex .f64 x y] w fun e w' => e = .returned (.tuple #[.int .i64 (d : Int), .bool true]) ∧ Below w.heap.size w w' := by
  have HF : Hid (Fw x (spl d).x ∧ Fw y (spl d).y) := ⟨fx, fy⟩
  clear fx fy
  go_enter Try.func17, Try.ntmps17
  go_wp2_with (go_at_call 24; refine (pwalk _).mono ?_; rintro e w1 ⟨b0, b1, b2, b3, rfl, hk1, hb1, hB1⟩; have HK1 : Hid (Wk w1 b0 b1 b2 b3 0) := hk1; have HB1 : Hid (Below w.heap.size w w1) := hB1; clear hk1 hB1)
  obtain ⟨h0, h1, h2, h3⟩ := hb1
  go_loopw [7] (fun vi wr => ∃ j : Nat, j ≤ d ∧ vi = .int .i64 (j : Int) ∧ Wk wr b0 b1 b2 b3 j ∧ Below w.heap.size w wr) (fun vi _ => 64 - (intOf vi).toNat)
  case atStart => exact ⟨0, by omega, rfl, HK1.out, HB1.out⟩
  case round =>
    clear HK1 HB1
    obtain ⟨j, hj, rfl, hk, hb⟩ := hrel
    have HK : Hid (Wk wr b0 b1 b2 b3 j) := hk
    have HB : Hid (Below w.heap.size w wr) := hb
    clear hk hb
    have d1 : decide ((j : Int) < 64) = true := decide_eq_true (by omega)
    by_cases he : j = d
    · subst he
      go_wp2_with (first
        | (go_at_call 27; refine (pwalk1 _ b0 b1 b2 b3 j (by omega) HK.out).mono ?_; rintro e w3 ⟨a, b, rfl, fa, fb, hk3, hp3⟩; have hq := cx_eq (r := true) fa fb HF.out.1 HF.out.2 (by have := spl_fit (k := j) (by omega); omega) (by have := spl_fit (k := j) (by omega); omega) (by have := spl_fit (k := j) (by omega); omega) (by have := spl_fit (k := j) (by omega); omega) (by simp); have HQ3 : Hid (Below w.heap.size w w3) := HB.out.trans (hp3.below h0 h1 h2 h3); clear fa fb hk3 hp3))
      go_ret2
      exact ⟨rfl, HQ3.out⟩
    · go_wp2_with (first
        | (go_at_call 27; refine (pwalk1 _ b0 b1 b2 b3 j (by omega) HK.out).mono ?_; rintro e w3 ⟨a, b, rfl, fa, fb, hk3, hp3⟩; have hq := cx_eq (r := false) fa fb HF.out.1 HF.out.2 (by have := spl_fit (k := j) (by omega); omega) (by have := spl_fit (k := j) (by omega); omega) (by have := spl_fit (k := d) (by omega); omega) (by have := spl_fit (k := d) (by omega); omega) (two_no fun h => he (spl_once (by omega) (by omega) h.1 h.2)); have HQ3 : Hid (Wk w3 b0 b1 b2 b3 (j + 1) ∧ Below w.heap.size w w3) := ⟨hk3, HB.out.trans (hp3.below h0 h1 h2 h3)⟩; clear fa fb hk3 hp3))
      exact ⟨⟨j + 1, by omega, by go_num, HQ3.out.1, HQ3.out.2⟩, by simp [intOf]; omega⟩
end Go.Proofs.Ytfajmoiffjbcbab
