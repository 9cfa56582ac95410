/-
  Contracts of the law's own functions: exprText, shapeText.
-/
import Derived.Test.YtdimkfcanegahaaDoorFg
import Derived.Test.YtdimkfcanegahaaDoorDy
import Derived.Test.YtdimkfcanegahaaDoorFa
namespace Go.Proofs.YtdimkfcanegahaaDoor
open Go.RowKit
theorem xE_ways (T : Xt) : (mayX T = false ∧ xS T = ⟨#[]⟩ ∧ xE T = 2) ∨ (mayX T = true ∧ (xtext 16 T).size ≤ 65536 ∧ xS T = xtext 16 T ∧ xE T = 0) ∨ (mayX T = true ∧ 65536 < (xtext 16 T).size ∧ xS T = ⟨#[]⟩ ∧ xE T = 4) := by
  have e : (xby 16 T).length = (xtext 16 T).size := by unfold xby; rw [Array.length_toList]; rfl
  unfold xE xS
  rw [e]
  cases mayX T with
  | false => exact .inl ⟨rfl, rfl, rfl⟩
  | true =>
    by_cases h : (xtext 16 T).size ≤ 65536
    · exact .inr (.inl ⟨rfl, h, by rw [if_neg (by simp), if_pos h], by rw [if_neg (by simp), if_pos h]⟩)
    · exact .inr (.inr ⟨rfl, by omega, by rw [if_neg (by simp), if_neg h], by rw [if_neg (by simp), if_neg h]⟩)
set_option maxRecDepth 20000 in
set_option maxHeartbeats 4000000 in
theorem lxtext (w : World) (T : Xt) (v : Value) (hX : XV w v T) (h9 : Tab9 w) (hw : Wt9 w) (hs : Xs10 w) : Calls Tryd.prog 20 #[v] w fun e w' => e = .returned (.bool true) ∧ Below w.heap.size w w' := by
  have HX := jhid9 hX
  have H9 := jhid9 h9
  have HT : Hid (∀ w' : World, Below w.heap.size w w' → Calls Tryd.prog 26 #[v] w' fun e w'' => e = .returned (.tuple #[.string (xS T), .int .i64 (xE T : Nat)]) ∧ Below w'.heap.size w' w'') := fun w' hb => txtext w' T v (HX.out.later hb) (h9.later hb) (hw.later hb) (hs.later hb)
  have HM : Hid (∀ w' : World, Below w.heap.size w w' → Calls Tryd.prog 10 #[v] w' fun e w'' => e = .returned (.bool (mayX T)) ∧ Below w'.heap.size w' w'') := fun w' hb => rmayx_any w' T v (HX.out.later hb)
  have HR : Hid (mayX T = true → ∀ w' : World, Below w.heap.size w w' → Calls Tryd.prog 38 #[v] w' fun e w'' => e = .returned (.string (xtext 16 T)) ∧ Below w'.heap.size w' w'') := fun hm w' hb => rxtext_any 16 w' T v (by omega) (HX.out.later hb) (mayX_mx hm) (tab_later H9.out hb)
  have hways := xE_ways T
  obtain ⟨⟨a, cap, rfl, _⟩, _⟩ := hX
  clear HX H9 h9 hw hs
  generalize xS T = R at *
  generalize xE T = E at *
  generalize mayX T = my at *
  generalize xtext 16 T = X at *
  generalize T [] = l at *
  obtain ⟨k, n, nm, len, ln, cl⟩ := l
  have HV := jhid9 (Vn.new w 28 #[.int .u8 (k : Int), .int .i64 n, .string nm, .slice a len cap, .int .i64 ln, .int .i64 cl])
  have c0 := HV.out.cell 0 _ rfl
  have c1 := HV.out.cell 1 _ rfl
  have c2 := HV.out.cell 2 _ rfl
  have c3 := HV.out.cell 3 _ rfl
  have c4 := HV.out.cell 4 _ rfl
  have c5 := HV.out.cell 5 _ rfl
  rcases hways with ⟨rfl, rfl, rfl⟩ | ⟨rfl, hsz, rfl, rfl⟩ | ⟨rfl, hsz, rfl, rfl⟩
  · clear HR
    go_enter Tryd.func20, Tryd.ntmps20
    go_wp2_with (first
      | (go_at_call 26; refine (HT.out _ (jlow _ _)).mono ?_; rintro e w1 ⟨rfl, hb1⟩; have HB1 := jhid9 (jtwo (jlow _ _) hb1); have HV1 := jhid9 (HV.out.later hb1); clear hb1; have d0 := HV1.out.cell 0 _ rfl; have d1 := HV1.out.cell 1 _ rfl; have d2 := HV1.out.cell 2 _ rfl; have d3 := HV1.out.cell 3 _ rfl; have d4 := HV1.out.cell 4 _ rfl; have d5 := HV1.out.cell 5 _ rfl)
      | (go_at_call 10; refine (HM.out _ HB1.out).mono ?_; rintro e w2 ⟨rfl, hb2⟩; have HB2 := jhid9 (jtwo HB1.out hb2); clear hb2))
    go_ret
    exact ⟨rfl, HB2.out⟩
  · have HR2 := jhid9 (HR.out rfl)
    clear HR
    have g1 : decide ((65536 : Int) < (R.size : Int)) = false := decide_eq_false (by omega)
    have g2 : decide (65536 < R.size) = false := decide_eq_false (by omega)
    go_enter Tryd.func20, Tryd.ntmps20
    go_wp2_with (first
      | (go_at_call 26; refine (HT.out _ (jlow _ _)).mono ?_; rintro e w1 ⟨rfl, hb1⟩; have HB1 := jhid9 (jtwo (jlow _ _) hb1); have HV1 := jhid9 (HV.out.later hb1); clear hb1; have d0 := HV1.out.cell 0 _ rfl; have d1 := HV1.out.cell 1 _ rfl; have d2 := HV1.out.cell 2 _ rfl; have d3 := HV1.out.cell 3 _ rfl; have d4 := HV1.out.cell 4 _ rfl; have d5 := HV1.out.cell 5 _ rfl)
      | (go_at_call 10; refine (HM.out _ HB1.out).mono ?_; rintro e w2 ⟨rfl, hb2⟩; have HB2 := jhid9 (jtwo HB1.out hb2); have HV2 := jhid9 (HV1.out.later hb2); clear hb2; have f0 := HV2.out.cell 0 _ rfl; have f1 := HV2.out.cell 1 _ rfl; have f2 := HV2.out.cell 2 _ rfl; have f3 := HV2.out.cell 3 _ rfl; have f4 := HV2.out.cell 4 _ rfl; have f5 := HV2.out.cell 5 _ rfl)
      | (go_at_call 38; refine (HR2.out _ HB2.out).mono ?_; rintro e w3 ⟨rfl, hb3⟩; have HB3 := jhid9 (jtwo HB2.out hb3); clear hb3))
    go_ret
    exact ⟨rfl, HB3.out⟩
  · have HR2 := jhid9 (HR.out rfl)
    clear HR
    have g1 : decide ((65536 : Int) < (X.size : Int)) = true := decide_eq_true (by omega)
    have g2 : decide (65536 < X.size) = true := decide_eq_true (by omega)
    go_enter Tryd.func20, Tryd.ntmps20
    go_wp2_with (first
      | (go_at_call 26; refine (HT.out _ (jlow _ _)).mono ?_; rintro e w1 ⟨rfl, hb1⟩; have HB1 := jhid9 (jtwo (jlow _ _) hb1); have HV1 := jhid9 (HV.out.later hb1); clear hb1; have d0 := HV1.out.cell 0 _ rfl; have d1 := HV1.out.cell 1 _ rfl; have d2 := HV1.out.cell 2 _ rfl; have d3 := HV1.out.cell 3 _ rfl; have d4 := HV1.out.cell 4 _ rfl; have d5 := HV1.out.cell 5 _ rfl)
      | (go_at_call 10; refine (HM.out _ HB1.out).mono ?_; rintro e w2 ⟨rfl, hb2⟩; have HB2 := jhid9 (jtwo HB1.out hb2); have HV2 := jhid9 (HV1.out.later hb2); clear hb2; have f0 := HV2.out.cell 0 _ rfl; have f1 := HV2.out.cell 1 _ rfl; have f2 := HV2.out.cell 2 _ rfl; have f3 := HV2.out.cell 3 _ rfl; have f4 := HV2.out.cell 4 _ rfl; have f5 := HV2.out.cell 5 _ rfl)
      | (go_at_call 38; refine (HR2.out _ HB2.out).mono ?_; rintro e w3 ⟨rfl, hb3⟩; have HB3 := jhid9 (jtwo HB2.out hb3); clear hb3))
    go_ret
    exact ⟨rfl, HB3.out⟩
theorem sE_ways (S : St) : (mayS S = false ∧ sS S = ⟨#[]⟩ ∧ sE S = 2) ∨ (mayS S = true ∧ (stb 16 S).size ≤ 65536 ∧ sS S = stb 16 S ∧ sE S = 0) ∨ (mayS S = true ∧ 65536 < (stb 16 S).size ∧ sS S = ⟨#[]⟩ ∧ sE S = 4) := by
  have e : (sby 16 S).length = (stb 16 S).size := by show _ = (sby 16 S).toArray.size; simp
  unfold sE sS
  rw [e]
  cases mayS S with
  | false => exact .inl ⟨rfl, rfl, rfl⟩
  | true =>
    by_cases h : (stb 16 S).size ≤ 65536
    · exact .inr (.inl ⟨rfl, h, by rw [if_neg (by simp), if_pos h]; rfl, by rw [if_neg (by simp), if_pos h]⟩)
    · exact .inr (.inr ⟨rfl, by omega, by rw [if_neg (by simp), if_neg h], by rw [if_neg (by simp), if_neg h]⟩)
set_option maxRecDepth 20000 in
set_option maxHeartbeats 4000000 in
theorem lstext (w : World) (S : St) (v : Value) (hX : SV w v S) (h9 : Tab9 w) (hw : Wt9 w) (hs : Xs10 w) (hsw : Sw10 w) : Calls Tryd.prog 21 #[v] w fun e w' => e = .returned (.bool true) ∧ Below w.heap.size w w' := by
  have HX := jhid9 hX
  have H9 := jhid9 h9
  have HT : Hid (∀ w' : World, Below w.heap.size w w' → Calls Tryd.prog 39 #[v] w' fun e w'' => e = .returned (.tuple #[.string (sS S), .int .i64 (sE S : Nat)]) ∧ Below w'.heap.size w' w'') := fun w' hb => tstext w' S v (HX.out.later hb) (h9.later hb) (hw.later hb) (hs.later hb) (hsw.later hb)
  have HM : Hid (∀ w' : World, Below w.heap.size w w' → Calls Tryd.prog 15 #[v] w' fun e w'' => e = .returned (.bool (mayS S)) ∧ Below w'.heap.size w' w'') := fun w' hb => rmays_any w' S v (HX.out.later hb)
  have HR : Hid (mayS S = true → ∀ w' : World, Below w.heap.size w w' → Calls Tryd.prog 40 #[v] w' fun e w'' => e = .returned (.string (stb 16 S)) ∧ Below w'.heap.size w' w'') := fun hm w' hb => rstext_any 16 w' S v (by omega) (HX.out.later hb) (mayS_ms hm) (tab_later H9.out hb)
  have hways := sE_ways S
  obtain ⟨⟨aa, pa, ra, ca, cp, cr, rfl, _⟩, _⟩ := hX
  clear HX H9 h9 hw hs hsw
  generalize sS S = R at *
  generalize sE S = E at *
  generalize mayS S = my at *
  generalize stb 16 S = X at *
  generalize S [] = l at *
  obtain ⟨k, nm, na, args, np, nr, rl, rows, ln, cl⟩ := l
  have HV := jhid9 (Vn.new w 33 #[.int .u8 (k : Int), .string nm, .slice aa na ca, .slice pa np cp, .slice ra nr cr, .int .i64 ln, .int .i64 cl])
  have c0 := HV.out.cell 0 _ rfl
  have c1 := HV.out.cell 1 _ rfl
  have c2 := HV.out.cell 2 _ rfl
  have c3 := HV.out.cell 3 _ rfl
  have c4 := HV.out.cell 4 _ rfl
  have c5 := HV.out.cell 5 _ rfl
  have c6 := HV.out.cell 6 _ rfl
  rcases hways with ⟨rfl, rfl, rfl⟩ | ⟨rfl, hsz, rfl, rfl⟩ | ⟨rfl, hsz, rfl, rfl⟩
  · clear HR
    go_enter Tryd.func21, Tryd.ntmps21
    go_wp2_with (first
      | (go_at_call 39; refine (HT.out _ (jlow _ _)).mono ?_; rintro e w1 ⟨rfl, hb1⟩; have HB1 := jhid9 (jtwo (jlow _ _) hb1); have HV1 := jhid9 (HV.out.later hb1); clear hb1; have d0 := HV1.out.cell 0 _ rfl; have d1 := HV1.out.cell 1 _ rfl; have d2 := HV1.out.cell 2 _ rfl; have d3 := HV1.out.cell 3 _ rfl; have d4 := HV1.out.cell 4 _ rfl; have d5 := HV1.out.cell 5 _ rfl; have d6 := HV1.out.cell 6 _ rfl)
      | (go_at_call 15; refine (HM.out _ HB1.out).mono ?_; rintro e w2 ⟨rfl, hb2⟩; have HB2 := jhid9 (jtwo HB1.out hb2); clear hb2))
    go_ret
    exact ⟨rfl, HB2.out⟩
  · have HR2 := jhid9 (HR.out rfl)
    clear HR
    have g1 : decide ((65536 : Int) < (R.size : Int)) = false := decide_eq_false (by omega)
    have g2 : decide (65536 < R.size) = false := decide_eq_false (by omega)
    go_enter Tryd.func21, Tryd.ntmps21
    go_wp2_with (first
      | (go_at_call 39; refine (HT.out _ (jlow _ _)).mono ?_; rintro e w1 ⟨rfl, hb1⟩; have HB1 := jhid9 (jtwo (jlow _ _) hb1); have HV1 := jhid9 (HV.out.later hb1); clear hb1; have d0 := HV1.out.cell 0 _ rfl; have d1 := HV1.out.cell 1 _ rfl; have d2 := HV1.out.cell 2 _ rfl; have d3 := HV1.out.cell 3 _ rfl; have d4 := HV1.out.cell 4 _ rfl; have d5 := HV1.out.cell 5 _ rfl; have d6 := HV1.out.cell 6 _ rfl)
      | (go_at_call 15; refine (HM.out _ HB1.out).mono ?_; rintro e w2 ⟨rfl, hb2⟩; have HB2 := jhid9 (jtwo HB1.out hb2); have HV2 := jhid9 (HV1.out.later hb2); clear hb2; have f0 := HV2.out.cell 0 _ rfl; have f1 := HV2.out.cell 1 _ rfl; have f2 := HV2.out.cell 2 _ rfl; have f3 := HV2.out.cell 3 _ rfl; have f4 := HV2.out.cell 4 _ rfl; have f5 := HV2.out.cell 5 _ rfl; have f6 := HV2.out.cell 6 _ rfl)
      | (go_at_call 40; refine (HR2.out _ HB2.out).mono ?_; rintro e w3 ⟨rfl, hb3⟩; have HB3 := jhid9 (jtwo HB2.out hb3); clear hb3))
    go_ret
    exact ⟨rfl, HB3.out⟩
  · have HR2 := jhid9 (HR.out rfl)
    clear HR
    have g1 : decide ((65536 : Int) < (X.size : Int)) = true := decide_eq_true (by omega)
    have g2 : decide (65536 < X.size) = true := decide_eq_true (by omega)
    go_enter Tryd.func21, Tryd.ntmps21
    go_wp2_with (first
      | (go_at_call 39; refine (HT.out _ (jlow _ _)).mono ?_; rintro e w1 ⟨rfl, hb1⟩; have HB1 := jhid9 (jtwo (jlow _ _) hb1); have HV1 := jhid9 (HV.out.later hb1); clear hb1; have d0 := HV1.out.cell 0 _ rfl; have d1 := HV1.out.cell 1 _ rfl; have d2 := HV1.out.cell 2 _ rfl; have d3 := HV1.out.cell 3 _ rfl; have d4 := HV1.out.cell 4 _ rfl; have d5 := HV1.out.cell 5 _ rfl; have d6 := HV1.out.cell 6 _ rfl)
      | (go_at_call 15; refine (HM.out _ HB1.out).mono ?_; rintro e w2 ⟨rfl, hb2⟩; have HB2 := jhid9 (jtwo HB1.out hb2); have HV2 := jhid9 (HV1.out.later hb2); clear hb2; have f0 := HV2.out.cell 0 _ rfl; have f1 := HV2.out.cell 1 _ rfl; have f2 := HV2.out.cell 2 _ rfl; have f3 := HV2.out.cell 3 _ rfl; have f4 := HV2.out.cell 4 _ rfl; have f5 := HV2.out.cell 5 _ rfl; have f6 := HV2.out.cell 6 _ rfl)
      | (go_at_call 40; refine (HR2.out _ HB2.out).mono ?_; rintro e w3 ⟨rfl, hb3⟩; have HB3 := jhid9 (jtwo HB2.out hb3); clear hb3))
    go_ret
    exact ⟨rfl, HB3.out⟩
end Go.Proofs.YtdimkfcanegahaaDoor
