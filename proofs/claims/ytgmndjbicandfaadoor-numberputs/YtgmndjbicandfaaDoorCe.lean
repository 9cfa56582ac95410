/-
  Contracts of the tree's reference: exprs, MayExpr, Deep.
-/
import Derived.Test.YtgmndjbicandfaaDoorCd
import Derived.Lib.MinMax
namespace Go.Proofs.YtgmndjbicandfaaDoor
open Go.RowKit
/-- May an expression be? -/
def mayX (T : Xt) : Bool := decide (0 ≤ xleft 16 T 8192)
theorem mayX_mx {T : Xt} (h : mayX T = true) : MX 16 T := ⟨8192, by omega, of_decide_eq_true h⟩
set_option maxRecDepth 20000 in
set_option maxHeartbeats 1000000 in
theorem rmayx_any (w : World) (T : Xt) (v : Value) (hX : XV w v T) : Calls Tryd.prog 19 #[v] w fun e w' => e = .returned (.bool (mayX T)) ∧ Below w.heap.size w w' := by
  have HX := jhid9 hX
  obtain ⟨⟨a, cap, rfl, _⟩, _⟩ := hX
  obtain ⟨r, Hr⟩ : ∃ r, Hid (xleft 16 T 8192 = r) := ⟨_, rfl⟩
  have HC : Hid (∀ w' : World, Below w.heap.size w w' → Calls Tryd.prog 36 #[.agg #[.int .u8 ((T []).k : Int), .int .i64 (T []).n, .string (T []).nm, .slice a (T []).len cap, .int .i64 (T []).ln, .int .i64 (T []).cl], .int .i64 8192, .int .i64 ((16 : Nat) : Int)] w' fun e w'' => e = .returned (.int .i64 r) ∧ Below w'.heap.size w' w'') := fun w' hb => by rw [← Hr.out]; exact rexpr_any 16 w' T _ 8192 (by omega) (HX.out.later hb) (by omega) (by omega)
  have HM : Hid (mayX T = decide (0 ≤ r)) := by show mayX T = _; unfold mayX; rw [Hr.out]
  rw [HM.out]
  clear HM HX Hr
  generalize T [] = l at *
  obtain ⟨k, n, nm, len, ln, cl⟩ := l
  have hv := Vn.new w 25 #[.int .u8 (k : Int), .int .i64 n, .string nm, .slice a len cap, .int .i64 ln, .int .i64 cl]
  have c0 := hv.cell 0 _ rfl
  have c1 := hv.cell 1 _ rfl
  have c2 := hv.cell 2 _ rfl
  have c3 := hv.cell 3 _ rfl
  have c4 := hv.cell 4 _ rfl
  have c5 := hv.cell 5 _ rfl
  clear hv
  go_enter Tryd.func19, Tryd.ntmps19
  go_wp2_with (go_at_call 36; refine (HC.out _ (jlow _ _)).mono ?_; rintro e w2 ⟨rfl, hb2⟩; have HB2 := jhid9 hb2; clear hb2)
  go_ret
  exact ⟨rfl, jtwo (jlow _ _) HB2.out⟩
theorem MX.len {d : Nat} {T : Xt} (h : MX (d + 1) T) : (T []).len ≤ 2 := by
  obtain ⟨left, _, h⟩ := h
  obtain ⟨m, hw, _⟩ := xleft_parts h
  have := xwant_len hw
  omega
theorem MX.no {T : Xt} (h : MX 0 T) : False := by
  obtain ⟨left, _, h⟩ := h
  rw [xleft_zero] at h
  omega
end Go.Proofs.YtgmndjbicandfaaDoor
