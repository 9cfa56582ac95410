/-
  Contracts of the tree's reference: exprs, MayExpr, Deep.
-/
import Derived.Test.YtgmndjbicandfaaDoorQnnes00
import Derived.Test.YtgmndjbicandfaaDoorQnnes02
import Derived.Lib.MinMax
set_option maxRecDepth 100000
set_option maxHeartbeats 16000000
namespace Go.Proofs.YtgmndjbicandfaaDoor
open Go.RowKit
/-- May an expression be? -/
def mayX (T : Xt) : Bool := decide (0 ≤ xleft 16 T 8192)
theorem qai {T : Xt} (h : mayX T = true) : MX 16 T := ⟨8192, by omega, of_decide_eq_true h⟩
theorem qaq (w : World) (T : Xt) (v : Value) (hX : XV w v T) : Calls Tryd.prog 19 #[v] w fun e w' => e = .returned (.bool (mayX T)) ∧ Below w.heap.size w w' := by
 have HX := qa0 hX
 obtain ⟨⟨a, cap, rfl, _⟩, _⟩ := hX
 obtain ⟨r, Hr⟩ : ∃ r, Hid (xleft 16 T 8192 = r) := ⟨_, rfl⟩
 have HC : Hid (∀ w' : World, Below w.heap.size w w' → Calls Tryd.prog 36 #[.agg #[.int .u8 ((T []).k : Int), .int .i64 (T []).n, .string (T []).nm, .slice a (T []).len cap, .int .i64 (T []).ln, .int .i64 (T []).cl], .int .i64 8192, .int .i64 ((16 : Nat) : Int)] w' fun e w'' => e = .returned (.int .i64 r) ∧ Below w'.heap.size w' w'') := fun w' hb => by rw [← Hr.out]; exact qdw 16 w' T _ 8192 (by omega) (HX.out.later hb) (by omega) (by omega)
 have HM : Hid (mayX T = decide (0 ≤ r)) := by show mayX T = _; unfold mayX; rw [Hr.out]
 rw [HM.out]
 clear HM HX Hr
 generalize T [] = l at *
 obtain ⟨k, n, nm, len, ln, cl⟩ := l
 have hv := Vn.new w 25 #[.int .u8 (k : Int), .int .i64 n, .string nm, .slice a len cap, .int .i64 ln, .int .i64 cl]
 have c0 := hv.cell 0 _ rfl
 have c1 := hv.cell 1 _ rfl
 have c2 := hv.cell 2 _ rfl
 have c3 := hv.cell 3 _ rfl
 have c4 := hv.cell 4 _ rfl
 have c5 := hv.cell 5 _ rfl
 clear hv
 go_enter Tryd.func19, Tryd.ntmps19
 go_wp2_with (go_at_call 36; refine (HC.out _ (jlow _ _)).mono ?_; rintro e w2 ⟨rfl, hb2⟩; have HB2 := qa0 hb2; clear hb2)
 go_ret
 exact ⟨rfl, jtwo (jlow _ _) HB2.out⟩
theorem MX.len {d : Nat} {T : Xt} (h : MX (d + 1) T) : (T []).len ≤ 2 := by
 obtain ⟨left, _, h⟩ := h
 obtain ⟨m, hw, _⟩ := qa6 h
 have := qaf hw
 omega
theorem MX.no {T : Xt} (h : MX 0 T) : False := by
 obtain ⟨left, _, h⟩ := h
 rw [qa7] at h
 omega
end Go.Proofs.YtgmndjbicandfaaDoor
