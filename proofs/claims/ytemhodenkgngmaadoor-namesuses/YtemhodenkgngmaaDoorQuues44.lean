/-
  Contract of the tree's reference: NoExprHere.
-/
import Derived.Test.YtemhodenkgngmaaDoorQuues00
import Derived.Test.YtemhodenkgngmaaDoorQuues06
set_option maxRecDepth 100000
set_option maxHeartbeats 16000000
namespace Go.Proofs.YtemhodenkgngmaaDoor
open Go.RowKit
theorem rnox_any (w : World) (T : Xt) (v : Value) (hX : XV w v T) : Calls Tryd.prog 45 #[v] w fun e w' => e = .returned (.bool (zxB (T []))) ∧ Below w.heap.size w w' := by
 obtain ⟨⟨a, cap, rfl, _⟩, hok⟩ := hX
 generalize T [] = l at *
 obtain ⟨k, n, nm, len, ln, cl⟩ := l
 have e0 := qbv (x := nm)
 have hv := Vn.new w 53 #[.int .u8 (k : Int), .int .i64 n, .string nm, .slice a len cap, .int .i64 ln, .int .i64 cl]
 have c0 := hv.cell 0 _ rfl
 have c1 := hv.cell 1 _ rfl
 have c2 := hv.cell 2 _ rfl
 have c3 := hv.cell 3 _ rfl
 have c4 := hv.cell 4 _ rfl
 have c5 := hv.cell 5 _ rfl
 have HZ : Hid (zxB ⟨k, n, nm, len, ln, cl⟩ = (decide (k = 0) && (decide (n = 0) && (decide (nm.size = 0) && (decide (len = 0) && (decide (ln = 0) && decide (cl = 0))))))) := rfl
 rw [HZ.out]
 clear hv hok HZ
 by_cases h1 : k = 0
 ·subst h1
  by_cases h2 : n = 0
  ·subst h2
   by_cases h3 : nm.size = 0
   ·rw [decide_eq_true h3] at e0 ⊢
    by_cases h4 : len = 0
    ·subst h4
     by_cases h5 : ln = 0
     ·subst h5
      by_cases h6 : cl = 0
      ·subst h6
       go_enter Tryd.func45, Tryd.ntmps45
       go_wp2
       go_ret
       exact ⟨rfl, jlow _ _⟩
      ·rw [decide_eq_false h6]
       have q : (cl == 0) = false := by simpa using h6
       go_enter Tryd.func45, Tryd.ntmps45
       go_wp2
       go_ret
       exact ⟨rfl, jlow _ _⟩
     ·rw [decide_eq_false h5]
      have q : (ln == 0) = false := by simpa using h5
      go_enter Tryd.func45, Tryd.ntmps45
      go_wp2
      go_ret
      exact ⟨rfl, jlow _ _⟩
    ·rw [decide_eq_false h4]
     have q : ((len : Int) == 0) = false := by simp; omega
     go_enter Tryd.func45, Tryd.ntmps45
     go_wp2
     go_ret
     exact ⟨rfl, jlow _ _⟩
   ·rw [decide_eq_false h3] at e0 ⊢
    go_enter Tryd.func45, Tryd.ntmps45
    go_wp2
    go_ret
    exact ⟨rfl, jlow _ _⟩
  ·rw [decide_eq_false h2]
   have q : (n == 0) = false := by simpa using h2
   go_enter Tryd.func45, Tryd.ntmps45
   go_wp2
   go_ret
   exact ⟨rfl, jlow _ _⟩
 ·rw [decide_eq_false h1]
  have q : ((k : Int) == 0) = false := by simp; omega
  go_enter Tryd.func45, Tryd.ntmps45
  go_wp2
  go_ret
  exact ⟨rfl, jlow _ _⟩
end Go.Proofs.YtemhodenkgngmaaDoor
