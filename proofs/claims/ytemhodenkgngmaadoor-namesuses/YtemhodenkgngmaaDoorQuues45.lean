/-
  Contract of the tree's reference: noShape.
-/
import Derived.Test.YtemhodenkgngmaaDoorQuues00
import Derived.Test.YtemhodenkgngmaaDoorQuues44
set_option maxRecDepth 100000
set_option maxHeartbeats 16000000
namespace Go.Proofs.YtemhodenkgngmaaDoor
open Go.RowKit
theorem rnos_any (w : World) (S : St) (v : Value) (hX : SV w v S) : Calls Tryd.prog 46 #[v] w fun e w' => e = .returned (.bool (zsB (S []))) ∧ Below w.heap.size w w' := by
 obtain ⟨⟨aa, pa, ra, ca, cp, cr, rfl, _⟩, _⟩ := hX
 generalize S [] = l at *
 obtain ⟨k, nm, na, args, np, nr, rl, rows, ln, cl⟩ := l
 have e0 := qbv (x := nm)
 have hv := Vn.new w 58 #[.int .u8 (k : Int), .string nm, .slice aa na ca, .slice pa np cp, .slice ra nr cr, .int .i64 ln, .int .i64 cl]
 have c0 := hv.cell 0 _ rfl
 have c1 := hv.cell 1 _ rfl
 have c2 := hv.cell 2 _ rfl
 have c3 := hv.cell 3 _ rfl
 have c4 := hv.cell 4 _ rfl
 have c5 := hv.cell 5 _ rfl
 have c6 := hv.cell 6 _ rfl
 have HZ : Hid (zsB ⟨k, nm, na, args, np, nr, rl, rows, ln, cl⟩ = (decide (ln = 0) && (decide (cl = 0) && (decide (k = 0) && (decide (nm.size = 0) && (decide (na = 0) && (decide (np = 0) && decide (nr = 0)))))))) := rfl
 rw [HZ.out]
 clear hv HZ
 by_cases h0 : ln = 0
 ·subst h0
  by_cases h1 : cl = 0
  ·subst h1
   by_cases h2 : k = 0
   ·subst h2
    by_cases h3 : nm.size = 0
    ·rw [decide_eq_true h3] at e0 ⊢
     by_cases h4 : na = 0
     ·subst h4
      by_cases h5 : np = 0
      ·subst h5
       by_cases h6 : nr = 0
       ·subst h6
        go_enter Tryd.func46, Tryd.ntmps46
        go_wp2
        go_ret
        exact ⟨rfl, jlow _ _⟩
       ·rw [decide_eq_false h6]
        have q : ((nr : Int) == 0) = false := by simp; omega
        go_enter Tryd.func46, Tryd.ntmps46
        go_wp2
        go_ret
        exact ⟨rfl, jlow _ _⟩
      ·rw [decide_eq_false h5]
       have q : ((np : Int) == 0) = false := by simp; omega
       go_enter Tryd.func46, Tryd.ntmps46
       go_wp2
       go_ret
       exact ⟨rfl, jlow _ _⟩
     ·rw [decide_eq_false h4]
      have q : ((na : Int) == 0) = false := by simp; omega
      go_enter Tryd.func46, Tryd.ntmps46
      go_wp2
      go_ret
      exact ⟨rfl, jlow _ _⟩
    ·rw [decide_eq_false h3] at e0 ⊢
     go_enter Tryd.func46, Tryd.ntmps46
     go_wp2
     go_ret
     exact ⟨rfl, jlow _ _⟩
   ·rw [decide_eq_false h2]
    have q : ((k : Int) == 0) = false := by simp; omega
    go_enter Tryd.func46, Tryd.ntmps46
    go_wp2
    go_ret
    exact ⟨rfl, jlow _ _⟩
  ·rw [decide_eq_false h1]
   have q : (cl == 0) = false := by simpa using h1
   go_enter Tryd.func46, Tryd.ntmps46
   go_wp2
   go_ret
   exact ⟨rfl, jlow _ _⟩
 ·rw [decide_eq_false h0]
  have q : (ln == 0) = false := by simpa using h0
  go_enter Tryd.func46, Tryd.ntmps46
  go_wp2
  go_ret
  exact ⟨rfl, jlow _ _⟩
end Go.Proofs.YtemhodenkgngmaaDoor
