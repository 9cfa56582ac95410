/-
  Contracts of the tree's reference: Item whole, May.
-/
import Derived.Test.YtemhodenkgngmaaDoorQuues00
import Derived.Test.YtemhodenkgngmaaDoorQuues37
import Derived.Test.YtemhodenkgngmaaDoorQuues38
import Derived.Test.YtemhodenkgngmaaDoorQuues39
import Derived.Test.YtemhodenkgngmaaDoorQuues40
import Derived.Test.YtemhodenkgngmaaDoorQuues43
import Derived.Test.YtemhodenkgngmaaDoorQuues15
import Derived.Test.YtemhodenkgngmaaDoorQuues44
import Derived.Test.YtemhodenkgngmaaDoorQuues45
set_option maxRecDepth 100000
set_option maxHeartbeats 16000000
namespace Go.Proofs.YtemhodenkgngmaaDoor
open Go.RowKit
theorem rit_few (w : World) (k pl nl vk vl vc sk na ca np cp nr cr lc : Nat) (nm vm sm : ByteArray) (vn vln vcl sln scl ln cl : Int) (va aa pa ra la : Option Addr) (left : Int) (h1 : -1 ≤ left) (h2 : left ≤ 8192) (q : decide (left - 1 < 0) = true) :
  Calls Tryd.prog 30 #[.agg #[.int .u8 (k : Int), .string nm, .int .u8 (vk : Int), .int .i64 vn, .string vm, .slice va vl vc, .int .i64 vln, .int .i64 vcl, .int .u8 (sk : Int), .string sm, .slice aa na ca, .slice pa np cp, .slice ra nr cr, .int .i64 sln, .int .i64 scl, .int .u8 (pl : Int), .slice la nl lc, .int .i64 ln, .int .i64 cl], .int .i64 left] w fun e w' => e = .returned (.int .i64 (-1)) ∧ Below w.heap.size w w' := by
 have HI := qa0 (Vn.new w 61 #[.int .u8 (k : Int), .string nm, .int .u8 (vk : Int), .int .i64 vn, .string vm, .slice va vl vc, .int .i64 vln, .int .i64 vcl, .int .u8 (sk : Int), .string sm, .slice aa na ca, .slice pa np cp, .slice ra nr cr, .int .i64 sln, .int .i64 scl, .int .u8 (pl : Int), .slice la nl lc, .int .i64 ln, .int .i64 cl])
 have c0 := HI.out.cell 0 _ rfl
 have c1 := HI.out.cell 1 _ rfl
 have c15 := HI.out.cell 15 _ rfl
 by_cases h1 : k = 1
 ·have k1 : ((k : Int) == 1) = true := by simp; omega
  have k2 : ((k : Int) == 2) = false := by simp; omega
  have k3 : ((k : Int) == 3) = false := by simp; omega
  have k4 : ((k : Int) == 4) = false := by simp; omega
  have k5 : ((k : Int) == 5) = false := by simp; omega
  have k6 : ((k : Int) == 6) = false := by simp; omega
  go_enter Tryd.func30, Tryd.ntmps30
  go_wp2
  go_ret
  exact ⟨rfl, jlow _ _⟩
 by_cases h2 : k = 2
 ·have k1 : ((k : Int) == 1) = false := by simp; omega
  have k2 : ((k : Int) == 2) = true := by simp; omega
  have k3 : ((k : Int) == 3) = false := by simp; omega
  have k4 : ((k : Int) == 4) = false := by simp; omega
  have k5 : ((k : Int) == 5) = false := by simp; omega
  have k6 : ((k : Int) == 6) = false := by simp; omega
  go_enter Tryd.func30, Tryd.ntmps30
  go_wp2
  go_ret
  exact ⟨rfl, jlow _ _⟩
 by_cases h3 : k = 3
 ·have k1 : ((k : Int) == 1) = false := by simp; omega
  have k2 : ((k : Int) == 2) = false := by simp; omega
  have k3 : ((k : Int) == 3) = true := by simp; omega
  have k4 : ((k : Int) == 4) = false := by simp; omega
  have k5 : ((k : Int) == 5) = false := by simp; omega
  have k6 : ((k : Int) == 6) = false := by simp; omega
  go_enter Tryd.func30, Tryd.ntmps30
  go_wp2
  go_ret
  exact ⟨rfl, jlow _ _⟩
 by_cases h4 : k = 4
 ·have k1 : ((k : Int) == 1) = false := by simp; omega
  have k2 : ((k : Int) == 2) = false := by simp; omega
  have k3 : ((k : Int) == 3) = false := by simp; omega
  have k4 : ((k : Int) == 4) = true := by simp; omega
  have k5 : ((k : Int) == 5) = false := by simp; omega
  have k6 : ((k : Int) == 6) = false := by simp; omega
  go_enter Tryd.func30, Tryd.ntmps30
  go_wp2
  go_ret
  exact ⟨rfl, jlow _ _⟩
 by_cases h6 : k = 6
 ·have k1 : ((k : Int) == 1) = false := by simp; omega
  have k2 : ((k : Int) == 2) = false := by simp; omega
  have k3 : ((k : Int) == 3) = false := by simp; omega
  have k4 : ((k : Int) == 4) = false := by simp; omega
  have k5 : ((k : Int) == 5) = false := by simp; omega
  have k6 : ((k : Int) == 6) = true := by simp; omega
  go_enter Tryd.func30, Tryd.ntmps30
  go_wp2
  go_ret
  exact ⟨rfl, jlow _ _⟩
 by_cases h5 : k = 5
 ·by_cases hp : pl = 3
  ·have k1 : ((k : Int) == 1) = false := by simp; omega
   have k2 : ((k : Int) == 2) = false := by simp; omega
   have k3 : ((k : Int) == 3) = false := by simp; omega
   have k4 : ((k : Int) == 4) = false := by simp; omega
   have k5 : ((k : Int) == 5) = true := by simp; omega
   have k6 : ((k : Int) == 6) = false := by simp; omega
   have p3 : ((pl : Int) == 3) = true := by simp; omega
   go_enter Tryd.func30, Tryd.ntmps30
   go_wp2
   go_ret
   exact ⟨rfl, jlow _ _⟩
  ·have k1 : ((k : Int) == 1) = false := by simp; omega
   have k2 : ((k : Int) == 2) = false := by simp; omega
   have k3 : ((k : Int) == 3) = false := by simp; omega
   have k4 : ((k : Int) == 4) = false := by simp; omega
   have k5 : ((k : Int) == 5) = true := by simp; omega
   have k6 : ((k : Int) == 6) = false := by simp; omega
   have p3 : ((pl : Int) == 3) = false := by simp; omega
   go_enter Tryd.func30, Tryd.ntmps30
   go_wp2
   go_ret
   exact ⟨rfl, jlow _ _⟩
 have k1 : ((k : Int) == 1) = false := by simp; omega
 have k2 : ((k : Int) == 2) = false := by simp; omega
 have k3 : ((k : Int) == 3) = false := by simp; omega
 have k4 : ((k : Int) == 4) = false := by simp; omega
 have k5 : ((k : Int) == 5) = false := by simp; omega
 have k6 : ((k : Int) == 6) = false := by simp; omega
 go_enter Tryd.func30, Tryd.ntmps30
 go_wp2
 go_ret
 exact ⟨rfl, jlow _ _⟩
theorem rit_odd (w : World) (k pl nl vk vl vc sk na ca np cp nr cr lc : Nat) (nm vm sm : ByteArray) (vn vln vcl sln scl ln cl : Int) (va aa pa ra la : Option Addr) (left : Int) (h1 : -1 ≤ left) (h2 : left ≤ 8192) (q : decide (left - 1 < 0) = false) (hk : k < 1 ∨ 6 < k) :
  Calls Tryd.prog 30 #[.agg #[.int .u8 (k : Int), .string nm, .int .u8 (vk : Int), .int .i64 vn, .string vm, .slice va vl vc, .int .i64 vln, .int .i64 vcl, .int .u8 (sk : Int), .string sm, .slice aa na ca, .slice pa np cp, .slice ra nr cr, .int .i64 sln, .int .i64 scl, .int .u8 (pl : Int), .slice la nl lc, .int .i64 ln, .int .i64 cl], .int .i64 left] w fun e w' => e = .returned (.int .i64 (-1)) ∧ Below w.heap.size w w' := by
 have HI := qa0 (Vn.new w 61 #[.int .u8 (k : Int), .string nm, .int .u8 (vk : Int), .int .i64 vn, .string vm, .slice va vl vc, .int .i64 vln, .int .i64 vcl, .int .u8 (sk : Int), .string sm, .slice aa na ca, .slice pa np cp, .slice ra nr cr, .int .i64 sln, .int .i64 scl, .int .u8 (pl : Int), .slice la nl lc, .int .i64 ln, .int .i64 cl])
 have c0 := HI.out.cell 0 _ rfl
 have c1 := HI.out.cell 1 _ rfl
 have c15 := HI.out.cell 15 _ rfl
 have k1 : ((k : Int) == 1) = false := by simp; omega
 have k2 : ((k : Int) == 2) = false := by simp; omega
 have k3 : ((k : Int) == 3) = false := by simp; omega
 have k4 : ((k : Int) == 4) = false := by simp; omega
 have k5 : ((k : Int) == 5) = false := by simp; omega
 have k6 : ((k : Int) == 6) = false := by simp; omega
 by_cases h0 : k < 1
 ·have g1 : decide ((k : Int) < 1) = true := decide_eq_true (by omega)
  have g2 : decide (k < 1) = true := decide_eq_true h0
  have g3 : decide (k = 0) = true := decide_eq_true (by omega)
  clear hk
  go_enter Tryd.func30, Tryd.ntmps30
  go_wp2
  go_ret
  exact ⟨rfl, jlow _ _⟩
 ·have g1 : decide ((k : Int) < 1) = false := decide_eq_false (by omega)
  have g2 : decide (k < 1) = false := decide_eq_false h0
  have g3 : decide ((6 : Int) < (k : Int)) = true := decide_eq_true (by omega)
  have g4 : decide (6 < k) = true := decide_eq_true (by omega)
  have g5 : decide (k = 0) = false := decide_eq_false (by omega)
  clear hk
  go_enter Tryd.func30, Tryd.ntmps30
  go_wp2
  go_ret
  exact ⟨rfl, jlow _ _⟩
theorem qaj {I : It} {left : Int} (h : iwant I = false) : ileft I left = -1 := by
 unfold ileft
 by_cases g : left - 1 < 0
 ·rw [if_pos g]
 ·rw [if_neg g, if_pos h]
theorem iw_c1 {pl nl : Nat} {nm : ByteArray} {T : Xt} {S : St} {F : Nat → Xt} {ln cl : Int} : iwant ⟨1, nm, T, S, pl, nl, F, ln, cl⟩ = true ↔ (isN nm = true ∧ True ∧ zxB (T []) = false ∧ zsB (S []) = true ∧ pl = 0 ∧ nl = 0) := by
 have hN : isN nm = true → nm.size ≠ 0 := fun h => by have := (qa8.1 h).pos; omega
 unfold iwant
 simp only
 generalize zxB (T []) = a
 generalize zsB (S []) = b
 generalize isN nm = n at *
 generalize nm.size = s at *
 cases a <;> cases b <;> cases n <;> by_cases gs : s = 0 <;> by_cases gp : pl = 0 <;> by_cases gn : nl = 0 <;> simp_all
theorem iw_c2 {pl nl : Nat} {nm : ByteArray} {T : Xt} {S : St} {F : Nat → Xt} {ln cl : Int} : iwant ⟨2, nm, T, S, pl, nl, F, ln, cl⟩ = true ↔ (isN nm = true ∧ True ∧ zxB (T []) = true ∧ zsB (S []) = false ∧ pl = 0 ∧ nl = 0) := by
 have hN : isN nm = true → nm.size ≠ 0 := fun h => by have := (qa8.1 h).pos; omega
 unfold iwant
 simp only
 generalize zxB (T []) = a
 generalize zsB (S []) = b
 generalize isN nm = n at *
 generalize nm.size = s at *
 cases a <;> cases b <;> cases n <;> by_cases gs : s = 0 <;> by_cases gp : pl = 0 <;> by_cases gn : nl = 0 <;> simp_all
theorem iw_c3 {pl nl : Nat} {nm : ByteArray} {T : Xt} {S : St} {F : Nat → Xt} {ln cl : Int} : iwant ⟨3, nm, T, S, pl, nl, F, ln, cl⟩ = true ↔ (isN nm = true ∧ True ∧ zxB (T []) = true ∧ zsB (S []) = true ∧ pl = 0 ∧ nl = 0) := by
 have hN : isN nm = true → nm.size ≠ 0 := fun h => by have := (qa8.1 h).pos; omega
 unfold iwant
 simp only
 generalize zxB (T []) = a
 generalize zsB (S []) = b
 generalize isN nm = n at *
 generalize nm.size = s at *
 cases a <;> cases b <;> cases n <;> by_cases gs : s = 0 <;> by_cases gp : pl = 0 <;> by_cases gn : nl = 0 <;> simp_all
theorem iw_c4 {pl nl : Nat} {nm : ByteArray} {T : Xt} {S : St} {F : Nat → Xt} {ln cl : Int} : iwant ⟨4, nm, T, S, pl, nl, F, ln, cl⟩ = true ↔ (isN nm = false ∧ decide (nm.size = 0) = true ∧ zxB (T []) = false ∧ zsB (S []) = true ∧ pl = 0 ∧ nl = 0) := by
 have hN : isN nm = true → nm.size ≠ 0 := fun h => by have := (qa8.1 h).pos; omega
 unfold iwant
 simp only
 generalize zxB (T []) = a
 generalize zsB (S []) = b
 generalize isN nm = n at *
 generalize nm.size = s at *
 cases a <;> cases b <;> cases n <;> by_cases gs : s = 0 <;> by_cases gp : pl = 0 <;> by_cases gn : nl = 0 <;> simp_all
theorem iw_c6 {pl nl : Nat} {nm : ByteArray} {T : Xt} {S : St} {F : Nat → Xt} {ln cl : Int} : iwant ⟨6, nm, T, S, pl, nl, F, ln, cl⟩ = true ↔ (isN nm = false ∧ decide (nm.size = 0) = true ∧ zxB (T []) = false ∧ zsB (S []) = true ∧ pl = 0 ∧ nl = 0) := by
 have hN : isN nm = true → nm.size ≠ 0 := fun h => by have := (qa8.1 h).pos; omega
 unfold iwant
 simp only
 generalize zxB (T []) = a
 generalize zsB (S []) = b
 generalize isN nm = n at *
 generalize nm.size = s at *
 cases a <;> cases b <;> cases n <;> by_cases gs : s = 0 <;> by_cases gp : pl = 0 <;> by_cases gn : nl = 0 <;> simp_all
theorem iw_c53 {nl : Nat} {nm : ByteArray} {T : Xt} {S : St} {F : Nat → Xt} {ln cl : Int} : iwant ⟨5, nm, T, S, 3, nl, F, ln, cl⟩ = true ↔ (isN nm = false ∧ decide (nm.size = 0) = true ∧ zxB (T []) = false ∧ zsB (S []) = true ∧ True ∧ nl = 0) := by
 have hN : isN nm = true → nm.size ≠ 0 := fun h => by have := (qa8.1 h).pos; omega
 unfold iwant
 simp only
 generalize zxB (T []) = a
 generalize zsB (S []) = b
 generalize isN nm = n at *
 generalize nm.size = s at *
 cases a <;> cases b <;> cases n <;> by_cases gs : s = 0 <;> by_cases gn : nl = 0 <;> simp_all
theorem iw_c54 {nl : Nat} {nm : ByteArray} {T : Xt} {S : St} {F : Nat → Xt} {ln cl : Int} : iwant ⟨5, nm, T, S, 4, nl, F, ln, cl⟩ = true ↔ (isN nm = false ∧ decide (nm.size = 0) = true ∧ zxB (T []) = true ∧ zsB (S []) = true ∧ True ∧ (1 ≤ nl ∧ nl ≤ 64)) := by
 have hN : isN nm = true → nm.size ≠ 0 := fun h => by have := (qa8.1 h).pos; omega
 unfold iwant
 simp only
 generalize zxB (T []) = a
 generalize zsB (S []) = b
 generalize isN nm = n at *
 generalize nm.size = s at *
 by_cases gn : 1 ≤ nl <;> by_cases g6 : nl ≤ 64 <;> cases a <;> cases b <;> cases n <;> by_cases gs : s = 0 <;> simp_all
theorem iw_c5x {pl nl : Nat} {nm : ByteArray} {T : Xt} {S : St} {F : Nat → Xt} {ln cl : Int} (h3 : pl ≠ 3) (h4 : pl ≠ 4) : iwant ⟨5, nm, T, S, pl, nl, F, ln, cl⟩ = true ↔ (isN nm = false ∧ decide (nm.size = 0) = true ∧ zxB (T []) = true ∧ zsB (S []) = true ∧ (1 ≤ pl ∧ pl ≤ 4) ∧ nl = 0) := by
 have hN : isN nm = true → nm.size ≠ 0 := fun h => by have := (qa8.1 h).pos; omega
 unfold iwant
 simp only
 generalize zxB (T []) = a
 generalize zsB (S []) = b
 generalize isN nm = n at *
 generalize nm.size = s at *
 by_cases g1 : pl = 1 ∨ pl = 2
 ·have g2 : 1 ≤ pl ∧ pl ≤ 4 := by omega
  cases a <;> cases b <;> cases n <;> by_cases gs : s = 0 <;> by_cases gn : nl = 0 <;> simp_all
 ·have g2 : ¬ (1 ≤ pl ∧ pl ≤ 4) := by omega
  cases a <;> cases b <;> cases n <;> by_cases gs : s = 0 <;> by_cases gn : nl = 0 <;> simp_all
/-- How many nodes an item leaves, as the reference counts. -/
theorem qfs (w : World) (k pl nl vk vl vc sk na ca np cp nr cr lc : Nat) (nm vm sm : ByteArray) (vn vln vcl sln scl ln cl : Int) (va aa pa ra la : Option Addr) (T : Xt) (S : St) (F : Nat → Xt) (left : Int) (hT : XV w (.agg #[.int .u8 (vk : Int), .int .i64 vn, .string vm, .slice va vl vc, .int .i64 vln, .int .i64 vcl]) T) (hS : SV w (.agg #[.int .u8 (sk : Int), .string sm, .slice aa na ca, .slice pa np cp, .slice ra nr cr, .int .i64 sln, .int .i64 scl]) S) (hF : ∀ d, XL d w la nl F) (hx : nm.size ≤ 140737488351232) (hnl : nl ≤ 140737488351232) (h1 : -1 ≤ left) (h2 : left ≤ 8192) :
  Calls Tryd.prog 30 #[.agg #[.int .u8 (k : Int), .string nm, .int .u8 (vk : Int), .int .i64 vn, .string vm, .slice va vl vc, .int .i64 vln, .int .i64 vcl, .int .u8 (sk : Int), .string sm, .slice aa na ca, .slice pa np cp, .slice ra nr cr, .int .i64 sln, .int .i64 scl, .int .u8 (pl : Int), .slice la nl lc, .int .i64 ln, .int .i64 cl], .int .i64 left] w fun e w' => e = .returned (.int .i64 (ileft ⟨k, nm, T, S, pl, nl, F, ln, cl⟩ left)) ∧ Below w.heap.size w w' := by
 by_cases hl : left - 1 < 0
 ·rw [show ileft ⟨k, nm, T, S, pl, nl, F, ln, cl⟩ left = -1 by unfold ileft; rw [if_pos hl]]
  exact rit_few w k pl nl vk vl vc sk na ca np cp nr cr lc nm vm sm vn vln vcl sln scl ln cl va aa pa ra la left h1 h2 (decide_eq_true hl)
 have q : decide (left - 1 < 0) = false := decide_eq_false hl
 by_cases hk : k < 1 ∨ 6 < k
 ·rw [show ileft ⟨k, nm, T, S, pl, nl, F, ln, cl⟩ left = -1 from qaj (by unfold iwant; simp only; rw [if_neg (by omega), if_neg (by omega), if_neg (by omega), if_neg (by omega), if_neg (by omega)]; simp)]
  exact rit_odd w k pl nl vk vl vc sk na ca np cp nr cr lc nm vm sm vn vln vcl sln scl ln cl va aa pa ra la left h1 h2 q hk
 have e0 := qbv (x := nm)
 have HN : Hid (∀ w' : World, Calls Tryd.prog 44 #[.string nm] w' fun e w'' => e = .returned (.bool (isN nm)) ∧ Below w'.heap.size w' w'') := fun w' => qbr w' nm _ rfl hx
 have HZx : Hid (∀ w' : World, Below w.heap.size w w' → Calls Tryd.prog 45 #[.agg #[.int .u8 (vk : Int), .int .i64 vn, .string vm, .slice va vl vc, .int .i64 vln, .int .i64 vcl]] w' fun e w'' => e = .returned (.bool (zxB (T []))) ∧ Below w'.heap.size w' w'') := fun w' hb => rnox_any w' T _ (hT.later hb)
 have HZs : Hid (∀ w' : World, Below w.heap.size w w' → Calls Tryd.prog 46 #[.agg #[.int .u8 (sk : Int), .string sm, .slice aa na ca, .slice pa np cp, .slice ra nr cr, .int .i64 sln, .int .i64 scl]] w' fun e w'' => e = .returned (.bool (zsB (S []))) ∧ Below w'.heap.size w' w'') := fun w' hb => rnos_any w' S _ (hS.later hb)
 have hxl := qa5 16 T (left - 1) (by omega)
 have hsl := qbe 16 S (left - 1) (by omega)
 have HEx : Hid (∀ w' : World, Below w.heap.size w w' → Calls Tryd.prog 47 #[.agg #[.int .u8 (vk : Int), .int .i64 vn, .string vm, .slice va vl vc, .int .i64 vln, .int .i64 vcl], .int .i64 (left - 1), .int .i64 16] w' fun e w'' => e = .returned (.int .i64 (xleft 16 T (left - 1))) ∧ Below w'.heap.size w' w'') := fun w' hb => qcy 16 w' T _ (left - 1) (by omega) (hT.later hb) (by omega) (by omega)
 have HEs : Hid (∀ w' : World, Below w.heap.size w w' → Calls Tryd.prog 48 #[.agg #[.int .u8 (sk : Int), .string sm, .slice aa na ca, .slice pa np cp, .slice ra nr cr, .int .i64 sln, .int .i64 scl], .int .i64 (left - 1), .int .i64 16] w' fun e w'' => e = .returned (.int .i64 (sleft 16 S (left - 1))) ∧ Below w'.heap.size w' w'') := fun w' hb => qeo 16 w' S _ (left - 1) (by omega) (hS.later hb) (by omega) (by omega)
 have HLx : Hid (∀ (X r : Int), -1 ≤ X → X ≤ 8192 → xks (xleft 16) F nl X = r → ∀ w' : World, Below w.heap.size w w' → Calls Tryd.prog 49 #[.slice la nl lc, .int .i64 X] w' fun e w'' => e = .returned (.int .i64 r) ∧ Below w'.heap.size w' w'') := fun X r g1 g2 e w' hb => by
  rw [← e]
  exact qbh w' la nl lc F X (fun d => (hF d).later hb) hnl g1 g2
 have HSt : Hid (∀ X : Int, X < 0 → xks (xleft 16) F nl X = X) := fun X h => by
  have := qah (f := xleft 16) (F := F) (k := 0) (left := X) h nl
  rw [Nat.zero_add] at this
  exact this
 clear hT hS hF
 by_cases hk1 : k = 1
 ·subst hk1
  have HG : Hid ((isN nm = true ∧ True ∧ zxB (T []) = false ∧ zsB (S []) = true ∧ pl = 0 ∧ nl = 0) → ileft ⟨1, nm, T, S, pl, nl, F, ln, cl⟩ left = xks (xleft 16) F nl (xleft 16 T (left - 1))) := fun h => qao (by omega) ((iw_c1).2 h) (X1 := (xleft 16 T (left - 1))) (X2 := (xleft 16 T (left - 1))) rfl rfl
  have HBad : Hid (¬ (isN nm = true ∧ True ∧ zxB (T []) = false ∧ zsB (S []) = true ∧ pl = 0 ∧ nl = 0) → ileft ⟨1, nm, T, S, pl, nl, F, ln, cl⟩ left = -1) := fun h => qaj (by cases hv : iwant ⟨1, nm, T, S, pl, nl, F, ln, cl⟩ with | false => rfl | true => exact absurd ((iw_c1).1 hv) h)
  exact rit_c1 w pl nl vk vl vc sk na ca np cp nr cr lc nm vm sm vn vln vcl sln scl ln cl va aa pa ra la left _ _ _ _ _ _ (by omega) h2 q (by omega) (by omega) e0 HN HZx HZs HEx (fun h => HLx.out _ _ (by omega) (by omega) (HG.out h).symm) (fun h hn => (HG.out h).trans (HSt.out _ hn)) HBad
 by_cases hk2 : k = 2
 ·subst hk2
  have HG : Hid ((isN nm = true ∧ True ∧ zxB (T []) = true ∧ zsB (S []) = false ∧ pl = 0 ∧ nl = 0) → ileft ⟨2, nm, T, S, pl, nl, F, ln, cl⟩ left = xks (xleft 16) F nl (sleft 16 S (left - 1))) := fun h => qao (by omega) ((iw_c2).2 h) (X1 := (left - 1)) (X2 := (sleft 16 S (left - 1))) rfl rfl
  have HBad : Hid (¬ (isN nm = true ∧ True ∧ zxB (T []) = true ∧ zsB (S []) = false ∧ pl = 0 ∧ nl = 0) → ileft ⟨2, nm, T, S, pl, nl, F, ln, cl⟩ left = -1) := fun h => qaj (by cases hv : iwant ⟨2, nm, T, S, pl, nl, F, ln, cl⟩ with | false => rfl | true => exact absurd ((iw_c2).1 hv) h)
  exact rit_c2 w pl nl vk vl vc sk na ca np cp nr cr lc nm vm sm vn vln vcl sln scl ln cl va aa pa ra la left _ _ _ _ _ _ (by omega) h2 q (by omega) (by omega) e0 HN HZx HZs HEs (fun h => HLx.out _ _ (by omega) (by omega) (HG.out h).symm) (fun h hn => (HG.out h).trans (HSt.out _ hn)) HBad
 by_cases hk3 : k = 3
 ·subst hk3
  have HG : Hid ((isN nm = true ∧ True ∧ zxB (T []) = true ∧ zsB (S []) = true ∧ pl = 0 ∧ nl = 0) → ileft ⟨3, nm, T, S, pl, nl, F, ln, cl⟩ left = xks (xleft 16) F nl (left - 1)) := fun h => qao (by omega) ((iw_c3).2 h) (X1 := (left - 1)) (X2 := (left - 1)) rfl rfl
  have HBad : Hid (¬ (isN nm = true ∧ True ∧ zxB (T []) = true ∧ zsB (S []) = true ∧ pl = 0 ∧ nl = 0) → ileft ⟨3, nm, T, S, pl, nl, F, ln, cl⟩ left = -1) := fun h => qaj (by cases hv : iwant ⟨3, nm, T, S, pl, nl, F, ln, cl⟩ with | false => rfl | true => exact absurd ((iw_c3).1 hv) h)
  exact rit_c3 w pl nl vk vl vc sk na ca np cp nr cr lc nm vm sm vn vln vcl sln scl ln cl va aa pa ra la left _ _ _ _ _ (by omega) h2 q e0 HN HZx HZs (fun h => HLx.out _ _ (by omega) (by omega) (HG.out h).symm) HBad
 by_cases hk4 : k = 4
 ·subst hk4
  have HG : Hid ((isN nm = false ∧ decide (nm.size = 0) = true ∧ zxB (T []) = false ∧ zsB (S []) = true ∧ pl = 0 ∧ nl = 0) → ileft ⟨4, nm, T, S, pl, nl, F, ln, cl⟩ left = xks (xleft 16) F nl (xleft 16 T (left - 1))) := fun h => qao (by omega) ((iw_c4).2 h) (X1 := (xleft 16 T (left - 1))) (X2 := (xleft 16 T (left - 1))) rfl rfl
  have HBad : Hid (¬ (isN nm = false ∧ decide (nm.size = 0) = true ∧ zxB (T []) = false ∧ zsB (S []) = true ∧ pl = 0 ∧ nl = 0) → ileft ⟨4, nm, T, S, pl, nl, F, ln, cl⟩ left = -1) := fun h => qaj (by cases hv : iwant ⟨4, nm, T, S, pl, nl, F, ln, cl⟩ with | false => rfl | true => exact absurd ((iw_c4).1 hv) h)
  exact rit_c4 w pl nl vk vl vc sk na ca np cp nr cr lc nm vm sm vn vln vcl sln scl ln cl va aa pa ra la left _ _ _ _ _ _ (by omega) h2 q (by omega) (by omega) e0 HN HZx HZs HEx (fun h => HLx.out _ _ (by omega) (by omega) (HG.out h).symm) (fun h hn => (HG.out h).trans (HSt.out _ hn)) HBad
 by_cases hk6 : k = 6
 ·subst hk6
  have HG : Hid ((isN nm = false ∧ decide (nm.size = 0) = true ∧ zxB (T []) = false ∧ zsB (S []) = true ∧ pl = 0 ∧ nl = 0) → ileft ⟨6, nm, T, S, pl, nl, F, ln, cl⟩ left = xks (xleft 16) F nl (xleft 16 T (left - 1))) := fun h => qao (by omega) ((iw_c6).2 h) (X1 := (xleft 16 T (left - 1))) (X2 := (xleft 16 T (left - 1))) rfl rfl
  have HBad : Hid (¬ (isN nm = false ∧ decide (nm.size = 0) = true ∧ zxB (T []) = false ∧ zsB (S []) = true ∧ pl = 0 ∧ nl = 0) → ileft ⟨6, nm, T, S, pl, nl, F, ln, cl⟩ left = -1) := fun h => qaj (by cases hv : iwant ⟨6, nm, T, S, pl, nl, F, ln, cl⟩ with | false => rfl | true => exact absurd ((iw_c6).1 hv) h)
  exact rit_c6 w pl nl vk vl vc sk na ca np cp nr cr lc nm vm sm vn vln vcl sln scl ln cl va aa pa ra la left _ _ _ _ _ _ (by omega) h2 q (by omega) (by omega) e0 HN HZx HZs HEx (fun h => HLx.out _ _ (by omega) (by omega) (HG.out h).symm) (fun h hn => (HG.out h).trans (HSt.out _ hn)) HBad
 obtain rfl : k = 5 := by omega
 by_cases hp3 : pl = 3
 ·subst hp3
  have HG : Hid ((isN nm = false ∧ decide (nm.size = 0) = true ∧ zxB (T []) = false ∧ zsB (S []) = true ∧ True ∧ nl = 0) → ileft ⟨5, nm, T, S, 3, nl, F, ln, cl⟩ left = xks (xleft 16) F nl (xleft 16 T (left - 1))) := fun h => qao (by omega) ((iw_c53).2 h) (X1 := (xleft 16 T (left - 1))) (X2 := (xleft 16 T (left - 1))) rfl rfl
  have HBad : Hid (¬ (isN nm = false ∧ decide (nm.size = 0) = true ∧ zxB (T []) = false ∧ zsB (S []) = true ∧ True ∧ nl = 0) → ileft ⟨5, nm, T, S, 3, nl, F, ln, cl⟩ left = -1) := fun h => qaj (by cases hv : iwant ⟨5, nm, T, S, 3, nl, F, ln, cl⟩ with | false => rfl | true => exact absurd ((iw_c53).1 hv) h)
  exact rit_c53 w nl vk vl vc sk na ca np cp nr cr lc nm vm sm vn vln vcl sln scl ln cl va aa pa ra la left _ _ _ _ _ _ (by omega) h2 q (by omega) (by omega) e0 HN HZx HZs HEx (fun h => HLx.out _ _ (by omega) (by omega) (HG.out h).symm) (fun h hn => (HG.out h).trans (HSt.out _ hn)) HBad
 by_cases hp4 : pl = 4
 ·subst hp4
  have HG : Hid ((isN nm = false ∧ decide (nm.size = 0) = true ∧ zxB (T []) = true ∧ zsB (S []) = true ∧ True ∧ (1 ≤ nl ∧ nl ≤ 64)) → ileft ⟨5, nm, T, S, 4, nl, F, ln, cl⟩ left = xks (xleft 16) F nl (left - 1)) := fun h => qao (by omega) ((iw_c54).2 h) (X1 := (left - 1)) (X2 := (left - 1)) rfl rfl
  have HBad : Hid (¬ (isN nm = false ∧ decide (nm.size = 0) = true ∧ zxB (T []) = true ∧ zsB (S []) = true ∧ True ∧ (1 ≤ nl ∧ nl ≤ 64)) → ileft ⟨5, nm, T, S, 4, nl, F, ln, cl⟩ left = -1) := fun h => qaj (by cases hv : iwant ⟨5, nm, T, S, 4, nl, F, ln, cl⟩ with | false => rfl | true => exact absurd ((iw_c54).1 hv) h)
  exact rit_c54 w nl vk vl vc sk na ca np cp nr cr lc nm vm sm vn vln vcl sln scl ln cl va aa pa ra la left _ _ _ _ _ (by omega) h2 q e0 HN HZx HZs (fun h => HLx.out _ _ (by omega) (by omega) (HG.out h).symm) HBad
 have HG : Hid ((isN nm = false ∧ decide (nm.size = 0) = true ∧ zxB (T []) = true ∧ zsB (S []) = true ∧ (1 ≤ pl ∧ pl ≤ 4) ∧ nl = 0) → ileft ⟨5, nm, T, S, pl, nl, F, ln, cl⟩ left = xks (xleft 16) F nl (left - 1)) := fun h => qao (by omega) ((iw_c5x hp3 hp4).2 h) (X1 := (left - 1)) (X2 := (left - 1)) (by rw [if_neg (by unfold ikv; simp; omega)]) rfl
 have HBad : Hid (¬ (isN nm = false ∧ decide (nm.size = 0) = true ∧ zxB (T []) = true ∧ zsB (S []) = true ∧ (1 ≤ pl ∧ pl ≤ 4) ∧ nl = 0) → ileft ⟨5, nm, T, S, pl, nl, F, ln, cl⟩ left = -1) := fun h => qaj (by cases hv : iwant ⟨5, nm, T, S, pl, nl, F, ln, cl⟩ with | false => rfl | true => exact absurd ((iw_c5x hp3 hp4).1 hv) h)
 exact rit_c5x w pl nl vk vl vc sk na ca np cp nr cr lc nm vm sm vn vln vcl sln scl ln cl va aa pa ra la left _ _ _ _ _ (by omega) h2 q (by simp; omega) (by simp; omega) hp3 hp4 e0 HN HZx HZs (fun h => HLx.out _ _ (by omega) (by omega) (HG.out h).symm) HBad
theorem rmay10 (w : World) (a : Option Addr) (n c : Nat) (F : Nat → It) (hI : Its w a n F) (hn : n ≤ 549755813888) :
  Calls Tryd.prog 19 #[.slice a n c] w fun e w' => e = .returned (.bool (mayD F n)) ∧ Below w.heap.size w w' := by
 have HI := qa0 hI
 clear hI
 obtain ⟨R, HR⟩ : ∃ R, Hid (dks F n 8192 = R) := ⟨_, rfl⟩
 have HM : Hid (mayD F n = (decide (n ≤ 64) && decide (0 ≤ R))) := by show mayD F n = _; rw [← HR.out]; rfl
 rw [HM.out]
 clear HM
 have HStop : Hid (∀ i, i ≤ n → dks F i 8192 < 0 → R < 0) := fun i hi h => by
  rcases Int.lt_or_le R 0 with g | g
  ·exact g
  ·have := qc0 (F := F) (left := 8192) (by omega) (n := n) (by rw [HR.out]; exact g) i hi
   omega
 go_enter Tryd.func19, Tryd.ntmps19
 go_wp2
 go_loopw [3, 4] (fun vl vi wr => ∃ (i : Nat) (q : Int), i ≤ n ∧ vi = .int .i64 (i : Int) ∧ vl = .int .i64 q ∧ Hid (dks F i 8192 = q) ∧ Below w.heap.size w wr) (fun _ vi _ => n - (intOf vi).toNat)
 case atStart => exact ⟨0, 8192, by omega, rfl, rfl, rfl, Below.refl _ _⟩
 case round =>
  obtain ⟨i, q, hi, rfl, rfl, Hq, hb⟩ := hrel
  have HB := qa0 hb
  have hq := qbz (F := F) (left := 8192) (by omega) i
  rw [Hq.out] at hq
  by_cases hlt : i < n
  ·have p0 : (0 : Int) ≤ (i : Int) := by omega
   have p1 : (i : Int) < (n : Int) := by omega
   by_cases hq0 : q < 0
   ·have hR : R < 0 := HStop.out i hi (by rw [Hq.out]; exact hq0)
    have g0 : decide (0 ≤ q) = false := decide_eq_false (by omega)
    have HD : Hid (decide (0 ≤ R) = false) := decide_eq_false (by omega)
    clear hb
    go_wp2
    go_ret
    exact ⟨by first | rfl | (rw [HD.out, Bool.and_false]; rfl), HB.out⟩
   have g0 : decide (0 ≤ q) = true := decide_eq_true (by omega)
   obtain ⟨b, o, k, pl, nl, vk, vl, vc, sk, na, ca, np, cp, nr, cr, lc, nm, vm, sm, vn, vln, vcl, sln, scl, ln, cl, va, aa, pa, ra, la, T, S, G, rfl, hF, hT, hS, hG, k8, p8, hnm, hnl, hcl⟩ := HI.out.at_ hlt
   obtain ⟨q2, Hq2⟩ : ∃ q2, Hid (dks F (i + 1) 8192 = q2) := ⟨_, rfl⟩
   have HE : Hid (ileft ⟨k, nm, T, S, pl, nl, G, ln, cl⟩ q = q2) := by show _ = _; rw [← Hq2.out, qb0, Hq.out, hF]
   have HC : Hid (∀ w' : World, Below w.heap.size w w' → Calls Tryd.prog 30 #[.agg #[.int .u8 (k : Int), .string nm, .int .u8 (vk : Int), .int .i64 vn, .string vm, .slice va vl vc, .int .i64 vln, .int .i64 vcl, .int .u8 (sk : Int), .string sm, .slice aa na ca, .slice pa np cp, .slice ra nr cr, .int .i64 sln, .int .i64 scl, .int .u8 (pl : Int), .slice la nl lc, .int .i64 ln, .int .i64 cl], .int .i64 q] w' fun e w'' => e = .returned (.int .i64 q2) ∧ Below w'.heap.size w' w'') := fun w' hb => by
    rw [← HE.out]
    exact qfs w' k pl nl vk vl vc sk na ca np cp nr cr lc nm vm sm vn vln vcl sln scl ln cl va aa pa ra la T S G q (hT.later hb) (hS.later hb) (fun d => (hG d).later hb) hnm hnl (by omega) (by omega)
   have HRg := qa0 (hcl _ hb)
   clear hcl hT hS hG hF HE hb
   have M1 : True := trivial
   go_wp2_with (first
    | (clear M1; refine wpList_load_mid rfl 61 _ rfl b _ rfl [.int .u8 (k : Int), .string nm, .int .u8 (vk : Int), .int .i64 vn, .string vm, .slice va vl vc, .int .i64 vln, .int .i64 vcl, .int .u8 (sk : Int), .string sm, .slice aa na ca, .slice pa np cp, .slice ra nr cr, .int .i64 sln, .int .i64 scl, .int .u8 (pl : Int), .slice la nl lc, .int .i64 ln, .int .i64 cl] _ HRg.out Tryd.underlying61 rfl sizeI ?_)
    | (go_at_call 30; refine (HC.out _ HB.out).mono ?_; rintro e w2 ⟨rfl, hb2⟩; have HB2 := qa0 (jtwo HB.out hb2); clear hb2))
   exact ⟨⟨i + 1, q2, by omega, by go_num, rfl, Hq2, HB2.out⟩, by simp [intOf]; omega⟩
  ·obtain rfl : i = n := by omega
   obtain rfl : R = q := by rw [← HR.out]; exact Hq.out
   clear hb
   by_cases hq0 : R < 0
   ·have g0 : decide (0 ≤ R) = false := decide_eq_false (by omega)
    have HD := qa0 g0
    go_wp2
    go_ret
    exact ⟨by first | rfl | (rw [HD.out, Bool.and_false]; rfl), HB.out⟩
   ·have g0 : decide (0 ≤ R) = true := decide_eq_true (by omega)
    have HD := qa0 g0
    by_cases h64 : i ≤ 64
    ·have g6 : decide ((i : Int) ≤ 64) = true := decide_eq_true (by omega)
     have g6n : decide (i ≤ 64) = true := decide_eq_true h64
     have HD2 := qa0 g6n
     go_wp2
     go_ret
     exact ⟨by first | rfl | (rw [HD.out, HD2.out]; rfl), HB.out⟩
    ·have g6 : decide ((i : Int) ≤ 64) = false := decide_eq_false (by omega)
     have g6n : decide (i ≤ 64) = false := decide_eq_false h64
     have HD2 := qa0 g6n
     go_wp2
     go_ret
     exact ⟨by first | rfl | (rw [HD.out, HD2.out]; rfl), HB.out⟩
end Go.Proofs.YtemhodenkgngmaaDoor
