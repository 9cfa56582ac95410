/-
  Stage 11: the map from an item's first word to what reads the rest.
-/
import Derived.Test.YtnjcpmkfghcogaaGreatDoorQbbks00
import Derived.Test.YtnjcpmkfghcogaaGreatDoorQbbks34
import Derived.Maps.OwnSet
import Derived.StringKeys
set_option maxRecDepth 100000
set_option maxHeartbeats 16000000
namespace Go.Proofs.YtnjcpmkfghcogaaGreatDoor
open Go.RowKit Go.Maps
def fnEl (v : Value) : Option (DataW Unit × List MemPlace) :=
 match v with
 | .func (.func f) a b => if a.size = 0 ∧ b.size = 0 then some (.lit (.int .i64 (f : Int)), []) else none
 | .nilFunc => some (.lit (.int .i64 (-1)), [])
 | _ => none
theorem qdt (f : Nat) : fnEl (.func (.func f) #[] #[]) = some (.lit (.int .i64 (f : Int)), []) := rfl
theorem qaq {v : Value} {f : Nat} {ps : List MemPlace} (h : fnEl v = some (.lit (.int .i64 (f : Int)), ps)) : v = .func (.func f) #[] #[] := by
 unfold fnEl at h
 split at h
 ·rename_i g a b
  split at h
  ·rename_i hs
   have e : (g : Int) = (f : Int) := by
    have := congrArg (fun o => o.map Prod.fst) h
    simpa using this
   have e2 : g = f := Int.ofNat_inj.1 e
   rw [e2, Array.eq_empty_of_size_eq_zero hs.1, Array.eq_empty_of_size_eq_zero hs.2]
  ·cases h
 ·have := congrArg (fun o => o.map Prod.fst) h
  simp at this
 ·cases h
theorem qal {H : Type} {P : Program} (w : World) {ops : Array Oper} {rest : List Oper} {o : Oper} {a : Act} {Q : Exit → Act → World → Prop}
  (hg : o.guard = none) (m x v : Operand) (t : TypeId) (hop : o.op = Op.insert t m x v)
  (k e : TypeId) (K : Keyed P k) (ht : P.underlying t = some (.map k e)) (R : Value → Option (DataW H × List MemPlace)) (b n : Nat) (D : DataW H)
  (hm : a.eval m = .map (some b)) (hown : w.ownsMap P k R b n D) (hn : n < maxLen) (key val : Value) (kl : Lit) (hx : a.eval x = key) (hv : a.eval v = val) (hkey : keyOf P k key = some kl)
  (d : DataW H) (ps : List MemPlace) (hval : R val = some (d, ps))
  (hK : ∀ w', w'.ownsMap P k R b (n + 1) (D.put kl d) → w.grownBy w' (some b) → wpList P ops Q rest (a.put o.dst undef) w') :
  wpList P ops Q (o :: rest) a w := by
 refine wpList_plain hg fun K' hK' => ?_
 obtain ⟨w', hrun, r1, r2⟩ := hown.update K ht hn hkey hval
 unfold Oper.wp
 simp [execOp, hop, hm, hx, hv, hrun, Result.andThen]
 exact hK' _ _ (hK w' r1 r2)
theorem qax : Keyed Tryz.prog 9 := string_keyed Tryz.underlying9
def fno (k : Nat) : Nat := if k = 1 then 115 else if k = 2 then 116 else if k = 3 then 117 else if k = 4 then 118 else if k = 6 then 119 else 120
def kyl (k : Nat) : Lit := .string (iwd k).data.toList
def itD : DataW Unit := ((((((DataW.map []).put (kyl 1) (.lit (.int .i64 (fno 1 : Nat)))).put (kyl 2) (.lit (.int .i64 (fno 2 : Nat)))).put (kyl 3) (.lit (.int .i64 (fno 3 : Nat)))).put (kyl 4) (.lit (.int .i64 (fno 4 : Nat)))).put (kyl 6) (.lit (.int .i64 (fno 6 : Nat)))).put (kyl 5) (.lit (.int .i64 (fno 5 : Nat)))
theorem qef {D : DataW Unit} (h : IsMap D) (k : Lit) (d : DataW Unit) : IsMap (D.put k d) := by
 obtain ⟨es, rfl⟩ := h
 exact ⟨_, rfl⟩
theorem nil_map : IsMap (DataW.map [] : DataW Unit) := ⟨[], rfl⟩
theorem qar {i k : Nat} (h : decide ((iwd i).data.toList = (iwd k).data.toList) = false) : kyl i ≠ kyl k := fun e => by
 injection e with e
 rw [e] at h
 simp at h
theorem str_ne11 {x y : ByteArray} (h : x ≠ y) : Lit.string x.data.toList ≠ Lit.string y.data.toList := fun e => h (by
 injection e with e
 exact ByteArray.ext (Array.toList_inj.1 e))
theorem itD_at (k : Nat) (h1 : 1 ≤ k) (h6 : k ≤ 6) : Maps.has itD (kyl k) = true ∧ itD.atKey (kyl k) (.lit (.int .i64 (-1))) = .lit (.int .i64 (fno k : Nat)) := by
 have m0 := nil_map
 have m1 := qef m0 (kyl 1) (.lit (.int .i64 (fno 1 : Nat)))
 have m2 := qef m1 (kyl 2) (.lit (.int .i64 (fno 2 : Nat)))
 have m3 := qef m2 (kyl 3) (.lit (.int .i64 (fno 3 : Nat)))
 have m4 := qef m3 (kyl 4) (.lit (.int .i64 (fno 4 : Nat)))
 have m6 := qef m4 (kyl 6) (.lit (.int .i64 (fno 6 : Nat)))
 unfold itD
 obtain rfl | rfl | rfl | rfl | rfl | rfl : k = 1 ∨ k = 2 ∨ k = 3 ∨ k = 4 ∨ k = 5 ∨ k = 6 := by omega
 ·rw [has_put_other (qar (by decide)), has_put_other (qar (by decide)), has_put_other (qar (by decide)), has_put_other (qar (by decide)), has_put_other (qar (by decide)), atKey_put_other (qar (by decide)), atKey_put_other (qar (by decide)), atKey_put_other (qar (by decide)), atKey_put_other (qar (by decide)), atKey_put_other (qar (by decide))]
  exact ⟨has_put_same m0 (by trivial) _, atKey_put_same m0 (by trivial) _ _⟩
 ·rw [has_put_other (qar (by decide)), has_put_other (qar (by decide)), has_put_other (qar (by decide)), has_put_other (qar (by decide)), atKey_put_other (qar (by decide)), atKey_put_other (qar (by decide)), atKey_put_other (qar (by decide)), atKey_put_other (qar (by decide))]
  exact ⟨has_put_same m1 (by trivial) _, atKey_put_same m1 (by trivial) _ _⟩
 ·rw [has_put_other (qar (by decide)), has_put_other (qar (by decide)), has_put_other (qar (by decide)), atKey_put_other (qar (by decide)), atKey_put_other (qar (by decide)), atKey_put_other (qar (by decide))]
  exact ⟨has_put_same m2 (by trivial) _, atKey_put_same m2 (by trivial) _ _⟩
 ·rw [has_put_other (qar (by decide)), has_put_other (qar (by decide)), atKey_put_other (qar (by decide)), atKey_put_other (qar (by decide))]
  exact ⟨has_put_same m3 (by trivial) _, atKey_put_same m3 (by trivial) _ _⟩
 ·exact ⟨has_put_same m6 (by trivial) _, atKey_put_same m6 (by trivial) _ _⟩
 ·rw [has_put_other (qar (by decide)), atKey_put_other (qar (by decide))]
  exact ⟨has_put_same m4 (by trivial) _, atKey_put_same m4 (by trivial) _ _⟩
theorem itD_no {x : ByteArray} (h : ∀ k, 1 ≤ k → k ≤ 6 → x ≠ iwd k) : Maps.has itD (.string x.data.toList) = false := by
 have ne : ∀ k, 1 ≤ k → k ≤ 6 → Lit.string x.data.toList ≠ kyl k := fun k h1 h6 => str_ne11 (h k h1 h6)
 unfold itD
 rw [has_put_other (ne 5 (by omega) (by omega)), has_put_other (ne 6 (by omega) (by omega)), has_put_other (ne 4 (by omega) (by omega)), has_put_other (ne 3 (by omega) (by omega)), has_put_other (ne 2 (by omega) (by omega)), has_put_other (ne 1 (by omega) (by omega))]
 rfl
def ItM (w : World) (b : Nat) : Prop := w.ownsMap Tryz.prog 9 fnEl b 6 itD
theorem qgu (k : Nat) (h1 : 1 ≤ k) (h6 : k ≤ 6) : keyOf Tryz.prog 9 (.string (iwd k)) = some (kyl k) := WideMaps.keyOf_string_mk Tryz.underlying9 (by
 obtain rfl | rfl | rfl | rfl | rfl | rfl : k = 1 ∨ k = 2 ∨ k = 3 ∨ k = 4 ∨ k = 5 ∨ k = 6 := by omega
 all_goals decide)
theorem ItM.later {w w' : World} {b : Nat} (h : ItM w b) (hb : Below w.heap.size w w') : ItM w' b := World.ownsMap.kept h (jgrown.mpr hb) (by simp)
theorem ItM.gk {K : Rk} {w w' : World} {b j : Nat} (h : ItM w b) (hg : Gk K w w') (hR : Rr K w j) : ItM w' b := by
 obtain ⟨es, clock, hb, F, hs, hD⟩ := h
 refine ⟨es, clock, ?_, F, hs, hD⟩
 rw [hg.block b (lt_of_block hb) (fun e => ?_) (fun e => ?_)]
 ·exact hb
 ·subst e
  have := hR.var
  unfold Vn at this
  rw [hb] at this
  cases this
 ·subst e
  have := hR.fn.told
  unfold Vn at this
  rw [hb] at this
  cases this
theorem ritems (w : World) : Calls Tryz.prog 57 #[] w fun e w' => (∃ b, e = .returned (.map (some b)) ∧ ItM w' b) ∧ Below w.heap.size w w' := by
 have hmm := @run_makeMap Tryz.prog
 have HM0 : Hid ((w.alloc (.map #[] 0)).ownsMap Tryz.prog 9 fnEl w.heap.size 0 (.map [])) := World.ownsMap_made _ _ _ _
 have M1 : True := trivial
 have M2 : True := trivial
 have M3 : True := trivial
 have M4 : True := trivial
 have M5 : True := trivial
 have M6 : True := trivial
 have U : Tryz.prog.underlying 99 = some (.map 9 140) := by kernel_rfl
 go_enter Tryz.func57, Tryz.ntmps57
 go_wp2_with (first
  | (clear M1; refine qal _ rfl _ _ _ 99 rfl 9 140 qax U _ w.heap.size 0 _ rfl HM0.out (by unfold maxLen; omega) _ _ _ rfl rfl (qgu 1 (by omega) (by omega)) _ [] (qdt _) ?_; intro w1 h1 g1; have H1 := qa0 h1; clear h1)
  | (clear M2; refine qal _ rfl _ _ _ 99 rfl 9 140 qax U _ w.heap.size 1 _ rfl H1.out (by unfold maxLen; omega) _ _ _ rfl rfl (qgu 2 (by omega) (by omega)) _ [] (qdt _) ?_; intro w2 h2 g2; have H2 := qa0 h2; clear h2)
  | (clear M3; refine qal _ rfl _ _ _ 99 rfl 9 140 qax U _ w.heap.size 2 _ rfl H2.out (by unfold maxLen; omega) _ _ _ rfl rfl (qgu 3 (by omega) (by omega)) _ [] (qdt _) ?_; intro w3 h3 g3; have H3 := qa0 h3; clear h3)
  | (clear M4; refine qal _ rfl _ _ _ 99 rfl 9 140 qax U _ w.heap.size 3 _ rfl H3.out (by unfold maxLen; omega) _ _ _ rfl rfl (qgu 4 (by omega) (by omega)) _ [] (qdt _) ?_; intro w4 h4 g4; have H4 := qa0 h4; clear h4)
  | (clear M5; refine qal _ rfl _ _ _ 99 rfl 9 140 qax U _ w.heap.size 4 _ rfl H4.out (by unfold maxLen; omega) _ _ _ rfl rfl (qgu 6 (by omega) (by omega)) _ [] (qdt _) ?_; intro w5 h5 g5; have H5 := qa0 h5; clear h5)
  | (clear M6; refine qal _ rfl _ _ _ 99 rfl 9 140 qax U _ w.heap.size 5 _ rfl H5.out (by unfold maxLen; omega) _ _ _ rfl rfl (qgu 5 (by omega) (by omega)) _ [] (qdt _) ?_; intro w6 h6 g6; have H6 := qa0 h6; clear h6))
 go_ret
 refine ⟨⟨_, rfl, H6.out⟩, ?_⟩
 have b0 := jlow w (.map #[] 0)
 have nx : ∀ {u v : World}, u.grownBy v (some w.heap.size) → Below w.heap.size w u → Below w.heap.size w v := fun {u v} g h => h.trans (jbelow g h.size (fun x e => by cases e; exact Nat.le_refl _))
 exact nx g6 (nx g5 (nx g4 (nx g3 (nx g2 (nx g1 b0)))))
end Go.Proofs.YtnjcpmkfghcogaaGreatDoor
