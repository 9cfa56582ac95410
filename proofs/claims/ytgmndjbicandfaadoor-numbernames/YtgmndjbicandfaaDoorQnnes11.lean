/-
  Stage 12: isName, byName: the environment as a map; MayEnv of the reference.
-/
import Derived.Test.YtgmndjbicandfaaDoorQnnes00
import Derived.Test.YtgmndjbicandfaaDoorQnnes10
import Derived.Maps.OwnSet
import Derived.StringKeys
set_option maxRecDepth 100000
set_option maxHeartbeats 16000000
namespace Go.Proofs.YtgmndjbicandfaaDoor
open Go.RowKit Go.Maps
/-- A name as an expression. -/
def nmX (s : ByteArray) : Xt := fun _ => ⟨2, 0, s, 0, 0, 0⟩
theorem qe1 (s : ByteArray) : mayX (nmX s) = isN s := by
 have h : xleft 16 (nmX s) 8192 = if isN s = true then 8191 else -1 := by
  show (if (8192 : Int) - 1 < 0 then -1 else match xwant ⟨2, 0, s, 0, 0, 0⟩ with | none => -1 | some m => xks (xleft 15) (kid (nmX s)) m (8192 - 1)) = _
  rw [if_neg (by omega)]
  show (match (if (0 : Int) = 0 ∧ isN s = true ∧ (0 : Nat) = 0 then some 0 else none) with | none => -1 | some m => xks (xleft 15) (kid (nmX s)) m (8192 - 1)) = _
  cases hs : isN s <;> simp [xks]
 unfold mayX
 rw [h]
 cases isN s <;> rfl
theorem nmX_xv (w : World) (s : ByteArray) (hs : s.size ≤ 140737488351232) : XV w (.agg #[.int .u8 2, .int .i64 0, .string s, .slice none 0 0, .int .i64 0, .int .i64 0]) (nmX s) :=
 ⟨⟨none, 0, rfl, fun d i hi => absurd hi (Nat.not_lt_zero i)⟩, ⟨by show 2 < 256; omega, by show _ ≤ (0 : Int); omega, by show (0 : Int) ≤ _; omega, hs, by show 0 ≤ _; omega⟩⟩
theorem qd0 (w : World) (x : ByteArray) (hx : x.size ≤ 140737488351232) (hw : Wt9 w) : Calls Tryd.prog 30 #[.string x] w fun e w' => e = .returned (.bool (isN x)) ∧ Below w.heap.size w w' := by
 have HM : Hid (∀ v, v = Value.agg #[.int .u8 2, .int .i64 0, .string x, .slice none 0 0, .int .i64 0, .int .i64 0] → Calls Tryd.prog 23 #[v] w fun e w' => e = .returned (.bool (isN x)) ∧ Below w.heap.size w w') := fun v hv => by subst hv; rw [← qe1]; exact tmayx w (nmX x) _ (nmX_xv w x hx) hw
 obtain ⟨r, Hr⟩ : ∃ r, Hid (isN x = r) := ⟨_, rfl⟩
 rw [Hr.out] at HM
 rw [Hr.out]
 clear hw hx
 go_enter Tryd.func30, Tryd.ntmps30
 go_wp2_with (go_at_call 23; refine (HM.out _ rfl).mono ?_; rintro e w1 ⟨rfl, hb1⟩)
 go_ret
 exact ⟨rfl, hb1⟩
theorem qb0 : Keyed Tryd.prog 9 := string_keyed Tryd.underlying9
theorem qb2 (w : World) : (zeroValue 3).run Tryd.prog w = .ok (.int .i64 0) w := by kernel_rfl
/-- A block is a map that reads as E. -/
def MpD (D : DataW Unit) (E : ByteArray → Option Int) : Prop := ∀ s : ByteArray, s.size ≤ 140737488351232 → Maps.has D (.string s.data.toList) = (E s).isSome ∧ ∀ v, E s = some v → D.atKey (.string s.data.toList) (.lit (.int .i64 0)) = .lit (.int .i64 v)
def Mp (w : World) (b n : Nat) (E : ByteArray → Option Int) : Prop := ∃ D : DataW Unit, w.ownsMap Tryd.prog 9 (plainElem Tryd.prog 3) b n D ∧ MpD D E
theorem qab {w w' : World} {b n : Nat} {D : DataW Unit} (h : w.ownsMap Tryd.prog 9 (plainElem Tryd.prog 3) b n D) (hb : Below w.heap.size w w') : w'.ownsMap Tryd.prog 9 (plainElem Tryd.prog 3) b n D := h.kept (jgrown.mpr hb) (by simp)
theorem Mp.later {w w' : World} {b n : Nat} {E : ByteArray → Option Int} (h : Mp w b n E) (hb : Below w.heap.size w w') : Mp w' b n E := by
 obtain ⟨D, h1, h2⟩ := h
 exact ⟨D, qab h1 hb, h2⟩
theorem mpD_nil : MpD (.map []) (fun _ => none) := fun s _ => ⟨rfl, fun v h => by cases h⟩
theorem str_ne {x y : ByteArray} (h : x ≠ y) : Lit.string x.data.toList ≠ Lit.string y.data.toList := fun e => h (by
 injection e with e
 exact ByteArray.ext (Array.toList_inj.1 e))
theorem mpD_put {D : DataW Unit} {F : Nat → Cn} {i : Nat} (h : MpD D (elk F i)) (hD : IsMap D) : MpD (D.put (.string (F i).nm.data.toList) (.lit (.int .i64 (F i).n))) (elk F (i + 1)) := by
 intro s hs
 show _ = (if sbq (F i).nm s then some (F i).n else elk F i s).isSome ∧ ∀ v, (if sbq (F i).nm s then some (F i).n else elk F i s) = some v → _
 by_cases e : (F i).nm = s
 ·subst e
  rw [qcz, if_pos rfl]
  exact ⟨has_put_same hD (by trivial) _, fun v hv => by cases hv; exact atKey_put_same hD (by trivial) _ _⟩
 ·rw [sbq_ne e, if_neg (by decide)]
  obtain ⟨h1, h2⟩ := h s hs
  exact ⟨by rw [has_put_other (str_ne (Ne.symm e))]; exact h1, fun v hv => by rw [atKey_put_other (str_ne (Ne.symm e))]; exact h2 v hv⟩
theorem sizeCn : (Tryd.prog.info? 50).map (·.size) = some 2 := by kernel_rfl
theorem all2 {x y : Value} (h0 : x.oneCell' = true) (h1 : y.oneCell' = true) : (#[x, y] : Array Value).all (·.oneCell') = true := by simp [h0, h1]
end Go.Proofs.YtgmndjbicandfaaDoor
