/-
  Stage 22: pairs as keys; a map that tells how often each pair was counted; a step over its entries.
-/
import Derived.Test.YthdgpmanijifoaaQbbst00
import Derived.Test.YthdgpmanijifoaaQbbst21
set_option maxRecDepth 100000
set_option maxHeartbeats 16000000
namespace Go.Proofs.Ythdgpmanijifoaa
open Go.RowKit Go.Maps Go.ChangeMaps
theorem undPr : Try.prog.underlying 27 = some (.struct #[⟨"U", 3, 0, false, "", "", 0⟩, ⟨"V", 3, 1, false, "", "", 8⟩, ⟨"Ratio", 5, 2, false, "", "", 16⟩, ⟨"In", 3, 3, false, "", "", 24⟩]) := by kernel_rfl
theorem cellsPr : Try.prog.cellsOf 27 = 4 := by kernel_rfl
theorem cellsInt : Try.prog.cellsOf 3 = 1 := by kernel_rfl
theorem cellsU8 : Try.prog.cellsOf 5 = 1 := by kernel_rfl
theorem keyTypePr : Try.prog.keyType 27 = true := by kernel_rfl
theorem key_ex (x : Ky) (h1 : (Lit.int .i64 x.1).wf = true) (h2 : (Lit.int .i64 x.2.1).wf = true) (h3 : (Lit.int .u8 (x.2.2 : Nat)).wf = true) : ∃ l, keyOf Try.prog 27 (prv x 0) = some l := by
 have h0 : (Lit.int .i64 0).wf = true := by decide
 have hf : (prv x 0).formed Try.prog 27 = true := by simp [Value.formed, cellsPr]
 obtain ⟨m, hm⟩ : ∃ m, Try.prog.types.size + 1 = m + 2 := ⟨Try.prog.types.size - 1, by have : 1 ≤ Try.prog.types.size := of_decide_eq_true (by kernel_rfl); omega⟩
 have hl : Try.prog.keyLits (m + 2) 27 [.int .i64 x.1, .int .i64 x.2.1, .int .u8 (x.2.2 : Nat), .int .i64 0] = some [.int .i64 x.1, .int .i64 x.2.1, .int .u8 (x.2.2 : Nat), .int .i64 0] := by
  simp [Program.keyLits, cellsPr, cellsInt, cellsU8, h0, h1, h2, h3]
 unfold keyOf
 rw [undPr]
 simp only [keyTypePr, hf, Bool.and_self, if_true, hm]
 show ∃ l, ((Try.prog.keyLits (m + 2) 27 [.int .i64 x.1, .int .i64 x.2.1, .int .u8 (x.2.2 : Nat), .int .i64 0]).map fun ls => Lit.string (keyBytes ls)) = some l
 rw [hl]
 exact ⟨_, rfl⟩
/-- A pair that fits its cells. -/
structure KOk (x : Ky) : Prop where
 u : -9223372036854775808 ≤ x.1 ∧ x.1 ≤ 9223372036854775807
 v : -9223372036854775808 ≤ x.2.1 ∧ x.2.1 ≤ 9223372036854775807
 r : x.2.2 < 256
theorem klp_ex0 (x : Ky) : ∃ l, KOk x → keyOf Try.prog 27 (prv x 0) = some l := by
 by_cases h : KOk x
 ·exact (key_ex x (WalkArith.wf_i64 h.u) (WalkArith.wf_i64 h.v) (WalkArith.wf_u8 ⟨by omega, by have := h.r; omega⟩)).imp fun l hl _ => hl
 ·exact ⟨.int .i64 0, fun h2 => absurd h2 h⟩
theorem klp_ex : ∃ f : Ky → Lit, ∀ x, KOk x → keyOf Try.prog 27 (prv x 0) = some (f x) := Classical.axiomOfChoice klp_ex0
/-- What a pair is as a key. -/
noncomputable def klp : Ky → Lit := Classical.choose klp_ex
theorem qb8 {x : Ky} (h : KOk x) : keyOf Try.prog 27 (prv x 0) = some (klp x) := Classical.choose_spec klp_ex x h
theorem prv_inj {x y : Ky} {m n : Int} (h : prv x m = prv y n) : x = y := by
 obtain ⟨x1, x2, x3⟩ := x
 obtain ⟨y1, y2, y3⟩ := y
 simp at h
 obtain ⟨rfl, rfl, h, _⟩ := h
 obtain rfl := Int.ofNat.inj h
 rfl
theorem qbg {x y : Ky} (hx : KOk x) (hy : KOk y) (h : klp x = klp y) : x = y := prv_inj (lawPr.inj (qb8 hx) (by rw [h]; exact qb8 hy))
/-- A map that tells how often each pair was counted. -/
structure CM (D : DataW Unit) (c : Ky → Nat) : Prop where
 isMap : IsMap D
 only : ∀ kl, Maps.has D kl = true → ∃ x, KOk x ∧ kl = klp x ∧ 0 < c x
 tells : ∀ x, KOk x → D.atKey (klp x) (.lit (.int .i64 0)) = .lit (.int .i64 (c x : Nat))
 hasIt : ∀ x, KOk x → 0 < c x → Maps.has D (klp x) = true
theorem CM.start {c : Ky → Nat} (h : ∀ x, c x = 0) : CM (.map []) c :=
 ⟨isMap_empty, fun _ h => (by cases h), fun x _ => (by rw [h]; rfl), fun x _ h2 => (by rw [h] at h2; omega)⟩
theorem qcu {x : Ky} (h : KOk x) : WideAt.IsKeyLit (klp x) := @Keyed.key _ _ keyedPr (prv x 0) (klp x) (qb8 h)
theorem CM.step {D : DataW Unit} {c c' : Ky → Nat} {y : Ky} (h : CM D c) (hy : KOk y) (hc : ∀ x, c' x = c x + (if y = x then 1 else 0)) : CM (D.put (klp y) (.lit (.int .i64 ((c y : Nat) + 1 : Int)))) c' := by
 have hk := qcu hy
 refine ⟨h.isMap.put _ _, fun kl hkl => ?_, fun x hx => ?_, fun x hx h0 => ?_⟩
 ·by_cases e : kl = klp y
  ·exact ⟨y, hy, e, by rw [hc, if_pos rfl]; omega⟩
  ·rw [has_put_other e] at hkl
   obtain ⟨x, h1, h2, h3⟩ := h.only kl hkl
   exact ⟨x, h1, h2, by rw [hc]; omega⟩
 ·by_cases e : y = x
  ·subst e
   rw [atKey_put_same h.isMap hk, hc, if_pos rfl]
   simp
  ·rw [atKey_put_other (fun e2 => e (qbg hx hy e2).symm), h.tells x hx, hc, if_neg e]
   simp
 ·by_cases e : y = x
  ·subst e
   exact has_put_same h.isMap hk _
  ·rw [has_put_other (fun e2 => e (qbg hx hy e2).symm)]
   rw [hc, if_neg e] at h0
   exact h.hasIt x hx h0
theorem CM.congr {D : DataW Unit} {c c' : Ky → Nat} (h : CM D c) (hc : ∀ x, c x = c' x) : CM D c' := by rw [← funext hc]; exact h
/-- The step of a range over such a map: an entry that is still to come, or none is left. -/
theorem qaq {w : World} {ops : Array Oper} {rest : List Oper} {o : Oper} {a : Act} {Q : Exit → Act → World → Prop} (hg : o.guard = none) (it : Operand) (hop : o.op = Op.next it false) (b r nn : Nat) (D : DataW Unit) (c : Ky → Nat) (left : Lit → Bool) (cnt : Nat)
  (hit : a.eval it = .pointer (some ⟨r, 0, none⟩)) (h : w.ranges Try.prog 27 (plainElem Try.prog 3) b r nn D left cnt) (hD : CM D c) (hsub : ∀ kl, left kl = true → Maps.has D kl = true)
  (hDone : (∀ kl, left kl = false) → wpList Try.prog ops Q rest (a.put o.dst (.tuple #[.bool false])) w)
  (hMore : ∀ (x : Ky) (w' : World) (cnt' : Nat), Hid (KOk x) → Hid (0 < c x) → Hid (left (klp x) = true) → Hid (w'.ranges Try.prog 27 (plainElem Try.prog 3) b r nn D (fun z => left z && !z.sameKey (klp x)) cnt') → Hid (cnt' < cnt) → Hid (w.grownBy w' (some r)) → Hid (w'.heap.size = w.heap.size) →
   (Instr.entry (.pointer (some ⟨r, 0, none⟩))).run Try.prog w' = .ok (.tuple #[prv x 0, .int .i64 (c x : Nat)]) w' → wpList Try.prog ops Q rest (a.put o.dst (.tuple #[.bool true, prv x 0, .int .i64 (c x : Nat)])) w') :
  wpList Try.prog ops Q (o :: rest) a w := by
 refine wpList_plain hg fun K' hK' => ?_
 unfold Oper.wp
 rcases h.next keyedPr o.type with ⟨_, hl, hrun⟩ | ⟨key, v, kl, y, w', cnt', hkey, hlk, hv, hat, hrun, hrg, hlt, hgr, hsz, hen⟩
 ·simp [execOp, hop, hit, hrun, Result.andThen]
  exact hK' _ _ (hDone hl)
 ·obtain ⟨x, hx, rfl, h0⟩ := hD.only kl (hsub kl hlk)
  obtain rfl : key = prv x 0 := @WideMaps.KeyLaw.inj _ _ lawPr key (prv x 0) (klp x) hkey (qb8 hx)
  obtain ⟨z, rfl, hz, _⟩ := plainElem_int_inv undInt hv
  have e1 := hat (.lit (.int .i64 0))
  rw [hD.tells x hx, hz] at e1
  have e1 := (Lit.int.inj (DataW.lit.inj e1)).2
  subst e1
  simp [execOp, hop, hit, hrun, Result.andThen]
  exact hK' _ _ (hMore x w' cnt' hx h0 hlk hrg hlt hgr hsz hen)
end Go.Proofs.Ythdgpmanijifoaa
