/-
  Stage 10: expressions that came in.
  Stage 10: lists of expressions, rows, shapes and items that came in.
  Stage 10: shapes and items that came in.
  Stage 10: descriptions that came in.
-/
import Derived.Test.YtnjcpmkfghcogaaGreatDoorQbbks00
import Derived.Test.YtnjcpmkfghcogaaGreatDoorQbbks02
import Derived.Deep.Slices
import Derived.SizedLaws
set_option maxRecDepth 100000
set_option maxHeartbeats 16000000
namespace Go.Proofs.YtnjcpmkfghcogaaGreatDoor
open Go.RowKit Go.ChangeShapes Go.WideShapes
theorem u8_wfc {n : Int} (h : (Lit.int .u8 n).wf = true) : ∃ x : Nat, n = (x : Int) ∧ x < 256 := by
 simp [Lit.wf, IntKind.min, IntKind.max, IntKind.signed, IntKind.bits] at h
 exact ⟨n.toNat, by omega, by omega⟩
theorem pickc {α : Type} (d : α) {n : Nat} {P : Nat → α → Prop} (h : ∀ i, i < n → ∃ x, P i x) : ∃ q : Nat → α, ∀ i, i < n → P i (q i) :=
 ⟨fun i => if hi : i < n then Classical.choose (h i hi) else d, fun i hi => by show P i (if hi : i < n then Classical.choose (h i hi) else d); rw [dif_pos hi]; exact Classical.choose_spec (h i hi)⟩
def mkX (l : Lx) (F : Nat → Xt) : Xt := fun p => match p with | [] => l | i :: q => F i q
def l0x : Xt := fun _ => ⟨0, 0, ⟨#[]⟩, 0, 0, 0⟩
def XC (W : World) (cs : List Value) (T : Xt) : Prop := ∃ (a : Option Addr) (cap : Nat), cs = [.int .u8 ((T []).k : Int), .int .i64 (T []).n, .string (T []).nm, .slice a (T []).len cap, .int .i64 (T []).ln, .int .i64 (T []).cl] ∧ LxOk (T []) ∧ ∀ d, XL d W a (T []).len (kid T)
theorem XC.at_ {W : World} {cs : List Value} {T : Xt} (h : XC W cs T) {b o : Nat} (hc : ∀ j, j < 6 → W.cell? ⟨b, o + j, none⟩ = cs[j]?) : ∀ d, XA d W b o T := by
 intro d
 cases d with
 | zero => trivial
 | succ d =>
  obtain ⟨a, cap, rfl, hok, hl⟩ := h
  exact ⟨a, cap, by simpa using hc 0 (by omega), by simpa using hc 1 (by omega), by simpa using hc 2 (by omega), by simpa using hc 3 (by omega), by simpa using hc 4 (by omega), by simpa using hc 5 (by omega), hok, hl d⟩
theorem XC.value {W : World} {cs : List Value} {T : Xt} (h : XC W cs T) : XV W (.agg cs.toArray) T := by
 obtain ⟨a, cap, rfl, hok, hl⟩ := h
 exact ⟨⟨a, cap, rfl, hl⟩, hok⟩
open Go.RowKit Go.ChangeShapes Go.WideShapes
open Go.RowKit Go.ChangeShapes Go.WideShapes
def mkS (l : Ls) (F : Nat → St) : St := fun p => match p with | [] => l | i :: q => F i q
def l0s : St := fun _ => ⟨0, ⟨#[]⟩, 0, fun _ => l0x, 0, 0, fun _ => 0, fun _ _ => l0x, 0, 0⟩
def SC (W : World) (cs : List Value) (S : St) : Prop := ∃ (aa pa ra : Option Addr) (ca cp cr : Nat), cs = [.int .u8 ((S []).k : Int), .string (S []).nm, .slice aa (S []).na ca, .slice pa (S []).np cp, .slice ra (S []).nr cr, .int .i64 (S []).ln, .int .i64 (S []).cl] ∧ LsOk (S []) ∧ (∀ d, XL d W aa (S []).na (S []).args) ∧ XR W ra (S []).nr (S []).rl (S []).rows ∧ ∀ d, SL d W pa (S []).np (part S)
theorem SC.at_ {W : World} {cs : List Value} {S : St} (h : SC W cs S) {b o : Nat} (hc : ∀ j, j < 7 → W.cell? ⟨b, o + j, none⟩ = cs[j]?) : ∀ d, SA d W b o S := by
 intro d
 cases d with
 | zero => trivial
 | succ d =>
  obtain ⟨aa, pa, ra, ca, cp, cr, rfl, hok, ha, hr, hp⟩ := h
  exact ⟨aa, pa, ra, ca, cp, cr, by simpa using hc 0 (by omega), by simpa using hc 1 (by omega), by simpa using hc 2 (by omega), by simpa using hc 3 (by omega), by simpa using hc 4 (by omega), by simpa using hc 5 (by omega), by simpa using hc 6 (by omega), hok, ha, hr, hp d⟩
theorem SC.value {W : World} {cs : List Value} {S : St} (h : SC W cs S) : SV W (.agg cs.toArray) S := by
 obtain ⟨aa, pa, ra, ca, cp, cr, rfl, hok, ha, hr, hp⟩ := h
 exact ⟨⟨aa, pa, ra, ca, cp, cr, rfl, ha, hr, hp⟩, hok⟩
open Go.RowKit Go.ChangeShapes Go.WideShapes
def IC (W : World) (cs : List Value) (I : It) : Prop := ∃ (vc sc : List Value) (a : Option Addr) (c : Nat), cs = [.int .u8 (I.k : Int), .string I.nm] ++ vc ++ sc ++ [.int .u8 (I.pl : Int), .slice a I.nl c, .int .i64 I.ln, .int .i64 I.cl] ∧ XC W vc I.val ∧ SC W sc I.shp ∧ (∀ d, XL d W a I.nl I.list) ∧ I.k < 256 ∧ I.nm.size ≤ 140737488351232 ∧ I.pl < 256 ∧ I.nl ≤ 140737488351232
theorem IC.at_ {W : World} {cs : List Value} {I : It} (h : IC W cs I) {b o : Nat} (hc : ∀ j, j < 19 → W.cell? ⟨b, o + j, none⟩ = cs[j]?) : IA W b o I := by
 obtain ⟨vc, sc, a, c, rfl, hv, hs, hl, k8, nm, pl, nl⟩ := h
 have hv' := hv
 have hs' := hs
 obtain ⟨_, _, rfl, _⟩ := hv'
 obtain ⟨_, _, _, _, _, _, rfl, _⟩ := hs'
 refine ⟨by simpa using hc 0 (by omega), by simpa using hc 1 (by omega), hv.at_ (fun j hj => ?_), hs.at_ (fun j hj => ?_), by simpa using hc 15 (by omega), ⟨a, c, by simpa using hc 16 (by omega), hl⟩, by simpa using hc 17 (by omega), by simpa using hc 18 (by omega), k8, nm, pl, nl⟩
 ·have := hc (2 + j) (by omega)
  rw [← Nat.add_assoc] at this
  rw [this]
  rcases (by omega : j = 0 ∨ j = 1 ∨ j = 2 ∨ j = 3 ∨ j = 4 ∨ j = 5) with rfl | rfl | rfl | rfl | rfl | rfl <;> rfl
 ·have := hc (8 + j) (by omega)
  rw [← Nat.add_assoc] at this
  rw [this]
  rcases (by omega : j = 0 ∨ j = 1 ∨ j = 2 ∨ j = 3 ∨ j = 4 ∨ j = 5 ∨ j = 6) with rfl | rfl | rfl | rfl | rfl | rfl | rfl <;> rfl
def l0i : It := ⟨0, ⟨#[]⟩, l0x, l0s, 0, 0, fun _ => l0x, 0, 0⟩
end Go.Proofs.YtnjcpmkfghcogaaGreatDoor
