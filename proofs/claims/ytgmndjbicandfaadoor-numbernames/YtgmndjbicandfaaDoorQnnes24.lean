/-
  Stage 10: expressions that came in.
  Stage 10: lists of expressions, rows, shapes and items that came in.
  Stage 10: shapes and items that came in.
  Stage 10: descriptions that came in.
-/
import Derived.Test.YtgmndjbicandfaaDoorQnnes00
import Derived.Test.YtgmndjbicandfaaDoorQnnes01
import Derived.Deep.Slices
import Derived.SizedLaws
set_option maxRecDepth 100000
set_option maxHeartbeats 16000000
namespace Go.Proofs.YtgmndjbicandfaaDoor
open Go.RowKit Go.ChangeShapes Go.WideShapes
theorem qb3 {H : Type} {P : Program} {e : TypeId} : ∀ {ds : List (DataW H)}, (DataW.weightsAll P e ds).all (· ≤ reachBytes) = true → ∀ d ∈ ds, (d.weights P e).all (· ≤ reachBytes) = true
 | [], _, d, hd => by simp at hd
 | d0 :: r, h, d, hd => by
  simp only [DataW.weightsAll, List.all_append, Bool.and_eq_true] at h
  rcases List.mem_cons.1 hd with rfl | hd
  ·exact h.1
  ·exact qb3 h.2 d hd
theorem u8_wfc {n : Int} (h : (Lit.int .u8 n).wf = true) : ∃ x : Nat, n = (x : Int) ∧ x < 256 := by
 simp [Lit.wf, IntKind.min, IntKind.max, IntKind.signed, IntKind.bits] at h
 exact ⟨n.toNat, by omega, by omega⟩
theorem i64_wfc {n : Int} (h : (Lit.int .i64 n).wf = true) : -9223372036854775808 ≤ n ∧ n ≤ 9223372036854775807 := by
 simp [Lit.wf, IntKind.min, IntKind.max, IntKind.signed, IntKind.bits] at h
 omega
theorem pickc {α : Type} (d : α) {n : Nat} {P : Nat → α → Prop} (h : ∀ i, i < n → ∃ x, P i x) : ∃ q : Nat → α, ∀ i, i < n → P i (q i) :=
 ⟨fun i => if hi : i < n then Classical.choose (h i hi) else d, fun i hi => by show P i (if hi : i < n then Classical.choose (h i hi) else d); rw [dif_pos hi]; exact Classical.choose_spec (h i hi)⟩
theorem addc (b o j : Nat) : (⟨b, o, none⟩ : Addr).add j = ⟨b, o + j, none⟩ := by unfold Addr.add; split <;> simp_all
theorem cellsX : Tryd.prog.cellsOf 25 = 6 := by kernel_rfl
theorem bytesX : Tryd.prog.bytesOf 25 = 72 := by kernel_rfl
/-- An expression of a label and its parts. -/
def mkX (l : Lx) (F : Nat → Xt) : Xt := fun p => match p with | [] => l | i :: q => F i q
def l0x : Xt := fun _ => ⟨0, 0, ⟨#[]⟩, 0, 0, 0⟩
/-- The cells of an expression that came in. -/
def XC (W : World) (cs : List Value) (T : Xt) : Prop := ∃ (a : Option Addr) (cap : Nat), cs = [.int .u8 ((T []).k : Int), .int .i64 (T []).n, .string (T []).nm, .slice a (T []).len cap, .int .i64 (T []).ln, .int .i64 (T []).cl] ∧ LxOk (T []) ∧ ∀ d, XL d W a (T []).len (kid T)
theorem XC.at_ {W : World} {cs : List Value} {T : Xt} (h : XC W cs T) {b o : Nat} (hc : ∀ j, j < 6 → W.cell? ⟨b, o + j, none⟩ = cs[j]?) : ∀ d, XA d W b o T := by
 intro d
 cases d with
 | zero => trivial
 | succ d =>
  obtain ⟨a, cap, rfl, hok, hl⟩ := h
  exact ⟨a, cap, by simpa using hc 0 (by omega), by simpa using hc 1 (by omega), by simpa using hc 2 (by omega), by simpa using hc 3 (by omega), by simpa using hc 4 (by omega), by simpa using hc 5 (by omega), hok, hl d⟩
theorem XC.value {W : World} {cs : List Value} {T : Xt} (h : XC W cs T) : XV W (.agg cs.toArray) T := by
 obtain ⟨a, cap, rfl, hok, hl⟩ := h
 exact ⟨⟨a, cap, rfl, hl⟩, hok⟩
theorem x_in {H : Type} {enc : TypeId × Value → H} {W : World} : ∀ (fuel : Nat) (cs : List Value) (x : DataW H × List MemPlace), DataW.trod enc Tryd.prog W 0 (fun _ => true) true fuel 25 cs = some x → (x.1.weights Tryd.prog 25).all (· ≤ reachBytes) = true → ∃ T : Xt, XC W cs T := by
 intro fuel
 induction fuel using Nat.strongRecOn with
 | _ fuel ih =>
  intro cs x h hw
  obtain ⟨xs, k, hk, hxy, hlen, hxl, hf⟩ := DataW.trod_struct Tryd.underlying25 h
  rw [cellsX] at hlen
  match xs, hxl, cs, hlen with
  | [y0, y1, y2, y3, y4, y5], _, [v0, v1, v2, v3, v4, v5], _ =>
   have f0 := hf 0 _ rfl
   have f1 := hf 1 _ rfl
   have f2 := hf 2 _ rfl
   have f3 := hf 3 _ rfl
   have f4 := hf 4 _ rfl
   have f5 := hf 5 _ rfl
   have cU : Tryd.prog.cellsOf 22 = 1 := by kernel_rfl
   have cS : Tryd.prog.cellsOf 9 = 1 := by kernel_rfl
   have cI : Tryd.prog.cellsOf 3 = 1 := by kernel_rfl
   have cL : Tryd.prog.cellsOf 23 = 1 := by kernel_rfl
   simp [cU, cS, cI, cL] at f0 f1 f2 f3 f4 f5
   obtain ⟨k0, e0, _, w0⟩ := DataW.trod_int Tryd.underlying22 f0
   obtain ⟨n1, e1, _, w1⟩ := DataW.trod_int Tryd.underlying3 f1
   obtain ⟨s2, e2, hy2, _⟩ := DataW.trod_string Tryd.underlying9 f2
   obtain ⟨n4, e4, _, _⟩ := DataW.trod_int Tryd.underlying3 f4
   obtain ⟨n5, e5, _, _⟩ := DataW.trod_int Tryd.underlying3 f5
   simp only [List.cons.injEq, and_true] at e0 e1 e2 e4 e5
   subst e0 e1 e2 e4 e5
   obtain ⟨kk, rfl, hk8⟩ := u8_wfc w0
   have b1 := i64_wfc w1
   subst hxy
   simp only [DataW.weights, Tryd.underlying25] at hw
   have hss := sized_string hw (j := 2) (t := 9) (bytes := s2.data.toList) rfl (by simp [hy2])
   simp only [Array.length_toList, reachBytes] at hss
   have hsz : s2.size = s2.data.size := rfl
   have hw3 : (y3.1.weights Tryd.prog 23).all (· ≤ reachBytes) = true := List.all_eq_true.2 fun n hn => List.all_eq_true.1 hw n (DataW.weights_mem_each (j := 3) rfl rfl n hn)
   rcases DataW.trod_slice Tryd.underlying23 f3 with ⟨hcs, _⟩ | hh
   ·simp only [List.cons.injEq, and_true] at hcs
    subst hcs
    exact ⟨mkX ⟨kk, n1, s2, 0, n4, n5⟩ (fun _ => l0x), none, 0, rfl, ⟨hk8, b1.1, b1.2, by show s2.size ≤ _; omega, by show 0 ≤ _; omega⟩, fun d i hi => by have hi : i < 0 := hi; omega⟩
   ·obtain ⟨ad, len, cap, elems, rest, n, hn, hcs, hy3, _, hl, hcap, hel, hget, hsp, _⟩ := hh
    simp only [List.cons.injEq, and_true] at hcs
    subst hcs
    rw [hy3] at hw3
    simp only [DataW.weights, Tryd.underlying23, bytesX, List.all_cons, List.all_append, Bool.and_eq_true, List.length_map] at hw3
    obtain ⟨h1, h2, _⟩ := hw3
    have h1 : (elems.length + rest.length) * 72 ≤ reachBytes := of_decide_eq_true h1
    simp only [reachBytes] at h1
    have hspot : 0 < len → ad.spot = none := fun h0 => by
     have hg := hget 0 h0
     have hi' : 0 < elems.length := by omega
     rw [List.getElem?_eq_getElem hi'] at hg
     obtain ⟨cs', g1, g2⟩ := Option.bind_eq_some_iff.1 hg
     rw [cellsX] at g1
     obtain ⟨_, hlen', hcell⟩ := World.cells?_some g1
     obtain ⟨T, a', cap', e', _, _⟩ := ih n (by omega) cs' _ g2 (qb3 h2 _ (List.mem_map.2 ⟨_, List.getElem_mem hi', rfl⟩))
     have z0 := hcell 0 (by omega)
     rw [e'] at z0
     simpa [Addr.add] using World.cell?_spot z0
    have each : ∀ i, i < len → ∃ T : Xt, ∃ b o, ad = ⟨b, o, none⟩ ∧ ∀ d, XA d W b (o + i * 6) T := fun i hi => by
     have hg := hget i hi
     have hi' : i < elems.length := by omega
     rw [List.getElem?_eq_getElem hi'] at hg
     obtain ⟨cs', g1, g2⟩ := Option.bind_eq_some_iff.1 hg
     rw [cellsX] at g1
     obtain ⟨_, hlen', hcell⟩ := World.cells?_some g1
     obtain ⟨T, hT⟩ := ih n (by omega) cs' _ g2 (qb3 h2 _ (List.mem_map.2 ⟨_, List.getElem_mem hi', rfl⟩))
     have hp := hspot (by omega)
     rcases ad with ⟨b, o, p⟩
     have hp : p = none := hp
     subst hp
     refine ⟨T, b, o, rfl, hT.at_ (fun j hj => ?_)⟩
     have hj' := hcell j (by omega)
     rw [addc, addc] at hj'
     exact hj'
    obtain ⟨F, hF⟩ := pickc l0x each
    refine ⟨mkX ⟨kk, n1, s2, len, n4, n5⟩ F, some ad, cap, rfl, ⟨hk8, b1.1, b1.2, by show s2.size ≤ _; omega, by show len ≤ _; omega⟩, fun d i hi => ?_⟩
    obtain ⟨b, o, e, h⟩ := hF i hi
    exact ⟨b, o, by rw [e], h d⟩
open Go.RowKit Go.ChangeShapes Go.WideShapes
open Go.RowKit Go.ChangeShapes Go.WideShapes
open Go.RowKit Go.ChangeShapes Go.WideShapes
end Go.Proofs.YtgmndjbicandfaaDoor
