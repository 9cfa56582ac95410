/-
  Stage 21: flows that came in.
-/
import Derived.Test.YthdgpmanijifoaaQbbst00
import Derived.Test.YthdgpmanijifoaaQbbst35
import Derived.Deep.Slices
import Derived.SizedLaws
set_option maxRecDepth 100000
set_option maxHeartbeats 16000000
namespace Go.Proofs.Ythdgpmanijifoaa
open Go.RowKit Go.ChangeShapes Go.WideShapes
theorem qao {H : Type} {P : Program} {e : TypeId} : ∀ {ds : List (DataW H)}, (DataW.weightsAll P e ds).all (· ≤ reachBytes) = true → ∀ d ∈ ds, (d.weights P e).all (· ≤ reachBytes) = true
 | [], _, d, hd => by simp at hd
 | d0 :: r, h, d, hd => by
  simp only [DataW.weightsAll, List.all_append, Bool.and_eq_true] at h
  rcases List.mem_cons.1 hd with rfl | hd
  ·exact h.1
  ·exact qao h.2 d hd
theorem pick21 {α : Type} (d : α) {n : Nat} {P : Nat → α → Prop} (h : ∀ i, i < n → ∃ x, P i x) : ∃ q : Nat → α, ∀ i, i < n → P i (q i) := by
 refine ⟨fun i => if hi : i < n then (h i hi).choose else d, fun i hi => ?_⟩
 simp only [dif_pos hi]
 exact (h i hi).choose_spec
theorem add21 (b o j : Nat) : (⟨b, o, none⟩ : Addr).add j = ⟨b, o + j, none⟩ := by unfold Addr.add; split <;> simp_all
/-- A slice that came in, by what its elements are. -/
theorem qbh {H : Type} {enc : TypeId × Value → H} {W : World} {t e : TypeId} {c bb : Nat} {α : Type} (dflt : α) (Q : List Value → α → Prop) (ht : Try.prog.underlying t = some (.slice e)) (hc : Try.prog.cellsOf e = c) (hc0 : 0 < c) (hb : Try.prog.bytesOf e = bb)
  {fuel : Nat} {v : Value} {y : DataW H × List MemPlace} (h : DataW.trod enc Try.prog W 0 (fun _ => true) true fuel t [v] = some y) (hw : (y.1.weights Try.prog t).all (· ≤ reachBytes) = true)
  (hq : ∀ n cs (z : DataW H × List MemPlace), n < fuel → DataW.trod enc Try.prog W 0 (fun _ => true) true n e cs = some z → (z.1.weights Try.prog e).all (· ≤ reachBytes) = true → ∃ a, Q cs a) :
  ∃ (a : Option Addr) (len cap : Nat) (F : Nat → α), v = .slice a len cap ∧ len * bb ≤ reachBytes ∧ ∀ i, i < len → ∃ b o cs', a = some ⟨b, o, none⟩ ∧ Q cs' (F i) ∧ ∀ j, j < c → W.cell? ⟨b, o + i * c + j, none⟩ = cs'[j]? := by
 rcases DataW.trod_slice ht h with ⟨hcs, _⟩ | ⟨ad, len, cap, elems, rest, n, hn, hcs, hy3, _, hl, hcap, hel, hget, hsp, _⟩
 ·simp only [List.cons.injEq, and_true] at hcs
  exact ⟨none, 0, 0, fun _ => dflt, hcs, by omega, fun i hi => by omega⟩
 ·simp only [List.cons.injEq, and_true] at hcs
  subst hcs
  rw [hy3] at hw
  simp only [DataW.weights, ht, hb, List.all_cons, List.all_append, Bool.and_eq_true, List.length_map] at hw
  obtain ⟨h1, h2, _⟩ := hw
  have h1 : (elems.length + rest.length) * bb ≤ reachBytes := of_decide_eq_true h1
  have hspot : 0 < len → ad.spot = none := fun h0 => by
   have hg := hget 0 h0
   have hi' : 0 < elems.length := by omega
   rw [List.getElem?_eq_getElem hi'] at hg
   obtain ⟨cs', g1, g2⟩ := Option.bind_eq_some_iff.1 hg
   rw [hc] at g1
   obtain ⟨_, hlen', hcell⟩ := World.cells?_some g1
   have z0 := hcell 0 hc0
   rw [List.getElem?_eq_getElem (by omega)] at z0
   simpa [Addr.add] using World.cell?_spot z0
  have each : ∀ i, i < len → ∃ T : α, ∃ b o cs', ad = ⟨b, o, none⟩ ∧ Q cs' T ∧ ∀ j, j < c → W.cell? ⟨b, o + i * c + j, none⟩ = cs'[j]? := fun i hi => by
   have hg := hget i hi
   have hi' : i < elems.length := by omega
   rw [List.getElem?_eq_getElem hi'] at hg
   obtain ⟨cs', g1, g2⟩ := Option.bind_eq_some_iff.1 hg
   rw [hc] at g1
   obtain ⟨_, hlen', hcell⟩ := World.cells?_some g1
   obtain ⟨T, hT⟩ := hq n cs' _ (by omega) g2 (qao h2 _ (List.mem_map.2 ⟨_, List.getElem_mem hi', rfl⟩))
   have hp := hspot (by omega)
   rcases ad with ⟨b, o, p⟩
   have hp : p = none := hp
   subst hp
   refine ⟨T, b, o, cs', rfl, hT, fun j hj => ?_⟩
   have hj' := hcell j hj
   rw [add21, add21] at hj'
   exact hj'
  obtain ⟨F, hF⟩ := pick21 dflt each
  refine ⟨some ad, len, cap, F, rfl, ?_, fun i hi => ?_⟩
  ·refine Nat.le_trans (Nat.mul_le_mul_right bb ?_) h1
   omega
  ·obtain ⟨b, o, cs', e, hT, hcc⟩ := hF i hi
   exact ⟨b, o, cs', by rw [e], hT, hcc⟩
theorem qbu : Try.prog.cellsOf 3 = 1 := by kernel_rfl
theorem bytesI21 : Try.prog.bytesOf 3 = 8 := by kernel_rfl
theorem qbv : Try.prog.cellsOf 59 = 2 := by kernel_rfl
theorem bytesT21 : Try.prog.bytesOf 59 = 16 := by kernel_rfl
theorem cellsL21 : Try.prog.cellsOf 57 = 1 := by kernel_rfl
theorem bytesL21 : Try.prog.bytesOf 57 = 24 := by kernel_rfl
theorem cellsU21 : Try.prog.cellsOf 5 = 1 := by kernel_rfl
theorem qcx : Try.prog.cellsOf 25 = 3 := by kernel_rfl
end Go.Proofs.Ythdgpmanijifoaa
