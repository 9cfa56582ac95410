/-
  A list of tokens that came in.
-/
import Derived.Test.YtipjejkjoiifdaaDoorBj
import Derived.Test.YtipjejkjoiifdaaDoorAj
import Derived.Deep.Slices
import Derived.SizedLaws
namespace Go.Proofs.YtipjejkjoiifdaaDoor
open Go.RowKit Go.ChangeShapes Go.WideShapes
theorem sized_all9 {H : Type} {P : Program} {e : TypeId} : ∀ {ds : List (DataW H)}, (DataW.weightsAll P e ds).all (· ≤ reachBytes) = true → ∀ d ∈ ds, (d.weights P e).all (· ≤ reachBytes) = true
  | [], _, d, hd => by simp at hd
  | d0 :: r, h, d, hd => by
    simp only [DataW.weightsAll, List.all_append, Bool.and_eq_true] at h
    rcases List.mem_cons.1 hd with rfl | hd
    · exact h.1
    · exact sized_all9 h.2 d hd
theorem u8_of_wf9 {n : Int} (h : (Lit.int .u8 n).wf = true) : ∃ x : Nat, n = (x : Int) ∧ x < 256 := by
  simp [Lit.wf, IntKind.min, IntKind.max, IntKind.signed, IntKind.bits] at h
  exact ⟨n.toNat, by omega, by omega⟩
theorem pick9 {α : Type} (d : α) {n : Nat} {P : Nat → α → Prop} (h : ∀ i, i < n → ∃ x, P i x) : ∃ q : Nat → α, ∀ i, i < n → P i (q i) :=
  ⟨fun i => if hi : i < n then Classical.choose (h i hi) else d, fun i hi => by show P i (if hi : i < n then Classical.choose (h i hi) else d); rw [dif_pos hi]; exact Classical.choose_spec (h i hi)⟩
theorem cellsTok : Tryd.prog.cellsOf 37 = 5 := by kernel_rfl
theorem bytesTok : Tryd.prog.bytesOf 37 = 48 := by kernel_rfl
set_option maxRecDepth 20000 in
set_option maxHeartbeats 2000000 in
/-- A list of tokens that came in. -/
theorem toks_in {H : Type} {enc : TypeId × Value → H} {W : World} {fuel : Nat} {a : Option Addr} {len cap : Nat} {x : DataW H × List MemPlace}
    (h : DataW.trod enc Tryd.prog W 0 (fun _ => true) true fuel 26 [.slice a len cap] = some x) (hs : (x.1.weights Tryd.prog 26).all (· ≤ reachBytes) = true) : ∃ K, Toks W a len K ∧ len ≤ 2932031007402 := by
  rcases Go.Deep.open_slice Tryd.underlying26 h with ⟨hcs, _⟩ | ⟨ad, l, c, m, n, D, Pl, hcs, _, hl, _, hmm, rfl, hx⟩
  · simp at hcs
    obtain ⟨rfl, rfl, rfl⟩ := hcs
    exact ⟨fun _ => ⟨0, ⟨#[]⟩, 0, 0, 0⟩, ⟨fun i hi => by omega, fun i hi => by omega⟩, by omega⟩
  · simp at hcs
    obtain ⟨rfl, rfl, rfl⟩ := hcs
    rw [if_pos rfl] at hmm
    subst hmm
    simp only [DataW.weights, Tryd.underlying26, bytesTok, List.all_cons, List.all_append, Bool.and_eq_true, List.length_map, List.length_range] at hs
    obtain ⟨h1, h2, _⟩ := hs
    have h1 : (len + (m - len)) * 48 ≤ reachBytes := of_decide_eq_true h1
    simp only [reachBytes] at h1
    have each : ∀ i, i < len → ∃ v : TV, TvOk v ∧ W.cell? (ad.add (i * 5)) = some (.int .u8 (v.k : Int)) ∧ W.cell? (ad.add (i * 5 + 1)) = some (.string v.tx) ∧ W.cell? (ad.add (i * 5 + 2)) = some (.int .i64 v.n) ∧ W.cell? (ad.add (i * 5 + 3)) = some (.int .i64 v.ln) ∧ W.cell? (ad.add (i * 5 + 4)) = some (.int .i64 v.cl) := fun i hi => by
      obtain ⟨cs', g1, g2⟩ := hx i (by omega)
      rw [cellsTok] at g1
      obtain ⟨_, hlen, hcell⟩ := World.cells?_some g1
      obtain ⟨xs, k, _, hxy, _, hxl, hf⟩ := DataW.trod_struct Tryd.underlying37 g2
      have hw := sized_all9 h2 (D i) (List.mem_map.2 ⟨i, by simpa using hi, rfl⟩)
      match xs, hxl, cs', hlen with
      | [y0, y1, y2, y3, y4], _, [v0, v1, v2, v3, v4], _ =>
        have f0 := hf 0 _ rfl
        have f1 := hf 1 _ rfl
        have f2 := hf 2 _ rfl
        have f3 := hf 3 _ rfl
        have f4 := hf 4 _ rfl
        have cU : Tryd.prog.cellsOf 35 = 1 := by kernel_rfl
        have cS : Tryd.prog.cellsOf 9 = 1 := by kernel_rfl
        have cI : Tryd.prog.cellsOf 3 = 1 := by kernel_rfl
        simp [cU, cS, cI] at f0 f1 f2 f3 f4
        obtain ⟨k0, e0, _, w0⟩ := DataW.trod_int Tryd.underlying35 f0
        obtain ⟨s1, e1, hy1, _⟩ := DataW.trod_string Tryd.underlying9 f1
        obtain ⟨n2, e2, _, w2⟩ := DataW.trod_int Tryd.underlying3 f2
        obtain ⟨n3, e3, _, _⟩ := DataW.trod_int Tryd.underlying3 f3
        obtain ⟨n4, e4, _, _⟩ := DataW.trod_int Tryd.underlying3 f4
        simp only [List.cons.injEq, and_true] at e0 e1 e2 e3 e4
        subst e0 e1 e2 e3 e4
        obtain ⟨kk, rfl, hk8⟩ := u8_of_wf9 w0
        have b2 := i64_of_wf9 w2
        simp only [Prod.mk.injEq] at hxy
        rw [hxy.1] at hw
        simp only [DataW.weights, Tryd.underlying37] at hw
        have hss := sized_string hw (j := 1) (t := 9) (bytes := s1.data.toList) rfl (by simp [hy1])
        simp only [Array.length_toList, reachBytes] at hss
        have hsz : s1.size = s1.data.size := rfl
        have c0 := hcell 0 (by omega)
        have c1 := hcell 1 (by omega)
        have c2 := hcell 2 (by omega)
        have c3 := hcell 3 (by omega)
        have c4 := hcell 4 (by omega)
        rw [Go.Deep.add_add] at c0 c1 c2 c3 c4
        exact ⟨⟨kk, s1, n2, n3, n4⟩, ⟨hk8, by show s1.size ≤ _; omega, b2.1, b2.2⟩, by simpa using c0, by simpa using c1, by simpa using c2, by simpa using c3, by simpa using c4⟩
    obtain ⟨K, hK⟩ := pick9 (⟨0, ⟨#[]⟩, 0, 0, 0⟩ : TV) each
    refine ⟨K, ⟨fun i hi => ?_, fun i hi => (hK i hi).1⟩, by omega⟩
    obtain ⟨_, c0, c1, c2, c3, c4⟩ := hK i hi
    have z0 := (hK 0 (by omega)).2.1
    rcases ad with ⟨b, o, p⟩
    have hp : p = none := by simpa [Addr.add] using World.cell?_spot z0
    subst hp
    have ea : ∀ k, (⟨b, o, none⟩ : Addr).add k = ⟨b, o + k, none⟩ := fun k => by unfold Addr.add; split <;> simp_all
    rw [ea] at c0 c1 c2 c3 c4
    exact ⟨b, o, rfl, c0, by rw [Nat.add_assoc]; exact c1, by rw [Nat.add_assoc]; exact c2, by rw [Nat.add_assoc]; exact c3, by rw [Nat.add_assoc]; exact c4⟩
end Go.Proofs.YtipjejkjoiifdaaDoor
