/-
  Stage 21: the reference's CopyBlocks.
-/
import Derived.Test.YtkfnedpnkeacpaaQffsh00
import Derived.Test.YtkfnedpnkeacpaaQffsh36
set_option maxRecDepth 100000
set_option maxHeartbeats 16000000
namespace Go.Proofs.Ytkfnedpnkeacpaa
open Go.RowKit
/-- An own list of n own lists, the i-th of L i bytes. -/
def Bv (w : World) (B : Nat) (v : Value) (n : Nat) (L : Nat → Nat) (x : Nat → Nat → Nat) : Prop := ∃ vs : List Value, w.ownsRow B 22 1 v n vs ∧ ∀ i, i < n → ∃ u, vs[i]? = some u ∧ w.ownsRow B 5 1 u (L i) (row (L i) (x i)).toList
theorem Bv.nil (w : World) (B : Nat) (L : Nat → Nat) (x : Nat → Nat → Nat) : Bv w B (.slice none 0 0) 0 L x := ⟨[], World.ownsRow_nil _ _ _ _, fun i h => by omega⟩
theorem Bv.later {w w' : World} {B : Nat} {v : Value} {n : Nat} {L : Nat → Nat} {x : Nat → Nat → Nat} (h : Bv w B v n L x) (hb : Below w.heap.size w w') : Bv w' B v n L x := by
 obtain ⟨vs, h1, h2⟩ := h
 refine ⟨vs, qa8 h1 hb, fun i hi => ?_⟩
 obtain ⟨u, hu, ht⟩ := h2 i hi
 exact ⟨u, hu, qa8 ht hb⟩
theorem Bv.form {w : World} {B : Nat} {v : Value} {n : Nat} {L : Nat → Nat} {x : Nat → Nat → Nat} (h : Bv w B v n L x) : ∃ a d, v = .slice a n d ∧ (a = none → n = 0 ∧ d = 0) := by
 obtain ⟨vs, h1, _⟩ := h
 rcases h1.2 with ⟨e, h0⟩ | ⟨g, cap, cur, e, _⟩
 ·exact ⟨none, 0, by rw [e, h0], fun _ => ⟨h0, rfl⟩⟩
 ·exact ⟨_, _, e, fun x => by cases x⟩
theorem Bv.push {w w' : World} {B : Nat} {v v' u : Value} {n : Nat} {L : Nat → Nat} {x : Nat → Nat → Nat} {vs : List Value} (k1 : w.ownsRow B 22 1 v n vs) (k2 : ∀ i, i < n → ∃ u, vs[i]? = some u ∧ w.ownsRow B 5 1 u (L i) (row (L i) (x i)).toList) (hu : w.ownsRow B 5 1 u (L n) (row (L n) (x n)).toList)
  (o1 : w'.ownsRow B 22 1 v' (n + 1) (vs ++ [u])) (o2 : w.grownBy w' v.ownBlock) : Bv w' B v' (n + 1) L x := by
 have hl : vs.length = n := by have := k1.1; rw [Nat.mul_one] at this; exact this
 refine ⟨vs ++ [u], o1, fun i hi => ?_⟩
 by_cases hlt : i < n
 ·obtain ⟨y, hy, ht⟩ := k2 i hlt
  exact ⟨y, by rw [List.getElem?_append_left (by omega)]; exact hy, World.ownsRow.kept ht o2 (qat ht k1 (by decide))⟩
 ·obtain rfl : i = n := by omega
  exact ⟨u, by rw [List.getElem?_append_right (by omega), hl, Nat.sub_self]; rfl, World.ownsRow.kept hu o2 (qat hu k1 (by decide))⟩
theorem Bv.cell {w : World} {B : Nat} {a : Option Addr} {n d : Nat} {L : Nat → Nat} {x : Nat → Nat → Nat} (h : Bv w B (.slice a n d) n L x) (i : Nat) (hi : i < n) : ∃ g u, a = some ⟨g, 0, none⟩ ∧ w.cell? ⟨g, i, none⟩ = some u ∧ w.ownsRow B 5 1 u (L i) (row (L i) (x i)).toList := by
 obtain ⟨vs, h1, h2⟩ := h
 obtain ⟨u, hu, ht⟩ := h2 i hi
 rcases h1.2 with ⟨e, h0⟩ | ⟨g, cap, cur, e, hb, hg, _, _, hs, htake⟩
 ·simp at e; omega
 ·simp only [Value.slice.injEq] at e
  refine ⟨g, u, e.1, ?_, ht⟩
  rw [cell_of_row w g i _ _ _ hg]
  rw [Nat.mul_one] at htake
  rw [← htake, List.getElem?_take, if_pos hi] at hu
  rw [← Array.getElem?_toList]
  exact hu
/-- Such a list is one of blocks. -/
theorem Bv.bw {w : World} {B : Nat} {a : Option Addr} {n d : Nat} {L : Nat → Nat} {x : Nat → Nat → Nat} (h : Bv w B (.slice a n d) n L x) (hx : ∀ i j, i < n → j < L i → x i j < 256) (hL : ∀ i, i < n → L i ≤ 140737488351232) : ∃ (A : Nat → Option Addr) (C : Nat → Nat), Bw w a n A L C x := by
 have key : ∀ i, ∃ t : Option Addr × Nat, i < n → (∃ g, a = some ⟨g, 0, none⟩ ∧ w.cell? ⟨g, i, none⟩ = some (.slice t.1 (L i) t.2)) ∧ Sl w t.1 (L i) (x i) ∧ (t.1 = none → L i = 0 ∧ t.2 = 0) ∧ L i ≤ t.2 := by
  intro i
  by_cases hi : i < n
  ·obtain ⟨g, u, ea, hc, ho⟩ := h.cell i hi
   obtain ⟨s, c, rfl, hs, _⟩ := qbl ho (fun j hj => hx i j hi hj)
   refine ⟨(s, c), fun _ => ⟨⟨g, ea, hc⟩, hs, ?_⟩⟩
   rcases ho.2 with ⟨e1, e2⟩ | ⟨g2, cap, cur, e1, _, _, hcp, _⟩
   ·simp at e1; exact ⟨fun _ => ⟨e2, e1.2.2⟩, by omega⟩
   ·simp only [Value.slice.injEq] at e1
    exact ⟨fun e => (by rw [e1.1] at e; cases e), by rw [e1.2.2]; exact hcp⟩
  ·exact ⟨(none, 0), fun h => absurd h hi⟩
 obtain ⟨T, hT⟩ := Classical.axiomOfChoice key
 exact ⟨fun i => (T i).1, fun i => (T i).2, ⟨⟨fun i hi => by
  obtain ⟨g, e, hc⟩ := (hT i hi).1
  exact ⟨g, 0, e, by rw [Nat.zero_add]; exact hc⟩, fun i hi => (hT i hi).2.1, fun i hi => (hT i hi).2.2.1⟩, fun i hi => (hT i hi).2.2.2, hL⟩⟩
/-- One block more. -/
theorem bv_more {w w3 w4 : World} {B k : Nat} {vv v4 u : Value} {L : Nat → Nat} {x : Nat → Nat → Nat} {vs : List Value} {o : Obj}
  (hvs : w3.ownsRow w.heap.size 22 1 vv k vs) (hel : ∀ i, i < k → ∃ u, vs[i]? = some u ∧ w3.ownsRow w.heap.size 5 1 u (L i) (row (L i) (x i)).toList) (hu : w3.ownsRow B 5 1 u (L k) (row (L k) (x k)).toList) (hB : w.heap.size ≤ B)
  (ho : w4.ownsRow w.heap.size 22 1 v4 (k + 1) (vs ++ [u])) (hg : (w3.alloc o).grownBy w4 vv.ownBlock) (hb : Below w.heap.size w w3) :
  Bv w4 w.heap.size v4 (k + 1) L x ∧ Below w.heap.size w w4 := by
 have hal := jlow w3 o
 have hbo := Bv.push (qa8 hvs hal) (fun i hi => by
  obtain ⟨u, h1, h2⟩ := hel i hi
  exact ⟨u, h1, qa8 h2 hal⟩) (qa8 (qar hu hB) hal) ho hg
 have hb2 := jtwo hb hal
 exact ⟨hbo, hb2.grown hg hb2.size (fun k e => qac hvs k e)⟩
theorem qdz (w : World) (bl : Option Addr) (nb kb : Nat) (A : Nat → Option Addr) (L C : Nat → Nat) (bt : Nat → Nat → Nat) (hB : Bw w bl nb A L C bt) (hnb : nb * 24 ≤ 140737488351232) :
  Calls Try.prog 25 #[.slice bl nb kb] w fun e w' => (∃ v, e = .returned v ∧ Bv w' w.heap.size v nb L bt) ∧ Below w.heap.size w w' := by
 obtain ⟨i0, hi0, hz0, hz1, hz2⟩ := info_parts jsl8
 have HBw := qa0 hB
 have HB0 := qa0 (Below.refl w.heap.size w)
 clear hB
 go_enter Try.func25, Try.ntmps25
 go_wp2
 go_loopw [3, 4] (fun vv vi wr => ∃ k : Nat, k ≤ nb ∧ vi = .int .i64 (k : Int) ∧ Bv wr w.heap.size vv k L bt ∧ Below w.heap.size w wr) (fun _ vi _ => nb - (intOf vi).toNat)
 case atStart => exact ⟨0, by omega, rfl, Bv.nil _ _ _ _, HB0.out⟩
 case round =>
  obtain ⟨k, hk, rfl, hbo, hb⟩ := hrel
  have HB := qa0 hb
  have HBo := qa0 hbo
  clear hbo
  by_cases hlk : k < nb
  ·obtain ⟨bb, bo, rfl, b0⟩ := (HBw.out.rl.later hb).at' k hlk
   have HCp := qa0 (qb8 wr (A k) (L k) (C k) (bt k) ((HBw.out.rl.later hb).sl k hlk) (HBw.out.len k hlk) (HBw.out.rl.nil k hlk))
   obtain ⟨f, HFf⟩ : ∃ f, Hid (bt k = f) := ⟨_, rfl⟩
   obtain ⟨s, HAz⟩ : ∃ s, Hid (A k = s) := ⟨_, rfl⟩
   obtain ⟨d, HCz⟩ : ∃ s, Hid (C k = s) := ⟨_, rfl⟩
   obtain ⟨T, HT⟩ : ∃ s, Hid (L k = s) := ⟨_, rfl⟩
   rw [HAz.out, HCz.out, HT.out] at b0
   rw [HAz.out, HCz.out, HFf.out, HT.out] at HCp
   have z0 : (0 : Int) ≤ (k : Int) := by omega
   have z1 : (k : Int) < (nb : Int) := by omega
   have hml : k + 1 ≤ maxLen := by unfold maxLen; omega
   have hws := hb.size
   clear hb
   go_wp2_with (first
    | (go_at_call 40; refine HCp.out.mono ?_; rintro e w3 ⟨u, rfl, hu3, hb3⟩; obtain ⟨s3, d3, rfl⟩ := qaf hu3; have HU3 := qa0 hu3; have hsz3 := hb3.size; have HBo3 := qa0 (HBo.out.later hb3); have HB3 := qa0 (jtwo HB.out hb3); obtain ⟨vs, hvs, hel⟩ := HBo3.out; have HVs := qa0 hvs; have HEl := qa0 hel; clear hu3 hb3 hvs hel)
    | (at_builtin; refine wpList_append_own _ rfl _ _ 41 rfl w.heap.size 22 i0 (.slice none 0 0) 1 24 Try.underlying41 hi0 hz0 hz1 hz2 rfl (by decide) _ k vs rfl (World.ownsRow.alloc HVs.out _) ⟨w3.heap.size, 0, none⟩ 1 1 [.slice s3 T d3] rfl rfl (qap _ _ _) (by intro x hx; rw [List.mem_singleton.1 hx]; rfl) hml (by omega) (by simp; omega) ?_; intro v4 w4 hown4 hgrow4 _; have HO4 := qa0 hown4; have HG4 := qa0 hgrow4; clear hown4 hgrow4))
   obtain ⟨hbo4, hb4⟩ := bv_more (B := wr.heap.size) (x := bt) HVs.out HEl.out (by rw [HFf.out, HT.out]; exact HU3.out) (by omega) HO4.out HG4.out HB3.out
   exact ⟨⟨k + 1, by omega, by go_num, hbo4, hb4⟩, by simp [intOf]; omega⟩
  ·obtain rfl : k = nb := by omega
   clear hb
   go_wp2
   go_ret
   exact ⟨⟨_, rfl, HBo.out⟩, HB.out⟩
end Go.Proofs.Ytkfnedpnkeacpaa
