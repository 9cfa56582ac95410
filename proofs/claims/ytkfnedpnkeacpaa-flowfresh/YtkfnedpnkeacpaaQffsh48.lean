/-
  Stage 21: what may be written over; the calls of FlowFresh.
-/
import Derived.Test.YtkfnedpnkeacpaaQffsh00
import Derived.Test.YtkfnedpnkeacpaaQffsh43
import Derived.Test.YtkfnedpnkeacpaaQffsh45
import Derived.Test.YtkfnedpnkeacpaaQffsh47
import Derived.Test.YtkfnedpnkeacpaaQffsh46
set_option maxRecDepth 100000
set_option maxHeartbeats 16000000
namespace Go.Proofs.Ytkfnedpnkeacpaa
open Go.RowKit
/-- Cells that may be written, of n elements of sz cells each, in one block from D on and below H. -/
def Wi (w : World) (D H : Nat) (T : TypeId) (sz : Nat) (s : Option Addr) (n : Nat) : Prop := n ≤ maxLen ∧ (0 < n → ∃ g, s = some ⟨g, 0, none⟩ ∧ D ≤ g ∧ g < H ∧ ∃ cur : Array Value, w.heap[g]? = some (.cells cur T (0, 0)) ∧ n * sz ≤ cur.size)
theorem Wi.own {w : World} {D H : Nat} {T : TypeId} {sz n d : Nat} {s : Option Addr} {xs : List Value} (h : w.ownsRow D T sz (.slice s n d) n xs) (hH : w.heap.size ≤ H) : Wi w D H T sz s n := by
 rcases h.2 with ⟨e, h0⟩ | ⟨g, cap, cur, e, hb, hg, hnc, hcm, hs, _⟩
 ·exact ⟨by omega, fun hn => by omega⟩
 ·simp only [Value.slice.injEq] at e
  have hl := lt_of_block hg
  exact ⟨by omega, fun _ => ⟨g, e.1, hb, by omega, cur, hg, by rw [hs]; exact Nat.mul_le_mul_right _ hnc⟩⟩
theorem Wi.to {w w' : World} {D H : Nat} {T : TypeId} {sz n : Nat} {s : Option Addr} (h : Wi w D H T sz s n) (k : ∀ (g : Nat) (cur : Array Value), D ≤ g → g < H → w.heap[g]? = some (.cells cur T (0, 0)) → ∃ cur' : Array Value, w'.heap[g]? = some (.cells cur' T (0, 0)) ∧ cur'.size = cur.size) : Wi w' D H T sz s n := by
 refine ⟨h.1, fun hn => ?_⟩
 obtain ⟨g, e, h1, h2, cur, hg, hs⟩ := h.2 hn
 obtain ⟨cur', hg', hs'⟩ := k g cur h1 h2 hg
 exact ⟨g, e, h1, h2, cur', hg', by omega⟩
theorem qd0 {w : World} {b i g : Nat} {T : TypeId} {cur : Array Value} (x : Value) (hg : w.heap[g]? = some (.cells cur T (0, 0))) : ∃ cur' : Array Value, (w.setCell ⟨b, i, none⟩ x).heap[g]? = some (.cells cur' T (0, 0)) ∧ cur'.size = cur.size := by
 by_cases e : g = b
 ·subst e
  exact ⟨cur.setIfInBounds i x, by rw [setCell_eq_setRow w g i _ _ (0, 0) _ hg, setRow_heap w g _ _ _ (0, 0) hg], by simp⟩
 ·exact ⟨cur, by rw [Below.heap_setCell w ⟨b, i, none⟩ x g e]; exact hg, rfl⟩
theorem Wi.set {w : World} {D H b i : Nat} {T : TypeId} {sz n : Nat} {s : Option Addr} (h : Wi w D H T sz s n) (x : Value) : Wi (w.setCell ⟨b, i, none⟩ x) D H T sz s n := h.to fun _ _ _ _ hg => qd0 x hg
theorem Wi.later {w w' : World} {D H B : Nat} {T : TypeId} {sz n : Nat} {s : Option Addr} (h : Wi w D H T sz s n) (hb : Below B w w') (hB : H ≤ B) : Wi w' D H T sz s n := h.to fun g cur _ h2 hg => ⟨cur, by rw [hb.block g (by omega)]; exact hg, rfl⟩
theorem Wi.kept {w w' : World} {D H b : Nat} {T : TypeId} {sz n : Nat} {s : Option Addr} (h : Wi w D H T sz s n) (hb : w.grownBy w' (some b)) (hB : H ≤ b) : Wi w' D H T sz s n := h.to fun g cur _ h2 hg => ⟨cur, by rw [hb.block g (lt_of_block hg) (fun e => by have := Option.some.inj e; omega)]; exact hg, rfl⟩
theorem Wi.open {w : World} {D H : Nat} {T : TypeId} {sz n i : Nat} {s : Option Addr} (h : Wi w D H T sz s n) (hi : i < n) : ∃ g, s = some ⟨g, 0, none⟩ ∧ D ≤ g ∧ g < H ∧ (∃ cur : Array Value, w.heap[g]? = some (.cells cur T (0, 0))) ∧ ∀ j, j < sz → (∃ v, w.cell? ⟨g, i * sz + j, none⟩ = some v) ∧ w.frozen? ⟨g, i * sz + j, none⟩ = false := by
 obtain ⟨g, e, h1, h2, cur, hg, hs⟩ := h.2 (by omega)
 refine ⟨g, e, h1, h2, ⟨cur, hg⟩, fun j hj => ⟨?_, by simp [World.frozen?, hg]⟩⟩
 have hlt : i * sz + j < cur.size := by
  have h3 : (i + 1) * sz ≤ n * sz := Nat.mul_le_mul_right _ (by omega)
  rw [Nat.add_mul, Nat.one_mul] at h3
  omega
 exact ⟨cur[i * sz + j]'hlt, by rw [cell_of_row w g _ _ _ _ hg]; exact Array.getElem?_eq_getElem hlt⟩
/-- Lists of terms that may be written, n of them. -/
def Sh (w : World) (D H : Nat) (s : Option Addr) (n : Nat) (S : Nat → Option Addr) (M C : Nat → Nat) : Prop := n ≤ maxLen ∧ (0 < n → ∃ g, s = some ⟨g, 0, none⟩ ∧ ∃ cur : Array Value, w.heap[g]? = some (.cells cur 59 (0, 0)) ∧ ∀ i, i < n → cur[i]? = some (.slice (S i) (M i) (C i))) ∧ ∀ i, i < n → Wi w D H 61 2 (S i) (M i)
theorem Sh.own {w : World} {D H n d : Nat} {s : Option Addr} {N : List (List Trm)} (h : Nw w D (.slice s n d) N) (hN : N.length = n) (hH : w.heap.size ≤ H) : ∃ (S : Nat → Option Addr) (M C : Nat → Nat), Sh w D H s n S M C := by
 obtain ⟨vs, k1, k2⟩ := h
 rw [hN] at k1
 have key : ∀ i, ∃ t : Option Addr × Nat × Nat, i < n → vs[i]? = some (.slice t.1 t.2.1 t.2.2) ∧ Wi w D H 61 2 t.1 t.2.1 := by
  intro i
  by_cases hi : i < n
  ·obtain ⟨u, hu, ht⟩ := k2 i (N[i]'(by omega)) (List.getElem?_eq_getElem (by omega))
   obtain ⟨a, d', e, _⟩ := ht.form
   subst e
   exact ⟨(a, _, d'), fun _ => ⟨hu, Wi.own ht hH⟩⟩
  ·exact ⟨(none, 0, 0), fun h => absurd h hi⟩
 obtain ⟨T, hT⟩ := Classical.axiomOfChoice key
 refine ⟨fun i => (T i).1, fun i => (T i).2.1, fun i => (T i).2.2, ?_, fun hn => ?_, fun i hi => (hT i hi).2⟩
 ·exact (Wi.own k1 hH).1
 ·rcases k1.2 with ⟨e, h0⟩ | ⟨g, cap, cur, e, hb, hg, _, _, hs, htake⟩
  ·omega
  ·simp only [Value.slice.injEq] at e
   refine ⟨g, e.1, cur, hg, fun i hi => ?_⟩
   have hu := (hT i hi).1
   rw [Nat.mul_one] at htake
   rw [← htake, List.getElem?_take, if_pos hi] at hu
   rw [← Array.getElem?_toList]
   exact hu
theorem Sh.set {w : World} {D H b i n : Nat} {s : Option Addr} {S : Nat → Option Addr} {M C : Nat → Nat} (h : Sh w D H s n S M C) (hb : ∃ cur : Array Value, w.heap[b]? = some (.cells cur 61 (0, 0))) (x : Value) : Sh (w.setCell ⟨b, i, none⟩ x) D H s n S M C := by
 refine ⟨h.1, fun hn => ?_, fun k hk => (h.2.2 k hk).set x⟩
 obtain ⟨g, e, cur, hg, hc⟩ := h.2.1 hn
 refine ⟨g, e, cur, ?_, hc⟩
 rw [Below.heap_setCell w ⟨b, i, none⟩ x g (fun e2 => ?_)]
 ·exact hg
 ·obtain ⟨cur', hb'⟩ := hb
  have e2 : g = b := e2
  subst e2
  rw [hg] at hb'
  injection (Option.some.inj hb') with _ h3
  exact absurd h3 (by decide)
theorem Sh.cell {w : World} {D H i n : Nat} {s : Option Addr} {S : Nat → Option Addr} {M C : Nat → Nat} (h : Sh w D H s n S M C) (hi : i < n) : ∃ g, s = some ⟨g, 0, none⟩ ∧ w.cell? ⟨g, i, none⟩ = some (.slice (S i) (M i) (C i)) := by
 obtain ⟨g, e, cur, hg, hc⟩ := h.2.1 (by omega)
 exact ⟨g, e, by rw [cell_of_row w g i _ _ _ hg]; exact hc i hi⟩
theorem Sh.later {w w' : World} {D H B n : Nat} {s : Option Addr} {S : Nat → Option Addr} {M C : Nat → Nat} (h : Sh w D H s n S M C) (hb : Below B w w') (hB : H ≤ B) (hw : w.heap.size ≤ B) : Sh w' D H s n S M C := by
 refine ⟨h.1, fun hn => ?_, fun k hk => (h.2.2 k hk).later hb hB⟩
 obtain ⟨g, e, cur, hg, hc⟩ := h.2.1 hn
 exact ⟨g, e, cur, by rw [hb.block g (by have := lt_of_block hg; omega)]; exact hg, hc⟩
/-- Nothing changed but between D and H. -/
structure Mid (D H : Nat) (w w' : World) : Prop where
 os : w'.os = w.os
 tape : w'.tape = w.tape
 output : w'.output = w.output
 size : w.heap.size ≤ w'.heap.size
 block : ∀ k, k < w.heap.size → (k < D ∨ H ≤ k) → w'.heap[k]? = w.heap[k]?
theorem Mid.refl (D H : Nat) (w : World) : Mid D H w w := ⟨rfl, rfl, rfl, Nat.le_refl _, fun _ _ _ => rfl⟩
theorem Mid.set {D H g i : Nat} {w w' : World} (h : Mid D H w w') (h1 : D ≤ g) (h2 : g < H) (x : Value) : Mid D H w (w'.setCell ⟨g, i, none⟩ x) :=
 ⟨h.os, h.tape, h.output, by simpa using h.size, fun k hk hc => by
  rw [Below.heap_setCell w' ⟨g, i, none⟩ x k (fun e => by have e : k = g := e; omega)]
  exact h.block k hk hc⟩
theorem Mid.below {D H : Nat} {w w' : World} (h : Mid D H w w') (hD : D ≤ w.heap.size) : Below D w w' := ⟨h.os, h.tape, h.output, h.size, fun k hk => h.block k (by omega) (.inl hk)⟩
theorem Mid.vf {D H b : Nat} {w w' : World} {T : TypeId} {xs : Array Value} (h : Mid D H w w') (hv : Vf w b T xs) (hb : b < D ∨ H ≤ b) : Vf w' b T xs := by unfold Vf; rw [h.block b hv.lt hb]; exact hv
theorem Mid.wi {D H D' H' : Nat} {w w' : World} {T : TypeId} {sz n : Nat} {s : Option Addr} (h : Mid D H w w') (hw : Wi w D' H' T sz s n) (hD : H ≤ D') : Wi w' D' H' T sz s n := hw.to fun g cur h1 _ hg => ⟨cur, by rw [h.block g (lt_of_block hg) (.inr (by omega))]; exact hg, rfl⟩
theorem Mid.ou {D H base g n k T : Nat} {w w' : World} {B : Nat → Nat} {x : Nat → Nat → Nat} (h : Mid D H w w') (ho : Ou w base g n k T B x) (hg : H ≤ g) : Ou w' base g n k T B x :=
 ⟨by have h1 := ho.ga; unfold Ga at *; rw [h.block g (lt_of_block h1) (.inr hg)]; exact h1, fun o hk => by have h1 := ho.row o hk; have h2 := (ho.ne o hk).2; unfold RowAt at *; rw [h.block _ (lt_of_block h1) (.inr (by omega))]; exact h1, ho.ne, ho.inj⟩
/-- Blocks that the call made. -/
def OuW (w : World) (base : Nat) (s : Option Addr) (K T g : Nat) (B : Nat → Nat) : Prop := 0 < K → s = some ⟨g, 0, none⟩ ∧ ∃ x : Nat → Nat → Nat, Ou w base g K K T B x ∧ ∀ o i, o < K → i < T → x o i < 256
theorem run_w (w : World) (a b c bl : Option Addr) (p q r nb kb : Nat) (F : Fl) (A : Nat → Option Addr) (L C : Nat → Nat) (bt : Nat → Nat → Nat) (h : FlR w a b c F) (hB : Bw w bl nb A L C bt) (hnb : nb ≤ 140737488351232) :
  Calls Try.prog 15 #[flv a F.ni p b F.nn q c F.no r, .slice bl nb kb] w fun e w' => (∃ (s : Option Addr) (K T g : Nat) (B : Nat → Nat) (E : Int), e = .returned (.tuple #[.slice s K K, .int .i64 E]) ∧ K ≤ 64 ∧ T ≤ 140737488351232 ∧ w.heap.size ≤ g ∧ OuW w' w.heap.size s K T g B) ∧ Below w.heap.size w w' := by
 by_cases hM : MayP F
 ·refine (qbj w a b c bl p q r nb kb F A L C bt h hM hB hnb).mono ?_
  rintro e w' ⟨⟨hR, g, B, rfl, hg, ho⟩ | ⟨_, rfl⟩, hb'⟩
  ·exact ⟨⟨_, F.no, len1 nb L, g, B, 0, rfl, hM.o64, by unfold len1; split; omega; exact hB.len 0 (by omega), hg, fun _ => ⟨rfl, _, ho, fun o i ho hi => run_lt h hM hB hR (by have := hM.outs o ho; omega) hi⟩⟩, hb'⟩
  ·exact ⟨⟨none, 0, 0, w.heap.size, fun _ => 0, 3, rfl, by omega, by omega, Nat.le_refl _, fun h => by omega⟩, hb'⟩
 ·refine (qcy w a b c bl p q r nb kb F h hM).mono ?_
  rintro e w' ⟨rfl, hb'⟩
  exact ⟨⟨none, 0, 0, w.heap.size, fun _ => 0, 2, rfl, by omega, by omega, Nat.le_refl _, fun h => by omega⟩, hb'⟩
theorem trim_w (w : World) (a b c : Option Addr) (p q r : Nat) (F : Fl) (h : FlR w a b c F) :
  Calls Try.prog 22 #[flv a F.ni p b F.nn q c F.no r] w fun e w' => (∃ (x : Option Addr) (k d1 : Nat) (y : Option Addr) (n d2 : Nat) (z : Option Addr) (o d3 : Nat) (S : Nat → Option Addr) (M C : Nat → Nat) (E : Int), e = .returned (.tuple #[flv x k d1 y n d2 z o d3, .int .i64 E]) ∧ Wi w' w.heap.size w'.heap.size 3 1 x k ∧ Sh w' w.heap.size w'.heap.size y n S M C ∧ Wi w' w.heap.size w'.heap.size 3 1 z o) ∧ Below w.heap.size w w' := by
 by_cases hM : MayP F
 ·refine (qfn w a b c p q r F h hM _ rfl).mono ?_
  rintro e w' ⟨⟨x, p', y, q', z, s, k, g, m, rfl, _, _, _, ⟨xs, o1⟩, ⟨N, hN, o2⟩, ⟨zs, o3⟩⟩, hb⟩
  obtain ⟨S, M, C, hS⟩ := Sh.own o2 hN (Nat.le_refl _)
  exact ⟨⟨_, _, _, _, _, _, _, _, _, S, M, C, 0, rfl, Wi.own o1 (Nat.le_refl _), hS, Wi.own o3 (Nat.le_refl _)⟩, hb⟩
 ·refine (qfo w a b c p q r F h hM).mono ?_
  rintro e w' ⟨rfl, hb⟩
  exact ⟨⟨none, 0, 0, none, 0, 0, none, 0, 0, fun _ => none, fun _ => 0, fun _ => 0, 2, rfl, ⟨by omega, fun h => by omega⟩, ⟨by omega, fun h => by omega, fun i h => by omega⟩, ⟨by omega, fun h => by omega⟩⟩, hb⟩
theorem of_w (w : World) (r c : Int) (n k : Nat) (a : Option Addr) (D : Nat → Nat) (ha : Mt w a n k D) :
    Calls Try.prog 9 #[mv r c a n k] w fun e w' => (∃ (x : Option Addr) (m d1 : Nat) (y : Option Addr) (n d2 : Nat) (z : Option Addr) (o d3 : Nat) (E : Int), e = .returned (.tuple #[flv x m d1 y n d2 z o d3, .int .i64 E]) ∧ Wi w' w.heap.size w'.heap.size 3 1 x m) ∧ Below w.heap.size w w' := by
  by_cases hR : RightP r c n
  · obtain ⟨h1, h2, h3, h4, h5⟩ := hR
    obtain ⟨r', rfl⟩ := Int.eq_ofNat_of_zero_le h1
    obtain ⟨c', rfl⟩ := Int.eq_ofNat_of_zero_le h3
    have R : Rt r' c' n := ⟨by omega, by omega, by have : ((r' * c' : Nat) : Int) = (n : Int) := by rw [h5]; simp
                                                   omega⟩
    refine (fof_own w r' c' n k a D ha R).mono ?_
    rintro e w' ⟨x, p, y, q, z, s, m, f, rfl, _, _, ⟨xs, o1⟩, hb⟩
    exact ⟨⟨_, _, _, _, _, _, _, _, _, 0, rfl, Wi.own o1 (Nat.le_refl _)⟩, hb⟩
  · refine (fof_bad w r c n k a hR).mono ?_
    rintro e w' ⟨rfl, hb⟩
    exact ⟨⟨none, 0, 0, none, 0, 0, none, 0, 0, 3, rfl, ⟨by omega, fun h => by omega⟩⟩, hb⟩
end Go.Proofs.Ytkfnedpnkeacpaa
