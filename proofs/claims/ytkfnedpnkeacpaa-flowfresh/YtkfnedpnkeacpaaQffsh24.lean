/-
  Stage 21: what hangs on what; termsOf, markNeeded.
-/
import Derived.Test.YtkfnedpnkeacpaaQffsh00
import Derived.Test.YtkfnedpnkeacpaaQffsh18
set_option maxRecDepth 100000
set_option maxHeartbeats 16000000
namespace Go.Proofs.Ytkfnedpnkeacpaa
open Go.RowKit
/-- The cells of a list of n values. -/
def gr (n : Nat) (v : Nat → Value) : Array Value := (Array.range n).map v
theorem gr_get (n : Nat) (v : Nat → Value) (i : Nat) (h : i < n) : (gr n v)[i]? = some (v i) := by simp [gr, h]
/-- A list of n values at a block. -/
def Ga (w : World) (g : Nat) (T : TypeId) (n : Nat) (v : Nat → Value) : Prop := w.heap[g]? = some (.cells (gr n v) T (0, 0))
theorem Ga.lt {w : World} {g n : Nat} {T : TypeId} {v : Nat → Value} (h : Ga w g T n v) : g < w.heap.size := lt_of_block h
theorem Ga.cell {w : World} {g n : Nat} {T : TypeId} {v : Nat → Value} (h : Ga w g T n v) (i : Nat) (hi : i < n) : w.cell? ⟨g, i, none⟩ = some (v i) := by rw [cell_of_row w g i _ _ _ h, gr_get n v i hi]
theorem Ga.free {w : World} {g n : Nat} {T : TypeId} {v : Nat → Value} (h : Ga w g T n v) (i : Nat) : w.frozen? ⟨g, i, none⟩ = false := by
 unfold Ga at h
 simp [World.frozen?, h]
theorem Ga.later {w w' : World} {g n : Nat} {T : TypeId} {v : Nat → Value} (h : Ga w g T n v) (hb : Below w.heap.size w w') : Ga w' g T n v := by unfold Ga; rw [hb.block g h.lt]; exact h
theorem Ga.kept {w w' : World} {g n : Nat} {k : Option Nat} {T : TypeId} {v : Nat → Value} (h : Ga w g T n v) (hg : w.grownBy w' k) (hne : k ≠ some g) : Ga w' g T n v := by unfold Ga; rw [hg.block g h.lt (fun e => hne e.symm)]; exact h
theorem Ga.congr {w : World} {g n : Nat} {T : TypeId} {v v' : Nat → Value} (h : Ga w g T n v) (e : ∀ i, i < n → v i = v' i) : Ga w g T n v' := by
 have : gr n v = gr n v' := by
  apply Array.ext
  ·simp [gr]
  ·intro j h1 h2
   have hj : j < n := by simpa [gr] using h1
   simp [gr, e j hj]
 unfold Ga
 rw [← this]
 exact h
theorem Ga.set {w : World} {g n : Nat} {T : TypeId} {v : Nat → Value} (h : Ga w g T n v) (i : Nat) (x : Value) : Ga (w.setCell ⟨g, i, none⟩ x) g T n (fun j => if j = i then x else v j) := by
 unfold Ga at *
 have hs : (gr n v).setIfInBounds i x = gr n (fun j => if j = i then x else v j) := by
  apply Array.ext
  ·simp [gr]
  ·intro j h1 h2
   by_cases e : i = j
   ·subst e; simp [gr]
   ·rw [Array.getElem_setIfInBounds_ne (by simpa using h1) e]; simp [gr, Ne.symm e]
 rw [setCell_eq_setRow w g i _ _ (0, 0) _ h, setRow_heap w g _ _ _ (0, 0) h, hs]
theorem qbi {w1 : World} {base g n : Nat} {T : TypeId} {z : Value} (hz : z.cells = #[z]) (h : w1.ownsRow base T 1 (.slice (some ⟨g, 0, none⟩) n n) n (madeCells z.cells (n * 1)).toList) : Ga w1 g T n (fun _ => z) := by
 rcases h.2 with ⟨h', _⟩ | ⟨g', cap', cur, h', _, hg, _, _, hs, htake⟩
 ·simp at h'
 ·simp only [Value.slice.injEq, Option.some.injEq, Addr.mk.injEq, and_true, true_and] at h'
  obtain ⟨rfl, rfl⟩ := h'
  unfold Ga
  rw [hg]
  congr 2
  apply Array.toList_inj.mp
  rw [List.take_of_length_le (by simp; omega)] at htake
  rw [htake, Nat.mul_one, hz, toList_madeCells_one]
  apply List.ext_getElem
  ·simp [gr]
  ·intro i h1 h2; simp [gr]
/-- How many terms a value has. -/
def tn (F : Fl) (v : Nat) : Nat := if v < F.ni then 0 else F.nt (v - F.ni)
/-- The value of a term. -/
def tv (F : Fl) (v j : Nat) : Nat := (F.of (v - F.ni) j).toNat
/-- v hangs on u, k steps away. -/
def hang (F : Fl) : Nat → Nat → Nat → Prop
 | 0, v, u => v = u
 | k + 1, v, u => ∃ j, j < tn F v ∧ hang F k (tv F v j) u
def Hng (F : Fl) (v u : Nat) : Prop := ∃ k, hang F k v u
theorem Hng.self (F : Fl) (v : Nat) : Hng F v v := ⟨0, rfl⟩
theorem Hng.step {F : Fl} {v u j : Nat} (hj : j < tn F v) (h : Hng F (tv F v j) u) : Hng F v u := by
 obtain ⟨k, hk⟩ := h
 exact ⟨k + 1, j, hj, hk⟩
/-- All that a marked value hangs on at once is marked. -/
def Clo (F : Fl) (m : Nat → Bool) (u : Nat) : Prop := ∀ j, j < tn F u → m (tv F u j) = true
theorem Clo.mono {F : Fl} {m m' : Nat → Bool} {u : Nat} (h : Clo F m u) (hm : ∀ x, m x = true → m' x = true) : Clo F m' u := fun j hj => hm _ (h j hj)
/-- What marking a value does. -/
structure Mk21 (F : Fl) (v : Nat) (m m' : Nat → Bool) : Prop where
 mono : ∀ u, m u = true → m' u = true
 at' : m' v = true
 clo : ∀ u, u ≤ v → m' u = true → Clo F m' u
 up : ∀ u, v < u → m' u = m u
 from' : ∀ u, m' u = true → m u = true ∨ Hng F v u
/-- Terms are lesser values. -/
theorem MayP.term {F : Fl} (h : MayP F) {v j : Nat} (hv : v < F.ni + F.nn) (hj : j < tn F v) : F.of (v - F.ni) j = ((tv F v j : Nat) : Int) ∧ tv F v j < v ∧ F.ni ≤ v := by
 unfold tn at hj
 by_cases hlt : v < F.ni
 ·rw [if_pos hlt] at hj; omega
 ·rw [if_neg hlt] at hj
  have h1 := h.nodes (v - F.ni) (by omega) j hj
  have e : tv F v j = (F.of (v - F.ni) j).toNat := rfl
  refine ⟨by rw [e]; omega, by rw [e]; omega, by omega⟩
/-- A value's terms are answered. -/
def TrA (w : World) (F : Fl) (v : Nat) (e : Ending) : Prop := ∃ t d, e = .returned (.slice t (tn F v) d) ∧ Tml w t (tn F v) (F.of (v - F.ni)) (F.fc (v - F.ni)) ∧ tn F v ≤ 140737488351232
theorem TrA.mk0 {w : World} {F : Fl} {v : Nat} (h : tn F v = 0) : TrA w F v (.returned (.slice none 0 0)) := ⟨none, 0, by rw [h], by rw [h]; exact fun j hj => by omega, by omega⟩
theorem TrA.mk1 {w : World} {F : Fl} {v n : Nat} {t : Option Addr} {d : Nat} (h : tn F v = n) (ht : Tml w t n (F.of (v - F.ni)) (F.fc (v - F.ni))) (hn : n ≤ 140737488351232) : TrA w F v (.returned (.slice t n d)) := ⟨t, d, by rw [h], by rw [h]; exact ht, by omega⟩
theorem qck (w0 w : World) (a b c : Option Addr) (p q r : Nat) (F : Fl) (h : FlR w0 a b c F) (hb0 : Below w0.heap.size w0 w) (v : Nat) (hv : v < F.ni + F.nn) :
  Calls Try.prog 45 #[flv a F.ni p b F.nn q c F.no r, .int .i64 (v : Int)] w fun e w' => TrA w0 F v e ∧ Below w.heap.size w w' := by
 have HN := qa0 h.nodes
 have hi := h.hi
 have hn := h.hn
 obtain ⟨Q, HQ⟩ : ∃ Q : Ending → Prop, Hid ((fun e => TrA w0 F v e) = Q) := ⟨_, rfl⟩
 show Calls _ _ _ _ fun e w' => (fun e => TrA w0 F v e) e ∧ _
 rw [HQ.out]
 by_cases hlt : v < F.ni
 ·have HE2 : Hid (Q (.returned (.slice none 0 0))) := by rw [← HQ.out]; exact TrA.mk0 (if_pos hlt)
  have g1 : (v : Int) < (F.ni : Int) := by omega
  clear h HN HQ hb0
  obtain ⟨ni, inp, nn, nt, of, fc, no, out⟩ := F
  dsimp only at g1 ⊢
  go_enter Try.func45, Try.ntmps45
  go_wp2
  go_ret
  exact ⟨HE2.out, jlow _ _⟩
 ·obtain ⟨i, HI⟩ : ∃ i, Hid (v - F.ni = i) := ⟨_, rfl⟩
  have hin : i < F.nn := by rw [← HI.out]; omega
  obtain ⟨hnt, x, o, t, d, rfl, hc, ht⟩ := HN.out i hin
  have HE2 : Hid (Q (.returned (.slice t (F.nt i) d))) := by rw [← HQ.out]; exact TrA.mk1 (F := F) (v := v) (d := d) (show tn F v = F.nt i by rw [← HI.out]; exact if_neg hlt) (by rw [HI.out]; exact ht) hnt
  have g1 : ¬ (v : Int) < (F.ni : Int) := by omega
  have w1 : IntKind.i64.wrap ((v : Int) - (F.ni : Int)) = (i : Int) := by have := HI.out; rw [IntKind.wrap_i64]; omega
  have p0 : (0 : Int) ≤ (i : Int) := by omega
  have p1 : (i : Int) < (F.nn : Int) := by omega
  have hc1 : w.cell? ⟨x, o + i, none⟩ = some (.slice t (F.nt i) d) := by rw [hb0.cell (p := ⟨x, _, none⟩) (qa5 hc)]; exact hc
  have hc2 := keepc (jlow w (.cells #[.slice a F.ni p, .slice (some ⟨x, o, none⟩) F.nn q, .slice c F.no r] 28)) hc1
  obtain ⟨n, HK⟩ : ∃ k, Hid (F.nt i = k) := ⟨_, rfl⟩
  rw [HK.out] at hc1 hc2 HE2 hnt
  clear h HN ht HQ HK hc hb0
  obtain ⟨ni, inp, nn, nt, of, fc, no, out⟩ := F
  dsimp only at g1 w1 p1 hc1 hc2 HE2 hi hn ⊢
  go_enter Try.func45, Try.ntmps45
  go_wp2
  go_ret
  exact ⟨HE2.out, jlow _ _⟩
/-- Half way through a value's terms. -/
structure Iv21 (F : Fl) (v : Nat) (m : Nat → Bool) (j : Nat) (mj : Nat → Bool) : Prop where
 mono : ∀ u, m u = true → mj u = true
 at' : mj v = true
 clo : ∀ u, u < v → mj u = true → Clo F mj u
 up : ∀ u, v < u → mj u = m u
 from' : ∀ u, mj u = true → m u = true ∨ Hng F v u
 done : ∀ l, l < j → mj (tv F v l) = true
theorem Iv21.start {F : Fl} {v : Nat} {m : Nat → Bool} (h : ∀ u, u ≤ v → m u = true → Clo F m u) : Iv21 F v m 0 (fun u => if u = v then true else m u) := by
 have mono : ∀ u, m u = true → (if u = v then true else m u) = true := fun u hu => by by_cases e : u = v <;> simp [e, hu]
 refine ⟨mono, by simp, fun u hu hm => ?_, fun u hu => by show (if u = v then true else m u) = m u; rw [if_neg (by omega)], fun u hu => ?_, fun l hl => by omega⟩
 ·have hm : (if u = v then true else m u) = true := hm
  rw [if_neg (by omega)] at hm
  exact (h u (by omega) hm).mono mono
 ·by_cases e : u = v
  ·exact .inr (e ▸ Hng.self F v)
  ·have hu : (if u = v then true else m u) = true := hu
   rw [if_neg e] at hu
   exact .inl hu
theorem Iv21.step {F : Fl} {v j : Nat} {m mj m5 : Nat → Bool} (h : Iv21 F v m j mj) (hj : j < tn F v) (hc : tv F v j < v) (k : Mk21 F (tv F v j) mj m5) : Iv21 F v m (j + 1) m5 := by
 refine ⟨fun u hu => k.mono u (h.mono u hu), k.mono v h.at', fun u hu hm => ?_, fun u hu => by rw [k.up u (by omega), h.up u hu], fun u hu => ?_, fun l hl => ?_⟩
 ·by_cases e : u ≤ tv F v j
  ·exact k.clo u e hm
  ·rw [k.up u (by omega)] at hm
   exact (h.clo u hu hm).mono k.mono
 ·rcases k.from' u hu with h1 | h1
  ·exact h.from' u h1
  ·exact .inr (Hng.step hj h1)
 ·by_cases e : l = j
  ·rw [e]; exact k.at'
  ·exact k.mono _ (h.done l (by omega))
theorem Iv21.fin {F : Fl} {v : Nat} {m mj : Nat → Bool} (h : Iv21 F v m (tn F v) mj) : Mk21 F v m mj :=
 ⟨h.mono, h.at', fun u hu hm => by
  by_cases e : u = v
  ·rw [e]; exact fun j hj => h.done j hj
  ·exact h.clo u (by omega) hm, h.up, h.from'⟩
theorem qfb (w0 : World) (a b c : Option Addr) (p q r : Nat) (F : Fl) (hF : FlR w0 a b c F) (hM : MayP F) (g N : Nat) (hN : F.ni + F.nn = N) (hg : w0.heap.size ≤ g) : ∀ (v : Nat), v < N → ∀ (w : World) (m : Nat → Bool), Below w0.heap.size w0 w → Ga w g 4 N (fun i => .bool (m i)) → (∀ u, u ≤ v → m u = true → Clo F m u) →
  Calls Try.prog 56 #[flv a F.ni p b F.nn q c F.no r, .slice (some ⟨g, 0, none⟩) N N, .int .i64 (v : Int)] w fun e w' => e = .returned (.tuple #[]) ∧ (∃ m', Ga w' g 4 N (fun i => .bool (m' i)) ∧ Mk21 F v m m') ∧ w.grownBy w' (some g) := by
 intro v
 induction v using Nat.strongRecOn with
 | ind v ih =>
 intro hv w m hb hm hcl
 have HF := qa0 hF
 have HM := qa0 hM
 have HIH := qa0 ih
 have HCl := qa0 hcl
 have HB := qa0 hb
 have HGm := qa0 hm
 have HG := qa0 (hm.later (jlow w (.cells #[.slice a F.ni p, .slice b F.nn q, .slice c F.no r] 28)))
 have HV := qa0 (Vf.new w 28 #[.slice a F.ni p, .slice b F.nn q, .slice c F.no r])
 have hgl := hm.lt
 have p0 : (0 : Int) ≤ (v : Int) := by omega
 have p1 : (v : Int) < (N : Int) := by omega
 have hgw : g ≠ w.heap.size := by omega
 have c0 := hm.cell v hv
 have f0 := HG.out.free v
 have HTr := qa0 (fun (w2 : World) (hb2 : Below w0.heap.size w0 w2) => qck w0 w2 a b c p q r F HF.out hb2 v (by omega))
 obtain ⟨ni, HNi⟩ : ∃ x, Hid (F.ni = x) := ⟨_, rfl⟩
 obtain ⟨nn, HNn⟩ : ∃ x, Hid (F.nn = x) := ⟨_, rfl⟩
 obtain ⟨no, HNo⟩ : ∃ x, Hid (F.no = x) := ⟨_, rfl⟩
 rw [HNi.out, HNn.out, HNo.out] at HIH HG HV HTr f0 ⊢
 have HB1 := qa0 (jtwo HB.out (jlow w (.cells #[.slice a ni p, .slice b nn q, .slice c no r] 28)))
 have c1 := keepc (jlow w (.cells #[.slice a ni p, .slice b nn q, .slice c no r] 28)) c0
 have hN2 := hN
 clear ih hb hm hcl hN
 cases hmv : m v with
 | true =>
  rw [hmv] at c0 c1
  have HE : Hid (∃ m', Ga (w.alloc (.cells #[.slice a ni p, .slice b nn q, .slice c no r] 28)) g 4 N (fun i => .bool (m' i)) ∧ Mk21 F v m m') := ⟨m, HG.out, ⟨fun u h => h, hmv, fun u hu h => HCl.out u hu h, fun u _ => rfl, fun u h => .inl h⟩⟩
  obtain ⟨Q, HQ⟩ : ∃ Q : World → Prop, Hid ((fun w2 => ∃ m', Ga w2 g 4 N (fun i => .bool (m' i)) ∧ Mk21 F v m m') = Q) := ⟨_, rfl⟩
  have HE2 : Hid (Q (w.alloc (.cells #[.slice a ni p, .slice b nn q, .slice c no r] 28))) := by rw [← HQ.out]; exact HE.out
  show Calls _ _ _ _ fun e w' => _ ∧ (fun w2 => ∃ m', Ga w2 g 4 N (fun i => .bool (m' i)) ∧ Mk21 F v m m') w' ∧ _
  rw [HQ.out]
  clear hmv HQ HE HCl HIH hN2
  go_enter Try.func56, Try.ntmps56
  go_wp2
  refine bodyPost_ret (v := .tuple #[]) (by simp [results, Try.results56, go_sem]) rfl ?_
  exact ⟨rfl, HE2.out, qa9 (jlow _ _) _⟩
 | false =>
  rw [hmv] at c0 c1
  obtain ⟨W1, HW1⟩ : ∃ W1, Hid ((w.setCell ⟨g, v, none⟩ (.bool true)).alloc (.cells #[.slice a ni p, .slice b nn q, .slice c no r] 28) = W1) := ⟨_, rfl⟩
  have hsz : (w.setCell ⟨g, v, none⟩ (.bool true)).heap.size = w.heap.size := by simp
  have HG2 : Hid (Ga W1 g 4 N (fun i => .bool (if i = v then true else m i))) := by
   rw [← HW1.out]
   exact ((HGm.out.set v (.bool true)).congr (fun i _ => by by_cases e : i = v <;> simp [e])).later (jlow _ _)
  have HV2 : Hid (Vf W1 w.heap.size 28 #[.slice a ni p, .slice b nn q, .slice c no r]) := by
   have := Vf.new (w.setCell ⟨g, v, none⟩ (.bool true)) 28 #[.slice a ni p, .slice b nn q, .slice c no r]
   rw [hsz] at this
   rw [← HW1.out]
   exact this
  have HB2 : Hid (Below w0.heap.size w0 W1) := by
   rw [← HW1.out]
   exact jtwo (HB.out.setCell hg _) (jlow _ _)
  have HR2 : Hid (w.grownBy W1 (some g)) := by
   rw [← HW1.out]
   exact qad (qa2 _ _ _ _) (qa9 (jlow _ _) _)
  have HI2 := qa0 (Iv21.start HCl.out)
  obtain ⟨tl, HTL⟩ : ∃ tl, Hid (tn F v = tl) := ⟨_, rfl⟩
  have x0 := HV2.out.cell 0 (.slice a ni p) rfl
  have x1 := HV2.out.cell 1 (.slice b nn q) rfl
  have x2 := HV2.out.cell 2 (.slice c no r) rfl
  obtain ⟨Q, HQ⟩ : ∃ Q : World → Prop, Hid ((fun w2 => ∃ m', Ga w2 g 4 N (fun i => .bool (m' i)) ∧ Mk21 F v m m') = Q) := ⟨_, rfl⟩
  have HQ2 : Hid (∀ w2 mj, Ga w2 g 4 N (fun i => .bool (mj i)) → Iv21 F v m tl mj → Q w2) := fun w2 mj h1 h2 => by
   rw [← HQ.out]
   exact ⟨mj, h1, Iv21.fin (by rw [HTL.out]; exact h2)⟩
  show Calls _ _ _ _ fun e w' => _ ∧ (fun w2 => ∃ m', Ga w2 g 4 N (fun i => .bool (m' i)) ∧ Mk21 F v m m') w' ∧ _
  rw [HQ.out]
  rw [← HW1.out] at x0 x1 x2
  have hNe : w.heap.size ≠ g := fun e => hgw e.symm
  clear hmv HQ HCl HG HV HB1 hsz HGm
  go_enter Try.func56, Try.ntmps56
  go_wp2_with (go_at_call 45; rw [HW1.out]; refine (HTr.out _ HB2.out).mono ?_; rintro e w3 ⟨⟨t, d, rfl, ht, hn⟩, hb3⟩; rw [HTL.out] at ht hn ⊢; have HT3 := qa0 ht; have HG3 := qa0 (HG2.out.later hb3); have HV3 := qa0 (HV2.out.later hb3); have HB3 := qa0 (jtwo HB2.out hb3); have HR3 := qa0 (qad HR2.out (qa9 hb3 _)); clear ht hb3)
  go_loopw [19] (fun vi wr => ∃ (j : Nat) (mj : Nat → Bool), j ≤ tl ∧ vi = .int .i64 (j : Int) ∧ Ga wr g 4 N (fun i => .bool (mj i)) ∧ Iv21 F v m j mj ∧ Vf wr w.heap.size 28 #[.slice a ni p, .slice b nn q, .slice c no r] ∧ Below w0.heap.size w0 wr ∧ w.grownBy wr (some g)) (fun vi _ => tl - (intOf vi).toNat)
  case atStart => exact ⟨0, _, by omega, rfl, HG3.out, HI2.out, HV3.out, HB3.out, HR3.out⟩
  case round =>
   clear HG3 HI2 HV3 HB3 HR3 HG2 HV2 HB2 HR2 x0 x1 x2
   obtain ⟨j, mj, hj, rfl, hG, hI, hv4, hb4, hr4⟩ := hrel
   have HIv := qa0 hI
   have HG4 := qa0 hG
   have HR4 := qa0 hr4
   have HB4 := qa0 hb4
   have HV4 := qa0 hv4
   have hg4 := hG.lt
   clear hG hI
   by_cases hlt : j < tl
   ·obtain ⟨hg8, x, o, rfl, t0, t1⟩ := (HT3.out.later hb4) j hlt
    have ht := HM.out.term (v := v) (j := j) (by omega) (by rw [HTL.out]; exact hlt)
    obtain ⟨y, HY⟩ : ∃ y, Hid (tv F v j = y) := ⟨_, rfl⟩
    rw [HY.out] at ht
    obtain ⟨ht1, ht2, _⟩ := ht
    rw [ht1] at t0
    obtain ⟨z, HZ⟩ : ∃ z, Hid (F.fc (v - F.ni) j = z) := ⟨_, rfl⟩
    rw [HZ.out] at t1
    have q0 : (0 : Int) ≤ (j : Int) := by omega
    have q1 : (j : Int) < (tl : Int) := by omega
    have hl := jlow wr (.cells #[.int .i64 (y : Int), .int .u8 (z : Int)] 61)
    have HV5 := qa0 (HV4.out.later hl)
    have x0 := HV5.out.cell 0 (.slice a ni p) rfl
    have x1 := HV5.out.cell 1 (.slice b nn q) rfl
    have x2 := HV5.out.cell 2 (.slice c no r) rfl
    have HC := qa0 (HIH.out y ht2 (by omega) _ mj (jtwo HB4.out hl) (HG4.out.later hl) (fun u hu h => HIv.out.clo u (by omega) h))
    have HR5 := qa0 (qad HR4.out (qa9 hl (some g)))
    have HB5 := qa0 (jtwo HB4.out hl)
    have HSt : Hid (∀ m5, Mk21 F y mj m5 → Iv21 F v m (j + 1) m5) := fun m5 k => HIv.out.step (by rw [HTL.out]; exact hlt) (by rw [HY.out]; exact ht2) (by rw [HY.out]; exact k)
    clear hb4 hv4 hr4 hl ht1
    go_wp2_with (go_at_call 56; refine HC.out.mono ?_; rintro e w5 ⟨rfl, ⟨m5, hg5, hk5⟩, hr5⟩; have HG6 := qa0 hg5; have HI6 := qa0 (HSt.out m5 hk5); have HV6 := qa0 (HV5.out.kept hr5 (fun e => by cases e; exact hNe rfl)); have HB6 := qa0 (HB5.out.grown hr5 HB5.out.size (fun k e => by cases e; exact hg)); have HR6 := qa0 (qad HR5.out hr5); clear hg5 hk5 hr5)
    exact ⟨⟨j + 1, m5, by omega, by go_num, HG6.out, HI6.out, HV6.out, HB6.out, HR6.out⟩, by simp [intOf]; omega⟩
   ·obtain rfl : j = tl := by omega
    clear hb4 hv4 hr4
    go_wp2
    go_end0
    exact ⟨rfl, HQ2.out _ mj HG4.out HIv.out, HR4.out⟩
end Go.Proofs.Ytkfnedpnkeacpaa
