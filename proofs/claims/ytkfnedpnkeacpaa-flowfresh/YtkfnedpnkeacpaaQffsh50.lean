/-
  Stage 21: the law of Fresh (made by gen36i.py).
-/
import Derived.Test.YtkfnedpnkeacpaaQffsh00
import Derived.Test.YtkfnedpnkeacpaaQffsh48
import Derived.Test.YtkfnedpnkeacpaaQffsh49
import Derived.Deep.CutRange
set_option maxRecDepth 100000
set_option maxHeartbeats 16000000
namespace Go.Proofs.Ytkfnedpnkeacpaa
open Go.RowKit
/-- Blocks that are somebody's own. -/
def BvE (w : World) (s : Option Addr) (n d : Nat) (L : Nat → Nat) (x : Nat → Nat → Nat) : Prop := ∃ B, Bv w B (.slice s n d) n L x
theorem BvE.of {w : World} {B n d : Nat} {s : Option Addr} {L : Nat → Nat} {x : Nat → Nat → Nat} (h : Bv w B (.slice s n d) n L x) : BvE w s n d L x := ⟨B, h⟩
theorem BvE.later {w w' : World} {n d : Nat} {s : Option Addr} {L : Nat → Nat} {x : Nat → Nat → Nat} (h : BvE w s n d L x) (hb : Below w.heap.size w w') : BvE w' s n d L x := by
 obtain ⟨B, h⟩ := h
 exact ⟨B, h.later hb⟩
theorem BvE.var {w w' : World} {n d V : Nat} {s : Option Addr} {L : Nat → Nat} {x : Nat → Nat → Nat} {T : TypeId} {xs : Array Value} (h : BvE w s n d L x) (hg : w.grownBy w' (some V)) (hV : Vf w V T xs) (h1 : 22 ≠ T) (h2 : 5 ≠ T) : BvE w' s n d L x := by
 obtain ⟨B, vs, k1, k2⟩ := h
 refine ⟨B, vs, World.ownsRow.kept k1 hg (qab k1 hV h1), fun i hi => ?_⟩
 obtain ⟨u, hu, ht⟩ := k2 i hi
 exact ⟨u, hu, World.ownsRow.kept ht hg (qab ht hV h2)⟩
/-- Bytes that are somebody's own. -/
def MrE (w : World) (s : Option Addr) (n d : Nat) (f : Nat → Nat) : Prop := ∃ B, w.ownsRow B 5 1 (.slice s n d) n (row n f).toList
theorem MrE.of {w : World} {B n d : Nat} {s : Option Addr} {f : Nat → Nat} (h : w.ownsRow B 5 1 (.slice s n d) n (row n f).toList) : MrE w s n d f := ⟨B, h⟩
theorem MrE.later {w w' : World} {n d : Nat} {s : Option Addr} {f : Nat → Nat} (h : MrE w s n d f) (hb : Below w.heap.size w w') : MrE w' s n d f := by
 obtain ⟨B, h⟩ := h
 exact ⟨B, qa8 h hb⟩
theorem MrE.var {w w' : World} {n d V : Nat} {s : Option Addr} {f : Nat → Nat} {T : TypeId} {xs : Array Value} (h : MrE w s n d f) (hg : w.grownBy w' (some V)) (hV : Vf w V T xs) (h2 : 5 ≠ T) : MrE w' s n d f := by
 obtain ⟨B, h⟩ := h
 exact ⟨B, World.ownsRow.kept h hg (qab h hV h2)⟩
/-- What the copies are, the second variable not laid yet. -/
structure CsP (w wx : World) (p7 p9 : Nat) (a b c : Option Addr) (p q r : Nat) (F : Fl) (ni nn no : Nat) (r3 c3 : Int) (a3 : Option Addr) (n3 k3 : Nat) (D3 : Nat → Nat) (nb : Nat) (L : Nat → Nat) (bt : Nat → Nat → Nat) (a1 : Option Addr) (q1 : Nat) (b1 : Option Addr) (q2 : Nat) (c1 : Option Addr) (q3 : Nat) (sl : Option Addr) (dl : Nat) (s9 : Option Addr) (d9 : Nat) (ys : Array Value) : Prop where
 v3 : Vf wx w.heap.size 28 #[.slice a ni p, .slice b nn q, .slice c no r]
 v5 : Vf wx (w.heap.size + 1) 24 #[.int .i64 r3, .int .i64 c3, .slice a3 n3 k3]
 v7 : Vf wx p7 28 #[.slice a1 ni q1, .slice b1 nn q2, .slice c1 no q3]
 p9 : Vf wx p9 24 ys
 cp : CpF wx a1 b1 q2 c1 F
 bv : BvE wx sl nb dl L bt
 mr : MrE wx s9 n3 d9 D3
 below : Below w.heap.size w wx
theorem CsP.one {w wx w8 : World} {p7 p9 : Nat} {a b c : Option Addr} {p q r : Nat} {F : Fl} {ni nn no : Nat} {r3 c3 : Int} {a3 : Option Addr} {n3 k3 : Nat} {D3 : Nat → Nat} {nb : Nat} {L : Nat → Nat} {bt : Nat → Nat → Nat} {a1 : Option Addr} {q1 : Nat} {b1 : Option Addr} {q2 : Nat} {c1 : Option Addr} {q3 : Nat} {sl : Option Addr} {dl : Nat} {s9 : Option Addr} {d9 : Nat} {xs ys : Array Value}
  (v3 : Vf wx w.heap.size 28 #[.slice a ni p, .slice b nn q, .slice c no r]) (v5 : Vf wx (w.heap.size + 1) 24 #[.int .i64 r3, .int .i64 c3, .slice a3 n3 k3]) (h7 : Vf wx p7 28 xs) (h9 : Vf wx p9 24 ys) (cp : CpF wx a1 b1 q2 c1 F) (bv : BvE wx sl nb dl L bt) (mr : MrE wx s9 n3 d9 D3) (below : Below w.heap.size w wx)
  (v7 : Vf w8 p7 28 #[.slice a1 ni q1, .slice b1 nn q2, .slice c1 no q3]) (hg : wx.grownBy w8 (some p7)) (e1 : w.heap.size ≤ p7) (e2 : w.heap.size + 1 < p7) (e3 : p7 ≠ p9) : CsP w w8 p7 p9 a b c p q r F ni nn no r3 c3 a3 n3 k3 D3 nb L bt a1 q1 b1 q2 c1 q3 sl dl s9 d9 ys :=
 ⟨v3.kept hg (fun e => by have := Option.some.inj e; omega), v5.kept hg (fun e => by have := Option.some.inj e; omega), v7, h9.kept hg (fun e => by have := Option.some.inj e; omega), cp.var hg h7 (by decide) (by decide) (by decide), bv.var hg h7 (by decide) (by decide), mr.var hg h7 (by decide), qaj below hg e1⟩
theorem CsP.fin {w wx w9 : World} {p7 p9 : Nat} {a b c : Option Addr} {p q r : Nat} {F : Fl} {ni nn no : Nat} {r3 c3 : Int} {a3 : Option Addr} {n3 k3 : Nat} {D3 : Nat → Nat} {nb : Nat} {L : Nat → Nat} {bt : Nat → Nat → Nat} {a1 : Option Addr} {q1 : Nat} {b1 : Option Addr} {q2 : Nat} {c1 : Option Addr} {q3 : Nat} {sl : Option Addr} {dl : Nat} {s9 : Option Addr} {d9 : Nat} {ys zs : Array Value}
  (h : CsP w wx p7 p9 a b c p q r F ni nn no r3 c3 a3 n3 k3 D3 nb L bt a1 q1 b1 q2 c1 q3 sl dl s9 d9 ys) (v9 : Vf w9 p9 24 zs) (hg : wx.grownBy w9 (some p9)) (e2 : w.heap.size + 1 < p9) (e3 : p7 ≠ p9) : CsP w w9 p7 p9 a b c p q r F ni nn no r3 c3 a3 n3 k3 D3 nb L bt a1 q1 b1 q2 c1 q3 sl dl s9 d9 zs :=
 ⟨h.v3.kept hg (fun e => by have := Option.some.inj e; omega), h.v5.kept hg (fun e => by have := Option.some.inj e; omega), h.v7.kept hg (fun e => by have := Option.some.inj e; omega), v9, h.cp.var hg h.p9 (by decide) (by decide) (by decide), h.bv.var hg h.p9 (by decide) (by decide), h.mr.var hg h.p9 (by decide), qaj h.below hg (by omega)⟩
theorem qde (w : World) (g n : Nat) (m : Int) (hn : n ≤ 140737488351232) (h0 : 0 ≤ m) (hm : m < 256) (h : Rb w g n) :
  Calls Try.prog 27 #[.slice (some ⟨g, 0, none⟩) n n, .int .u8 m] w fun e w' => e = .returned (.tuple #[]) ∧ Rb w' g n ∧ w.grownBy w' (some g) := by
 obtain ⟨k, rfl⟩ := Int.eq_ofNat_of_zero_le h0
 exact qel w g n k hn (by omega) h
theorem BkT.zero {w : World} {T T' : Nat} {x x' : Nat → Nat → Nat} {E : Int} {e : Ending} (h : BkT w 0 T x E e) : BkT w 0 T' x' E e := by
 obtain ⟨a, d, A, C, rfl, _⟩ := h
 exact ⟨a, d, A, C, rfl, Rl.zero _ _ _ _ _ _⟩
/-- Run of the program on copies, and the reference's on what was handed in. -/
theorem qen (w0 w1 : World) (a b c bl a1 b1 c1 sl : Option Addr) (p q r kb q1 q2 q3 dl nb : Nat) (F : Fl) (A A' : Nat → Option Addr) (L C C' : Nat → Nat) (bt : Nat → Nat → Nat) (h : FlR w0 a b c F) (hB : Bw w0 bl nb A L C bt) (h1 : FlR w1 a1 b1 c1 F) (hB1 : Bw w1 sl nb A' L C' bt) (hnb : nb ≤ 140737488351232) :
  ∃ (K T : Nat) (x : Nat → Nat → Nat) (E : Int), K ≤ 64 ∧
   (∀ w, Below w1.heap.size w1 w → Calls Try.prog 15 #[flv a1 F.ni q1 b1 F.nn q2 c1 F.no q3, .slice sl nb dl] w fun e w' => BkT w' K T x E e ∧ Below w.heap.size w w') ∧
   (∀ w, Below w0.heap.size w0 w → Calls Try.prog 16 #[flv a F.ni p b F.nn q c F.no r, .slice bl nb kb] w fun e w' => BkT w' K T x E e ∧ Below w.heap.size w w') := by
 obtain ⟨K, T, x, E, hR, hall⟩ := qcf w0 a b c bl p q r nb kb F A L C bt h hB hnb
 obtain ⟨K', T', x', E', hR', hall'⟩ := qcf w1 a1 b1 c1 sl q1 q2 q3 nb dl F A' L C' bt h1 hB1 hnb
 by_cases hM : MayP F
 ·by_cases hP : RunP F nb L
  ·obtain ⟨e1, e2, e3, e4, _⟩ := hR.ok hM hP
   obtain ⟨f1, f2, f3, f4, _⟩ := hR'.ok hM hP
   obtain rfl : K = K' := by omega
   obtain rfl : T = T' := by omega
   obtain rfl : E = E' := by omega
   obtain rfl : x = x' := funext fun o => by rw [e4, f4]
   exact ⟨K, T, x, E, by have := hM.o64; omega, fun w hb => (hall' w hb).1, fun w hb => (hall w hb).2⟩
  ·obtain ⟨e1, e3⟩ := hR.sh hM hP
   obtain ⟨f1, f3⟩ := hR'.sh hM hP
   subst e1 f1
   obtain rfl : E = E' := by omega
   exact ⟨0, T, x, E, by omega, fun w hb => (hall' w hb).1.mono fun _ _ hh => ⟨hh.1.zero, hh.2⟩, fun w hb => (hall w hb).2⟩
 ·obtain ⟨e1, e3⟩ := hR.no hM
  obtain ⟨f1, f3⟩ := hR'.no hM
  subst e1 f1
  obtain rfl : E = E' := by omega
  exact ⟨0, T, x, E, by omega, fun w hb => (hall' w hb).1.mono fun _ _ hh => ⟨hh.1.zero, hh.2⟩, fun w hb => (hall w hb).2⟩
theorem ffresh21 (w : World) (a b c bl a3 : Option Addr) (p q r nb kb n3 k3 : Nat) (r3 c3 : Int) (F : Fl) (A : Nat → Option Addr) (L C : Nat → Nat) (bt : Nat → Nat → Nat) (D3 : Nat → Nat) (h : FlX w a p b c r F) (hB : Bw w bl nb A L C bt) (hnb : nb * 24 ≤ 140737488351232) (hm : Mt w a3 n3 k3 D3) (hn3 : n3 ≤ 140737488351232) :
  Calls Try.prog 8 #[flv a F.ni p b F.nn q c F.no r, .slice bl nb kb, mv r3 c3 a3 n3 k3] w fun e w' => e = .returned (.bool true) ∧ Below w.heap.size w w' := by
 obtain ⟨wb, HW⟩ : ∃ wb, Hid ((w.alloc (.cells #[.slice a F.ni p, .slice b F.nn q, .slice c F.no r] 28)).alloc (.cells #[.int .i64 r3, .int .i64 c3, .slice a3 n3 k3] 24) = wb) := ⟨_, rfl⟩
 have HB0 : Hid (Below w.heap.size w wb) := by rw [← HW.out]; exact jtwo (jlow _ _) (jlow _ _)
 have HVF : Hid (Vf wb w.heap.size 28 #[.slice a F.ni p, .slice b F.nn q, .slice c F.no r]) := by rw [← HW.out]; exact (Vf.new w _ _).later (jlow _ _)
 have HVM : Hid (Vf wb (w.heap.size + 1) 24 #[.int .i64 r3, .int .i64 c3, .slice a3 n3 k3]) := by rw [← HW.out]; exact Vf.new1 _ _ _ _
 have HCf := qa0 (fun (w' : World) (hb : Below w.heap.size w w') => rcpf_any w' a b c p q r F (h.later hb))
 have HCb := qa0 (fun (w' : World) (hb : Below w.heap.size w w') => qdz w' bl nb kb A L C bt (hB.later hb) hnb)
 have HCm := qa0 (fun (w' : World) (hb : Below w.heap.size w w') => qem w' r3 c3 n3 k3 a3 D3 (hm.later hb).sl hn3 hm.nil)
 have HFX := qa0 h.fl
 have HBX := qa0 hB
 have HMX := qa0 hm
 have hnb2 : nb ≤ 140737488351232 := by omega
 have HTrw := qa0 (fun (w' : World) (a1 b1 c1 : Option Addr) (q1 q2 q3 : Nat) (h' : FlR w' a1 b1 c1 F) => trim_w w' a1 b1 c1 q1 q2 q3 F h')
 have HRunw := qa0 (fun (w' : World) (a1 b1 c1 sl : Option Addr) (q1 q2 q3 dl : Nat) (A' : Nat → Option Addr) (C' : Nat → Nat) (h' : FlR w' a1 b1 c1 F) (hB' : Bw w' sl nb A' L C' bt) => run_w w' a1 b1 c1 sl q1 q2 q3 nb dl F A' L C' bt h' hB' hnb2)
 have HFour := qa0 (fun (w1 : World) (a1 b1 c1 sl : Option Addr) (q1 q2 q3 dl : Nat) (A' : Nat → Option Addr) (C' : Nat → Nat) (h1 : FlR w1 a1 b1 c1 F) (hB1 : Bw w1 sl nb A' L C' bt) => qen w w1 a b c bl a1 b1 c1 sl p q r kb q1 q2 q3 dl nb F A A' L C C' bt h.fl hB h1 hB1 hnb2)
 have HSm := qa0 (fun (w2 : World) (x y z x' y' z' : Option Addr) (d1 d2 d3 d1' d2' d3' : Nat) (h1 : FlR w2 x y z F) (h2 : FlR w2 x' y' z' F) => qam (qcd w2 x y z x' y' z' d1 d2 d3 d1' d2' d3' F F h1 h2) (EqF.refl F))
 have HCpF : Hid (∀ (w9 : World) (a1 b1 c1 : Option Addr) (q2 : Nat), CpF w9 a1 b1 q2 c1 F → FlR w9 a1 b1 c1 F) := fun w9 a1 b1 c1 q2 hc => hc.flr h.fl
 obtain ⟨ni, HNi⟩ : ∃ x, Hid (F.ni = x) := ⟨_, rfl⟩
 obtain ⟨nn, HNn⟩ : ∃ x, Hid (F.nn = x) := ⟨_, rfl⟩
 obtain ⟨no, HNo⟩ : ∃ x, Hid (F.no = x) := ⟨_, rfl⟩
 rw [HNi.out, HNn.out, HNo.out] at HVF HCf HTrw HRunw HFour HSm
 rw [HNi.out, HNn.out, HNo.out] at HW
 rw [HNi.out, HNn.out, HNo.out]
 clear h hB hm
 go_enter Try.func8, Try.ntmps8
 go_wp2_with fail
 rw [HW.out]
 go_cut [7, 8, 9] from 28 to 33 (fun s7 s8 s9' wx => ∃ (p7 p9 : Nat) (a1 : Option Addr) (q1 : Nat) (b1 : Option Addr) (q2 : Nat) (c1 : Option Addr) (q3 : Nat) (sl : Option Addr) (dl : Nat) (s9 : Option Addr) (d9 : Nat), s7 = .pointer (some ⟨p7, 0, none⟩) ∧ s8 = .slice sl nb dl ∧ s9' = .pointer (some ⟨p9, 0, none⟩) ∧ CsP w wx p7 p9 a b c p q r F ni nn no r3 c3 a3 n3 k3 D3 nb L bt a1 q1 b1 q2 c1 q3 sl dl s9 d9 #[.int .i64 r3, .int .i64 c3, .slice s9 n3 d9])
 case first =>
  obtain ⟨x0, HX0⟩ : ∃ x, Hid (wb.drew = x) := ⟨_, rfl⟩
  have hdr := qal wb
  rw [HX0.out] at hdr
  have V3_0 := qa0 (HVF.out.later hdr)
  have V5_0 := qa0 (HVM.out.later hdr)
  have HL_0 := qa0 (jtwo HB0.out hdr)
  have hz_0 : w.heap.size + 1 < x0.heap.size := V5_0.out.lt
  clear hdr
  have HD_0 : Hid ((fun w' => (w'.cell? ⟨w.heap.size, 0, none⟩ = some (.slice a ni p) ∧ w'.cell? ⟨w.heap.size, 1, none⟩ = some (.slice b nn q) ∧ w'.cell? ⟨w.heap.size, 2, none⟩ = some (.slice c no r)) ∧ w'.cell? ⟨w.heap.size + 1, 0, none⟩ = some (.int .i64 r3) ∧ w'.cell? ⟨w.heap.size + 1, 1, none⟩ = some (.int .i64 c3) ∧ w'.cell? ⟨w.heap.size + 1, 2, none⟩ = some (.slice a3 n3 k3)) x0) := ⟨⟨V3_0.out.cell 0 (.slice a ni p) rfl, V3_0.out.cell 1 (.slice b nn q) rfl, V3_0.out.cell 2 (.slice c no r) rfl⟩, V5_0.out.cell 0 (.int .i64 r3) rfl, V5_0.out.cell 1 (.int .i64 c3) rfl, V5_0.out.cell 2 (.slice a3 n3 k3) rfl⟩
  refine qa7 (k := 10) (n := 10) (fun w' => (w'.cell? ⟨w.heap.size, 0, none⟩ = some (.slice a ni p) ∧ w'.cell? ⟨w.heap.size, 1, none⟩ = some (.slice b nn q) ∧ w'.cell? ⟨w.heap.size, 2, none⟩ = some (.slice c no r)) ∧ w'.cell? ⟨w.heap.size + 1, 0, none⟩ = some (.int .i64 r3) ∧ w'.cell? ⟨w.heap.size + 1, 1, none⟩ = some (.int .i64 c3) ∧ w'.cell? ⟨w.heap.size + 1, 2, none⟩ = some (.slice a3 n3 k3)) (by kernel_rfl) (by kernel_rfl) (by decide) (by rfl) ?_
  rw [HX0.out]
  refine wtkq 0 ?vt0_1 rfl (by kernel_rfl) (fun _ _ _ h => h) (by rfl) ?yt0_1 HD_0.out ?zt0_1
  case yt0_1 => (intro w hSw; (try dsimp only at hSw); go_simp; try with_reducible rfl)
  try simp only [mz1, mz3, Act.put, mz4, mz5, mz6]
  refine wtkq 2 ?vt2_2 rfl (by kernel_rfl) (fun _ _ _ h => h) (by rfl) ?yt2_2 HD_0.out ?zt2_2
  case yt2_2 => (intro w hSw; (try dsimp only at hSw); go_simp; try with_reducible rfl)
  try simp only [mz1, mz2, mz3, Act.put, mz4, mz5, mz6]
  refine wtkq 4 ?vt4_3 rfl (by kernel_rfl) (fun _ _ _ h => h) (by rfl) ?yt4_3 HD_0.out ?zt4_3
  case yt4_3 => (intro w hSw; (try dsimp only at hSw); go_simp; try with_reducible rfl)
  try simp only [mz1, mz2, mz3, Act.put, mz4, mz5, mz6]
  refine wpAnyH_ready (rs := [1, 6, 7]) (by kernel_rfl) (by simp) ?_
  refine AllReadyH.cons rfl (fun K hK => ?_) (AllReadyH.cons rfl (fun K hK => ?_) (AllReadyH.cons rfl (fun K hK => ?_) AllReadyH.nil))
  ·go_simp
   refine (HCf.out x0 HL_0.out).mono ?_
   rintro e x1 ⟨⟨a1, q1, b1, q2, c1, q3, rfl, hc⟩, hb⟩
   have hz_1 : x0.heap.size ≤ x1.heap.size := hb.size
   have HL_1 := qa0 (jtwo HL_0.out hb)
   have V3_1 := qa0 (V3_0.out.later hb)
   have V5_1 := qa0 (V5_0.out.later hb)
   have CP_1 := qa0 hc
   clear hc hb
   have HD_1 : Hid ((fun w' => (w'.cell? ⟨w.heap.size, 0, none⟩ = some (.slice a ni p) ∧ w'.cell? ⟨w.heap.size, 1, none⟩ = some (.slice b nn q) ∧ w'.cell? ⟨w.heap.size, 2, none⟩ = some (.slice c no r)) ∧ w'.cell? ⟨w.heap.size + 1, 0, none⟩ = some (.int .i64 r3) ∧ w'.cell? ⟨w.heap.size + 1, 1, none⟩ = some (.int .i64 c3) ∧ w'.cell? ⟨w.heap.size + 1, 2, none⟩ = some (.slice a3 n3 k3)) x1) := ⟨⟨V3_1.out.cell 0 (.slice a ni p) rfl, V3_1.out.cell 1 (.slice b nn q) rfl, V3_1.out.cell 2 (.slice c no r) rfl⟩, V5_1.out.cell 0 (.int .i64 r3) rfl, V5_1.out.cell 1 (.int .i64 c3) rfl, V5_1.out.cell 2 (.slice a3 n3 k3) rfl⟩
   clear HD_0 HL_0 V3_0 V5_0
   refine hK.out _ _ HD_1.out (fun _ => ?_)
   clear hK K
   try simp only [mz1, mz2, mz3, Act.put, mz4, mz5, mz6]
   refine wpAnyH_ready (rs := [3, 6, 7]) (by kernel_rfl) (by simp) ?_
   refine AllReadyH.cons rfl (fun K hK => ?_) (AllReadyH.cons rfl (fun K hK => ?_) (AllReadyH.cons rfl (fun K hK => ?_) AllReadyH.nil))
   ·go_simp
    refine (HCb.out x1 HL_1.out).mono ?_
    rintro e x2 ⟨⟨v, rfl, hv⟩, hb⟩
    obtain ⟨sl, dl, rfl, -⟩ := hv.form
    have hz_2 : x1.heap.size ≤ x2.heap.size := hb.size
    have HL_2 := qa0 (jtwo HL_1.out hb)
    have V3_2 := qa0 (V3_1.out.later hb)
    have V5_2 := qa0 (V5_1.out.later hb)
    have CP_2 := qa0 (CP_1.out.later hb)
    have BV_2 := qa0 (BvE.of hv)
    clear hv hb
    have HD_2 : Hid ((fun w' => (w'.cell? ⟨w.heap.size, 0, none⟩ = some (.slice a ni p) ∧ w'.cell? ⟨w.heap.size, 1, none⟩ = some (.slice b nn q) ∧ w'.cell? ⟨w.heap.size, 2, none⟩ = some (.slice c no r)) ∧ w'.cell? ⟨w.heap.size + 1, 0, none⟩ = some (.int .i64 r3) ∧ w'.cell? ⟨w.heap.size + 1, 1, none⟩ = some (.int .i64 c3) ∧ w'.cell? ⟨w.heap.size + 1, 2, none⟩ = some (.slice a3 n3 k3)) x2) := ⟨⟨V3_2.out.cell 0 (.slice a ni p) rfl, V3_2.out.cell 1 (.slice b nn q) rfl, V3_2.out.cell 2 (.slice c no r) rfl⟩, V5_2.out.cell 0 (.int .i64 r3) rfl, V5_2.out.cell 1 (.int .i64 c3) rfl, V5_2.out.cell 2 (.slice a3 n3 k3) rfl⟩
    clear HD_1 HL_1 V3_1 V5_1 CP_1
    refine hK.out _ _ HD_2.out (fun _ => ?_)
    clear hK K
    try simp only [mz1, mz2, mz3, Act.put, mz4, mz5, mz6]
    refine wpAnyH_ready (rs := [5, 6, 7]) (by kernel_rfl) (by simp) ?_
    refine AllReadyH.cons rfl (fun K hK => ?_) (AllReadyH.cons rfl (fun K hK => ?_) (AllReadyH.cons rfl (fun K hK => ?_) AllReadyH.nil))
    ·go_simp
     refine (HCm.out x2 HL_2.out).mono ?_
     rintro e x3 ⟨s9, d9, rfl, ho, hb⟩
     have hz_3 : x2.heap.size ≤ x3.heap.size := hb.size
     have HL_3 := qa0 (jtwo HL_2.out hb)
     have V3_3 := qa0 (V3_2.out.later hb)
     have V5_3 := qa0 (V5_2.out.later hb)
     have CP_3 := qa0 (CP_2.out.later hb)
     have BV_3 := qa0 (BV_2.out.later hb)
     have MR_3 := qa0 (MrE.of ho)
     clear ho hb
     have HD_3 : Hid ((fun w' => (w'.cell? ⟨w.heap.size, 0, none⟩ = some (.slice a ni p) ∧ w'.cell? ⟨w.heap.size, 1, none⟩ = some (.slice b nn q) ∧ w'.cell? ⟨w.heap.size, 2, none⟩ = some (.slice c no r)) ∧ w'.cell? ⟨w.heap.size + 1, 0, none⟩ = some (.int .i64 r3) ∧ w'.cell? ⟨w.heap.size + 1, 1, none⟩ = some (.int .i64 c3) ∧ w'.cell? ⟨w.heap.size + 1, 2, none⟩ = some (.slice a3 n3 k3)) x3) := ⟨⟨V3_3.out.cell 0 (.slice a ni p) rfl, V3_3.out.cell 1 (.slice b nn q) rfl, V3_3.out.cell 2 (.slice c no r) rfl⟩, V5_3.out.cell 0 (.int .i64 r3) rfl, V5_3.out.cell 1 (.int .i64 c3) rfl, V5_3.out.cell 2 (.slice a3 n3 k3) rfl⟩
     clear HD_2 HL_2 V3_2 V5_2 CP_2 BV_2
     refine hK.out _ _ HD_3.out (fun _ => ?_)
     clear hK K
     try simp only [mz1, mz2, mz3, Act.put, mz4, mz5, mz6]
     refine wpAnyH_ready (rs := [6, 7]) (by kernel_rfl) (by simp) ?_
     refine AllReadyH.cons rfl (fun K hK => ?_) (AllReadyH.cons rfl (fun K hK => ?_) AllReadyH.nil)
     ·go_simp
      obtain ⟨x4, hw⟩ : ∃ x, Hid (x3.alloc (.cells #[.slice none 0 0, .slice none 0 0, .slice none 0 0] 28) = x) := ⟨_, rfl⟩
      rw [hw.out]
      have hb : Below x3.heap.size x3 x4 := by rw [← hw.out]; exact jlow _ _
      have hz_4 : x3.heap.size < x4.heap.size := by rw [← hw.out]; simp
      have HL_4 := qa0 (jtwo HL_3.out hb)
      have V3_4 := qa0 (V3_3.out.later hb)
      have V5_4 := qa0 (V5_3.out.later hb)
      have CP_4 := qa0 (CP_3.out.later hb)
      have BV_4 := qa0 (BV_3.out.later hb)
      have MR_4 := qa0 (MR_3.out.later hb)
      have P7_4 : Hid (Vf x4 x3.heap.size 28 #[.slice none 0 0, .slice none 0 0, .slice none 0 0]) := by { show Vf _ _ _ _; rw [← hw.out]; exact Vf.new _ _ _ }
      clear hw hb
      have HD_4 : Hid ((fun w' => (w'.cell? ⟨w.heap.size, 0, none⟩ = some (.slice a ni p) ∧ w'.cell? ⟨w.heap.size, 1, none⟩ = some (.slice b nn q) ∧ w'.cell? ⟨w.heap.size, 2, none⟩ = some (.slice c no r)) ∧ w'.cell? ⟨w.heap.size + 1, 0, none⟩ = some (.int .i64 r3) ∧ w'.cell? ⟨w.heap.size + 1, 1, none⟩ = some (.int .i64 c3) ∧ w'.cell? ⟨w.heap.size + 1, 2, none⟩ = some (.slice a3 n3 k3)) x4) := ⟨⟨V3_4.out.cell 0 (.slice a ni p) rfl, V3_4.out.cell 1 (.slice b nn q) rfl, V3_4.out.cell 2 (.slice c no r) rfl⟩, V5_4.out.cell 0 (.int .i64 r3) rfl, V5_4.out.cell 1 (.int .i64 c3) rfl, V5_4.out.cell 2 (.slice a3 n3 k3) rfl⟩
      clear HD_3 HL_3 V3_3 V5_3 CP_3 BV_3 MR_3
      refine hK.out _ _ HD_4.out (fun _ => ?_)
      clear hK K
      try simp only [mz1, mz2, mz3, Act.put, mz4, mz5, mz6]
      refine wpAnyH_ready (rs := [7]) (by kernel_rfl) (by simp) ?_
      refine AllReadyH.cons rfl (fun K hK => ?_) AllReadyH.nil
      ·go_simp
       obtain ⟨x5, hw⟩ : ∃ x, Hid (x4.alloc (.cells #[.int .i64 0, .int .i64 0, .slice none 0 0] 24) = x) := ⟨_, rfl⟩
       rw [hw.out]
       have hb : Below x4.heap.size x4 x5 := by rw [← hw.out]; exact jlow _ _
       have hz_5 : x4.heap.size < x5.heap.size := by rw [← hw.out]; simp
       have HL_5 := qa0 (jtwo HL_4.out hb)
       have V3_5 := qa0 (V3_4.out.later hb)
       have V5_5 := qa0 (V5_4.out.later hb)
       have CP_5 := qa0 (CP_4.out.later hb)
       have BV_5 := qa0 (BV_4.out.later hb)
       have MR_5 := qa0 (MR_4.out.later hb)
       have P7_5 := qa0 (P7_4.out.later hb)
       have P9_5 : Hid (Vf x5 x4.heap.size 24 #[.int .i64 0, .int .i64 0, .slice none 0 0]) := by { show Vf _ _ _ _; rw [← hw.out]; exact Vf.new _ _ _ }
       clear hw hb
       have HD_5 : Hid ((fun w' => (w'.cell? ⟨w.heap.size, 0, none⟩ = some (.slice a ni p) ∧ w'.cell? ⟨w.heap.size, 1, none⟩ = some (.slice b nn q) ∧ w'.cell? ⟨w.heap.size, 2, none⟩ = some (.slice c no r)) ∧ w'.cell? ⟨w.heap.size + 1, 0, none⟩ = some (.int .i64 r3) ∧ w'.cell? ⟨w.heap.size + 1, 1, none⟩ = some (.int .i64 c3) ∧ w'.cell? ⟨w.heap.size + 1, 2, none⟩ = some (.slice a3 n3 k3)) x5) := ⟨⟨V3_5.out.cell 0 (.slice a ni p) rfl, V3_5.out.cell 1 (.slice b nn q) rfl, V3_5.out.cell 2 (.slice c no r) rfl⟩, V5_5.out.cell 0 (.int .i64 r3) rfl, V5_5.out.cell 1 (.int .i64 c3) rfl, V5_5.out.cell 2 (.slice a3 n3 k3) rfl⟩
       clear HD_4 HL_4 V3_4 V5_4 CP_4 BV_4 MR_4 P7_4
       refine hK.out _ _ HD_5.out (fun _ => ?_)
       clear hK K
       try simp only [mz1, mz2, mz3, Act.put, mz4, mz5, mz6]
       refine wpAnyH_ready (rs := [8]) (by kernel_rfl) (by simp) ?_
       refine AllReadyH.cons rfl (fun K hK => ?_) AllReadyH.nil
       refine qa1 rfl 28 _ _ rfl x3.heap.size _ #[.slice a1 ni q1, .slice b1 nn q2, .slice c1 no q3] rfl rfl P7_5.out sizeFl rfl (qan _ _ _ _ _ _ _ _ _) ?_
       intro x8 HV8 HG8
       have HP := qa0 (CsP.one V3_5.out V5_5.out P7_5.out P9_5.out CP_5.out BV_5.out MR_5.out HL_5.out HV8.out HG8.out (by omega) (by omega) (by omega))
       refine hK.out _ _ ⟨⟨HP.out.v3.cell 0 (.slice a ni p) rfl, HP.out.v3.cell 1 (.slice b nn q) rfl, HP.out.v3.cell 2 (.slice c no r) rfl⟩, HP.out.v5.cell 0 (.int .i64 r3) rfl, HP.out.v5.cell 1 (.int .i64 c3) rfl, HP.out.v5.cell 2 (.slice a3 n3 k3) rfl⟩ (fun _ => ?_)
       clear hK K
       try simp only [mz1, mz2, mz3, Act.put]
       refine wtkq 9 ?vt9_4 rfl (by kernel_rfl) (fun _ _ _ h => h) (by rfl) ?yt9_4 ⟨⟨HP.out.v3.cell 0 (.slice a ni p) rfl, HP.out.v3.cell 1 (.slice b nn q) rfl, HP.out.v3.cell 2 (.slice c no r) rfl⟩, HP.out.v5.cell 0 (.int .i64 r3) rfl, HP.out.v5.cell 1 (.int .i64 c3) rfl, HP.out.v5.cell 2 (.slice a3 n3 k3) rfl⟩ ?zt9_4
       case yt9_4 => (intro w hSw; (try dsimp only at hSw); go_simp; try with_reducible rfl)
       try simp only [mz1, mz2, mz3, Act.put, mz4, mz5, mz6]
       refine wpAnyH_done (by kernel_rfl) ?_ _
       refine qa3 rfl (fun K hK => ?_)
       refine qa1 rfl 24 _ _ rfl x4.heap.size _ #[.int .i64 r3, .int .i64 c3, .slice s9 n3 d9] rfl rfl HP.out.p9 qak rfl (qau _ _ _ _ _) ?_
       intro x9 HV9 HG9
       refine hK.out _ _ ?_
       clear hK K
       try simp only [mz1, mz2, mz3, Act.put]
       go_wp2_with fail
       go_meet
       case rel => exact ⟨_, _, a1, q1, b1, q2, c1, q3, sl, dl, s9, d9, rfl, rfl, rfl, HP.out.fin HV9.out HG9.out (by omega) (by omega)⟩
     ·go_simp
      obtain ⟨x4, hw⟩ : ∃ x, Hid (x3.alloc (.cells #[.int .i64 0, .int .i64 0, .slice none 0 0] 24) = x) := ⟨_, rfl⟩
      rw [hw.out]
      have hb : Below x3.heap.size x3 x4 := by rw [← hw.out]; exact jlow _ _
      have hz_4 : x3.heap.size < x4.heap.size := by rw [← hw.out]; simp
      have HL_4 := qa0 (jtwo HL_3.out hb)
      have V3_4 := qa0 (V3_3.out.later hb)
      have V5_4 := qa0 (V5_3.out.later hb)
      have CP_4 := qa0 (CP_3.out.later hb)
      have BV_4 := qa0 (BV_3.out.later hb)
      have MR_4 := qa0 (MR_3.out.later hb)
      have P9_4 : Hid (Vf x4 x3.heap.size 24 #[.int .i64 0, .int .i64 0, .slice none 0 0]) := by { show Vf _ _ _ _; rw [← hw.out]; exact Vf.new _ _ _ }
      clear hw hb
      have HD_4 : Hid ((fun w' => (w'.cell? ⟨w.heap.size, 0, none⟩ = some (.slice a ni p) ∧ w'.cell? ⟨w.heap.size, 1, none⟩ = some (.slice b nn q) ∧ w'.cell? ⟨w.heap.size, 2, none⟩ = some (.slice c no r)) ∧ w'.cell? ⟨w.heap.size + 1, 0, none⟩ = some (.int .i64 r3) ∧ w'.cell? ⟨w.heap.size + 1, 1, none⟩ = some (.int .i64 c3) ∧ w'.cell? ⟨w.heap.size + 1, 2, none⟩ = some (.slice a3 n3 k3)) x4) := ⟨⟨V3_4.out.cell 0 (.slice a ni p) rfl, V3_4.out.cell 1 (.slice b nn q) rfl, V3_4.out.cell 2 (.slice c no r) rfl⟩, V5_4.out.cell 0 (.int .i64 r3) rfl, V5_4.out.cell 1 (.int .i64 c3) rfl, V5_4.out.cell 2 (.slice a3 n3 k3) rfl⟩
      clear HD_3 HL_3 V3_3 V5_3 CP_3 BV_3 MR_3
      refine hK.out _ _ HD_4.out (fun _ => ?_)
      clear hK K
      try simp only [mz1, mz2, mz3, Act.put, mz4, mz5, mz6]
      refine wpAnyH_ready (rs := [6]) (by kernel_rfl) (by simp) ?_
      refine AllReadyH.cons rfl (fun K hK => ?_) AllReadyH.nil
      ·go_simp
       obtain ⟨x5, hw⟩ : ∃ x, Hid (x4.alloc (.cells #[.slice none 0 0, .slice none 0 0, .slice none 0 0] 28) = x) := ⟨_, rfl⟩
       rw [hw.out]
       have hb : Below x4.heap.size x4 x5 := by rw [← hw.out]; exact jlow _ _
       have hz_5 : x4.heap.size < x5.heap.size := by rw [← hw.out]; simp
       have HL_5 := qa0 (jtwo HL_4.out hb)
       have V3_5 := qa0 (V3_4.out.later hb)
       have V5_5 := qa0 (V5_4.out.later hb)
       have CP_5 := qa0 (CP_4.out.later hb)
       have BV_5 := qa0 (BV_4.out.later hb)
       have MR_5 := qa0 (MR_4.out.later hb)
       have P9_5 := qa0 (P9_4.out.later hb)
       have P7_5 : Hid (Vf x5 x4.heap.size 28 #[.slice none 0 0, .slice none 0 0, .slice none 0 0]) := by { show Vf _ _ _ _; rw [← hw.out]; exact Vf.new _ _ _ }
       clear hw hb
       have HD_5 : Hid ((fun w' => (w'.cell? ⟨w.heap.size, 0, none⟩ = some (.slice a ni p) ∧ w'.cell? ⟨w.heap.size, 1, none⟩ = some (.slice b nn q) ∧ w'.cell? ⟨w.heap.size, 2, none⟩ = some (.slice c no r)) ∧ w'.cell? ⟨w.heap.size + 1, 0, none⟩ = some (.int .i64 r3) ∧ w'.cell? ⟨w.heap.size + 1, 1, none⟩ = some (.int .i64 c3) ∧ w'.cell? ⟨w.heap.size + 1, 2, none⟩ = some (.slice a3 n3 k3)) x5) := ⟨⟨V3_5.out.cell 0 (.slice a ni p) rfl, V3_5.out.cell 1 (.slice b nn q) rfl, V3_5.out.cell 2 (.slice c no r) rfl⟩, V5_5.out.cell 0 (.int .i64 r3) rfl, V5_5.out.cell 1 (.int .i64 c3) rfl, V5_5.out.cell 2 (.slice a3 n3 k3) rfl⟩
       clear HD_4 HL_4 V3_4 V5_4 CP_4 BV_4 MR_4 P9_4
       refine hK.out _ _ HD_5.out (fun _ => ?_)
       clear hK K
       try simp only [mz1, mz2, mz3, Act.put, mz4, mz5, mz6]
       refine wpAnyH_ready (rs := [8]) (by kernel_rfl) (by simp) ?_
       refine AllReadyH.cons rfl (fun K hK => ?_) AllReadyH.nil
       refine qa1 rfl 28 _ _ rfl x4.heap.size _ #[.slice a1 ni q1, .slice b1 nn q2, .slice c1 no q3] rfl rfl P7_5.out sizeFl rfl (qan _ _ _ _ _ _ _ _ _) ?_
       intro x8 HV8 HG8
       have HP := qa0 (CsP.one V3_5.out V5_5.out P7_5.out P9_5.out CP_5.out BV_5.out MR_5.out HL_5.out HV8.out HG8.out (by omega) (by omega) (by omega))
       refine hK.out _ _ ⟨⟨HP.out.v3.cell 0 (.slice a ni p) rfl, HP.out.v3.cell 1 (.slice b nn q) rfl, HP.out.v3.cell 2 (.slice c no r) rfl⟩, HP.out.v5.cell 0 (.int .i64 r3) rfl, HP.out.v5.cell 1 (.int .i64 c3) rfl, HP.out.v5.cell 2 (.slice a3 n3 k3) rfl⟩ (fun _ => ?_)
       clear hK K
       try simp only [mz1, mz2, mz3, Act.put]
       refine wtkq 9 ?vt9_5 rfl (by kernel_rfl) (fun _ _ _ h => h) (by rfl) ?yt9_5 ⟨⟨HP.out.v3.cell 0 (.slice a ni p) rfl, HP.out.v3.cell 1 (.slice b nn q) rfl, HP.out.v3.cell 2 (.slice c no r) rfl⟩, HP.out.v5.cell 0 (.int .i64 r3) rfl, HP.out.v5.cell 1 (.int .i64 c3) rfl, HP.out.v5.cell 2 (.slice a3 n3 k3) rfl⟩ ?zt9_5
       case yt9_5 => (intro w hSw; (try dsimp only at hSw); go_simp; try with_reducible rfl)
       try simp only [mz1, mz2, mz3, Act.put, mz4, mz5, mz6]
       refine wpAnyH_done (by kernel_rfl) ?_ _
       refine qa3 rfl (fun K hK => ?_)
       refine qa1 rfl 24 _ _ rfl x3.heap.size _ #[.int .i64 r3, .int .i64 c3, .slice s9 n3 d9] rfl rfl HP.out.p9 qak rfl (qau _ _ _ _ _) ?_
       intro x9 HV9 HG9
       refine hK.out _ _ ?_
       clear hK K
       try simp only [mz1, mz2, mz3, Act.put]
       go_wp2_with fail
       go_meet
       case rel => exact ⟨_, _, a1, q1, b1, q2, c1, q3, sl, dl, s9, d9, rfl, rfl, rfl, HP.out.fin HV9.out HG9.out (by omega) (by omega)⟩
    ·go_simp
     obtain ⟨x3, hw⟩ : ∃ x, Hid (x2.alloc (.cells #[.slice none 0 0, .slice none 0 0, .slice none 0 0] 28) = x) := ⟨_, rfl⟩
     rw [hw.out]
     have hb : Below x2.heap.size x2 x3 := by rw [← hw.out]; exact jlow _ _
     have hz_3 : x2.heap.size < x3.heap.size := by rw [← hw.out]; simp
     have HL_3 := qa0 (jtwo HL_2.out hb)
     have V3_3 := qa0 (V3_2.out.later hb)
     have V5_3 := qa0 (V5_2.out.later hb)
     have CP_3 := qa0 (CP_2.out.later hb)
     have BV_3 := qa0 (BV_2.out.later hb)
     have P7_3 : Hid (Vf x3 x2.heap.size 28 #[.slice none 0 0, .slice none 0 0, .slice none 0 0]) := by { show Vf _ _ _ _; rw [← hw.out]; exact Vf.new _ _ _ }
     clear hw hb
     have HD_3 : Hid ((fun w' => (w'.cell? ⟨w.heap.size, 0, none⟩ = some (.slice a ni p) ∧ w'.cell? ⟨w.heap.size, 1, none⟩ = some (.slice b nn q) ∧ w'.cell? ⟨w.heap.size, 2, none⟩ = some (.slice c no r)) ∧ w'.cell? ⟨w.heap.size + 1, 0, none⟩ = some (.int .i64 r3) ∧ w'.cell? ⟨w.heap.size + 1, 1, none⟩ = some (.int .i64 c3) ∧ w'.cell? ⟨w.heap.size + 1, 2, none⟩ = some (.slice a3 n3 k3)) x3) := ⟨⟨V3_3.out.cell 0 (.slice a ni p) rfl, V3_3.out.cell 1 (.slice b nn q) rfl, V3_3.out.cell 2 (.slice c no r) rfl⟩, V5_3.out.cell 0 (.int .i64 r3) rfl, V5_3.out.cell 1 (.int .i64 c3) rfl, V5_3.out.cell 2 (.slice a3 n3 k3) rfl⟩
     clear HD_2 HL_2 V3_2 V5_2 CP_2 BV_2
     refine hK.out _ _ HD_3.out (fun _ => ?_)
     clear hK K
     try simp only [mz1, mz2, mz3, Act.put, mz4, mz5, mz6]
     refine wpAnyH_ready (rs := [5, 7]) (by kernel_rfl) (by simp) ?_
     refine AllReadyH.cons rfl (fun K hK => ?_) (AllReadyH.cons rfl (fun K hK => ?_) AllReadyH.nil)
     ·go_simp
      refine (HCm.out x3 HL_3.out).mono ?_
      rintro e x4 ⟨s9, d9, rfl, ho, hb⟩
      have hz_4 : x3.heap.size ≤ x4.heap.size := hb.size
      have HL_4 := qa0 (jtwo HL_3.out hb)
      have V3_4 := qa0 (V3_3.out.later hb)
      have V5_4 := qa0 (V5_3.out.later hb)
      have CP_4 := qa0 (CP_3.out.later hb)
      have BV_4 := qa0 (BV_3.out.later hb)
      have P7_4 := qa0 (P7_3.out.later hb)
      have MR_4 := qa0 (MrE.of ho)
      clear ho hb
      have HD_4 : Hid ((fun w' => (w'.cell? ⟨w.heap.size, 0, none⟩ = some (.slice a ni p) ∧ w'.cell? ⟨w.heap.size, 1, none⟩ = some (.slice b nn q) ∧ w'.cell? ⟨w.heap.size, 2, none⟩ = some (.slice c no r)) ∧ w'.cell? ⟨w.heap.size + 1, 0, none⟩ = some (.int .i64 r3) ∧ w'.cell? ⟨w.heap.size + 1, 1, none⟩ = some (.int .i64 c3) ∧ w'.cell? ⟨w.heap.size + 1, 2, none⟩ = some (.slice a3 n3 k3)) x4) := ⟨⟨V3_4.out.cell 0 (.slice a ni p) rfl, V3_4.out.cell 1 (.slice b nn q) rfl, V3_4.out.cell 2 (.slice c no r) rfl⟩, V5_4.out.cell 0 (.int .i64 r3) rfl, V5_4.out.cell 1 (.int .i64 c3) rfl, V5_4.out.cell 2 (.slice a3 n3 k3) rfl⟩
      clear HD_3 HL_3 V3_3 V5_3 CP_3 BV_3 P7_3
      refine hK.out _ _ HD_4.out (fun _ => ?_)
      clear hK K
      try simp only [mz1, mz2, mz3, Act.put, mz4, mz5, mz6]
      refine wpAnyH_ready (rs := [7]) (by kernel_rfl) (by simp) ?_
      refine AllReadyH.cons rfl (fun K hK => ?_) AllReadyH.nil
      ·go_simp
       obtain ⟨x5, hw⟩ : ∃ x, Hid (x4.alloc (.cells #[.int .i64 0, .int .i64 0, .slice none 0 0] 24) = x) := ⟨_, rfl⟩
       rw [hw.out]
       have hb : Below x4.heap.size x4 x5 := by rw [← hw.out]; exact jlow _ _
       have hz_5 : x4.heap.size < x5.heap.size := by rw [← hw.out]; simp
       have HL_5 := qa0 (jtwo HL_4.out hb)
       have V3_5 := qa0 (V3_4.out.later hb)
       have V5_5 := qa0 (V5_4.out.later hb)
       have CP_5 := qa0 (CP_4.out.later hb)
       have BV_5 := qa0 (BV_4.out.later hb)
       have P7_5 := qa0 (P7_4.out.later hb)
       have MR_5 := qa0 (MR_4.out.later hb)
       have P9_5 : Hid (Vf x5 x4.heap.size 24 #[.int .i64 0, .int .i64 0, .slice none 0 0]) := by { show Vf _ _ _ _; rw [← hw.out]; exact Vf.new _ _ _ }
       clear hw hb
       have HD_5 : Hid ((fun w' => (w'.cell? ⟨w.heap.size, 0, none⟩ = some (.slice a ni p) ∧ w'.cell? ⟨w.heap.size, 1, none⟩ = some (.slice b nn q) ∧ w'.cell? ⟨w.heap.size, 2, none⟩ = some (.slice c no r)) ∧ w'.cell? ⟨w.heap.size + 1, 0, none⟩ = some (.int .i64 r3) ∧ w'.cell? ⟨w.heap.size + 1, 1, none⟩ = some (.int .i64 c3) ∧ w'.cell? ⟨w.heap.size + 1, 2, none⟩ = some (.slice a3 n3 k3)) x5) := ⟨⟨V3_5.out.cell 0 (.slice a ni p) rfl, V3_5.out.cell 1 (.slice b nn q) rfl, V3_5.out.cell 2 (.slice c no r) rfl⟩, V5_5.out.cell 0 (.int .i64 r3) rfl, V5_5.out.cell 1 (.int .i64 c3) rfl, V5_5.out.cell 2 (.slice a3 n3 k3) rfl⟩
       clear HD_4 HL_4 V3_4 V5_4 CP_4 BV_4 P7_4 MR_4
       refine hK.out _ _ HD_5.out (fun _ => ?_)
       clear hK K
       try simp only [mz1, mz2, mz3, Act.put, mz4, mz5, mz6]
       refine wpAnyH_ready (rs := [8]) (by kernel_rfl) (by simp) ?_
       refine AllReadyH.cons rfl (fun K hK => ?_) AllReadyH.nil
       refine qa1 rfl 28 _ _ rfl x2.heap.size _ #[.slice a1 ni q1, .slice b1 nn q2, .slice c1 no q3] rfl rfl P7_5.out sizeFl rfl (qan _ _ _ _ _ _ _ _ _) ?_
       intro x8 HV8 HG8
       have HP := qa0 (CsP.one V3_5.out V5_5.out P7_5.out P9_5.out CP_5.out BV_5.out MR_5.out HL_5.out HV8.out HG8.out (by omega) (by omega) (by omega))
       refine hK.out _ _ ⟨⟨HP.out.v3.cell 0 (.slice a ni p) rfl, HP.out.v3.cell 1 (.slice b nn q) rfl, HP.out.v3.cell 2 (.slice c no r) rfl⟩, HP.out.v5.cell 0 (.int .i64 r3) rfl, HP.out.v5.cell 1 (.int .i64 c3) rfl, HP.out.v5.cell 2 (.slice a3 n3 k3) rfl⟩ (fun _ => ?_)
       clear hK K
       try simp only [mz1, mz2, mz3, Act.put]
       refine wtkq 9 ?vt9_6 rfl (by kernel_rfl) (fun _ _ _ h => h) (by rfl) ?yt9_6 ⟨⟨HP.out.v3.cell 0 (.slice a ni p) rfl, HP.out.v3.cell 1 (.slice b nn q) rfl, HP.out.v3.cell 2 (.slice c no r) rfl⟩, HP.out.v5.cell 0 (.int .i64 r3) rfl, HP.out.v5.cell 1 (.int .i64 c3) rfl, HP.out.v5.cell 2 (.slice a3 n3 k3) rfl⟩ ?zt9_6
       case yt9_6 => (intro w hSw; (try dsimp only at hSw); go_simp; try with_reducible rfl)
       try simp only [mz1, mz2, mz3, Act.put, mz4, mz5, mz6]
       refine wpAnyH_done (by kernel_rfl) ?_ _
       refine qa3 rfl (fun K hK => ?_)
       refine qa1 rfl 24 _ _ rfl x4.heap.size _ #[.int .i64 r3, .int .i64 c3, .slice s9 n3 d9] rfl rfl HP.out.p9 qak rfl (qau _ _ _ _ _) ?_
       intro x9 HV9 HG9
       refine hK.out _ _ ?_
       clear hK K
       try simp only [mz1, mz2, mz3, Act.put]
       go_wp2_with fail
       go_meet
       case rel => exact ⟨_, _, a1, q1, b1, q2, c1, q3, sl, dl, s9, d9, rfl, rfl, rfl, HP.out.fin HV9.out HG9.out (by omega) (by omega)⟩
     ·go_simp
      obtain ⟨x4, hw⟩ : ∃ x, Hid (x3.alloc (.cells #[.int .i64 0, .int .i64 0, .slice none 0 0] 24) = x) := ⟨_, rfl⟩
      rw [hw.out]
      have hb : Below x3.heap.size x3 x4 := by rw [← hw.out]; exact jlow _ _
      have hz_4 : x3.heap.size < x4.heap.size := by rw [← hw.out]; simp
      have HL_4 := qa0 (jtwo HL_3.out hb)
      have V3_4 := qa0 (V3_3.out.later hb)
      have V5_4 := qa0 (V5_3.out.later hb)
      have CP_4 := qa0 (CP_3.out.later hb)
      have BV_4 := qa0 (BV_3.out.later hb)
      have P7_4 := qa0 (P7_3.out.later hb)
      have P9_4 : Hid (Vf x4 x3.heap.size 24 #[.int .i64 0, .int .i64 0, .slice none 0 0]) := by { show Vf _ _ _ _; rw [← hw.out]; exact Vf.new _ _ _ }
      clear hw hb
      have HD_4 : Hid ((fun w' => (w'.cell? ⟨w.heap.size, 0, none⟩ = some (.slice a ni p) ∧ w'.cell? ⟨w.heap.size, 1, none⟩ = some (.slice b nn q) ∧ w'.cell? ⟨w.heap.size, 2, none⟩ = some (.slice c no r)) ∧ w'.cell? ⟨w.heap.size + 1, 0, none⟩ = some (.int .i64 r3) ∧ w'.cell? ⟨w.heap.size + 1, 1, none⟩ = some (.int .i64 c3) ∧ w'.cell? ⟨w.heap.size + 1, 2, none⟩ = some (.slice a3 n3 k3)) x4) := ⟨⟨V3_4.out.cell 0 (.slice a ni p) rfl, V3_4.out.cell 1 (.slice b nn q) rfl, V3_4.out.cell 2 (.slice c no r) rfl⟩, V5_4.out.cell 0 (.int .i64 r3) rfl, V5_4.out.cell 1 (.int .i64 c3) rfl, V5_4.out.cell 2 (.slice a3 n3 k3) rfl⟩
      clear HD_3 HL_3 V3_3 V5_3 CP_3 BV_3 P7_3
      refine hK.out _ _ HD_4.out (fun _ => ?_)
      clear hK K
      try simp only [mz1, mz2, mz3, Act.put, mz4, mz5, mz6]
      refine wpAnyH_ready (rs := [5]) (by kernel_rfl) (by simp) ?_
      refine AllReadyH.cons rfl (fun K hK => ?_) AllReadyH.nil
      ·go_simp
       refine (HCm.out x4 HL_4.out).mono ?_
       rintro e x5 ⟨s9, d9, rfl, ho, hb⟩
       have hz_5 : x4.heap.size ≤ x5.heap.size := hb.size
       have HL_5 := qa0 (jtwo HL_4.out hb)
       have V3_5 := qa0 (V3_4.out.later hb)
       have V5_5 := qa0 (V5_4.out.later hb)
       have CP_5 := qa0 (CP_4.out.later hb)
       have BV_5 := qa0 (BV_4.out.later hb)
       have P7_5 := qa0 (P7_4.out.later hb)
       have P9_5 := qa0 (P9_4.out.later hb)
       have MR_5 := qa0 (MrE.of ho)
       clear ho hb
       have HD_5 : Hid ((fun w' => (w'.cell? ⟨w.heap.size, 0, none⟩ = some (.slice a ni p) ∧ w'.cell? ⟨w.heap.size, 1, none⟩ = some (.slice b nn q) ∧ w'.cell? ⟨w.heap.size, 2, none⟩ = some (.slice c no r)) ∧ w'.cell? ⟨w.heap.size + 1, 0, none⟩ = some (.int .i64 r3) ∧ w'.cell? ⟨w.heap.size + 1, 1, none⟩ = some (.int .i64 c3) ∧ w'.cell? ⟨w.heap.size + 1, 2, none⟩ = some (.slice a3 n3 k3)) x5) := ⟨⟨V3_5.out.cell 0 (.slice a ni p) rfl, V3_5.out.cell 1 (.slice b nn q) rfl, V3_5.out.cell 2 (.slice c no r) rfl⟩, V5_5.out.cell 0 (.int .i64 r3) rfl, V5_5.out.cell 1 (.int .i64 c3) rfl, V5_5.out.cell 2 (.slice a3 n3 k3) rfl⟩
       clear HD_4 HL_4 V3_4 V5_4 CP_4 BV_4 P7_4 P9_4
       refine hK.out _ _ HD_5.out (fun _ => ?_)
       clear hK K
       try simp only [mz1, mz2, mz3, Act.put, mz4, mz5, mz6]
       refine wpAnyH_ready (rs := [8]) (by kernel_rfl) (by simp) ?_
       refine AllReadyH.cons rfl (fun K hK => ?_) AllReadyH.nil
       refine qa1 rfl 28 _ _ rfl x2.heap.size _ #[.slice a1 ni q1, .slice b1 nn q2, .slice c1 no q3] rfl rfl P7_5.out sizeFl rfl (qan _ _ _ _ _ _ _ _ _) ?_
       intro x8 HV8 HG8
       have HP := qa0 (CsP.one V3_5.out V5_5.out P7_5.out P9_5.out CP_5.out BV_5.out MR_5.out HL_5.out HV8.out HG8.out (by omega) (by omega) (by omega))
       refine hK.out _ _ ⟨⟨HP.out.v3.cell 0 (.slice a ni p) rfl, HP.out.v3.cell 1 (.slice b nn q) rfl, HP.out.v3.cell 2 (.slice c no r) rfl⟩, HP.out.v5.cell 0 (.int .i64 r3) rfl, HP.out.v5.cell 1 (.int .i64 c3) rfl, HP.out.v5.cell 2 (.slice a3 n3 k3) rfl⟩ (fun _ => ?_)
       clear hK K
       try simp only [mz1, mz2, mz3, Act.put]
       refine wtkq 9 ?vt9_7 rfl (by kernel_rfl) (fun _ _ _ h => h) (by rfl) ?yt9_7 ⟨⟨HP.out.v3.cell 0 (.slice a ni p) rfl, HP.out.v3.cell 1 (.slice b nn q) rfl, HP.out.v3.cell 2 (.slice c no r) rfl⟩, HP.out.v5.cell 0 (.int .i64 r3) rfl, HP.out.v5.cell 1 (.int .i64 c3) rfl, HP.out.v5.cell 2 (.slice a3 n3 k3) rfl⟩ ?zt9_7
       case yt9_7 => (intro w hSw; (try dsimp only at hSw); go_simp; try with_reducible rfl)
       try simp only [mz1, mz2, mz3, Act.put, mz4, mz5, mz6]
       refine wpAnyH_done (by kernel_rfl) ?_ _
       refine qa3 rfl (fun K hK => ?_)
       refine qa1 rfl 24 _ _ rfl x3.heap.size _ #[.int .i64 r3, .int .i64 c3, .slice s9 n3 d9] rfl rfl HP.out.p9 qak rfl (qau _ _ _ _ _) ?_
       intro x9 HV9 HG9
       refine hK.out _ _ ?_
       clear hK K
       try simp only [mz1, mz2, mz3, Act.put]
       go_wp2_with fail
       go_meet
       case rel => exact ⟨_, _, a1, q1, b1, q2, c1, q3, sl, dl, s9, d9, rfl, rfl, rfl, HP.out.fin HV9.out HG9.out (by omega) (by omega)⟩
    ·go_simp
     obtain ⟨x3, hw⟩ : ∃ x, Hid (x2.alloc (.cells #[.int .i64 0, .int .i64 0, .slice none 0 0] 24) = x) := ⟨_, rfl⟩
     rw [hw.out]
     have hb : Below x2.heap.size x2 x3 := by rw [← hw.out]; exact jlow _ _
     have hz_3 : x2.heap.size < x3.heap.size := by rw [← hw.out]; simp
     have HL_3 := qa0 (jtwo HL_2.out hb)
     have V3_3 := qa0 (V3_2.out.later hb)
     have V5_3 := qa0 (V5_2.out.later hb)
     have CP_3 := qa0 (CP_2.out.later hb)
     have BV_3 := qa0 (BV_2.out.later hb)
     have P9_3 : Hid (Vf x3 x2.heap.size 24 #[.int .i64 0, .int .i64 0, .slice none 0 0]) := by { show Vf _ _ _ _; rw [← hw.out]; exact Vf.new _ _ _ }
     clear hw hb
     have HD_3 : Hid ((fun w' => (w'.cell? ⟨w.heap.size, 0, none⟩ = some (.slice a ni p) ∧ w'.cell? ⟨w.heap.size, 1, none⟩ = some (.slice b nn q) ∧ w'.cell? ⟨w.heap.size, 2, none⟩ = some (.slice c no r)) ∧ w'.cell? ⟨w.heap.size + 1, 0, none⟩ = some (.int .i64 r3) ∧ w'.cell? ⟨w.heap.size + 1, 1, none⟩ = some (.int .i64 c3) ∧ w'.cell? ⟨w.heap.size + 1, 2, none⟩ = some (.slice a3 n3 k3)) x3) := ⟨⟨V3_3.out.cell 0 (.slice a ni p) rfl, V3_3.out.cell 1 (.slice b nn q) rfl, V3_3.out.cell 2 (.slice c no r) rfl⟩, V5_3.out.cell 0 (.int .i64 r3) rfl, V5_3.out.cell 1 (.int .i64 c3) rfl, V5_3.out.cell 2 (.slice a3 n3 k3) rfl⟩
     clear HD_2 HL_2 V3_2 V5_2 CP_2 BV_2
     refine hK.out _ _ HD_3.out (fun _ => ?_)
     clear hK K
     try simp only [mz1, mz2, mz3, Act.put, mz4, mz5, mz6]
     refine wpAnyH_ready (rs := [5, 6]) (by kernel_rfl) (by simp) ?_
     refine AllReadyH.cons rfl (fun K hK => ?_) (AllReadyH.cons rfl (fun K hK => ?_) AllReadyH.nil)
     ·go_simp
      refine (HCm.out x3 HL_3.out).mono ?_
      rintro e x4 ⟨s9, d9, rfl, ho, hb⟩
      have hz_4 : x3.heap.size ≤ x4.heap.size := hb.size
      have HL_4 := qa0 (jtwo HL_3.out hb)
      have V3_4 := qa0 (V3_3.out.later hb)
      have V5_4 := qa0 (V5_3.out.later hb)
      have CP_4 := qa0 (CP_3.out.later hb)
      have BV_4 := qa0 (BV_3.out.later hb)
      have P9_4 := qa0 (P9_3.out.later hb)
      have MR_4 := qa0 (MrE.of ho)
      clear ho hb
      have HD_4 : Hid ((fun w' => (w'.cell? ⟨w.heap.size, 0, none⟩ = some (.slice a ni p) ∧ w'.cell? ⟨w.heap.size, 1, none⟩ = some (.slice b nn q) ∧ w'.cell? ⟨w.heap.size, 2, none⟩ = some (.slice c no r)) ∧ w'.cell? ⟨w.heap.size + 1, 0, none⟩ = some (.int .i64 r3) ∧ w'.cell? ⟨w.heap.size + 1, 1, none⟩ = some (.int .i64 c3) ∧ w'.cell? ⟨w.heap.size + 1, 2, none⟩ = some (.slice a3 n3 k3)) x4) := ⟨⟨V3_4.out.cell 0 (.slice a ni p) rfl, V3_4.out.cell 1 (.slice b nn q) rfl, V3_4.out.cell 2 (.slice c no r) rfl⟩, V5_4.out.cell 0 (.int .i64 r3) rfl, V5_4.out.cell 1 (.int .i64 c3) rfl, V5_4.out.cell 2 (.slice a3 n3 k3) rfl⟩
      clear HD_3 HL_3 V3_3 V5_3 CP_3 BV_3 P9_3
      refine hK.out _ _ HD_4.out (fun _ => ?_)
      clear hK K
      try simp only [mz1, mz2, mz3, Act.put, mz4, mz5, mz6]
      refine wpAnyH_ready (rs := [6]) (by kernel_rfl) (by simp) ?_
      refine AllReadyH.cons rfl (fun K hK => ?_) AllReadyH.nil
      ·go_simp
       obtain ⟨x5, hw⟩ : ∃ x, Hid (x4.alloc (.cells #[.slice none 0 0, .slice none 0 0, .slice none 0 0] 28) = x) := ⟨_, rfl⟩
       rw [hw.out]
       have hb : Below x4.heap.size x4 x5 := by rw [← hw.out]; exact jlow _ _
       have hz_5 : x4.heap.size < x5.heap.size := by rw [← hw.out]; simp
       have HL_5 := qa0 (jtwo HL_4.out hb)
       have V3_5 := qa0 (V3_4.out.later hb)
       have V5_5 := qa0 (V5_4.out.later hb)
       have CP_5 := qa0 (CP_4.out.later hb)
       have BV_5 := qa0 (BV_4.out.later hb)
       have P9_5 := qa0 (P9_4.out.later hb)
       have MR_5 := qa0 (MR_4.out.later hb)
       have P7_5 : Hid (Vf x5 x4.heap.size 28 #[.slice none 0 0, .slice none 0 0, .slice none 0 0]) := by { show Vf _ _ _ _; rw [← hw.out]; exact Vf.new _ _ _ }
       clear hw hb
       have HD_5 : Hid ((fun w' => (w'.cell? ⟨w.heap.size, 0, none⟩ = some (.slice a ni p) ∧ w'.cell? ⟨w.heap.size, 1, none⟩ = some (.slice b nn q) ∧ w'.cell? ⟨w.heap.size, 2, none⟩ = some (.slice c no r)) ∧ w'.cell? ⟨w.heap.size + 1, 0, none⟩ = some (.int .i64 r3) ∧ w'.cell? ⟨w.heap.size + 1, 1, none⟩ = some (.int .i64 c3) ∧ w'.cell? ⟨w.heap.size + 1, 2, none⟩ = some (.slice a3 n3 k3)) x5) := ⟨⟨V3_5.out.cell 0 (.slice a ni p) rfl, V3_5.out.cell 1 (.slice b nn q) rfl, V3_5.out.cell 2 (.slice c no r) rfl⟩, V5_5.out.cell 0 (.int .i64 r3) rfl, V5_5.out.cell 1 (.int .i64 c3) rfl, V5_5.out.cell 2 (.slice a3 n3 k3) rfl⟩
       clear HD_4 HL_4 V3_4 V5_4 CP_4 BV_4 P9_4 MR_4
       refine hK.out _ _ HD_5.out (fun _ => ?_)
       clear hK K
       try simp only [mz1, mz2, mz3, Act.put, mz4, mz5, mz6]
       refine wpAnyH_ready (rs := [8]) (by kernel_rfl) (by simp) ?_
       refine AllReadyH.cons rfl (fun K hK => ?_) AllReadyH.nil
       refine qa1 rfl 28 _ _ rfl x4.heap.size _ #[.slice a1 ni q1, .slice b1 nn q2, .slice c1 no q3] rfl rfl P7_5.out sizeFl rfl (qan _ _ _ _ _ _ _ _ _) ?_
       intro x8 HV8 HG8
       have HP := qa0 (CsP.one V3_5.out V5_5.out P7_5.out P9_5.out CP_5.out BV_5.out MR_5.out HL_5.out HV8.out HG8.out (by omega) (by omega) (by omega))
       refine hK.out _ _ ⟨⟨HP.out.v3.cell 0 (.slice a ni p) rfl, HP.out.v3.cell 1 (.slice b nn q) rfl, HP.out.v3.cell 2 (.slice c no r) rfl⟩, HP.out.v5.cell 0 (.int .i64 r3) rfl, HP.out.v5.cell 1 (.int .i64 c3) rfl, HP.out.v5.cell 2 (.slice a3 n3 k3) rfl⟩ (fun _ => ?_)
       clear hK K
       try simp only [mz1, mz2, mz3, Act.put]
       refine wtkq 9 ?vt9_8 rfl (by kernel_rfl) (fun _ _ _ h => h) (by rfl) ?yt9_8 ⟨⟨HP.out.v3.cell 0 (.slice a ni p) rfl, HP.out.v3.cell 1 (.slice b nn q) rfl, HP.out.v3.cell 2 (.slice c no r) rfl⟩, HP.out.v5.cell 0 (.int .i64 r3) rfl, HP.out.v5.cell 1 (.int .i64 c3) rfl, HP.out.v5.cell 2 (.slice a3 n3 k3) rfl⟩ ?zt9_8
       case yt9_8 => (intro w hSw; (try dsimp only at hSw); go_simp; try with_reducible rfl)
       try simp only [mz1, mz2, mz3, Act.put, mz4, mz5, mz6]
       refine wpAnyH_done (by kernel_rfl) ?_ _
       refine qa3 rfl (fun K hK => ?_)
       refine qa1 rfl 24 _ _ rfl x2.heap.size _ #[.int .i64 r3, .int .i64 c3, .slice s9 n3 d9] rfl rfl HP.out.p9 qak rfl (qau _ _ _ _ _) ?_
       intro x9 HV9 HG9
       refine hK.out _ _ ?_
       clear hK K
       try simp only [mz1, mz2, mz3, Act.put]
       go_wp2_with fail
       go_meet
       case rel => exact ⟨_, _, a1, q1, b1, q2, c1, q3, sl, dl, s9, d9, rfl, rfl, rfl, HP.out.fin HV9.out HG9.out (by omega) (by omega)⟩
     ·go_simp
      obtain ⟨x4, hw⟩ : ∃ x, Hid (x3.alloc (.cells #[.slice none 0 0, .slice none 0 0, .slice none 0 0] 28) = x) := ⟨_, rfl⟩
      rw [hw.out]
      have hb : Below x3.heap.size x3 x4 := by rw [← hw.out]; exact jlow _ _
      have hz_4 : x3.heap.size < x4.heap.size := by rw [← hw.out]; simp
      have HL_4 := qa0 (jtwo HL_3.out hb)
      have V3_4 := qa0 (V3_3.out.later hb)
      have V5_4 := qa0 (V5_3.out.later hb)
      have CP_4 := qa0 (CP_3.out.later hb)
      have BV_4 := qa0 (BV_3.out.later hb)
      have P9_4 := qa0 (P9_3.out.later hb)
      have P7_4 : Hid (Vf x4 x3.heap.size 28 #[.slice none 0 0, .slice none 0 0, .slice none 0 0]) := by { show Vf _ _ _ _; rw [← hw.out]; exact Vf.new _ _ _ }
      clear hw hb
      have HD_4 : Hid ((fun w' => (w'.cell? ⟨w.heap.size, 0, none⟩ = some (.slice a ni p) ∧ w'.cell? ⟨w.heap.size, 1, none⟩ = some (.slice b nn q) ∧ w'.cell? ⟨w.heap.size, 2, none⟩ = some (.slice c no r)) ∧ w'.cell? ⟨w.heap.size + 1, 0, none⟩ = some (.int .i64 r3) ∧ w'.cell? ⟨w.heap.size + 1, 1, none⟩ = some (.int .i64 c3) ∧ w'.cell? ⟨w.heap.size + 1, 2, none⟩ = some (.slice a3 n3 k3)) x4) := ⟨⟨V3_4.out.cell 0 (.slice a ni p) rfl, V3_4.out.cell 1 (.slice b nn q) rfl, V3_4.out.cell 2 (.slice c no r) rfl⟩, V5_4.out.cell 0 (.int .i64 r3) rfl, V5_4.out.cell 1 (.int .i64 c3) rfl, V5_4.out.cell 2 (.slice a3 n3 k3) rfl⟩
      clear HD_3 HL_3 V3_3 V5_3 CP_3 BV_3 P9_3
      refine hK.out _ _ HD_4.out (fun _ => ?_)
      clear hK K
      try simp only [mz1, mz2, mz3, Act.put, mz4, mz5, mz6]
      refine wpAnyH_ready (rs := [5]) (by kernel_rfl) (by simp) ?_
      refine AllReadyH.cons rfl (fun K hK => ?_) AllReadyH.nil
      ·go_simp
       refine (HCm.out x4 HL_4.out).mono ?_
       rintro e x5 ⟨s9, d9, rfl, ho, hb⟩
       have hz_5 : x4.heap.size ≤ x5.heap.size := hb.size
       have HL_5 := qa0 (jtwo HL_4.out hb)
       have V3_5 := qa0 (V3_4.out.later hb)
       have V5_5 := qa0 (V5_4.out.later hb)
       have CP_5 := qa0 (CP_4.out.later hb)
       have BV_5 := qa0 (BV_4.out.later hb)
       have P9_5 := qa0 (P9_4.out.later hb)
       have P7_5 := qa0 (P7_4.out.later hb)
       have MR_5 := qa0 (MrE.of ho)
       clear ho hb
       have HD_5 : Hid ((fun w' => (w'.cell? ⟨w.heap.size, 0, none⟩ = some (.slice a ni p) ∧ w'.cell? ⟨w.heap.size, 1, none⟩ = some (.slice b nn q) ∧ w'.cell? ⟨w.heap.size, 2, none⟩ = some (.slice c no r)) ∧ w'.cell? ⟨w.heap.size + 1, 0, none⟩ = some (.int .i64 r3) ∧ w'.cell? ⟨w.heap.size + 1, 1, none⟩ = some (.int .i64 c3) ∧ w'.cell? ⟨w.heap.size + 1, 2, none⟩ = some (.slice a3 n3 k3)) x5) := ⟨⟨V3_5.out.cell 0 (.slice a ni p) rfl, V3_5.out.cell 1 (.slice b nn q) rfl, V3_5.out.cell 2 (.slice c no r) rfl⟩, V5_5.out.cell 0 (.int .i64 r3) rfl, V5_5.out.cell 1 (.int .i64 c3) rfl, V5_5.out.cell 2 (.slice a3 n3 k3) rfl⟩
       clear HD_4 HL_4 V3_4 V5_4 CP_4 BV_4 P9_4 P7_4
       refine hK.out _ _ HD_5.out (fun _ => ?_)
       clear hK K
       try simp only [mz1, mz2, mz3, Act.put, mz4, mz5, mz6]
       refine wpAnyH_ready (rs := [8]) (by kernel_rfl) (by simp) ?_
       refine AllReadyH.cons rfl (fun K hK => ?_) AllReadyH.nil
       refine qa1 rfl 28 _ _ rfl x3.heap.size _ #[.slice a1 ni q1, .slice b1 nn q2, .slice c1 no q3] rfl rfl P7_5.out sizeFl rfl (qan _ _ _ _ _ _ _ _ _) ?_
       intro x8 HV8 HG8
       have HP := qa0 (CsP.one V3_5.out V5_5.out P7_5.out P9_5.out CP_5.out BV_5.out MR_5.out HL_5.out HV8.out HG8.out (by omega) (by omega) (by omega))
       refine hK.out _ _ ⟨⟨HP.out.v3.cell 0 (.slice a ni p) rfl, HP.out.v3.cell 1 (.slice b nn q) rfl, HP.out.v3.cell 2 (.slice c no r) rfl⟩, HP.out.v5.cell 0 (.int .i64 r3) rfl, HP.out.v5.cell 1 (.int .i64 c3) rfl, HP.out.v5.cell 2 (.slice a3 n3 k3) rfl⟩ (fun _ => ?_)
       clear hK K
       try simp only [mz1, mz2, mz3, Act.put]
       refine wtkq 9 ?vt9_9 rfl (by kernel_rfl) (fun _ _ _ h => h) (by rfl) ?yt9_9 ⟨⟨HP.out.v3.cell 0 (.slice a ni p) rfl, HP.out.v3.cell 1 (.slice b nn q) rfl, HP.out.v3.cell 2 (.slice c no r) rfl⟩, HP.out.v5.cell 0 (.int .i64 r3) rfl, HP.out.v5.cell 1 (.int .i64 c3) rfl, HP.out.v5.cell 2 (.slice a3 n3 k3) rfl⟩ ?zt9_9
       case yt9_9 => (intro w hSw; (try dsimp only at hSw); go_simp; try with_reducible rfl)
       try simp only [mz1, mz2, mz3, Act.put, mz4, mz5, mz6]
       refine wpAnyH_done (by kernel_rfl) ?_ _
       refine qa3 rfl (fun K hK => ?_)
       refine qa1 rfl 24 _ _ rfl x2.heap.size _ #[.int .i64 r3, .int .i64 c3, .slice s9 n3 d9] rfl rfl HP.out.p9 qak rfl (qau _ _ _ _ _) ?_
       intro x9 HV9 HG9
       refine hK.out _ _ ?_
       clear hK K
       try simp only [mz1, mz2, mz3, Act.put]
       go_wp2_with fail
       go_meet
       case rel => exact ⟨_, _, a1, q1, b1, q2, c1, q3, sl, dl, s9, d9, rfl, rfl, rfl, HP.out.fin HV9.out HG9.out (by omega) (by omega)⟩
   ·go_simp
    obtain ⟨x2, hw⟩ : ∃ x, Hid (x1.alloc (.cells #[.slice none 0 0, .slice none 0 0, .slice none 0 0] 28) = x) := ⟨_, rfl⟩
    rw [hw.out]
    have hb : Below x1.heap.size x1 x2 := by rw [← hw.out]; exact jlow _ _
    have hz_2 : x1.heap.size < x2.heap.size := by rw [← hw.out]; simp
    have HL_2 := qa0 (jtwo HL_1.out hb)
    have V3_2 := qa0 (V3_1.out.later hb)
    have V5_2 := qa0 (V5_1.out.later hb)
    have CP_2 := qa0 (CP_1.out.later hb)
    have P7_2 : Hid (Vf x2 x1.heap.size 28 #[.slice none 0 0, .slice none 0 0, .slice none 0 0]) := by { show Vf _ _ _ _; rw [← hw.out]; exact Vf.new _ _ _ }
    clear hw hb
    have HD_2 : Hid ((fun w' => (w'.cell? ⟨w.heap.size, 0, none⟩ = some (.slice a ni p) ∧ w'.cell? ⟨w.heap.size, 1, none⟩ = some (.slice b nn q) ∧ w'.cell? ⟨w.heap.size, 2, none⟩ = some (.slice c no r)) ∧ w'.cell? ⟨w.heap.size + 1, 0, none⟩ = some (.int .i64 r3) ∧ w'.cell? ⟨w.heap.size + 1, 1, none⟩ = some (.int .i64 c3) ∧ w'.cell? ⟨w.heap.size + 1, 2, none⟩ = some (.slice a3 n3 k3)) x2) := ⟨⟨V3_2.out.cell 0 (.slice a ni p) rfl, V3_2.out.cell 1 (.slice b nn q) rfl, V3_2.out.cell 2 (.slice c no r) rfl⟩, V5_2.out.cell 0 (.int .i64 r3) rfl, V5_2.out.cell 1 (.int .i64 c3) rfl, V5_2.out.cell 2 (.slice a3 n3 k3) rfl⟩
    clear HD_1 HL_1 V3_1 V5_1 CP_1
    refine hK.out _ _ HD_2.out (fun _ => ?_)
    clear hK K
    try simp only [mz1, mz2, mz3, Act.put, mz4, mz5, mz6]
    refine wpAnyH_ready (rs := [3, 7]) (by kernel_rfl) (by simp) ?_
    refine AllReadyH.cons rfl (fun K hK => ?_) (AllReadyH.cons rfl (fun K hK => ?_) AllReadyH.nil)
    ·go_simp
     refine (HCb.out x2 HL_2.out).mono ?_
     rintro e x3 ⟨⟨v, rfl, hv⟩, hb⟩
     obtain ⟨sl, dl, rfl, -⟩ := hv.form
     have hz_3 : x2.heap.size ≤ x3.heap.size := hb.size
     have HL_3 := qa0 (jtwo HL_2.out hb)
     have V3_3 := qa0 (V3_2.out.later hb)
     have V5_3 := qa0 (V5_2.out.later hb)
     have CP_3 := qa0 (CP_2.out.later hb)
     have P7_3 := qa0 (P7_2.out.later hb)
     have BV_3 := qa0 (BvE.of hv)
     clear hv hb
     have HD_3 : Hid ((fun w' => (w'.cell? ⟨w.heap.size, 0, none⟩ = some (.slice a ni p) ∧ w'.cell? ⟨w.heap.size, 1, none⟩ = some (.slice b nn q) ∧ w'.cell? ⟨w.heap.size, 2, none⟩ = some (.slice c no r)) ∧ w'.cell? ⟨w.heap.size + 1, 0, none⟩ = some (.int .i64 r3) ∧ w'.cell? ⟨w.heap.size + 1, 1, none⟩ = some (.int .i64 c3) ∧ w'.cell? ⟨w.heap.size + 1, 2, none⟩ = some (.slice a3 n3 k3)) x3) := ⟨⟨V3_3.out.cell 0 (.slice a ni p) rfl, V3_3.out.cell 1 (.slice b nn q) rfl, V3_3.out.cell 2 (.slice c no r) rfl⟩, V5_3.out.cell 0 (.int .i64 r3) rfl, V5_3.out.cell 1 (.int .i64 c3) rfl, V5_3.out.cell 2 (.slice a3 n3 k3) rfl⟩
     clear HD_2 HL_2 V3_2 V5_2 CP_2 P7_2
     refine hK.out _ _ HD_3.out (fun _ => ?_)
     clear hK K
     try simp only [mz1, mz2, mz3, Act.put, mz4, mz5, mz6]
     refine wpAnyH_ready (rs := [5, 7]) (by kernel_rfl) (by simp) ?_
     refine AllReadyH.cons rfl (fun K hK => ?_) (AllReadyH.cons rfl (fun K hK => ?_) AllReadyH.nil)
     ·go_simp
      refine (HCm.out x3 HL_3.out).mono ?_
      rintro e x4 ⟨s9, d9, rfl, ho, hb⟩
      have hz_4 : x3.heap.size ≤ x4.heap.size := hb.size
      have HL_4 := qa0 (jtwo HL_3.out hb)
      have V3_4 := qa0 (V3_3.out.later hb)
      have V5_4 := qa0 (V5_3.out.later hb)
      have CP_4 := qa0 (CP_3.out.later hb)
      have P7_4 := qa0 (P7_3.out.later hb)
      have BV_4 := qa0 (BV_3.out.later hb)
      have MR_4 := qa0 (MrE.of ho)
      clear ho hb
      have HD_4 : Hid ((fun w' => (w'.cell? ⟨w.heap.size, 0, none⟩ = some (.slice a ni p) ∧ w'.cell? ⟨w.heap.size, 1, none⟩ = some (.slice b nn q) ∧ w'.cell? ⟨w.heap.size, 2, none⟩ = some (.slice c no r)) ∧ w'.cell? ⟨w.heap.size + 1, 0, none⟩ = some (.int .i64 r3) ∧ w'.cell? ⟨w.heap.size + 1, 1, none⟩ = some (.int .i64 c3) ∧ w'.cell? ⟨w.heap.size + 1, 2, none⟩ = some (.slice a3 n3 k3)) x4) := ⟨⟨V3_4.out.cell 0 (.slice a ni p) rfl, V3_4.out.cell 1 (.slice b nn q) rfl, V3_4.out.cell 2 (.slice c no r) rfl⟩, V5_4.out.cell 0 (.int .i64 r3) rfl, V5_4.out.cell 1 (.int .i64 c3) rfl, V5_4.out.cell 2 (.slice a3 n3 k3) rfl⟩
      clear HD_3 HL_3 V3_3 V5_3 CP_3 P7_3 BV_3
      refine hK.out _ _ HD_4.out (fun _ => ?_)
      clear hK K
      try simp only [mz1, mz2, mz3, Act.put, mz4, mz5, mz6]
      refine wpAnyH_ready (rs := [7]) (by kernel_rfl) (by simp) ?_
      refine AllReadyH.cons rfl (fun K hK => ?_) AllReadyH.nil
      ·go_simp
       obtain ⟨x5, hw⟩ : ∃ x, Hid (x4.alloc (.cells #[.int .i64 0, .int .i64 0, .slice none 0 0] 24) = x) := ⟨_, rfl⟩
       rw [hw.out]
       have hb : Below x4.heap.size x4 x5 := by rw [← hw.out]; exact jlow _ _
       have hz_5 : x4.heap.size < x5.heap.size := by rw [← hw.out]; simp
       have HL_5 := qa0 (jtwo HL_4.out hb)
       have V3_5 := qa0 (V3_4.out.later hb)
       have V5_5 := qa0 (V5_4.out.later hb)
       have CP_5 := qa0 (CP_4.out.later hb)
       have P7_5 := qa0 (P7_4.out.later hb)
       have BV_5 := qa0 (BV_4.out.later hb)
       have MR_5 := qa0 (MR_4.out.later hb)
       have P9_5 : Hid (Vf x5 x4.heap.size 24 #[.int .i64 0, .int .i64 0, .slice none 0 0]) := by { show Vf _ _ _ _; rw [← hw.out]; exact Vf.new _ _ _ }
       clear hw hb
       have HD_5 : Hid ((fun w' => (w'.cell? ⟨w.heap.size, 0, none⟩ = some (.slice a ni p) ∧ w'.cell? ⟨w.heap.size, 1, none⟩ = some (.slice b nn q) ∧ w'.cell? ⟨w.heap.size, 2, none⟩ = some (.slice c no r)) ∧ w'.cell? ⟨w.heap.size + 1, 0, none⟩ = some (.int .i64 r3) ∧ w'.cell? ⟨w.heap.size + 1, 1, none⟩ = some (.int .i64 c3) ∧ w'.cell? ⟨w.heap.size + 1, 2, none⟩ = some (.slice a3 n3 k3)) x5) := ⟨⟨V3_5.out.cell 0 (.slice a ni p) rfl, V3_5.out.cell 1 (.slice b nn q) rfl, V3_5.out.cell 2 (.slice c no r) rfl⟩, V5_5.out.cell 0 (.int .i64 r3) rfl, V5_5.out.cell 1 (.int .i64 c3) rfl, V5_5.out.cell 2 (.slice a3 n3 k3) rfl⟩
       clear HD_4 HL_4 V3_4 V5_4 CP_4 P7_4 BV_4 MR_4
       refine hK.out _ _ HD_5.out (fun _ => ?_)
       clear hK K
       try simp only [mz1, mz2, mz3, Act.put, mz4, mz5, mz6]
       refine wpAnyH_ready (rs := [8]) (by kernel_rfl) (by simp) ?_
       refine AllReadyH.cons rfl (fun K hK => ?_) AllReadyH.nil
       refine qa1 rfl 28 _ _ rfl x1.heap.size _ #[.slice a1 ni q1, .slice b1 nn q2, .slice c1 no q3] rfl rfl P7_5.out sizeFl rfl (qan _ _ _ _ _ _ _ _ _) ?_
       intro x8 HV8 HG8
       have HP := qa0 (CsP.one V3_5.out V5_5.out P7_5.out P9_5.out CP_5.out BV_5.out MR_5.out HL_5.out HV8.out HG8.out (by omega) (by omega) (by omega))
       refine hK.out _ _ ⟨⟨HP.out.v3.cell 0 (.slice a ni p) rfl, HP.out.v3.cell 1 (.slice b nn q) rfl, HP.out.v3.cell 2 (.slice c no r) rfl⟩, HP.out.v5.cell 0 (.int .i64 r3) rfl, HP.out.v5.cell 1 (.int .i64 c3) rfl, HP.out.v5.cell 2 (.slice a3 n3 k3) rfl⟩ (fun _ => ?_)
       clear hK K
       try simp only [mz1, mz2, mz3, Act.put]
       refine wtkq 9 ?vt9_10 rfl (by kernel_rfl) (fun _ _ _ h => h) (by rfl) ?yt9_10 ⟨⟨HP.out.v3.cell 0 (.slice a ni p) rfl, HP.out.v3.cell 1 (.slice b nn q) rfl, HP.out.v3.cell 2 (.slice c no r) rfl⟩, HP.out.v5.cell 0 (.int .i64 r3) rfl, HP.out.v5.cell 1 (.int .i64 c3) rfl, HP.out.v5.cell 2 (.slice a3 n3 k3) rfl⟩ ?zt9_10
       case yt9_10 => (intro w hSw; (try dsimp only at hSw); go_simp; try with_reducible rfl)
       try simp only [mz1, mz2, mz3, Act.put, mz4, mz5, mz6]
       refine wpAnyH_done (by kernel_rfl) ?_ _
       refine qa3 rfl (fun K hK => ?_)
       refine qa1 rfl 24 _ _ rfl x4.heap.size _ #[.int .i64 r3, .int .i64 c3, .slice s9 n3 d9] rfl rfl HP.out.p9 qak rfl (qau _ _ _ _ _) ?_
       intro x9 HV9 HG9
       refine hK.out _ _ ?_
       clear hK K
       try simp only [mz1, mz2, mz3, Act.put]
       go_wp2_with fail
       go_meet
       case rel => exact ⟨_, _, a1, q1, b1, q2, c1, q3, sl, dl, s9, d9, rfl, rfl, rfl, HP.out.fin HV9.out HG9.out (by omega) (by omega)⟩
     ·go_simp
      obtain ⟨x4, hw⟩ : ∃ x, Hid (x3.alloc (.cells #[.int .i64 0, .int .i64 0, .slice none 0 0] 24) = x) := ⟨_, rfl⟩
      rw [hw.out]
      have hb : Below x3.heap.size x3 x4 := by rw [← hw.out]; exact jlow _ _
      have hz_4 : x3.heap.size < x4.heap.size := by rw [← hw.out]; simp
      have HL_4 := qa0 (jtwo HL_3.out hb)
      have V3_4 := qa0 (V3_3.out.later hb)
      have V5_4 := qa0 (V5_3.out.later hb)
      have CP_4 := qa0 (CP_3.out.later hb)
      have P7_4 := qa0 (P7_3.out.later hb)
      have BV_4 := qa0 (BV_3.out.later hb)
      have P9_4 : Hid (Vf x4 x3.heap.size 24 #[.int .i64 0, .int .i64 0, .slice none 0 0]) := by { show Vf _ _ _ _; rw [← hw.out]; exact Vf.new _ _ _ }
      clear hw hb
      have HD_4 : Hid ((fun w' => (w'.cell? ⟨w.heap.size, 0, none⟩ = some (.slice a ni p) ∧ w'.cell? ⟨w.heap.size, 1, none⟩ = some (.slice b nn q) ∧ w'.cell? ⟨w.heap.size, 2, none⟩ = some (.slice c no r)) ∧ w'.cell? ⟨w.heap.size + 1, 0, none⟩ = some (.int .i64 r3) ∧ w'.cell? ⟨w.heap.size + 1, 1, none⟩ = some (.int .i64 c3) ∧ w'.cell? ⟨w.heap.size + 1, 2, none⟩ = some (.slice a3 n3 k3)) x4) := ⟨⟨V3_4.out.cell 0 (.slice a ni p) rfl, V3_4.out.cell 1 (.slice b nn q) rfl, V3_4.out.cell 2 (.slice c no r) rfl⟩, V5_4.out.cell 0 (.int .i64 r3) rfl, V5_4.out.cell 1 (.int .i64 c3) rfl, V5_4.out.cell 2 (.slice a3 n3 k3) rfl⟩
      clear HD_3 HL_3 V3_3 V5_3 CP_3 P7_3 BV_3
      refine hK.out _ _ HD_4.out (fun _ => ?_)
      clear hK K
      try simp only [mz1, mz2, mz3, Act.put, mz4, mz5, mz6]
      refine wpAnyH_ready (rs := [5]) (by kernel_rfl) (by simp) ?_
      refine AllReadyH.cons rfl (fun K hK => ?_) AllReadyH.nil
      ·go_simp
       refine (HCm.out x4 HL_4.out).mono ?_
       rintro e x5 ⟨s9, d9, rfl, ho, hb⟩
       have hz_5 : x4.heap.size ≤ x5.heap.size := hb.size
       have HL_5 := qa0 (jtwo HL_4.out hb)
       have V3_5 := qa0 (V3_4.out.later hb)
       have V5_5 := qa0 (V5_4.out.later hb)
       have CP_5 := qa0 (CP_4.out.later hb)
       have P7_5 := qa0 (P7_4.out.later hb)
       have BV_5 := qa0 (BV_4.out.later hb)
       have P9_5 := qa0 (P9_4.out.later hb)
       have MR_5 := qa0 (MrE.of ho)
       clear ho hb
       have HD_5 : Hid ((fun w' => (w'.cell? ⟨w.heap.size, 0, none⟩ = some (.slice a ni p) ∧ w'.cell? ⟨w.heap.size, 1, none⟩ = some (.slice b nn q) ∧ w'.cell? ⟨w.heap.size, 2, none⟩ = some (.slice c no r)) ∧ w'.cell? ⟨w.heap.size + 1, 0, none⟩ = some (.int .i64 r3) ∧ w'.cell? ⟨w.heap.size + 1, 1, none⟩ = some (.int .i64 c3) ∧ w'.cell? ⟨w.heap.size + 1, 2, none⟩ = some (.slice a3 n3 k3)) x5) := ⟨⟨V3_5.out.cell 0 (.slice a ni p) rfl, V3_5.out.cell 1 (.slice b nn q) rfl, V3_5.out.cell 2 (.slice c no r) rfl⟩, V5_5.out.cell 0 (.int .i64 r3) rfl, V5_5.out.cell 1 (.int .i64 c3) rfl, V5_5.out.cell 2 (.slice a3 n3 k3) rfl⟩
       clear HD_4 HL_4 V3_4 V5_4 CP_4 P7_4 BV_4 P9_4
       refine hK.out _ _ HD_5.out (fun _ => ?_)
       clear hK K
       try simp only [mz1, mz2, mz3, Act.put, mz4, mz5, mz6]
       refine wpAnyH_ready (rs := [8]) (by kernel_rfl) (by simp) ?_
       refine AllReadyH.cons rfl (fun K hK => ?_) AllReadyH.nil
       refine qa1 rfl 28 _ _ rfl x1.heap.size _ #[.slice a1 ni q1, .slice b1 nn q2, .slice c1 no q3] rfl rfl P7_5.out sizeFl rfl (qan _ _ _ _ _ _ _ _ _) ?_
       intro x8 HV8 HG8
       have HP := qa0 (CsP.one V3_5.out V5_5.out P7_5.out P9_5.out CP_5.out BV_5.out MR_5.out HL_5.out HV8.out HG8.out (by omega) (by omega) (by omega))
       refine hK.out _ _ ⟨⟨HP.out.v3.cell 0 (.slice a ni p) rfl, HP.out.v3.cell 1 (.slice b nn q) rfl, HP.out.v3.cell 2 (.slice c no r) rfl⟩, HP.out.v5.cell 0 (.int .i64 r3) rfl, HP.out.v5.cell 1 (.int .i64 c3) rfl, HP.out.v5.cell 2 (.slice a3 n3 k3) rfl⟩ (fun _ => ?_)
       clear hK K
       try simp only [mz1, mz2, mz3, Act.put]
       refine wtkq 9 ?vt9_11 rfl (by kernel_rfl) (fun _ _ _ h => h) (by rfl) ?yt9_11 ⟨⟨HP.out.v3.cell 0 (.slice a ni p) rfl, HP.out.v3.cell 1 (.slice b nn q) rfl, HP.out.v3.cell 2 (.slice c no r) rfl⟩, HP.out.v5.cell 0 (.int .i64 r3) rfl, HP.out.v5.cell 1 (.int .i64 c3) rfl, HP.out.v5.cell 2 (.slice a3 n3 k3) rfl⟩ ?zt9_11
       case yt9_11 => (intro w hSw; (try dsimp only at hSw); go_simp; try with_reducible rfl)
       try simp only [mz1, mz2, mz3, Act.put, mz4, mz5, mz6]
       refine wpAnyH_done (by kernel_rfl) ?_ _
       refine qa3 rfl (fun K hK => ?_)
       refine qa1 rfl 24 _ _ rfl x3.heap.size _ #[.int .i64 r3, .int .i64 c3, .slice s9 n3 d9] rfl rfl HP.out.p9 qak rfl (qau _ _ _ _ _) ?_
       intro x9 HV9 HG9
       refine hK.out _ _ ?_
       clear hK K
       try simp only [mz1, mz2, mz3, Act.put]
       go_wp2_with fail
       go_meet
       case rel => exact ⟨_, _, a1, q1, b1, q2, c1, q3, sl, dl, s9, d9, rfl, rfl, rfl, HP.out.fin HV9.out HG9.out (by omega) (by omega)⟩
    ·go_simp
     obtain ⟨x3, hw⟩ : ∃ x, Hid (x2.alloc (.cells #[.int .i64 0, .int .i64 0, .slice none 0 0] 24) = x) := ⟨_, rfl⟩
     rw [hw.out]
     have hb : Below x2.heap.size x2 x3 := by rw [← hw.out]; exact jlow _ _
     have hz_3 : x2.heap.size < x3.heap.size := by rw [← hw.out]; simp
     have HL_3 := qa0 (jtwo HL_2.out hb)
     have V3_3 := qa0 (V3_2.out.later hb)
     have V5_3 := qa0 (V5_2.out.later hb)
     have CP_3 := qa0 (CP_2.out.later hb)
     have P7_3 := qa0 (P7_2.out.later hb)
     have P9_3 : Hid (Vf x3 x2.heap.size 24 #[.int .i64 0, .int .i64 0, .slice none 0 0]) := by { show Vf _ _ _ _; rw [← hw.out]; exact Vf.new _ _ _ }
     clear hw hb
     have HD_3 : Hid ((fun w' => (w'.cell? ⟨w.heap.size, 0, none⟩ = some (.slice a ni p) ∧ w'.cell? ⟨w.heap.size, 1, none⟩ = some (.slice b nn q) ∧ w'.cell? ⟨w.heap.size, 2, none⟩ = some (.slice c no r)) ∧ w'.cell? ⟨w.heap.size + 1, 0, none⟩ = some (.int .i64 r3) ∧ w'.cell? ⟨w.heap.size + 1, 1, none⟩ = some (.int .i64 c3) ∧ w'.cell? ⟨w.heap.size + 1, 2, none⟩ = some (.slice a3 n3 k3)) x3) := ⟨⟨V3_3.out.cell 0 (.slice a ni p) rfl, V3_3.out.cell 1 (.slice b nn q) rfl, V3_3.out.cell 2 (.slice c no r) rfl⟩, V5_3.out.cell 0 (.int .i64 r3) rfl, V5_3.out.cell 1 (.int .i64 c3) rfl, V5_3.out.cell 2 (.slice a3 n3 k3) rfl⟩
     clear HD_2 HL_2 V3_2 V5_2 CP_2 P7_2
     refine hK.out _ _ HD_3.out (fun _ => ?_)
     clear hK K
     try simp only [mz1, mz2, mz3, Act.put, mz4, mz5, mz6]
     refine wpAnyH_ready (rs := [3]) (by kernel_rfl) (by simp) ?_
     refine AllReadyH.cons rfl (fun K hK => ?_) AllReadyH.nil
     ·go_simp
      refine (HCb.out x3 HL_3.out).mono ?_
      rintro e x4 ⟨⟨v, rfl, hv⟩, hb⟩
      obtain ⟨sl, dl, rfl, -⟩ := hv.form
      have hz_4 : x3.heap.size ≤ x4.heap.size := hb.size
      have HL_4 := qa0 (jtwo HL_3.out hb)
      have V3_4 := qa0 (V3_3.out.later hb)
      have V5_4 := qa0 (V5_3.out.later hb)
      have CP_4 := qa0 (CP_3.out.later hb)
      have P7_4 := qa0 (P7_3.out.later hb)
      have P9_4 := qa0 (P9_3.out.later hb)
      have BV_4 := qa0 (BvE.of hv)
      clear hv hb
      have HD_4 : Hid ((fun w' => (w'.cell? ⟨w.heap.size, 0, none⟩ = some (.slice a ni p) ∧ w'.cell? ⟨w.heap.size, 1, none⟩ = some (.slice b nn q) ∧ w'.cell? ⟨w.heap.size, 2, none⟩ = some (.slice c no r)) ∧ w'.cell? ⟨w.heap.size + 1, 0, none⟩ = some (.int .i64 r3) ∧ w'.cell? ⟨w.heap.size + 1, 1, none⟩ = some (.int .i64 c3) ∧ w'.cell? ⟨w.heap.size + 1, 2, none⟩ = some (.slice a3 n3 k3)) x4) := ⟨⟨V3_4.out.cell 0 (.slice a ni p) rfl, V3_4.out.cell 1 (.slice b nn q) rfl, V3_4.out.cell 2 (.slice c no r) rfl⟩, V5_4.out.cell 0 (.int .i64 r3) rfl, V5_4.out.cell 1 (.int .i64 c3) rfl, V5_4.out.cell 2 (.slice a3 n3 k3) rfl⟩
      clear HD_3 HL_3 V3_3 V5_3 CP_3 P7_3 P9_3
      refine hK.out _ _ HD_4.out (fun _ => ?_)
      clear hK K
      try simp only [mz1, mz2, mz3, Act.put, mz4, mz5, mz6]
      refine wpAnyH_ready (rs := [5]) (by kernel_rfl) (by simp) ?_
      refine AllReadyH.cons rfl (fun K hK => ?_) AllReadyH.nil
      ·go_simp
       refine (HCm.out x4 HL_4.out).mono ?_
       rintro e x5 ⟨s9, d9, rfl, ho, hb⟩
       have hz_5 : x4.heap.size ≤ x5.heap.size := hb.size
       have HL_5 := qa0 (jtwo HL_4.out hb)
       have V3_5 := qa0 (V3_4.out.later hb)
       have V5_5 := qa0 (V5_4.out.later hb)
       have CP_5 := qa0 (CP_4.out.later hb)
       have P7_5 := qa0 (P7_4.out.later hb)
       have P9_5 := qa0 (P9_4.out.later hb)
       have BV_5 := qa0 (BV_4.out.later hb)
       have MR_5 := qa0 (MrE.of ho)
       clear ho hb
       have HD_5 : Hid ((fun w' => (w'.cell? ⟨w.heap.size, 0, none⟩ = some (.slice a ni p) ∧ w'.cell? ⟨w.heap.size, 1, none⟩ = some (.slice b nn q) ∧ w'.cell? ⟨w.heap.size, 2, none⟩ = some (.slice c no r)) ∧ w'.cell? ⟨w.heap.size + 1, 0, none⟩ = some (.int .i64 r3) ∧ w'.cell? ⟨w.heap.size + 1, 1, none⟩ = some (.int .i64 c3) ∧ w'.cell? ⟨w.heap.size + 1, 2, none⟩ = some (.slice a3 n3 k3)) x5) := ⟨⟨V3_5.out.cell 0 (.slice a ni p) rfl, V3_5.out.cell 1 (.slice b nn q) rfl, V3_5.out.cell 2 (.slice c no r) rfl⟩, V5_5.out.cell 0 (.int .i64 r3) rfl, V5_5.out.cell 1 (.int .i64 c3) rfl, V5_5.out.cell 2 (.slice a3 n3 k3) rfl⟩
       clear HD_4 HL_4 V3_4 V5_4 CP_4 P7_4 P9_4 BV_4
       refine hK.out _ _ HD_5.out (fun _ => ?_)
       clear hK K
       try simp only [mz1, mz2, mz3, Act.put, mz4, mz5, mz6]
       refine wpAnyH_ready (rs := [8]) (by kernel_rfl) (by simp) ?_
       refine AllReadyH.cons rfl (fun K hK => ?_) AllReadyH.nil
       refine qa1 rfl 28 _ _ rfl x1.heap.size _ #[.slice a1 ni q1, .slice b1 nn q2, .slice c1 no q3] rfl rfl P7_5.out sizeFl rfl (qan _ _ _ _ _ _ _ _ _) ?_
       intro x8 HV8 HG8
       have HP := qa0 (CsP.one V3_5.out V5_5.out P7_5.out P9_5.out CP_5.out BV_5.out MR_5.out HL_5.out HV8.out HG8.out (by omega) (by omega) (by omega))
       refine hK.out _ _ ⟨⟨HP.out.v3.cell 0 (.slice a ni p) rfl, HP.out.v3.cell 1 (.slice b nn q) rfl, HP.out.v3.cell 2 (.slice c no r) rfl⟩, HP.out.v5.cell 0 (.int .i64 r3) rfl, HP.out.v5.cell 1 (.int .i64 c3) rfl, HP.out.v5.cell 2 (.slice a3 n3 k3) rfl⟩ (fun _ => ?_)
       clear hK K
       try simp only [mz1, mz2, mz3, Act.put]
       refine wtkq 9 ?vt9_12 rfl (by kernel_rfl) (fun _ _ _ h => h) (by rfl) ?yt9_12 ⟨⟨HP.out.v3.cell 0 (.slice a ni p) rfl, HP.out.v3.cell 1 (.slice b nn q) rfl, HP.out.v3.cell 2 (.slice c no r) rfl⟩, HP.out.v5.cell 0 (.int .i64 r3) rfl, HP.out.v5.cell 1 (.int .i64 c3) rfl, HP.out.v5.cell 2 (.slice a3 n3 k3) rfl⟩ ?zt9_12
       case yt9_12 => (intro w hSw; (try dsimp only at hSw); go_simp; try with_reducible rfl)
       try simp only [mz1, mz2, mz3, Act.put, mz4, mz5, mz6]
       refine wpAnyH_done (by kernel_rfl) ?_ _
       refine qa3 rfl (fun K hK => ?_)
       refine qa1 rfl 24 _ _ rfl x2.heap.size _ #[.int .i64 r3, .int .i64 c3, .slice s9 n3 d9] rfl rfl HP.out.p9 qak rfl (qau _ _ _ _ _) ?_
       intro x9 HV9 HG9
       refine hK.out _ _ ?_
       clear hK K
       try simp only [mz1, mz2, mz3, Act.put]
       go_wp2_with fail
       go_meet
       case rel => exact ⟨_, _, a1, q1, b1, q2, c1, q3, sl, dl, s9, d9, rfl, rfl, rfl, HP.out.fin HV9.out HG9.out (by omega) (by omega)⟩
   ·go_simp
    obtain ⟨x2, hw⟩ : ∃ x, Hid (x1.alloc (.cells #[.int .i64 0, .int .i64 0, .slice none 0 0] 24) = x) := ⟨_, rfl⟩
    rw [hw.out]
    have hb : Below x1.heap.size x1 x2 := by rw [← hw.out]; exact jlow _ _
    have hz_2 : x1.heap.size < x2.heap.size := by rw [← hw.out]; simp
    have HL_2 := qa0 (jtwo HL_1.out hb)
    have V3_2 := qa0 (V3_1.out.later hb)
    have V5_2 := qa0 (V5_1.out.later hb)
    have CP_2 := qa0 (CP_1.out.later hb)
    have P9_2 : Hid (Vf x2 x1.heap.size 24 #[.int .i64 0, .int .i64 0, .slice none 0 0]) := by { show Vf _ _ _ _; rw [← hw.out]; exact Vf.new _ _ _ }
    clear hw hb
    have HD_2 : Hid ((fun w' => (w'.cell? ⟨w.heap.size, 0, none⟩ = some (.slice a ni p) ∧ w'.cell? ⟨w.heap.size, 1, none⟩ = some (.slice b nn q) ∧ w'.cell? ⟨w.heap.size, 2, none⟩ = some (.slice c no r)) ∧ w'.cell? ⟨w.heap.size + 1, 0, none⟩ = some (.int .i64 r3) ∧ w'.cell? ⟨w.heap.size + 1, 1, none⟩ = some (.int .i64 c3) ∧ w'.cell? ⟨w.heap.size + 1, 2, none⟩ = some (.slice a3 n3 k3)) x2) := ⟨⟨V3_2.out.cell 0 (.slice a ni p) rfl, V3_2.out.cell 1 (.slice b nn q) rfl, V3_2.out.cell 2 (.slice c no r) rfl⟩, V5_2.out.cell 0 (.int .i64 r3) rfl, V5_2.out.cell 1 (.int .i64 c3) rfl, V5_2.out.cell 2 (.slice a3 n3 k3) rfl⟩
    clear HD_1 HL_1 V3_1 V5_1 CP_1
    refine hK.out _ _ HD_2.out (fun _ => ?_)
    clear hK K
    try simp only [mz1, mz2, mz3, Act.put, mz4, mz5, mz6]
    refine wpAnyH_ready (rs := [3, 6]) (by kernel_rfl) (by simp) ?_
    refine AllReadyH.cons rfl (fun K hK => ?_) (AllReadyH.cons rfl (fun K hK => ?_) AllReadyH.nil)
    ·go_simp
     refine (HCb.out x2 HL_2.out).mono ?_
     rintro e x3 ⟨⟨v, rfl, hv⟩, hb⟩
     obtain ⟨sl, dl, rfl, -⟩ := hv.form
     have hz_3 : x2.heap.size ≤ x3.heap.size := hb.size
     have HL_3 := qa0 (jtwo HL_2.out hb)
     have V3_3 := qa0 (V3_2.out.later hb)
     have V5_3 := qa0 (V5_2.out.later hb)
     have CP_3 := qa0 (CP_2.out.later hb)
     have P9_3 := qa0 (P9_2.out.later hb)
     have BV_3 := qa0 (BvE.of hv)
     clear hv hb
     have HD_3 : Hid ((fun w' => (w'.cell? ⟨w.heap.size, 0, none⟩ = some (.slice a ni p) ∧ w'.cell? ⟨w.heap.size, 1, none⟩ = some (.slice b nn q) ∧ w'.cell? ⟨w.heap.size, 2, none⟩ = some (.slice c no r)) ∧ w'.cell? ⟨w.heap.size + 1, 0, none⟩ = some (.int .i64 r3) ∧ w'.cell? ⟨w.heap.size + 1, 1, none⟩ = some (.int .i64 c3) ∧ w'.cell? ⟨w.heap.size + 1, 2, none⟩ = some (.slice a3 n3 k3)) x3) := ⟨⟨V3_3.out.cell 0 (.slice a ni p) rfl, V3_3.out.cell 1 (.slice b nn q) rfl, V3_3.out.cell 2 (.slice c no r) rfl⟩, V5_3.out.cell 0 (.int .i64 r3) rfl, V5_3.out.cell 1 (.int .i64 c3) rfl, V5_3.out.cell 2 (.slice a3 n3 k3) rfl⟩
     clear HD_2 HL_2 V3_2 V5_2 CP_2 P9_2
     refine hK.out _ _ HD_3.out (fun _ => ?_)
     clear hK K
     try simp only [mz1, mz2, mz3, Act.put, mz4, mz5, mz6]
     refine wpAnyH_ready (rs := [5, 6]) (by kernel_rfl) (by simp) ?_
     refine AllReadyH.cons rfl (fun K hK => ?_) (AllReadyH.cons rfl (fun K hK => ?_) AllReadyH.nil)
     ·go_simp
      refine (HCm.out x3 HL_3.out).mono ?_
      rintro e x4 ⟨s9, d9, rfl, ho, hb⟩
      have hz_4 : x3.heap.size ≤ x4.heap.size := hb.size
      have HL_4 := qa0 (jtwo HL_3.out hb)
      have V3_4 := qa0 (V3_3.out.later hb)
      have V5_4 := qa0 (V5_3.out.later hb)
      have CP_4 := qa0 (CP_3.out.later hb)
      have P9_4 := qa0 (P9_3.out.later hb)
      have BV_4 := qa0 (BV_3.out.later hb)
      have MR_4 := qa0 (MrE.of ho)
      clear ho hb
      have HD_4 : Hid ((fun w' => (w'.cell? ⟨w.heap.size, 0, none⟩ = some (.slice a ni p) ∧ w'.cell? ⟨w.heap.size, 1, none⟩ = some (.slice b nn q) ∧ w'.cell? ⟨w.heap.size, 2, none⟩ = some (.slice c no r)) ∧ w'.cell? ⟨w.heap.size + 1, 0, none⟩ = some (.int .i64 r3) ∧ w'.cell? ⟨w.heap.size + 1, 1, none⟩ = some (.int .i64 c3) ∧ w'.cell? ⟨w.heap.size + 1, 2, none⟩ = some (.slice a3 n3 k3)) x4) := ⟨⟨V3_4.out.cell 0 (.slice a ni p) rfl, V3_4.out.cell 1 (.slice b nn q) rfl, V3_4.out.cell 2 (.slice c no r) rfl⟩, V5_4.out.cell 0 (.int .i64 r3) rfl, V5_4.out.cell 1 (.int .i64 c3) rfl, V5_4.out.cell 2 (.slice a3 n3 k3) rfl⟩
      clear HD_3 HL_3 V3_3 V5_3 CP_3 P9_3 BV_3
      refine hK.out _ _ HD_4.out (fun _ => ?_)
      clear hK K
      try simp only [mz1, mz2, mz3, Act.put, mz4, mz5, mz6]
      refine wpAnyH_ready (rs := [6]) (by kernel_rfl) (by simp) ?_
      refine AllReadyH.cons rfl (fun K hK => ?_) AllReadyH.nil
      ·go_simp
       obtain ⟨x5, hw⟩ : ∃ x, Hid (x4.alloc (.cells #[.slice none 0 0, .slice none 0 0, .slice none 0 0] 28) = x) := ⟨_, rfl⟩
       rw [hw.out]
       have hb : Below x4.heap.size x4 x5 := by rw [← hw.out]; exact jlow _ _
       have hz_5 : x4.heap.size < x5.heap.size := by rw [← hw.out]; simp
       have HL_5 := qa0 (jtwo HL_4.out hb)
       have V3_5 := qa0 (V3_4.out.later hb)
       have V5_5 := qa0 (V5_4.out.later hb)
       have CP_5 := qa0 (CP_4.out.later hb)
       have P9_5 := qa0 (P9_4.out.later hb)
       have BV_5 := qa0 (BV_4.out.later hb)
       have MR_5 := qa0 (MR_4.out.later hb)
       have P7_5 : Hid (Vf x5 x4.heap.size 28 #[.slice none 0 0, .slice none 0 0, .slice none 0 0]) := by { show Vf _ _ _ _; rw [← hw.out]; exact Vf.new _ _ _ }
       clear hw hb
       have HD_5 : Hid ((fun w' => (w'.cell? ⟨w.heap.size, 0, none⟩ = some (.slice a ni p) ∧ w'.cell? ⟨w.heap.size, 1, none⟩ = some (.slice b nn q) ∧ w'.cell? ⟨w.heap.size, 2, none⟩ = some (.slice c no r)) ∧ w'.cell? ⟨w.heap.size + 1, 0, none⟩ = some (.int .i64 r3) ∧ w'.cell? ⟨w.heap.size + 1, 1, none⟩ = some (.int .i64 c3) ∧ w'.cell? ⟨w.heap.size + 1, 2, none⟩ = some (.slice a3 n3 k3)) x5) := ⟨⟨V3_5.out.cell 0 (.slice a ni p) rfl, V3_5.out.cell 1 (.slice b nn q) rfl, V3_5.out.cell 2 (.slice c no r) rfl⟩, V5_5.out.cell 0 (.int .i64 r3) rfl, V5_5.out.cell 1 (.int .i64 c3) rfl, V5_5.out.cell 2 (.slice a3 n3 k3) rfl⟩
       clear HD_4 HL_4 V3_4 V5_4 CP_4 P9_4 BV_4 MR_4
       refine hK.out _ _ HD_5.out (fun _ => ?_)
       clear hK K
       try simp only [mz1, mz2, mz3, Act.put, mz4, mz5, mz6]
       refine wpAnyH_ready (rs := [8]) (by kernel_rfl) (by simp) ?_
       refine AllReadyH.cons rfl (fun K hK => ?_) AllReadyH.nil
       refine qa1 rfl 28 _ _ rfl x4.heap.size _ #[.slice a1 ni q1, .slice b1 nn q2, .slice c1 no q3] rfl rfl P7_5.out sizeFl rfl (qan _ _ _ _ _ _ _ _ _) ?_
       intro x8 HV8 HG8
       have HP := qa0 (CsP.one V3_5.out V5_5.out P7_5.out P9_5.out CP_5.out BV_5.out MR_5.out HL_5.out HV8.out HG8.out (by omega) (by omega) (by omega))
       refine hK.out _ _ ⟨⟨HP.out.v3.cell 0 (.slice a ni p) rfl, HP.out.v3.cell 1 (.slice b nn q) rfl, HP.out.v3.cell 2 (.slice c no r) rfl⟩, HP.out.v5.cell 0 (.int .i64 r3) rfl, HP.out.v5.cell 1 (.int .i64 c3) rfl, HP.out.v5.cell 2 (.slice a3 n3 k3) rfl⟩ (fun _ => ?_)
       clear hK K
       try simp only [mz1, mz2, mz3, Act.put]
       refine wtkq 9 ?vt9_13 rfl (by kernel_rfl) (fun _ _ _ h => h) (by rfl) ?yt9_13 ⟨⟨HP.out.v3.cell 0 (.slice a ni p) rfl, HP.out.v3.cell 1 (.slice b nn q) rfl, HP.out.v3.cell 2 (.slice c no r) rfl⟩, HP.out.v5.cell 0 (.int .i64 r3) rfl, HP.out.v5.cell 1 (.int .i64 c3) rfl, HP.out.v5.cell 2 (.slice a3 n3 k3) rfl⟩ ?zt9_13
       case yt9_13 => (intro w hSw; (try dsimp only at hSw); go_simp; try with_reducible rfl)
       try simp only [mz1, mz2, mz3, Act.put, mz4, mz5, mz6]
       refine wpAnyH_done (by kernel_rfl) ?_ _
       refine qa3 rfl (fun K hK => ?_)
       refine qa1 rfl 24 _ _ rfl x1.heap.size _ #[.int .i64 r3, .int .i64 c3, .slice s9 n3 d9] rfl rfl HP.out.p9 qak rfl (qau _ _ _ _ _) ?_
       intro x9 HV9 HG9
       refine hK.out _ _ ?_
       clear hK K
       try simp only [mz1, mz2, mz3, Act.put]
       go_wp2_with fail
       go_meet
       case rel => exact ⟨_, _, a1, q1, b1, q2, c1, q3, sl, dl, s9, d9, rfl, rfl, rfl, HP.out.fin HV9.out HG9.out (by omega) (by omega)⟩
     ·go_simp
      obtain ⟨x4, hw⟩ : ∃ x, Hid (x3.alloc (.cells #[.slice none 0 0, .slice none 0 0, .slice none 0 0] 28) = x) := ⟨_, rfl⟩
      rw [hw.out]
      have hb : Below x3.heap.size x3 x4 := by rw [← hw.out]; exact jlow _ _
      have hz_4 : x3.heap.size < x4.heap.size := by rw [← hw.out]; simp
      have HL_4 := qa0 (jtwo HL_3.out hb)
      have V3_4 := qa0 (V3_3.out.later hb)
      have V5_4 := qa0 (V5_3.out.later hb)
      have CP_4 := qa0 (CP_3.out.later hb)
      have P9_4 := qa0 (P9_3.out.later hb)
      have BV_4 := qa0 (BV_3.out.later hb)
      have P7_4 : Hid (Vf x4 x3.heap.size 28 #[.slice none 0 0, .slice none 0 0, .slice none 0 0]) := by { show Vf _ _ _ _; rw [← hw.out]; exact Vf.new _ _ _ }
      clear hw hb
      have HD_4 : Hid ((fun w' => (w'.cell? ⟨w.heap.size, 0, none⟩ = some (.slice a ni p) ∧ w'.cell? ⟨w.heap.size, 1, none⟩ = some (.slice b nn q) ∧ w'.cell? ⟨w.heap.size, 2, none⟩ = some (.slice c no r)) ∧ w'.cell? ⟨w.heap.size + 1, 0, none⟩ = some (.int .i64 r3) ∧ w'.cell? ⟨w.heap.size + 1, 1, none⟩ = some (.int .i64 c3) ∧ w'.cell? ⟨w.heap.size + 1, 2, none⟩ = some (.slice a3 n3 k3)) x4) := ⟨⟨V3_4.out.cell 0 (.slice a ni p) rfl, V3_4.out.cell 1 (.slice b nn q) rfl, V3_4.out.cell 2 (.slice c no r) rfl⟩, V5_4.out.cell 0 (.int .i64 r3) rfl, V5_4.out.cell 1 (.int .i64 c3) rfl, V5_4.out.cell 2 (.slice a3 n3 k3) rfl⟩
      clear HD_3 HL_3 V3_3 V5_3 CP_3 P9_3 BV_3
      refine hK.out _ _ HD_4.out (fun _ => ?_)
      clear hK K
      try simp only [mz1, mz2, mz3, Act.put, mz4, mz5, mz6]
      refine wpAnyH_ready (rs := [5]) (by kernel_rfl) (by simp) ?_
      refine AllReadyH.cons rfl (fun K hK => ?_) AllReadyH.nil
      ·go_simp
       refine (HCm.out x4 HL_4.out).mono ?_
       rintro e x5 ⟨s9, d9, rfl, ho, hb⟩
       have hz_5 : x4.heap.size ≤ x5.heap.size := hb.size
       have HL_5 := qa0 (jtwo HL_4.out hb)
       have V3_5 := qa0 (V3_4.out.later hb)
       have V5_5 := qa0 (V5_4.out.later hb)
       have CP_5 := qa0 (CP_4.out.later hb)
       have P9_5 := qa0 (P9_4.out.later hb)
       have BV_5 := qa0 (BV_4.out.later hb)
       have P7_5 := qa0 (P7_4.out.later hb)
       have MR_5 := qa0 (MrE.of ho)
       clear ho hb
       have HD_5 : Hid ((fun w' => (w'.cell? ⟨w.heap.size, 0, none⟩ = some (.slice a ni p) ∧ w'.cell? ⟨w.heap.size, 1, none⟩ = some (.slice b nn q) ∧ w'.cell? ⟨w.heap.size, 2, none⟩ = some (.slice c no r)) ∧ w'.cell? ⟨w.heap.size + 1, 0, none⟩ = some (.int .i64 r3) ∧ w'.cell? ⟨w.heap.size + 1, 1, none⟩ = some (.int .i64 c3) ∧ w'.cell? ⟨w.heap.size + 1, 2, none⟩ = some (.slice a3 n3 k3)) x5) := ⟨⟨V3_5.out.cell 0 (.slice a ni p) rfl, V3_5.out.cell 1 (.slice b nn q) rfl, V3_5.out.cell 2 (.slice c no r) rfl⟩, V5_5.out.cell 0 (.int .i64 r3) rfl, V5_5.out.cell 1 (.int .i64 c3) rfl, V5_5.out.cell 2 (.slice a3 n3 k3) rfl⟩
       clear HD_4 HL_4 V3_4 V5_4 CP_4 P9_4 BV_4 P7_4
       refine hK.out _ _ HD_5.out (fun _ => ?_)
       clear hK K
       try simp only [mz1, mz2, mz3, Act.put, mz4, mz5, mz6]
       refine wpAnyH_ready (rs := [8]) (by kernel_rfl) (by simp) ?_
       refine AllReadyH.cons rfl (fun K hK => ?_) AllReadyH.nil
       refine qa1 rfl 28 _ _ rfl x3.heap.size _ #[.slice a1 ni q1, .slice b1 nn q2, .slice c1 no q3] rfl rfl P7_5.out sizeFl rfl (qan _ _ _ _ _ _ _ _ _) ?_
       intro x8 HV8 HG8
       have HP := qa0 (CsP.one V3_5.out V5_5.out P7_5.out P9_5.out CP_5.out BV_5.out MR_5.out HL_5.out HV8.out HG8.out (by omega) (by omega) (by omega))
       refine hK.out _ _ ⟨⟨HP.out.v3.cell 0 (.slice a ni p) rfl, HP.out.v3.cell 1 (.slice b nn q) rfl, HP.out.v3.cell 2 (.slice c no r) rfl⟩, HP.out.v5.cell 0 (.int .i64 r3) rfl, HP.out.v5.cell 1 (.int .i64 c3) rfl, HP.out.v5.cell 2 (.slice a3 n3 k3) rfl⟩ (fun _ => ?_)
       clear hK K
       try simp only [mz1, mz2, mz3, Act.put]
       refine wtkq 9 ?vt9_14 rfl (by kernel_rfl) (fun _ _ _ h => h) (by rfl) ?yt9_14 ⟨⟨HP.out.v3.cell 0 (.slice a ni p) rfl, HP.out.v3.cell 1 (.slice b nn q) rfl, HP.out.v3.cell 2 (.slice c no r) rfl⟩, HP.out.v5.cell 0 (.int .i64 r3) rfl, HP.out.v5.cell 1 (.int .i64 c3) rfl, HP.out.v5.cell 2 (.slice a3 n3 k3) rfl⟩ ?zt9_14
       case yt9_14 => (intro w hSw; (try dsimp only at hSw); go_simp; try with_reducible rfl)
       try simp only [mz1, mz2, mz3, Act.put, mz4, mz5, mz6]
       refine wpAnyH_done (by kernel_rfl) ?_ _
       refine qa3 rfl (fun K hK => ?_)
       refine qa1 rfl 24 _ _ rfl x1.heap.size _ #[.int .i64 r3, .int .i64 c3, .slice s9 n3 d9] rfl rfl HP.out.p9 qak rfl (qau _ _ _ _ _) ?_
       intro x9 HV9 HG9
       refine hK.out _ _ ?_
       clear hK K
       try simp only [mz1, mz2, mz3, Act.put]
       go_wp2_with fail
       go_meet
       case rel => exact ⟨_, _, a1, q1, b1, q2, c1, q3, sl, dl, s9, d9, rfl, rfl, rfl, HP.out.fin HV9.out HG9.out (by omega) (by omega)⟩
    ·go_simp
     obtain ⟨x3, hw⟩ : ∃ x, Hid (x2.alloc (.cells #[.slice none 0 0, .slice none 0 0, .slice none 0 0] 28) = x) := ⟨_, rfl⟩
     rw [hw.out]
     have hb : Below x2.heap.size x2 x3 := by rw [← hw.out]; exact jlow _ _
     have hz_3 : x2.heap.size < x3.heap.size := by rw [← hw.out]; simp
     have HL_3 := qa0 (jtwo HL_2.out hb)
     have V3_3 := qa0 (V3_2.out.later hb)
     have V5_3 := qa0 (V5_2.out.later hb)
     have CP_3 := qa0 (CP_2.out.later hb)
     have P9_3 := qa0 (P9_2.out.later hb)
     have P7_3 : Hid (Vf x3 x2.heap.size 28 #[.slice none 0 0, .slice none 0 0, .slice none 0 0]) := by { show Vf _ _ _ _; rw [← hw.out]; exact Vf.new _ _ _ }
     clear hw hb
     have HD_3 : Hid ((fun w' => (w'.cell? ⟨w.heap.size, 0, none⟩ = some (.slice a ni p) ∧ w'.cell? ⟨w.heap.size, 1, none⟩ = some (.slice b nn q) ∧ w'.cell? ⟨w.heap.size, 2, none⟩ = some (.slice c no r)) ∧ w'.cell? ⟨w.heap.size + 1, 0, none⟩ = some (.int .i64 r3) ∧ w'.cell? ⟨w.heap.size + 1, 1, none⟩ = some (.int .i64 c3) ∧ w'.cell? ⟨w.heap.size + 1, 2, none⟩ = some (.slice a3 n3 k3)) x3) := ⟨⟨V3_3.out.cell 0 (.slice a ni p) rfl, V3_3.out.cell 1 (.slice b nn q) rfl, V3_3.out.cell 2 (.slice c no r) rfl⟩, V5_3.out.cell 0 (.int .i64 r3) rfl, V5_3.out.cell 1 (.int .i64 c3) rfl, V5_3.out.cell 2 (.slice a3 n3 k3) rfl⟩
     clear HD_2 HL_2 V3_2 V5_2 CP_2 P9_2
     refine hK.out _ _ HD_3.out (fun _ => ?_)
     clear hK K
     try simp only [mz1, mz2, mz3, Act.put, mz4, mz5, mz6]
     refine wpAnyH_ready (rs := [3]) (by kernel_rfl) (by simp) ?_
     refine AllReadyH.cons rfl (fun K hK => ?_) AllReadyH.nil
     ·go_simp
      refine (HCb.out x3 HL_3.out).mono ?_
      rintro e x4 ⟨⟨v, rfl, hv⟩, hb⟩
      obtain ⟨sl, dl, rfl, -⟩ := hv.form
      have hz_4 : x3.heap.size ≤ x4.heap.size := hb.size
      have HL_4 := qa0 (jtwo HL_3.out hb)
      have V3_4 := qa0 (V3_3.out.later hb)
      have V5_4 := qa0 (V5_3.out.later hb)
      have CP_4 := qa0 (CP_3.out.later hb)
      have P9_4 := qa0 (P9_3.out.later hb)
      have P7_4 := qa0 (P7_3.out.later hb)
      have BV_4 := qa0 (BvE.of hv)
      clear hv hb
      have HD_4 : Hid ((fun w' => (w'.cell? ⟨w.heap.size, 0, none⟩ = some (.slice a ni p) ∧ w'.cell? ⟨w.heap.size, 1, none⟩ = some (.slice b nn q) ∧ w'.cell? ⟨w.heap.size, 2, none⟩ = some (.slice c no r)) ∧ w'.cell? ⟨w.heap.size + 1, 0, none⟩ = some (.int .i64 r3) ∧ w'.cell? ⟨w.heap.size + 1, 1, none⟩ = some (.int .i64 c3) ∧ w'.cell? ⟨w.heap.size + 1, 2, none⟩ = some (.slice a3 n3 k3)) x4) := ⟨⟨V3_4.out.cell 0 (.slice a ni p) rfl, V3_4.out.cell 1 (.slice b nn q) rfl, V3_4.out.cell 2 (.slice c no r) rfl⟩, V5_4.out.cell 0 (.int .i64 r3) rfl, V5_4.out.cell 1 (.int .i64 c3) rfl, V5_4.out.cell 2 (.slice a3 n3 k3) rfl⟩
      clear HD_3 HL_3 V3_3 V5_3 CP_3 P9_3 P7_3
      refine hK.out _ _ HD_4.out (fun _ => ?_)
      clear hK K
      try simp only [mz1, mz2, mz3, Act.put, mz4, mz5, mz6]
      refine wpAnyH_ready (rs := [5]) (by kernel_rfl) (by simp) ?_
      refine AllReadyH.cons rfl (fun K hK => ?_) AllReadyH.nil
      ·go_simp
       refine (HCm.out x4 HL_4.out).mono ?_
       rintro e x5 ⟨s9, d9, rfl, ho, hb⟩
       have hz_5 : x4.heap.size ≤ x5.heap.size := hb.size
       have HL_5 := qa0 (jtwo HL_4.out hb)
       have V3_5 := qa0 (V3_4.out.later hb)
       have V5_5 := qa0 (V5_4.out.later hb)
       have CP_5 := qa0 (CP_4.out.later hb)
       have P9_5 := qa0 (P9_4.out.later hb)
       have P7_5 := qa0 (P7_4.out.later hb)
       have BV_5 := qa0 (BV_4.out.later hb)
       have MR_5 := qa0 (MrE.of ho)
       clear ho hb
       have HD_5 : Hid ((fun w' => (w'.cell? ⟨w.heap.size, 0, none⟩ = some (.slice a ni p) ∧ w'.cell? ⟨w.heap.size, 1, none⟩ = some (.slice b nn q) ∧ w'.cell? ⟨w.heap.size, 2, none⟩ = some (.slice c no r)) ∧ w'.cell? ⟨w.heap.size + 1, 0, none⟩ = some (.int .i64 r3) ∧ w'.cell? ⟨w.heap.size + 1, 1, none⟩ = some (.int .i64 c3) ∧ w'.cell? ⟨w.heap.size + 1, 2, none⟩ = some (.slice a3 n3 k3)) x5) := ⟨⟨V3_5.out.cell 0 (.slice a ni p) rfl, V3_5.out.cell 1 (.slice b nn q) rfl, V3_5.out.cell 2 (.slice c no r) rfl⟩, V5_5.out.cell 0 (.int .i64 r3) rfl, V5_5.out.cell 1 (.int .i64 c3) rfl, V5_5.out.cell 2 (.slice a3 n3 k3) rfl⟩
       clear HD_4 HL_4 V3_4 V5_4 CP_4 P9_4 P7_4 BV_4
       refine hK.out _ _ HD_5.out (fun _ => ?_)
       clear hK K
       try simp only [mz1, mz2, mz3, Act.put, mz4, mz5, mz6]
       refine wpAnyH_ready (rs := [8]) (by kernel_rfl) (by simp) ?_
       refine AllReadyH.cons rfl (fun K hK => ?_) AllReadyH.nil
       refine qa1 rfl 28 _ _ rfl x2.heap.size _ #[.slice a1 ni q1, .slice b1 nn q2, .slice c1 no q3] rfl rfl P7_5.out sizeFl rfl (qan _ _ _ _ _ _ _ _ _) ?_
       intro x8 HV8 HG8
       have HP := qa0 (CsP.one V3_5.out V5_5.out P7_5.out P9_5.out CP_5.out BV_5.out MR_5.out HL_5.out HV8.out HG8.out (by omega) (by omega) (by omega))
       refine hK.out _ _ ⟨⟨HP.out.v3.cell 0 (.slice a ni p) rfl, HP.out.v3.cell 1 (.slice b nn q) rfl, HP.out.v3.cell 2 (.slice c no r) rfl⟩, HP.out.v5.cell 0 (.int .i64 r3) rfl, HP.out.v5.cell 1 (.int .i64 c3) rfl, HP.out.v5.cell 2 (.slice a3 n3 k3) rfl⟩ (fun _ => ?_)
       clear hK K
       try simp only [mz1, mz2, mz3, Act.put]
       refine wtkq 9 ?vt9_15 rfl (by kernel_rfl) (fun _ _ _ h => h) (by rfl) ?yt9_15 ⟨⟨HP.out.v3.cell 0 (.slice a ni p) rfl, HP.out.v3.cell 1 (.slice b nn q) rfl, HP.out.v3.cell 2 (.slice c no r) rfl⟩, HP.out.v5.cell 0 (.int .i64 r3) rfl, HP.out.v5.cell 1 (.int .i64 c3) rfl, HP.out.v5.cell 2 (.slice a3 n3 k3) rfl⟩ ?zt9_15
       case yt9_15 => (intro w hSw; (try dsimp only at hSw); go_simp; try with_reducible rfl)
       try simp only [mz1, mz2, mz3, Act.put, mz4, mz5, mz6]
       refine wpAnyH_done (by kernel_rfl) ?_ _
       refine qa3 rfl (fun K hK => ?_)
       refine qa1 rfl 24 _ _ rfl x1.heap.size _ #[.int .i64 r3, .int .i64 c3, .slice s9 n3 d9] rfl rfl HP.out.p9 qak rfl (qau _ _ _ _ _) ?_
       intro x9 HV9 HG9
       refine hK.out _ _ ?_
       clear hK K
       try simp only [mz1, mz2, mz3, Act.put]
       go_wp2_with fail
       go_meet
       case rel => exact ⟨_, _, a1, q1, b1, q2, c1, q3, sl, dl, s9, d9, rfl, rfl, rfl, HP.out.fin HV9.out HG9.out (by omega) (by omega)⟩
  ·go_simp
   obtain ⟨x1, hw⟩ : ∃ x, Hid (x0.alloc (.cells #[.slice none 0 0, .slice none 0 0, .slice none 0 0] 28) = x) := ⟨_, rfl⟩
   rw [hw.out]
   have hb : Below x0.heap.size x0 x1 := by rw [← hw.out]; exact jlow _ _
   have hz_1 : x0.heap.size < x1.heap.size := by rw [← hw.out]; simp
   have HL_1 := qa0 (jtwo HL_0.out hb)
   have V3_1 := qa0 (V3_0.out.later hb)
   have V5_1 := qa0 (V5_0.out.later hb)
   have P7_1 : Hid (Vf x1 x0.heap.size 28 #[.slice none 0 0, .slice none 0 0, .slice none 0 0]) := by { show Vf _ _ _ _; rw [← hw.out]; exact Vf.new _ _ _ }
   clear hw hb
   have HD_1 : Hid ((fun w' => (w'.cell? ⟨w.heap.size, 0, none⟩ = some (.slice a ni p) ∧ w'.cell? ⟨w.heap.size, 1, none⟩ = some (.slice b nn q) ∧ w'.cell? ⟨w.heap.size, 2, none⟩ = some (.slice c no r)) ∧ w'.cell? ⟨w.heap.size + 1, 0, none⟩ = some (.int .i64 r3) ∧ w'.cell? ⟨w.heap.size + 1, 1, none⟩ = some (.int .i64 c3) ∧ w'.cell? ⟨w.heap.size + 1, 2, none⟩ = some (.slice a3 n3 k3)) x1) := ⟨⟨V3_1.out.cell 0 (.slice a ni p) rfl, V3_1.out.cell 1 (.slice b nn q) rfl, V3_1.out.cell 2 (.slice c no r) rfl⟩, V5_1.out.cell 0 (.int .i64 r3) rfl, V5_1.out.cell 1 (.int .i64 c3) rfl, V5_1.out.cell 2 (.slice a3 n3 k3) rfl⟩
   clear HD_0 HL_0 V3_0 V5_0
   refine hK.out _ _ HD_1.out (fun _ => ?_)
   clear hK K
   try simp only [mz1, mz2, mz3, Act.put, mz4, mz5, mz6]
   refine wpAnyH_ready (rs := [1, 7]) (by kernel_rfl) (by simp) ?_
   refine AllReadyH.cons rfl (fun K hK => ?_) (AllReadyH.cons rfl (fun K hK => ?_) AllReadyH.nil)
   ·go_simp
    refine (HCf.out x1 HL_1.out).mono ?_
    rintro e x2 ⟨⟨a1, q1, b1, q2, c1, q3, rfl, hc⟩, hb⟩
    have hz_2 : x1.heap.size ≤ x2.heap.size := hb.size
    have HL_2 := qa0 (jtwo HL_1.out hb)
    have V3_2 := qa0 (V3_1.out.later hb)
    have V5_2 := qa0 (V5_1.out.later hb)
    have P7_2 := qa0 (P7_1.out.later hb)
    have CP_2 := qa0 hc
    clear hc hb
    have HD_2 : Hid ((fun w' => (w'.cell? ⟨w.heap.size, 0, none⟩ = some (.slice a ni p) ∧ w'.cell? ⟨w.heap.size, 1, none⟩ = some (.slice b nn q) ∧ w'.cell? ⟨w.heap.size, 2, none⟩ = some (.slice c no r)) ∧ w'.cell? ⟨w.heap.size + 1, 0, none⟩ = some (.int .i64 r3) ∧ w'.cell? ⟨w.heap.size + 1, 1, none⟩ = some (.int .i64 c3) ∧ w'.cell? ⟨w.heap.size + 1, 2, none⟩ = some (.slice a3 n3 k3)) x2) := ⟨⟨V3_2.out.cell 0 (.slice a ni p) rfl, V3_2.out.cell 1 (.slice b nn q) rfl, V3_2.out.cell 2 (.slice c no r) rfl⟩, V5_2.out.cell 0 (.int .i64 r3) rfl, V5_2.out.cell 1 (.int .i64 c3) rfl, V5_2.out.cell 2 (.slice a3 n3 k3) rfl⟩
    clear HD_1 HL_1 V3_1 V5_1 P7_1
    refine hK.out _ _ HD_2.out (fun _ => ?_)
    clear hK K
    try simp only [mz1, mz2, mz3, Act.put, mz4, mz5, mz6]
    refine wpAnyH_ready (rs := [3, 7]) (by kernel_rfl) (by simp) ?_
    refine AllReadyH.cons rfl (fun K hK => ?_) (AllReadyH.cons rfl (fun K hK => ?_) AllReadyH.nil)
    ·go_simp
     refine (HCb.out x2 HL_2.out).mono ?_
     rintro e x3 ⟨⟨v, rfl, hv⟩, hb⟩
     obtain ⟨sl, dl, rfl, -⟩ := hv.form
     have hz_3 : x2.heap.size ≤ x3.heap.size := hb.size
     have HL_3 := qa0 (jtwo HL_2.out hb)
     have V3_3 := qa0 (V3_2.out.later hb)
     have V5_3 := qa0 (V5_2.out.later hb)
     have P7_3 := qa0 (P7_2.out.later hb)
     have CP_3 := qa0 (CP_2.out.later hb)
     have BV_3 := qa0 (BvE.of hv)
     clear hv hb
     have HD_3 : Hid ((fun w' => (w'.cell? ⟨w.heap.size, 0, none⟩ = some (.slice a ni p) ∧ w'.cell? ⟨w.heap.size, 1, none⟩ = some (.slice b nn q) ∧ w'.cell? ⟨w.heap.size, 2, none⟩ = some (.slice c no r)) ∧ w'.cell? ⟨w.heap.size + 1, 0, none⟩ = some (.int .i64 r3) ∧ w'.cell? ⟨w.heap.size + 1, 1, none⟩ = some (.int .i64 c3) ∧ w'.cell? ⟨w.heap.size + 1, 2, none⟩ = some (.slice a3 n3 k3)) x3) := ⟨⟨V3_3.out.cell 0 (.slice a ni p) rfl, V3_3.out.cell 1 (.slice b nn q) rfl, V3_3.out.cell 2 (.slice c no r) rfl⟩, V5_3.out.cell 0 (.int .i64 r3) rfl, V5_3.out.cell 1 (.int .i64 c3) rfl, V5_3.out.cell 2 (.slice a3 n3 k3) rfl⟩
     clear HD_2 HL_2 V3_2 V5_2 P7_2 CP_2
     refine hK.out _ _ HD_3.out (fun _ => ?_)
     clear hK K
     try simp only [mz1, mz2, mz3, Act.put, mz4, mz5, mz6]
     refine wpAnyH_ready (rs := [5, 7]) (by kernel_rfl) (by simp) ?_
     refine AllReadyH.cons rfl (fun K hK => ?_) (AllReadyH.cons rfl (fun K hK => ?_) AllReadyH.nil)
     ·go_simp
      refine (HCm.out x3 HL_3.out).mono ?_
      rintro e x4 ⟨s9, d9, rfl, ho, hb⟩
      have hz_4 : x3.heap.size ≤ x4.heap.size := hb.size
      have HL_4 := qa0 (jtwo HL_3.out hb)
      have V3_4 := qa0 (V3_3.out.later hb)
      have V5_4 := qa0 (V5_3.out.later hb)
      have P7_4 := qa0 (P7_3.out.later hb)
      have CP_4 := qa0 (CP_3.out.later hb)
      have BV_4 := qa0 (BV_3.out.later hb)
      have MR_4 := qa0 (MrE.of ho)
      clear ho hb
      have HD_4 : Hid ((fun w' => (w'.cell? ⟨w.heap.size, 0, none⟩ = some (.slice a ni p) ∧ w'.cell? ⟨w.heap.size, 1, none⟩ = some (.slice b nn q) ∧ w'.cell? ⟨w.heap.size, 2, none⟩ = some (.slice c no r)) ∧ w'.cell? ⟨w.heap.size + 1, 0, none⟩ = some (.int .i64 r3) ∧ w'.cell? ⟨w.heap.size + 1, 1, none⟩ = some (.int .i64 c3) ∧ w'.cell? ⟨w.heap.size + 1, 2, none⟩ = some (.slice a3 n3 k3)) x4) := ⟨⟨V3_4.out.cell 0 (.slice a ni p) rfl, V3_4.out.cell 1 (.slice b nn q) rfl, V3_4.out.cell 2 (.slice c no r) rfl⟩, V5_4.out.cell 0 (.int .i64 r3) rfl, V5_4.out.cell 1 (.int .i64 c3) rfl, V5_4.out.cell 2 (.slice a3 n3 k3) rfl⟩
      clear HD_3 HL_3 V3_3 V5_3 P7_3 CP_3 BV_3
      refine hK.out _ _ HD_4.out (fun _ => ?_)
      clear hK K
      try simp only [mz1, mz2, mz3, Act.put, mz4, mz5, mz6]
      refine wpAnyH_ready (rs := [7]) (by kernel_rfl) (by simp) ?_
      refine AllReadyH.cons rfl (fun K hK => ?_) AllReadyH.nil
      ·go_simp
       obtain ⟨x5, hw⟩ : ∃ x, Hid (x4.alloc (.cells #[.int .i64 0, .int .i64 0, .slice none 0 0] 24) = x) := ⟨_, rfl⟩
       rw [hw.out]
       have hb : Below x4.heap.size x4 x5 := by rw [← hw.out]; exact jlow _ _
       have hz_5 : x4.heap.size < x5.heap.size := by rw [← hw.out]; simp
       have HL_5 := qa0 (jtwo HL_4.out hb)
       have V3_5 := qa0 (V3_4.out.later hb)
       have V5_5 := qa0 (V5_4.out.later hb)
       have P7_5 := qa0 (P7_4.out.later hb)
       have CP_5 := qa0 (CP_4.out.later hb)
       have BV_5 := qa0 (BV_4.out.later hb)
       have MR_5 := qa0 (MR_4.out.later hb)
       have P9_5 : Hid (Vf x5 x4.heap.size 24 #[.int .i64 0, .int .i64 0, .slice none 0 0]) := by { show Vf _ _ _ _; rw [← hw.out]; exact Vf.new _ _ _ }
       clear hw hb
       have HD_5 : Hid ((fun w' => (w'.cell? ⟨w.heap.size, 0, none⟩ = some (.slice a ni p) ∧ w'.cell? ⟨w.heap.size, 1, none⟩ = some (.slice b nn q) ∧ w'.cell? ⟨w.heap.size, 2, none⟩ = some (.slice c no r)) ∧ w'.cell? ⟨w.heap.size + 1, 0, none⟩ = some (.int .i64 r3) ∧ w'.cell? ⟨w.heap.size + 1, 1, none⟩ = some (.int .i64 c3) ∧ w'.cell? ⟨w.heap.size + 1, 2, none⟩ = some (.slice a3 n3 k3)) x5) := ⟨⟨V3_5.out.cell 0 (.slice a ni p) rfl, V3_5.out.cell 1 (.slice b nn q) rfl, V3_5.out.cell 2 (.slice c no r) rfl⟩, V5_5.out.cell 0 (.int .i64 r3) rfl, V5_5.out.cell 1 (.int .i64 c3) rfl, V5_5.out.cell 2 (.slice a3 n3 k3) rfl⟩
       clear HD_4 HL_4 V3_4 V5_4 P7_4 CP_4 BV_4 MR_4
       refine hK.out _ _ HD_5.out (fun _ => ?_)
       clear hK K
       try simp only [mz1, mz2, mz3, Act.put, mz4, mz5, mz6]
       refine wpAnyH_ready (rs := [8]) (by kernel_rfl) (by simp) ?_
       refine AllReadyH.cons rfl (fun K hK => ?_) AllReadyH.nil
       refine qa1 rfl 28 _ _ rfl x0.heap.size _ #[.slice a1 ni q1, .slice b1 nn q2, .slice c1 no q3] rfl rfl P7_5.out sizeFl rfl (qan _ _ _ _ _ _ _ _ _) ?_
       intro x8 HV8 HG8
       have HP := qa0 (CsP.one V3_5.out V5_5.out P7_5.out P9_5.out CP_5.out BV_5.out MR_5.out HL_5.out HV8.out HG8.out (by omega) (by omega) (by omega))
       refine hK.out _ _ ⟨⟨HP.out.v3.cell 0 (.slice a ni p) rfl, HP.out.v3.cell 1 (.slice b nn q) rfl, HP.out.v3.cell 2 (.slice c no r) rfl⟩, HP.out.v5.cell 0 (.int .i64 r3) rfl, HP.out.v5.cell 1 (.int .i64 c3) rfl, HP.out.v5.cell 2 (.slice a3 n3 k3) rfl⟩ (fun _ => ?_)
       clear hK K
       try simp only [mz1, mz2, mz3, Act.put]
       refine wtkq 9 ?vt9_16 rfl (by kernel_rfl) (fun _ _ _ h => h) (by rfl) ?yt9_16 ⟨⟨HP.out.v3.cell 0 (.slice a ni p) rfl, HP.out.v3.cell 1 (.slice b nn q) rfl, HP.out.v3.cell 2 (.slice c no r) rfl⟩, HP.out.v5.cell 0 (.int .i64 r3) rfl, HP.out.v5.cell 1 (.int .i64 c3) rfl, HP.out.v5.cell 2 (.slice a3 n3 k3) rfl⟩ ?zt9_16
       case yt9_16 => (intro w hSw; (try dsimp only at hSw); go_simp; try with_reducible rfl)
       try simp only [mz1, mz2, mz3, Act.put, mz4, mz5, mz6]
       refine wpAnyH_done (by kernel_rfl) ?_ _
       refine qa3 rfl (fun K hK => ?_)
       refine qa1 rfl 24 _ _ rfl x4.heap.size _ #[.int .i64 r3, .int .i64 c3, .slice s9 n3 d9] rfl rfl HP.out.p9 qak rfl (qau _ _ _ _ _) ?_
       intro x9 HV9 HG9
       refine hK.out _ _ ?_
       clear hK K
       try simp only [mz1, mz2, mz3, Act.put]
       go_wp2_with fail
       go_meet
       case rel => exact ⟨_, _, a1, q1, b1, q2, c1, q3, sl, dl, s9, d9, rfl, rfl, rfl, HP.out.fin HV9.out HG9.out (by omega) (by omega)⟩
     ·go_simp
      obtain ⟨x4, hw⟩ : ∃ x, Hid (x3.alloc (.cells #[.int .i64 0, .int .i64 0, .slice none 0 0] 24) = x) := ⟨_, rfl⟩
      rw [hw.out]
      have hb : Below x3.heap.size x3 x4 := by rw [← hw.out]; exact jlow _ _
      have hz_4 : x3.heap.size < x4.heap.size := by rw [← hw.out]; simp
      have HL_4 := qa0 (jtwo HL_3.out hb)
      have V3_4 := qa0 (V3_3.out.later hb)
      have V5_4 := qa0 (V5_3.out.later hb)
      have P7_4 := qa0 (P7_3.out.later hb)
      have CP_4 := qa0 (CP_3.out.later hb)
      have BV_4 := qa0 (BV_3.out.later hb)
      have P9_4 : Hid (Vf x4 x3.heap.size 24 #[.int .i64 0, .int .i64 0, .slice none 0 0]) := by { show Vf _ _ _ _; rw [← hw.out]; exact Vf.new _ _ _ }
      clear hw hb
      have HD_4 : Hid ((fun w' => (w'.cell? ⟨w.heap.size, 0, none⟩ = some (.slice a ni p) ∧ w'.cell? ⟨w.heap.size, 1, none⟩ = some (.slice b nn q) ∧ w'.cell? ⟨w.heap.size, 2, none⟩ = some (.slice c no r)) ∧ w'.cell? ⟨w.heap.size + 1, 0, none⟩ = some (.int .i64 r3) ∧ w'.cell? ⟨w.heap.size + 1, 1, none⟩ = some (.int .i64 c3) ∧ w'.cell? ⟨w.heap.size + 1, 2, none⟩ = some (.slice a3 n3 k3)) x4) := ⟨⟨V3_4.out.cell 0 (.slice a ni p) rfl, V3_4.out.cell 1 (.slice b nn q) rfl, V3_4.out.cell 2 (.slice c no r) rfl⟩, V5_4.out.cell 0 (.int .i64 r3) rfl, V5_4.out.cell 1 (.int .i64 c3) rfl, V5_4.out.cell 2 (.slice a3 n3 k3) rfl⟩
      clear HD_3 HL_3 V3_3 V5_3 P7_3 CP_3 BV_3
      refine hK.out _ _ HD_4.out (fun _ => ?_)
      clear hK K
      try simp only [mz1, mz2, mz3, Act.put, mz4, mz5, mz6]
      refine wpAnyH_ready (rs := [5]) (by kernel_rfl) (by simp) ?_
      refine AllReadyH.cons rfl (fun K hK => ?_) AllReadyH.nil
      ·go_simp
       refine (HCm.out x4 HL_4.out).mono ?_
       rintro e x5 ⟨s9, d9, rfl, ho, hb⟩
       have hz_5 : x4.heap.size ≤ x5.heap.size := hb.size
       have HL_5 := qa0 (jtwo HL_4.out hb)
       have V3_5 := qa0 (V3_4.out.later hb)
       have V5_5 := qa0 (V5_4.out.later hb)
       have P7_5 := qa0 (P7_4.out.later hb)
       have CP_5 := qa0 (CP_4.out.later hb)
       have BV_5 := qa0 (BV_4.out.later hb)
       have P9_5 := qa0 (P9_4.out.later hb)
       have MR_5 := qa0 (MrE.of ho)
       clear ho hb
       have HD_5 : Hid ((fun w' => (w'.cell? ⟨w.heap.size, 0, none⟩ = some (.slice a ni p) ∧ w'.cell? ⟨w.heap.size, 1, none⟩ = some (.slice b nn q) ∧ w'.cell? ⟨w.heap.size, 2, none⟩ = some (.slice c no r)) ∧ w'.cell? ⟨w.heap.size + 1, 0, none⟩ = some (.int .i64 r3) ∧ w'.cell? ⟨w.heap.size + 1, 1, none⟩ = some (.int .i64 c3) ∧ w'.cell? ⟨w.heap.size + 1, 2, none⟩ = some (.slice a3 n3 k3)) x5) := ⟨⟨V3_5.out.cell 0 (.slice a ni p) rfl, V3_5.out.cell 1 (.slice b nn q) rfl, V3_5.out.cell 2 (.slice c no r) rfl⟩, V5_5.out.cell 0 (.int .i64 r3) rfl, V5_5.out.cell 1 (.int .i64 c3) rfl, V5_5.out.cell 2 (.slice a3 n3 k3) rfl⟩
       clear HD_4 HL_4 V3_4 V5_4 P7_4 CP_4 BV_4 P9_4
       refine hK.out _ _ HD_5.out (fun _ => ?_)
       clear hK K
       try simp only [mz1, mz2, mz3, Act.put, mz4, mz5, mz6]
       refine wpAnyH_ready (rs := [8]) (by kernel_rfl) (by simp) ?_
       refine AllReadyH.cons rfl (fun K hK => ?_) AllReadyH.nil
       refine qa1 rfl 28 _ _ rfl x0.heap.size _ #[.slice a1 ni q1, .slice b1 nn q2, .slice c1 no q3] rfl rfl P7_5.out sizeFl rfl (qan _ _ _ _ _ _ _ _ _) ?_
       intro x8 HV8 HG8
       have HP := qa0 (CsP.one V3_5.out V5_5.out P7_5.out P9_5.out CP_5.out BV_5.out MR_5.out HL_5.out HV8.out HG8.out (by omega) (by omega) (by omega))
       refine hK.out _ _ ⟨⟨HP.out.v3.cell 0 (.slice a ni p) rfl, HP.out.v3.cell 1 (.slice b nn q) rfl, HP.out.v3.cell 2 (.slice c no r) rfl⟩, HP.out.v5.cell 0 (.int .i64 r3) rfl, HP.out.v5.cell 1 (.int .i64 c3) rfl, HP.out.v5.cell 2 (.slice a3 n3 k3) rfl⟩ (fun _ => ?_)
       clear hK K
       try simp only [mz1, mz2, mz3, Act.put]
       refine wtkq 9 ?vt9_17 rfl (by kernel_rfl) (fun _ _ _ h => h) (by rfl) ?yt9_17 ⟨⟨HP.out.v3.cell 0 (.slice a ni p) rfl, HP.out.v3.cell 1 (.slice b nn q) rfl, HP.out.v3.cell 2 (.slice c no r) rfl⟩, HP.out.v5.cell 0 (.int .i64 r3) rfl, HP.out.v5.cell 1 (.int .i64 c3) rfl, HP.out.v5.cell 2 (.slice a3 n3 k3) rfl⟩ ?zt9_17
       case yt9_17 => (intro w hSw; (try dsimp only at hSw); go_simp; try with_reducible rfl)
       try simp only [mz1, mz2, mz3, Act.put, mz4, mz5, mz6]
       refine wpAnyH_done (by kernel_rfl) ?_ _
       refine qa3 rfl (fun K hK => ?_)
       refine qa1 rfl 24 _ _ rfl x3.heap.size _ #[.int .i64 r3, .int .i64 c3, .slice s9 n3 d9] rfl rfl HP.out.p9 qak rfl (qau _ _ _ _ _) ?_
       intro x9 HV9 HG9
       refine hK.out _ _ ?_
       clear hK K
       try simp only [mz1, mz2, mz3, Act.put]
       go_wp2_with fail
       go_meet
       case rel => exact ⟨_, _, a1, q1, b1, q2, c1, q3, sl, dl, s9, d9, rfl, rfl, rfl, HP.out.fin HV9.out HG9.out (by omega) (by omega)⟩
    ·go_simp
     obtain ⟨x3, hw⟩ : ∃ x, Hid (x2.alloc (.cells #[.int .i64 0, .int .i64 0, .slice none 0 0] 24) = x) := ⟨_, rfl⟩
     rw [hw.out]
     have hb : Below x2.heap.size x2 x3 := by rw [← hw.out]; exact jlow _ _
     have hz_3 : x2.heap.size < x3.heap.size := by rw [← hw.out]; simp
     have HL_3 := qa0 (jtwo HL_2.out hb)
     have V3_3 := qa0 (V3_2.out.later hb)
     have V5_3 := qa0 (V5_2.out.later hb)
     have P7_3 := qa0 (P7_2.out.later hb)
     have CP_3 := qa0 (CP_2.out.later hb)
     have P9_3 : Hid (Vf x3 x2.heap.size 24 #[.int .i64 0, .int .i64 0, .slice none 0 0]) := by { show Vf _ _ _ _; rw [← hw.out]; exact Vf.new _ _ _ }
     clear hw hb
     have HD_3 : Hid ((fun w' => (w'.cell? ⟨w.heap.size, 0, none⟩ = some (.slice a ni p) ∧ w'.cell? ⟨w.heap.size, 1, none⟩ = some (.slice b nn q) ∧ w'.cell? ⟨w.heap.size, 2, none⟩ = some (.slice c no r)) ∧ w'.cell? ⟨w.heap.size + 1, 0, none⟩ = some (.int .i64 r3) ∧ w'.cell? ⟨w.heap.size + 1, 1, none⟩ = some (.int .i64 c3) ∧ w'.cell? ⟨w.heap.size + 1, 2, none⟩ = some (.slice a3 n3 k3)) x3) := ⟨⟨V3_3.out.cell 0 (.slice a ni p) rfl, V3_3.out.cell 1 (.slice b nn q) rfl, V3_3.out.cell 2 (.slice c no r) rfl⟩, V5_3.out.cell 0 (.int .i64 r3) rfl, V5_3.out.cell 1 (.int .i64 c3) rfl, V5_3.out.cell 2 (.slice a3 n3 k3) rfl⟩
     clear HD_2 HL_2 V3_2 V5_2 P7_2 CP_2
     refine hK.out _ _ HD_3.out (fun _ => ?_)
     clear hK K
     try simp only [mz1, mz2, mz3, Act.put, mz4, mz5, mz6]
     refine wpAnyH_ready (rs := [3]) (by kernel_rfl) (by simp) ?_
     refine AllReadyH.cons rfl (fun K hK => ?_) AllReadyH.nil
     ·go_simp
      refine (HCb.out x3 HL_3.out).mono ?_
      rintro e x4 ⟨⟨v, rfl, hv⟩, hb⟩
      obtain ⟨sl, dl, rfl, -⟩ := hv.form
      have hz_4 : x3.heap.size ≤ x4.heap.size := hb.size
      have HL_4 := qa0 (jtwo HL_3.out hb)
      have V3_4 := qa0 (V3_3.out.later hb)
      have V5_4 := qa0 (V5_3.out.later hb)
      have P7_4 := qa0 (P7_3.out.later hb)
      have CP_4 := qa0 (CP_3.out.later hb)
      have P9_4 := qa0 (P9_3.out.later hb)
      have BV_4 := qa0 (BvE.of hv)
      clear hv hb
      have HD_4 : Hid ((fun w' => (w'.cell? ⟨w.heap.size, 0, none⟩ = some (.slice a ni p) ∧ w'.cell? ⟨w.heap.size, 1, none⟩ = some (.slice b nn q) ∧ w'.cell? ⟨w.heap.size, 2, none⟩ = some (.slice c no r)) ∧ w'.cell? ⟨w.heap.size + 1, 0, none⟩ = some (.int .i64 r3) ∧ w'.cell? ⟨w.heap.size + 1, 1, none⟩ = some (.int .i64 c3) ∧ w'.cell? ⟨w.heap.size + 1, 2, none⟩ = some (.slice a3 n3 k3)) x4) := ⟨⟨V3_4.out.cell 0 (.slice a ni p) rfl, V3_4.out.cell 1 (.slice b nn q) rfl, V3_4.out.cell 2 (.slice c no r) rfl⟩, V5_4.out.cell 0 (.int .i64 r3) rfl, V5_4.out.cell 1 (.int .i64 c3) rfl, V5_4.out.cell 2 (.slice a3 n3 k3) rfl⟩
      clear HD_3 HL_3 V3_3 V5_3 P7_3 CP_3 P9_3
      refine hK.out _ _ HD_4.out (fun _ => ?_)
      clear hK K
      try simp only [mz1, mz2, mz3, Act.put, mz4, mz5, mz6]
      refine wpAnyH_ready (rs := [5]) (by kernel_rfl) (by simp) ?_
      refine AllReadyH.cons rfl (fun K hK => ?_) AllReadyH.nil
      ·go_simp
       refine (HCm.out x4 HL_4.out).mono ?_
       rintro e x5 ⟨s9, d9, rfl, ho, hb⟩
       have hz_5 : x4.heap.size ≤ x5.heap.size := hb.size
       have HL_5 := qa0 (jtwo HL_4.out hb)
       have V3_5 := qa0 (V3_4.out.later hb)
       have V5_5 := qa0 (V5_4.out.later hb)
       have P7_5 := qa0 (P7_4.out.later hb)
       have CP_5 := qa0 (CP_4.out.later hb)
       have P9_5 := qa0 (P9_4.out.later hb)
       have BV_5 := qa0 (BV_4.out.later hb)
       have MR_5 := qa0 (MrE.of ho)
       clear ho hb
       have HD_5 : Hid ((fun w' => (w'.cell? ⟨w.heap.size, 0, none⟩ = some (.slice a ni p) ∧ w'.cell? ⟨w.heap.size, 1, none⟩ = some (.slice b nn q) ∧ w'.cell? ⟨w.heap.size, 2, none⟩ = some (.slice c no r)) ∧ w'.cell? ⟨w.heap.size + 1, 0, none⟩ = some (.int .i64 r3) ∧ w'.cell? ⟨w.heap.size + 1, 1, none⟩ = some (.int .i64 c3) ∧ w'.cell? ⟨w.heap.size + 1, 2, none⟩ = some (.slice a3 n3 k3)) x5) := ⟨⟨V3_5.out.cell 0 (.slice a ni p) rfl, V3_5.out.cell 1 (.slice b nn q) rfl, V3_5.out.cell 2 (.slice c no r) rfl⟩, V5_5.out.cell 0 (.int .i64 r3) rfl, V5_5.out.cell 1 (.int .i64 c3) rfl, V5_5.out.cell 2 (.slice a3 n3 k3) rfl⟩
       clear HD_4 HL_4 V3_4 V5_4 P7_4 CP_4 P9_4 BV_4
       refine hK.out _ _ HD_5.out (fun _ => ?_)
       clear hK K
       try simp only [mz1, mz2, mz3, Act.put, mz4, mz5, mz6]
       refine wpAnyH_ready (rs := [8]) (by kernel_rfl) (by simp) ?_
       refine AllReadyH.cons rfl (fun K hK => ?_) AllReadyH.nil
       refine qa1 rfl 28 _ _ rfl x0.heap.size _ #[.slice a1 ni q1, .slice b1 nn q2, .slice c1 no q3] rfl rfl P7_5.out sizeFl rfl (qan _ _ _ _ _ _ _ _ _) ?_
       intro x8 HV8 HG8
       have HP := qa0 (CsP.one V3_5.out V5_5.out P7_5.out P9_5.out CP_5.out BV_5.out MR_5.out HL_5.out HV8.out HG8.out (by omega) (by omega) (by omega))
       refine hK.out _ _ ⟨⟨HP.out.v3.cell 0 (.slice a ni p) rfl, HP.out.v3.cell 1 (.slice b nn q) rfl, HP.out.v3.cell 2 (.slice c no r) rfl⟩, HP.out.v5.cell 0 (.int .i64 r3) rfl, HP.out.v5.cell 1 (.int .i64 c3) rfl, HP.out.v5.cell 2 (.slice a3 n3 k3) rfl⟩ (fun _ => ?_)
       clear hK K
       try simp only [mz1, mz2, mz3, Act.put]
       refine wtkq 9 ?vt9_18 rfl (by kernel_rfl) (fun _ _ _ h => h) (by rfl) ?yt9_18 ⟨⟨HP.out.v3.cell 0 (.slice a ni p) rfl, HP.out.v3.cell 1 (.slice b nn q) rfl, HP.out.v3.cell 2 (.slice c no r) rfl⟩, HP.out.v5.cell 0 (.int .i64 r3) rfl, HP.out.v5.cell 1 (.int .i64 c3) rfl, HP.out.v5.cell 2 (.slice a3 n3 k3) rfl⟩ ?zt9_18
       case yt9_18 => (intro w hSw; (try dsimp only at hSw); go_simp; try with_reducible rfl)
       try simp only [mz1, mz2, mz3, Act.put, mz4, mz5, mz6]
       refine wpAnyH_done (by kernel_rfl) ?_ _
       refine qa3 rfl (fun K hK => ?_)
       refine qa1 rfl 24 _ _ rfl x2.heap.size _ #[.int .i64 r3, .int .i64 c3, .slice s9 n3 d9] rfl rfl HP.out.p9 qak rfl (qau _ _ _ _ _) ?_
       intro x9 HV9 HG9
       refine hK.out _ _ ?_
       clear hK K
       try simp only [mz1, mz2, mz3, Act.put]
       go_wp2_with fail
       go_meet
       case rel => exact ⟨_, _, a1, q1, b1, q2, c1, q3, sl, dl, s9, d9, rfl, rfl, rfl, HP.out.fin HV9.out HG9.out (by omega) (by omega)⟩
   ·go_simp
    obtain ⟨x2, hw⟩ : ∃ x, Hid (x1.alloc (.cells #[.int .i64 0, .int .i64 0, .slice none 0 0] 24) = x) := ⟨_, rfl⟩
    rw [hw.out]
    have hb : Below x1.heap.size x1 x2 := by rw [← hw.out]; exact jlow _ _
    have hz_2 : x1.heap.size < x2.heap.size := by rw [← hw.out]; simp
    have HL_2 := qa0 (jtwo HL_1.out hb)
    have V3_2 := qa0 (V3_1.out.later hb)
    have V5_2 := qa0 (V5_1.out.later hb)
    have P7_2 := qa0 (P7_1.out.later hb)
    have P9_2 : Hid (Vf x2 x1.heap.size 24 #[.int .i64 0, .int .i64 0, .slice none 0 0]) := by { show Vf _ _ _ _; rw [← hw.out]; exact Vf.new _ _ _ }
    clear hw hb
    have HD_2 : Hid ((fun w' => (w'.cell? ⟨w.heap.size, 0, none⟩ = some (.slice a ni p) ∧ w'.cell? ⟨w.heap.size, 1, none⟩ = some (.slice b nn q) ∧ w'.cell? ⟨w.heap.size, 2, none⟩ = some (.slice c no r)) ∧ w'.cell? ⟨w.heap.size + 1, 0, none⟩ = some (.int .i64 r3) ∧ w'.cell? ⟨w.heap.size + 1, 1, none⟩ = some (.int .i64 c3) ∧ w'.cell? ⟨w.heap.size + 1, 2, none⟩ = some (.slice a3 n3 k3)) x2) := ⟨⟨V3_2.out.cell 0 (.slice a ni p) rfl, V3_2.out.cell 1 (.slice b nn q) rfl, V3_2.out.cell 2 (.slice c no r) rfl⟩, V5_2.out.cell 0 (.int .i64 r3) rfl, V5_2.out.cell 1 (.int .i64 c3) rfl, V5_2.out.cell 2 (.slice a3 n3 k3) rfl⟩
    clear HD_1 HL_1 V3_1 V5_1 P7_1
    refine hK.out _ _ HD_2.out (fun _ => ?_)
    clear hK K
    try simp only [mz1, mz2, mz3, Act.put, mz4, mz5, mz6]
    refine wpAnyH_ready (rs := [1]) (by kernel_rfl) (by simp) ?_
    refine AllReadyH.cons rfl (fun K hK => ?_) AllReadyH.nil
    ·go_simp
     refine (HCf.out x2 HL_2.out).mono ?_
     rintro e x3 ⟨⟨a1, q1, b1, q2, c1, q3, rfl, hc⟩, hb⟩
     have hz_3 : x2.heap.size ≤ x3.heap.size := hb.size
     have HL_3 := qa0 (jtwo HL_2.out hb)
     have V3_3 := qa0 (V3_2.out.later hb)
     have V5_3 := qa0 (V5_2.out.later hb)
     have P7_3 := qa0 (P7_2.out.later hb)
     have P9_3 := qa0 (P9_2.out.later hb)
     have CP_3 := qa0 hc
     clear hc hb
     have HD_3 : Hid ((fun w' => (w'.cell? ⟨w.heap.size, 0, none⟩ = some (.slice a ni p) ∧ w'.cell? ⟨w.heap.size, 1, none⟩ = some (.slice b nn q) ∧ w'.cell? ⟨w.heap.size, 2, none⟩ = some (.slice c no r)) ∧ w'.cell? ⟨w.heap.size + 1, 0, none⟩ = some (.int .i64 r3) ∧ w'.cell? ⟨w.heap.size + 1, 1, none⟩ = some (.int .i64 c3) ∧ w'.cell? ⟨w.heap.size + 1, 2, none⟩ = some (.slice a3 n3 k3)) x3) := ⟨⟨V3_3.out.cell 0 (.slice a ni p) rfl, V3_3.out.cell 1 (.slice b nn q) rfl, V3_3.out.cell 2 (.slice c no r) rfl⟩, V5_3.out.cell 0 (.int .i64 r3) rfl, V5_3.out.cell 1 (.int .i64 c3) rfl, V5_3.out.cell 2 (.slice a3 n3 k3) rfl⟩
     clear HD_2 HL_2 V3_2 V5_2 P7_2 P9_2
     refine hK.out _ _ HD_3.out (fun _ => ?_)
     clear hK K
     try simp only [mz1, mz2, mz3, Act.put, mz4, mz5, mz6]
     refine wpAnyH_ready (rs := [3]) (by kernel_rfl) (by simp) ?_
     refine AllReadyH.cons rfl (fun K hK => ?_) AllReadyH.nil
     ·go_simp
      refine (HCb.out x3 HL_3.out).mono ?_
      rintro e x4 ⟨⟨v, rfl, hv⟩, hb⟩
      obtain ⟨sl, dl, rfl, -⟩ := hv.form
      have hz_4 : x3.heap.size ≤ x4.heap.size := hb.size
      have HL_4 := qa0 (jtwo HL_3.out hb)
      have V3_4 := qa0 (V3_3.out.later hb)
      have V5_4 := qa0 (V5_3.out.later hb)
      have P7_4 := qa0 (P7_3.out.later hb)
      have P9_4 := qa0 (P9_3.out.later hb)
      have CP_4 := qa0 (CP_3.out.later hb)
      have BV_4 := qa0 (BvE.of hv)
      clear hv hb
      have HD_4 : Hid ((fun w' => (w'.cell? ⟨w.heap.size, 0, none⟩ = some (.slice a ni p) ∧ w'.cell? ⟨w.heap.size, 1, none⟩ = some (.slice b nn q) ∧ w'.cell? ⟨w.heap.size, 2, none⟩ = some (.slice c no r)) ∧ w'.cell? ⟨w.heap.size + 1, 0, none⟩ = some (.int .i64 r3) ∧ w'.cell? ⟨w.heap.size + 1, 1, none⟩ = some (.int .i64 c3) ∧ w'.cell? ⟨w.heap.size + 1, 2, none⟩ = some (.slice a3 n3 k3)) x4) := ⟨⟨V3_4.out.cell 0 (.slice a ni p) rfl, V3_4.out.cell 1 (.slice b nn q) rfl, V3_4.out.cell 2 (.slice c no r) rfl⟩, V5_4.out.cell 0 (.int .i64 r3) rfl, V5_4.out.cell 1 (.int .i64 c3) rfl, V5_4.out.cell 2 (.slice a3 n3 k3) rfl⟩
      clear HD_3 HL_3 V3_3 V5_3 P7_3 P9_3 CP_3
      refine hK.out _ _ HD_4.out (fun _ => ?_)
      clear hK K
      try simp only [mz1, mz2, mz3, Act.put, mz4, mz5, mz6]
      refine wpAnyH_ready (rs := [5]) (by kernel_rfl) (by simp) ?_
      refine AllReadyH.cons rfl (fun K hK => ?_) AllReadyH.nil
      ·go_simp
       refine (HCm.out x4 HL_4.out).mono ?_
       rintro e x5 ⟨s9, d9, rfl, ho, hb⟩
       have hz_5 : x4.heap.size ≤ x5.heap.size := hb.size
       have HL_5 := qa0 (jtwo HL_4.out hb)
       have V3_5 := qa0 (V3_4.out.later hb)
       have V5_5 := qa0 (V5_4.out.later hb)
       have P7_5 := qa0 (P7_4.out.later hb)
       have P9_5 := qa0 (P9_4.out.later hb)
       have CP_5 := qa0 (CP_4.out.later hb)
       have BV_5 := qa0 (BV_4.out.later hb)
       have MR_5 := qa0 (MrE.of ho)
       clear ho hb
       have HD_5 : Hid ((fun w' => (w'.cell? ⟨w.heap.size, 0, none⟩ = some (.slice a ni p) ∧ w'.cell? ⟨w.heap.size, 1, none⟩ = some (.slice b nn q) ∧ w'.cell? ⟨w.heap.size, 2, none⟩ = some (.slice c no r)) ∧ w'.cell? ⟨w.heap.size + 1, 0, none⟩ = some (.int .i64 r3) ∧ w'.cell? ⟨w.heap.size + 1, 1, none⟩ = some (.int .i64 c3) ∧ w'.cell? ⟨w.heap.size + 1, 2, none⟩ = some (.slice a3 n3 k3)) x5) := ⟨⟨V3_5.out.cell 0 (.slice a ni p) rfl, V3_5.out.cell 1 (.slice b nn q) rfl, V3_5.out.cell 2 (.slice c no r) rfl⟩, V5_5.out.cell 0 (.int .i64 r3) rfl, V5_5.out.cell 1 (.int .i64 c3) rfl, V5_5.out.cell 2 (.slice a3 n3 k3) rfl⟩
       clear HD_4 HL_4 V3_4 V5_4 P7_4 P9_4 CP_4 BV_4
       refine hK.out _ _ HD_5.out (fun _ => ?_)
       clear hK K
       try simp only [mz1, mz2, mz3, Act.put, mz4, mz5, mz6]
       refine wpAnyH_ready (rs := [8]) (by kernel_rfl) (by simp) ?_
       refine AllReadyH.cons rfl (fun K hK => ?_) AllReadyH.nil
       refine qa1 rfl 28 _ _ rfl x0.heap.size _ #[.slice a1 ni q1, .slice b1 nn q2, .slice c1 no q3] rfl rfl P7_5.out sizeFl rfl (qan _ _ _ _ _ _ _ _ _) ?_
       intro x8 HV8 HG8
       have HP := qa0 (CsP.one V3_5.out V5_5.out P7_5.out P9_5.out CP_5.out BV_5.out MR_5.out HL_5.out HV8.out HG8.out (by omega) (by omega) (by omega))
       refine hK.out _ _ ⟨⟨HP.out.v3.cell 0 (.slice a ni p) rfl, HP.out.v3.cell 1 (.slice b nn q) rfl, HP.out.v3.cell 2 (.slice c no r) rfl⟩, HP.out.v5.cell 0 (.int .i64 r3) rfl, HP.out.v5.cell 1 (.int .i64 c3) rfl, HP.out.v5.cell 2 (.slice a3 n3 k3) rfl⟩ (fun _ => ?_)
       clear hK K
       try simp only [mz1, mz2, mz3, Act.put]
       refine wtkq 9 ?vt9_19 rfl (by kernel_rfl) (fun _ _ _ h => h) (by rfl) ?yt9_19 ⟨⟨HP.out.v3.cell 0 (.slice a ni p) rfl, HP.out.v3.cell 1 (.slice b nn q) rfl, HP.out.v3.cell 2 (.slice c no r) rfl⟩, HP.out.v5.cell 0 (.int .i64 r3) rfl, HP.out.v5.cell 1 (.int .i64 c3) rfl, HP.out.v5.cell 2 (.slice a3 n3 k3) rfl⟩ ?zt9_19
       case yt9_19 => (intro w hSw; (try dsimp only at hSw); go_simp; try with_reducible rfl)
       try simp only [mz1, mz2, mz3, Act.put, mz4, mz5, mz6]
       refine wpAnyH_done (by kernel_rfl) ?_ _
       refine qa3 rfl (fun K hK => ?_)
       refine qa1 rfl 24 _ _ rfl x1.heap.size _ #[.int .i64 r3, .int .i64 c3, .slice s9 n3 d9] rfl rfl HP.out.p9 qak rfl (qau _ _ _ _ _) ?_
       intro x9 HV9 HG9
       refine hK.out _ _ ?_
       clear hK K
       try simp only [mz1, mz2, mz3, Act.put]
       go_wp2_with fail
       go_meet
       case rel => exact ⟨_, _, a1, q1, b1, q2, c1, q3, sl, dl, s9, d9, rfl, rfl, rfl, HP.out.fin HV9.out HG9.out (by omega) (by omega)⟩
  ·go_simp
   obtain ⟨x1, hw⟩ : ∃ x, Hid (x0.alloc (.cells #[.int .i64 0, .int .i64 0, .slice none 0 0] 24) = x) := ⟨_, rfl⟩
   rw [hw.out]
   have hb : Below x0.heap.size x0 x1 := by rw [← hw.out]; exact jlow _ _
   have hz_1 : x0.heap.size < x1.heap.size := by rw [← hw.out]; simp
   have HL_1 := qa0 (jtwo HL_0.out hb)
   have V3_1 := qa0 (V3_0.out.later hb)
   have V5_1 := qa0 (V5_0.out.later hb)
   have P9_1 : Hid (Vf x1 x0.heap.size 24 #[.int .i64 0, .int .i64 0, .slice none 0 0]) := by { show Vf _ _ _ _; rw [← hw.out]; exact Vf.new _ _ _ }
   clear hw hb
   have HD_1 : Hid ((fun w' => (w'.cell? ⟨w.heap.size, 0, none⟩ = some (.slice a ni p) ∧ w'.cell? ⟨w.heap.size, 1, none⟩ = some (.slice b nn q) ∧ w'.cell? ⟨w.heap.size, 2, none⟩ = some (.slice c no r)) ∧ w'.cell? ⟨w.heap.size + 1, 0, none⟩ = some (.int .i64 r3) ∧ w'.cell? ⟨w.heap.size + 1, 1, none⟩ = some (.int .i64 c3) ∧ w'.cell? ⟨w.heap.size + 1, 2, none⟩ = some (.slice a3 n3 k3)) x1) := ⟨⟨V3_1.out.cell 0 (.slice a ni p) rfl, V3_1.out.cell 1 (.slice b nn q) rfl, V3_1.out.cell 2 (.slice c no r) rfl⟩, V5_1.out.cell 0 (.int .i64 r3) rfl, V5_1.out.cell 1 (.int .i64 c3) rfl, V5_1.out.cell 2 (.slice a3 n3 k3) rfl⟩
   clear HD_0 HL_0 V3_0 V5_0
   refine hK.out _ _ HD_1.out (fun _ => ?_)
   clear hK K
   try simp only [mz1, mz2, mz3, Act.put, mz4, mz5, mz6]
   refine wpAnyH_ready (rs := [1, 6]) (by kernel_rfl) (by simp) ?_
   refine AllReadyH.cons rfl (fun K hK => ?_) (AllReadyH.cons rfl (fun K hK => ?_) AllReadyH.nil)
   ·go_simp
    refine (HCf.out x1 HL_1.out).mono ?_
    rintro e x2 ⟨⟨a1, q1, b1, q2, c1, q3, rfl, hc⟩, hb⟩
    have hz_2 : x1.heap.size ≤ x2.heap.size := hb.size
    have HL_2 := qa0 (jtwo HL_1.out hb)
    have V3_2 := qa0 (V3_1.out.later hb)
    have V5_2 := qa0 (V5_1.out.later hb)
    have P9_2 := qa0 (P9_1.out.later hb)
    have CP_2 := qa0 hc
    clear hc hb
    have HD_2 : Hid ((fun w' => (w'.cell? ⟨w.heap.size, 0, none⟩ = some (.slice a ni p) ∧ w'.cell? ⟨w.heap.size, 1, none⟩ = some (.slice b nn q) ∧ w'.cell? ⟨w.heap.size, 2, none⟩ = some (.slice c no r)) ∧ w'.cell? ⟨w.heap.size + 1, 0, none⟩ = some (.int .i64 r3) ∧ w'.cell? ⟨w.heap.size + 1, 1, none⟩ = some (.int .i64 c3) ∧ w'.cell? ⟨w.heap.size + 1, 2, none⟩ = some (.slice a3 n3 k3)) x2) := ⟨⟨V3_2.out.cell 0 (.slice a ni p) rfl, V3_2.out.cell 1 (.slice b nn q) rfl, V3_2.out.cell 2 (.slice c no r) rfl⟩, V5_2.out.cell 0 (.int .i64 r3) rfl, V5_2.out.cell 1 (.int .i64 c3) rfl, V5_2.out.cell 2 (.slice a3 n3 k3) rfl⟩
    clear HD_1 HL_1 V3_1 V5_1 P9_1
    refine hK.out _ _ HD_2.out (fun _ => ?_)
    clear hK K
    try simp only [mz1, mz2, mz3, Act.put, mz4, mz5, mz6]
    refine wpAnyH_ready (rs := [3, 6]) (by kernel_rfl) (by simp) ?_
    refine AllReadyH.cons rfl (fun K hK => ?_) (AllReadyH.cons rfl (fun K hK => ?_) AllReadyH.nil)
    ·go_simp
     refine (HCb.out x2 HL_2.out).mono ?_
     rintro e x3 ⟨⟨v, rfl, hv⟩, hb⟩
     obtain ⟨sl, dl, rfl, -⟩ := hv.form
     have hz_3 : x2.heap.size ≤ x3.heap.size := hb.size
     have HL_3 := qa0 (jtwo HL_2.out hb)
     have V3_3 := qa0 (V3_2.out.later hb)
     have V5_3 := qa0 (V5_2.out.later hb)
     have P9_3 := qa0 (P9_2.out.later hb)
     have CP_3 := qa0 (CP_2.out.later hb)
     have BV_3 := qa0 (BvE.of hv)
     clear hv hb
     have HD_3 : Hid ((fun w' => (w'.cell? ⟨w.heap.size, 0, none⟩ = some (.slice a ni p) ∧ w'.cell? ⟨w.heap.size, 1, none⟩ = some (.slice b nn q) ∧ w'.cell? ⟨w.heap.size, 2, none⟩ = some (.slice c no r)) ∧ w'.cell? ⟨w.heap.size + 1, 0, none⟩ = some (.int .i64 r3) ∧ w'.cell? ⟨w.heap.size + 1, 1, none⟩ = some (.int .i64 c3) ∧ w'.cell? ⟨w.heap.size + 1, 2, none⟩ = some (.slice a3 n3 k3)) x3) := ⟨⟨V3_3.out.cell 0 (.slice a ni p) rfl, V3_3.out.cell 1 (.slice b nn q) rfl, V3_3.out.cell 2 (.slice c no r) rfl⟩, V5_3.out.cell 0 (.int .i64 r3) rfl, V5_3.out.cell 1 (.int .i64 c3) rfl, V5_3.out.cell 2 (.slice a3 n3 k3) rfl⟩
     clear HD_2 HL_2 V3_2 V5_2 P9_2 CP_2
     refine hK.out _ _ HD_3.out (fun _ => ?_)
     clear hK K
     try simp only [mz1, mz2, mz3, Act.put, mz4, mz5, mz6]
     refine wpAnyH_ready (rs := [5, 6]) (by kernel_rfl) (by simp) ?_
     refine AllReadyH.cons rfl (fun K hK => ?_) (AllReadyH.cons rfl (fun K hK => ?_) AllReadyH.nil)
     ·go_simp
      refine (HCm.out x3 HL_3.out).mono ?_
      rintro e x4 ⟨s9, d9, rfl, ho, hb⟩
      have hz_4 : x3.heap.size ≤ x4.heap.size := hb.size
      have HL_4 := qa0 (jtwo HL_3.out hb)
      have V3_4 := qa0 (V3_3.out.later hb)
      have V5_4 := qa0 (V5_3.out.later hb)
      have P9_4 := qa0 (P9_3.out.later hb)
      have CP_4 := qa0 (CP_3.out.later hb)
      have BV_4 := qa0 (BV_3.out.later hb)
      have MR_4 := qa0 (MrE.of ho)
      clear ho hb
      have HD_4 : Hid ((fun w' => (w'.cell? ⟨w.heap.size, 0, none⟩ = some (.slice a ni p) ∧ w'.cell? ⟨w.heap.size, 1, none⟩ = some (.slice b nn q) ∧ w'.cell? ⟨w.heap.size, 2, none⟩ = some (.slice c no r)) ∧ w'.cell? ⟨w.heap.size + 1, 0, none⟩ = some (.int .i64 r3) ∧ w'.cell? ⟨w.heap.size + 1, 1, none⟩ = some (.int .i64 c3) ∧ w'.cell? ⟨w.heap.size + 1, 2, none⟩ = some (.slice a3 n3 k3)) x4) := ⟨⟨V3_4.out.cell 0 (.slice a ni p) rfl, V3_4.out.cell 1 (.slice b nn q) rfl, V3_4.out.cell 2 (.slice c no r) rfl⟩, V5_4.out.cell 0 (.int .i64 r3) rfl, V5_4.out.cell 1 (.int .i64 c3) rfl, V5_4.out.cell 2 (.slice a3 n3 k3) rfl⟩
      clear HD_3 HL_3 V3_3 V5_3 P9_3 CP_3 BV_3
      refine hK.out _ _ HD_4.out (fun _ => ?_)
      clear hK K
      try simp only [mz1, mz2, mz3, Act.put, mz4, mz5, mz6]
      refine wpAnyH_ready (rs := [6]) (by kernel_rfl) (by simp) ?_
      refine AllReadyH.cons rfl (fun K hK => ?_) AllReadyH.nil
      ·go_simp
       obtain ⟨x5, hw⟩ : ∃ x, Hid (x4.alloc (.cells #[.slice none 0 0, .slice none 0 0, .slice none 0 0] 28) = x) := ⟨_, rfl⟩
       rw [hw.out]
       have hb : Below x4.heap.size x4 x5 := by rw [← hw.out]; exact jlow _ _
       have hz_5 : x4.heap.size < x5.heap.size := by rw [← hw.out]; simp
       have HL_5 := qa0 (jtwo HL_4.out hb)
       have V3_5 := qa0 (V3_4.out.later hb)
       have V5_5 := qa0 (V5_4.out.later hb)
       have P9_5 := qa0 (P9_4.out.later hb)
       have CP_5 := qa0 (CP_4.out.later hb)
       have BV_5 := qa0 (BV_4.out.later hb)
       have MR_5 := qa0 (MR_4.out.later hb)
       have P7_5 : Hid (Vf x5 x4.heap.size 28 #[.slice none 0 0, .slice none 0 0, .slice none 0 0]) := by { show Vf _ _ _ _; rw [← hw.out]; exact Vf.new _ _ _ }
       clear hw hb
       have HD_5 : Hid ((fun w' => (w'.cell? ⟨w.heap.size, 0, none⟩ = some (.slice a ni p) ∧ w'.cell? ⟨w.heap.size, 1, none⟩ = some (.slice b nn q) ∧ w'.cell? ⟨w.heap.size, 2, none⟩ = some (.slice c no r)) ∧ w'.cell? ⟨w.heap.size + 1, 0, none⟩ = some (.int .i64 r3) ∧ w'.cell? ⟨w.heap.size + 1, 1, none⟩ = some (.int .i64 c3) ∧ w'.cell? ⟨w.heap.size + 1, 2, none⟩ = some (.slice a3 n3 k3)) x5) := ⟨⟨V3_5.out.cell 0 (.slice a ni p) rfl, V3_5.out.cell 1 (.slice b nn q) rfl, V3_5.out.cell 2 (.slice c no r) rfl⟩, V5_5.out.cell 0 (.int .i64 r3) rfl, V5_5.out.cell 1 (.int .i64 c3) rfl, V5_5.out.cell 2 (.slice a3 n3 k3) rfl⟩
       clear HD_4 HL_4 V3_4 V5_4 P9_4 CP_4 BV_4 MR_4
       refine hK.out _ _ HD_5.out (fun _ => ?_)
       clear hK K
       try simp only [mz1, mz2, mz3, Act.put, mz4, mz5, mz6]
       refine wpAnyH_ready (rs := [8]) (by kernel_rfl) (by simp) ?_
       refine AllReadyH.cons rfl (fun K hK => ?_) AllReadyH.nil
       refine qa1 rfl 28 _ _ rfl x4.heap.size _ #[.slice a1 ni q1, .slice b1 nn q2, .slice c1 no q3] rfl rfl P7_5.out sizeFl rfl (qan _ _ _ _ _ _ _ _ _) ?_
       intro x8 HV8 HG8
       have HP := qa0 (CsP.one V3_5.out V5_5.out P7_5.out P9_5.out CP_5.out BV_5.out MR_5.out HL_5.out HV8.out HG8.out (by omega) (by omega) (by omega))
       refine hK.out _ _ ⟨⟨HP.out.v3.cell 0 (.slice a ni p) rfl, HP.out.v3.cell 1 (.slice b nn q) rfl, HP.out.v3.cell 2 (.slice c no r) rfl⟩, HP.out.v5.cell 0 (.int .i64 r3) rfl, HP.out.v5.cell 1 (.int .i64 c3) rfl, HP.out.v5.cell 2 (.slice a3 n3 k3) rfl⟩ (fun _ => ?_)
       clear hK K
       try simp only [mz1, mz2, mz3, Act.put]
       refine wtkq 9 ?vt9_20 rfl (by kernel_rfl) (fun _ _ _ h => h) (by rfl) ?yt9_20 ⟨⟨HP.out.v3.cell 0 (.slice a ni p) rfl, HP.out.v3.cell 1 (.slice b nn q) rfl, HP.out.v3.cell 2 (.slice c no r) rfl⟩, HP.out.v5.cell 0 (.int .i64 r3) rfl, HP.out.v5.cell 1 (.int .i64 c3) rfl, HP.out.v5.cell 2 (.slice a3 n3 k3) rfl⟩ ?zt9_20
       case yt9_20 => (intro w hSw; (try dsimp only at hSw); go_simp; try with_reducible rfl)
       try simp only [mz1, mz2, mz3, Act.put, mz4, mz5, mz6]
       refine wpAnyH_done (by kernel_rfl) ?_ _
       refine qa3 rfl (fun K hK => ?_)
       refine qa1 rfl 24 _ _ rfl x0.heap.size _ #[.int .i64 r3, .int .i64 c3, .slice s9 n3 d9] rfl rfl HP.out.p9 qak rfl (qau _ _ _ _ _) ?_
       intro x9 HV9 HG9
       refine hK.out _ _ ?_
       clear hK K
       try simp only [mz1, mz2, mz3, Act.put]
       go_wp2_with fail
       go_meet
       case rel => exact ⟨_, _, a1, q1, b1, q2, c1, q3, sl, dl, s9, d9, rfl, rfl, rfl, HP.out.fin HV9.out HG9.out (by omega) (by omega)⟩
     ·go_simp
      obtain ⟨x4, hw⟩ : ∃ x, Hid (x3.alloc (.cells #[.slice none 0 0, .slice none 0 0, .slice none 0 0] 28) = x) := ⟨_, rfl⟩
      rw [hw.out]
      have hb : Below x3.heap.size x3 x4 := by rw [← hw.out]; exact jlow _ _
      have hz_4 : x3.heap.size < x4.heap.size := by rw [← hw.out]; simp
      have HL_4 := qa0 (jtwo HL_3.out hb)
      have V3_4 := qa0 (V3_3.out.later hb)
      have V5_4 := qa0 (V5_3.out.later hb)
      have P9_4 := qa0 (P9_3.out.later hb)
      have CP_4 := qa0 (CP_3.out.later hb)
      have BV_4 := qa0 (BV_3.out.later hb)
      have P7_4 : Hid (Vf x4 x3.heap.size 28 #[.slice none 0 0, .slice none 0 0, .slice none 0 0]) := by { show Vf _ _ _ _; rw [← hw.out]; exact Vf.new _ _ _ }
      clear hw hb
      have HD_4 : Hid ((fun w' => (w'.cell? ⟨w.heap.size, 0, none⟩ = some (.slice a ni p) ∧ w'.cell? ⟨w.heap.size, 1, none⟩ = some (.slice b nn q) ∧ w'.cell? ⟨w.heap.size, 2, none⟩ = some (.slice c no r)) ∧ w'.cell? ⟨w.heap.size + 1, 0, none⟩ = some (.int .i64 r3) ∧ w'.cell? ⟨w.heap.size + 1, 1, none⟩ = some (.int .i64 c3) ∧ w'.cell? ⟨w.heap.size + 1, 2, none⟩ = some (.slice a3 n3 k3)) x4) := ⟨⟨V3_4.out.cell 0 (.slice a ni p) rfl, V3_4.out.cell 1 (.slice b nn q) rfl, V3_4.out.cell 2 (.slice c no r) rfl⟩, V5_4.out.cell 0 (.int .i64 r3) rfl, V5_4.out.cell 1 (.int .i64 c3) rfl, V5_4.out.cell 2 (.slice a3 n3 k3) rfl⟩
      clear HD_3 HL_3 V3_3 V5_3 P9_3 CP_3 BV_3
      refine hK.out _ _ HD_4.out (fun _ => ?_)
      clear hK K
      try simp only [mz1, mz2, mz3, Act.put, mz4, mz5, mz6]
      refine wpAnyH_ready (rs := [5]) (by kernel_rfl) (by simp) ?_
      refine AllReadyH.cons rfl (fun K hK => ?_) AllReadyH.nil
      ·go_simp
       refine (HCm.out x4 HL_4.out).mono ?_
       rintro e x5 ⟨s9, d9, rfl, ho, hb⟩
       have hz_5 : x4.heap.size ≤ x5.heap.size := hb.size
       have HL_5 := qa0 (jtwo HL_4.out hb)
       have V3_5 := qa0 (V3_4.out.later hb)
       have V5_5 := qa0 (V5_4.out.later hb)
       have P9_5 := qa0 (P9_4.out.later hb)
       have CP_5 := qa0 (CP_4.out.later hb)
       have BV_5 := qa0 (BV_4.out.later hb)
       have P7_5 := qa0 (P7_4.out.later hb)
       have MR_5 := qa0 (MrE.of ho)
       clear ho hb
       have HD_5 : Hid ((fun w' => (w'.cell? ⟨w.heap.size, 0, none⟩ = some (.slice a ni p) ∧ w'.cell? ⟨w.heap.size, 1, none⟩ = some (.slice b nn q) ∧ w'.cell? ⟨w.heap.size, 2, none⟩ = some (.slice c no r)) ∧ w'.cell? ⟨w.heap.size + 1, 0, none⟩ = some (.int .i64 r3) ∧ w'.cell? ⟨w.heap.size + 1, 1, none⟩ = some (.int .i64 c3) ∧ w'.cell? ⟨w.heap.size + 1, 2, none⟩ = some (.slice a3 n3 k3)) x5) := ⟨⟨V3_5.out.cell 0 (.slice a ni p) rfl, V3_5.out.cell 1 (.slice b nn q) rfl, V3_5.out.cell 2 (.slice c no r) rfl⟩, V5_5.out.cell 0 (.int .i64 r3) rfl, V5_5.out.cell 1 (.int .i64 c3) rfl, V5_5.out.cell 2 (.slice a3 n3 k3) rfl⟩
       clear HD_4 HL_4 V3_4 V5_4 P9_4 CP_4 BV_4 P7_4
       refine hK.out _ _ HD_5.out (fun _ => ?_)
       clear hK K
       try simp only [mz1, mz2, mz3, Act.put, mz4, mz5, mz6]
       refine wpAnyH_ready (rs := [8]) (by kernel_rfl) (by simp) ?_
       refine AllReadyH.cons rfl (fun K hK => ?_) AllReadyH.nil
       refine qa1 rfl 28 _ _ rfl x3.heap.size _ #[.slice a1 ni q1, .slice b1 nn q2, .slice c1 no q3] rfl rfl P7_5.out sizeFl rfl (qan _ _ _ _ _ _ _ _ _) ?_
       intro x8 HV8 HG8
       have HP := qa0 (CsP.one V3_5.out V5_5.out P7_5.out P9_5.out CP_5.out BV_5.out MR_5.out HL_5.out HV8.out HG8.out (by omega) (by omega) (by omega))
       refine hK.out _ _ ⟨⟨HP.out.v3.cell 0 (.slice a ni p) rfl, HP.out.v3.cell 1 (.slice b nn q) rfl, HP.out.v3.cell 2 (.slice c no r) rfl⟩, HP.out.v5.cell 0 (.int .i64 r3) rfl, HP.out.v5.cell 1 (.int .i64 c3) rfl, HP.out.v5.cell 2 (.slice a3 n3 k3) rfl⟩ (fun _ => ?_)
       clear hK K
       try simp only [mz1, mz2, mz3, Act.put]
       refine wtkq 9 ?vt9_21 rfl (by kernel_rfl) (fun _ _ _ h => h) (by rfl) ?yt9_21 ⟨⟨HP.out.v3.cell 0 (.slice a ni p) rfl, HP.out.v3.cell 1 (.slice b nn q) rfl, HP.out.v3.cell 2 (.slice c no r) rfl⟩, HP.out.v5.cell 0 (.int .i64 r3) rfl, HP.out.v5.cell 1 (.int .i64 c3) rfl, HP.out.v5.cell 2 (.slice a3 n3 k3) rfl⟩ ?zt9_21
       case yt9_21 => (intro w hSw; (try dsimp only at hSw); go_simp; try with_reducible rfl)
       try simp only [mz1, mz2, mz3, Act.put, mz4, mz5, mz6]
       refine wpAnyH_done (by kernel_rfl) ?_ _
       refine qa3 rfl (fun K hK => ?_)
       refine qa1 rfl 24 _ _ rfl x0.heap.size _ #[.int .i64 r3, .int .i64 c3, .slice s9 n3 d9] rfl rfl HP.out.p9 qak rfl (qau _ _ _ _ _) ?_
       intro x9 HV9 HG9
       refine hK.out _ _ ?_
       clear hK K
       try simp only [mz1, mz2, mz3, Act.put]
       go_wp2_with fail
       go_meet
       case rel => exact ⟨_, _, a1, q1, b1, q2, c1, q3, sl, dl, s9, d9, rfl, rfl, rfl, HP.out.fin HV9.out HG9.out (by omega) (by omega)⟩
    ·go_simp
     obtain ⟨x3, hw⟩ : ∃ x, Hid (x2.alloc (.cells #[.slice none 0 0, .slice none 0 0, .slice none 0 0] 28) = x) := ⟨_, rfl⟩
     rw [hw.out]
     have hb : Below x2.heap.size x2 x3 := by rw [← hw.out]; exact jlow _ _
     have hz_3 : x2.heap.size < x3.heap.size := by rw [← hw.out]; simp
     have HL_3 := qa0 (jtwo HL_2.out hb)
     have V3_3 := qa0 (V3_2.out.later hb)
     have V5_3 := qa0 (V5_2.out.later hb)
     have P9_3 := qa0 (P9_2.out.later hb)
     have CP_3 := qa0 (CP_2.out.later hb)
     have P7_3 : Hid (Vf x3 x2.heap.size 28 #[.slice none 0 0, .slice none 0 0, .slice none 0 0]) := by { show Vf _ _ _ _; rw [← hw.out]; exact Vf.new _ _ _ }
     clear hw hb
     have HD_3 : Hid ((fun w' => (w'.cell? ⟨w.heap.size, 0, none⟩ = some (.slice a ni p) ∧ w'.cell? ⟨w.heap.size, 1, none⟩ = some (.slice b nn q) ∧ w'.cell? ⟨w.heap.size, 2, none⟩ = some (.slice c no r)) ∧ w'.cell? ⟨w.heap.size + 1, 0, none⟩ = some (.int .i64 r3) ∧ w'.cell? ⟨w.heap.size + 1, 1, none⟩ = some (.int .i64 c3) ∧ w'.cell? ⟨w.heap.size + 1, 2, none⟩ = some (.slice a3 n3 k3)) x3) := ⟨⟨V3_3.out.cell 0 (.slice a ni p) rfl, V3_3.out.cell 1 (.slice b nn q) rfl, V3_3.out.cell 2 (.slice c no r) rfl⟩, V5_3.out.cell 0 (.int .i64 r3) rfl, V5_3.out.cell 1 (.int .i64 c3) rfl, V5_3.out.cell 2 (.slice a3 n3 k3) rfl⟩
     clear HD_2 HL_2 V3_2 V5_2 P9_2 CP_2
     refine hK.out _ _ HD_3.out (fun _ => ?_)
     clear hK K
     try simp only [mz1, mz2, mz3, Act.put, mz4, mz5, mz6]
     refine wpAnyH_ready (rs := [3]) (by kernel_rfl) (by simp) ?_
     refine AllReadyH.cons rfl (fun K hK => ?_) AllReadyH.nil
     ·go_simp
      refine (HCb.out x3 HL_3.out).mono ?_
      rintro e x4 ⟨⟨v, rfl, hv⟩, hb⟩
      obtain ⟨sl, dl, rfl, -⟩ := hv.form
      have hz_4 : x3.heap.size ≤ x4.heap.size := hb.size
      have HL_4 := qa0 (jtwo HL_3.out hb)
      have V3_4 := qa0 (V3_3.out.later hb)
      have V5_4 := qa0 (V5_3.out.later hb)
      have P9_4 := qa0 (P9_3.out.later hb)
      have CP_4 := qa0 (CP_3.out.later hb)
      have P7_4 := qa0 (P7_3.out.later hb)
      have BV_4 := qa0 (BvE.of hv)
      clear hv hb
      have HD_4 : Hid ((fun w' => (w'.cell? ⟨w.heap.size, 0, none⟩ = some (.slice a ni p) ∧ w'.cell? ⟨w.heap.size, 1, none⟩ = some (.slice b nn q) ∧ w'.cell? ⟨w.heap.size, 2, none⟩ = some (.slice c no r)) ∧ w'.cell? ⟨w.heap.size + 1, 0, none⟩ = some (.int .i64 r3) ∧ w'.cell? ⟨w.heap.size + 1, 1, none⟩ = some (.int .i64 c3) ∧ w'.cell? ⟨w.heap.size + 1, 2, none⟩ = some (.slice a3 n3 k3)) x4) := ⟨⟨V3_4.out.cell 0 (.slice a ni p) rfl, V3_4.out.cell 1 (.slice b nn q) rfl, V3_4.out.cell 2 (.slice c no r) rfl⟩, V5_4.out.cell 0 (.int .i64 r3) rfl, V5_4.out.cell 1 (.int .i64 c3) rfl, V5_4.out.cell 2 (.slice a3 n3 k3) rfl⟩
      clear HD_3 HL_3 V3_3 V5_3 P9_3 CP_3 P7_3
      refine hK.out _ _ HD_4.out (fun _ => ?_)
      clear hK K
      try simp only [mz1, mz2, mz3, Act.put, mz4, mz5, mz6]
      refine wpAnyH_ready (rs := [5]) (by kernel_rfl) (by simp) ?_
      refine AllReadyH.cons rfl (fun K hK => ?_) AllReadyH.nil
      ·go_simp
       refine (HCm.out x4 HL_4.out).mono ?_
       rintro e x5 ⟨s9, d9, rfl, ho, hb⟩
       have hz_5 : x4.heap.size ≤ x5.heap.size := hb.size
       have HL_5 := qa0 (jtwo HL_4.out hb)
       have V3_5 := qa0 (V3_4.out.later hb)
       have V5_5 := qa0 (V5_4.out.later hb)
       have P9_5 := qa0 (P9_4.out.later hb)
       have CP_5 := qa0 (CP_4.out.later hb)
       have P7_5 := qa0 (P7_4.out.later hb)
       have BV_5 := qa0 (BV_4.out.later hb)
       have MR_5 := qa0 (MrE.of ho)
       clear ho hb
       have HD_5 : Hid ((fun w' => (w'.cell? ⟨w.heap.size, 0, none⟩ = some (.slice a ni p) ∧ w'.cell? ⟨w.heap.size, 1, none⟩ = some (.slice b nn q) ∧ w'.cell? ⟨w.heap.size, 2, none⟩ = some (.slice c no r)) ∧ w'.cell? ⟨w.heap.size + 1, 0, none⟩ = some (.int .i64 r3) ∧ w'.cell? ⟨w.heap.size + 1, 1, none⟩ = some (.int .i64 c3) ∧ w'.cell? ⟨w.heap.size + 1, 2, none⟩ = some (.slice a3 n3 k3)) x5) := ⟨⟨V3_5.out.cell 0 (.slice a ni p) rfl, V3_5.out.cell 1 (.slice b nn q) rfl, V3_5.out.cell 2 (.slice c no r) rfl⟩, V5_5.out.cell 0 (.int .i64 r3) rfl, V5_5.out.cell 1 (.int .i64 c3) rfl, V5_5.out.cell 2 (.slice a3 n3 k3) rfl⟩
       clear HD_4 HL_4 V3_4 V5_4 P9_4 CP_4 P7_4 BV_4
       refine hK.out _ _ HD_5.out (fun _ => ?_)
       clear hK K
       try simp only [mz1, mz2, mz3, Act.put, mz4, mz5, mz6]
       refine wpAnyH_ready (rs := [8]) (by kernel_rfl) (by simp) ?_
       refine AllReadyH.cons rfl (fun K hK => ?_) AllReadyH.nil
       refine qa1 rfl 28 _ _ rfl x2.heap.size _ #[.slice a1 ni q1, .slice b1 nn q2, .slice c1 no q3] rfl rfl P7_5.out sizeFl rfl (qan _ _ _ _ _ _ _ _ _) ?_
       intro x8 HV8 HG8
       have HP := qa0 (CsP.one V3_5.out V5_5.out P7_5.out P9_5.out CP_5.out BV_5.out MR_5.out HL_5.out HV8.out HG8.out (by omega) (by omega) (by omega))
       refine hK.out _ _ ⟨⟨HP.out.v3.cell 0 (.slice a ni p) rfl, HP.out.v3.cell 1 (.slice b nn q) rfl, HP.out.v3.cell 2 (.slice c no r) rfl⟩, HP.out.v5.cell 0 (.int .i64 r3) rfl, HP.out.v5.cell 1 (.int .i64 c3) rfl, HP.out.v5.cell 2 (.slice a3 n3 k3) rfl⟩ (fun _ => ?_)
       clear hK K
       try simp only [mz1, mz2, mz3, Act.put]
       refine wtkq 9 ?vt9_22 rfl (by kernel_rfl) (fun _ _ _ h => h) (by rfl) ?yt9_22 ⟨⟨HP.out.v3.cell 0 (.slice a ni p) rfl, HP.out.v3.cell 1 (.slice b nn q) rfl, HP.out.v3.cell 2 (.slice c no r) rfl⟩, HP.out.v5.cell 0 (.int .i64 r3) rfl, HP.out.v5.cell 1 (.int .i64 c3) rfl, HP.out.v5.cell 2 (.slice a3 n3 k3) rfl⟩ ?zt9_22
       case yt9_22 => (intro w hSw; (try dsimp only at hSw); go_simp; try with_reducible rfl)
       try simp only [mz1, mz2, mz3, Act.put, mz4, mz5, mz6]
       refine wpAnyH_done (by kernel_rfl) ?_ _
       refine qa3 rfl (fun K hK => ?_)
       refine qa1 rfl 24 _ _ rfl x0.heap.size _ #[.int .i64 r3, .int .i64 c3, .slice s9 n3 d9] rfl rfl HP.out.p9 qak rfl (qau _ _ _ _ _) ?_
       intro x9 HV9 HG9
       refine hK.out _ _ ?_
       clear hK K
       try simp only [mz1, mz2, mz3, Act.put]
       go_wp2_with fail
       go_meet
       case rel => exact ⟨_, _, a1, q1, b1, q2, c1, q3, sl, dl, s9, d9, rfl, rfl, rfl, HP.out.fin HV9.out HG9.out (by omega) (by omega)⟩
   ·go_simp
    obtain ⟨x2, hw⟩ : ∃ x, Hid (x1.alloc (.cells #[.slice none 0 0, .slice none 0 0, .slice none 0 0] 28) = x) := ⟨_, rfl⟩
    rw [hw.out]
    have hb : Below x1.heap.size x1 x2 := by rw [← hw.out]; exact jlow _ _
    have hz_2 : x1.heap.size < x2.heap.size := by rw [← hw.out]; simp
    have HL_2 := qa0 (jtwo HL_1.out hb)
    have V3_2 := qa0 (V3_1.out.later hb)
    have V5_2 := qa0 (V5_1.out.later hb)
    have P9_2 := qa0 (P9_1.out.later hb)
    have P7_2 : Hid (Vf x2 x1.heap.size 28 #[.slice none 0 0, .slice none 0 0, .slice none 0 0]) := by { show Vf _ _ _ _; rw [← hw.out]; exact Vf.new _ _ _ }
    clear hw hb
    have HD_2 : Hid ((fun w' => (w'.cell? ⟨w.heap.size, 0, none⟩ = some (.slice a ni p) ∧ w'.cell? ⟨w.heap.size, 1, none⟩ = some (.slice b nn q) ∧ w'.cell? ⟨w.heap.size, 2, none⟩ = some (.slice c no r)) ∧ w'.cell? ⟨w.heap.size + 1, 0, none⟩ = some (.int .i64 r3) ∧ w'.cell? ⟨w.heap.size + 1, 1, none⟩ = some (.int .i64 c3) ∧ w'.cell? ⟨w.heap.size + 1, 2, none⟩ = some (.slice a3 n3 k3)) x2) := ⟨⟨V3_2.out.cell 0 (.slice a ni p) rfl, V3_2.out.cell 1 (.slice b nn q) rfl, V3_2.out.cell 2 (.slice c no r) rfl⟩, V5_2.out.cell 0 (.int .i64 r3) rfl, V5_2.out.cell 1 (.int .i64 c3) rfl, V5_2.out.cell 2 (.slice a3 n3 k3) rfl⟩
    clear HD_1 HL_1 V3_1 V5_1 P9_1
    refine hK.out _ _ HD_2.out (fun _ => ?_)
    clear hK K
    try simp only [mz1, mz2, mz3, Act.put, mz4, mz5, mz6]
    refine wpAnyH_ready (rs := [1]) (by kernel_rfl) (by simp) ?_
    refine AllReadyH.cons rfl (fun K hK => ?_) AllReadyH.nil
    ·go_simp
     refine (HCf.out x2 HL_2.out).mono ?_
     rintro e x3 ⟨⟨a1, q1, b1, q2, c1, q3, rfl, hc⟩, hb⟩
     have hz_3 : x2.heap.size ≤ x3.heap.size := hb.size
     have HL_3 := qa0 (jtwo HL_2.out hb)
     have V3_3 := qa0 (V3_2.out.later hb)
     have V5_3 := qa0 (V5_2.out.later hb)
     have P9_3 := qa0 (P9_2.out.later hb)
     have P7_3 := qa0 (P7_2.out.later hb)
     have CP_3 := qa0 hc
     clear hc hb
     have HD_3 : Hid ((fun w' => (w'.cell? ⟨w.heap.size, 0, none⟩ = some (.slice a ni p) ∧ w'.cell? ⟨w.heap.size, 1, none⟩ = some (.slice b nn q) ∧ w'.cell? ⟨w.heap.size, 2, none⟩ = some (.slice c no r)) ∧ w'.cell? ⟨w.heap.size + 1, 0, none⟩ = some (.int .i64 r3) ∧ w'.cell? ⟨w.heap.size + 1, 1, none⟩ = some (.int .i64 c3) ∧ w'.cell? ⟨w.heap.size + 1, 2, none⟩ = some (.slice a3 n3 k3)) x3) := ⟨⟨V3_3.out.cell 0 (.slice a ni p) rfl, V3_3.out.cell 1 (.slice b nn q) rfl, V3_3.out.cell 2 (.slice c no r) rfl⟩, V5_3.out.cell 0 (.int .i64 r3) rfl, V5_3.out.cell 1 (.int .i64 c3) rfl, V5_3.out.cell 2 (.slice a3 n3 k3) rfl⟩
     clear HD_2 HL_2 V3_2 V5_2 P9_2 P7_2
     refine hK.out _ _ HD_3.out (fun _ => ?_)
     clear hK K
     try simp only [mz1, mz2, mz3, Act.put, mz4, mz5, mz6]
     refine wpAnyH_ready (rs := [3]) (by kernel_rfl) (by simp) ?_
     refine AllReadyH.cons rfl (fun K hK => ?_) AllReadyH.nil
     ·go_simp
      refine (HCb.out x3 HL_3.out).mono ?_
      rintro e x4 ⟨⟨v, rfl, hv⟩, hb⟩
      obtain ⟨sl, dl, rfl, -⟩ := hv.form
      have hz_4 : x3.heap.size ≤ x4.heap.size := hb.size
      have HL_4 := qa0 (jtwo HL_3.out hb)
      have V3_4 := qa0 (V3_3.out.later hb)
      have V5_4 := qa0 (V5_3.out.later hb)
      have P9_4 := qa0 (P9_3.out.later hb)
      have P7_4 := qa0 (P7_3.out.later hb)
      have CP_4 := qa0 (CP_3.out.later hb)
      have BV_4 := qa0 (BvE.of hv)
      clear hv hb
      have HD_4 : Hid ((fun w' => (w'.cell? ⟨w.heap.size, 0, none⟩ = some (.slice a ni p) ∧ w'.cell? ⟨w.heap.size, 1, none⟩ = some (.slice b nn q) ∧ w'.cell? ⟨w.heap.size, 2, none⟩ = some (.slice c no r)) ∧ w'.cell? ⟨w.heap.size + 1, 0, none⟩ = some (.int .i64 r3) ∧ w'.cell? ⟨w.heap.size + 1, 1, none⟩ = some (.int .i64 c3) ∧ w'.cell? ⟨w.heap.size + 1, 2, none⟩ = some (.slice a3 n3 k3)) x4) := ⟨⟨V3_4.out.cell 0 (.slice a ni p) rfl, V3_4.out.cell 1 (.slice b nn q) rfl, V3_4.out.cell 2 (.slice c no r) rfl⟩, V5_4.out.cell 0 (.int .i64 r3) rfl, V5_4.out.cell 1 (.int .i64 c3) rfl, V5_4.out.cell 2 (.slice a3 n3 k3) rfl⟩
      clear HD_3 HL_3 V3_3 V5_3 P9_3 P7_3 CP_3
      refine hK.out _ _ HD_4.out (fun _ => ?_)
      clear hK K
      try simp only [mz1, mz2, mz3, Act.put, mz4, mz5, mz6]
      refine wpAnyH_ready (rs := [5]) (by kernel_rfl) (by simp) ?_
      refine AllReadyH.cons rfl (fun K hK => ?_) AllReadyH.nil
      ·go_simp
       refine (HCm.out x4 HL_4.out).mono ?_
       rintro e x5 ⟨s9, d9, rfl, ho, hb⟩
       have hz_5 : x4.heap.size ≤ x5.heap.size := hb.size
       have HL_5 := qa0 (jtwo HL_4.out hb)
       have V3_5 := qa0 (V3_4.out.later hb)
       have V5_5 := qa0 (V5_4.out.later hb)
       have P9_5 := qa0 (P9_4.out.later hb)
       have P7_5 := qa0 (P7_4.out.later hb)
       have CP_5 := qa0 (CP_4.out.later hb)
       have BV_5 := qa0 (BV_4.out.later hb)
       have MR_5 := qa0 (MrE.of ho)
       clear ho hb
       have HD_5 : Hid ((fun w' => (w'.cell? ⟨w.heap.size, 0, none⟩ = some (.slice a ni p) ∧ w'.cell? ⟨w.heap.size, 1, none⟩ = some (.slice b nn q) ∧ w'.cell? ⟨w.heap.size, 2, none⟩ = some (.slice c no r)) ∧ w'.cell? ⟨w.heap.size + 1, 0, none⟩ = some (.int .i64 r3) ∧ w'.cell? ⟨w.heap.size + 1, 1, none⟩ = some (.int .i64 c3) ∧ w'.cell? ⟨w.heap.size + 1, 2, none⟩ = some (.slice a3 n3 k3)) x5) := ⟨⟨V3_5.out.cell 0 (.slice a ni p) rfl, V3_5.out.cell 1 (.slice b nn q) rfl, V3_5.out.cell 2 (.slice c no r) rfl⟩, V5_5.out.cell 0 (.int .i64 r3) rfl, V5_5.out.cell 1 (.int .i64 c3) rfl, V5_5.out.cell 2 (.slice a3 n3 k3) rfl⟩
       clear HD_4 HL_4 V3_4 V5_4 P9_4 P7_4 CP_4 BV_4
       refine hK.out _ _ HD_5.out (fun _ => ?_)
       clear hK K
       try simp only [mz1, mz2, mz3, Act.put, mz4, mz5, mz6]
       refine wpAnyH_ready (rs := [8]) (by kernel_rfl) (by simp) ?_
       refine AllReadyH.cons rfl (fun K hK => ?_) AllReadyH.nil
       refine qa1 rfl 28 _ _ rfl x1.heap.size _ #[.slice a1 ni q1, .slice b1 nn q2, .slice c1 no q3] rfl rfl P7_5.out sizeFl rfl (qan _ _ _ _ _ _ _ _ _) ?_
       intro x8 HV8 HG8
       have HP := qa0 (CsP.one V3_5.out V5_5.out P7_5.out P9_5.out CP_5.out BV_5.out MR_5.out HL_5.out HV8.out HG8.out (by omega) (by omega) (by omega))
       refine hK.out _ _ ⟨⟨HP.out.v3.cell 0 (.slice a ni p) rfl, HP.out.v3.cell 1 (.slice b nn q) rfl, HP.out.v3.cell 2 (.slice c no r) rfl⟩, HP.out.v5.cell 0 (.int .i64 r3) rfl, HP.out.v5.cell 1 (.int .i64 c3) rfl, HP.out.v5.cell 2 (.slice a3 n3 k3) rfl⟩ (fun _ => ?_)
       clear hK K
       try simp only [mz1, mz2, mz3, Act.put]
       refine wtkq 9 ?vt9_23 rfl (by kernel_rfl) (fun _ _ _ h => h) (by rfl) ?yt9_23 ⟨⟨HP.out.v3.cell 0 (.slice a ni p) rfl, HP.out.v3.cell 1 (.slice b nn q) rfl, HP.out.v3.cell 2 (.slice c no r) rfl⟩, HP.out.v5.cell 0 (.int .i64 r3) rfl, HP.out.v5.cell 1 (.int .i64 c3) rfl, HP.out.v5.cell 2 (.slice a3 n3 k3) rfl⟩ ?zt9_23
       case yt9_23 => (intro w hSw; (try dsimp only at hSw); go_simp; try with_reducible rfl)
       try simp only [mz1, mz2, mz3, Act.put, mz4, mz5, mz6]
       refine wpAnyH_done (by kernel_rfl) ?_ _
       refine qa3 rfl (fun K hK => ?_)
       refine qa1 rfl 24 _ _ rfl x0.heap.size _ #[.int .i64 r3, .int .i64 c3, .slice s9 n3 d9] rfl rfl HP.out.p9 qak rfl (qau _ _ _ _ _) ?_
       intro x9 HV9 HG9
       refine hK.out _ _ ?_
       clear hK K
       try simp only [mz1, mz2, mz3, Act.put]
       go_wp2_with fail
       go_meet
       case rel => exact ⟨_, _, a1, q1, b1, q2, c1, q3, sl, dl, s9, d9, rfl, rfl, rfl, HP.out.fin HV9.out HG9.out (by omega) (by omega)⟩
 case rest =>
  obtain ⟨p7, p9, a1, q1, b1, q2, c1, q3, sl, dl, s9, d9, rfl, rfl, rfl, hS⟩ := hcut
  have HS := qa0 hS
  have m7_0 := hS.v7.cell 0 (.slice a1 ni q1) rfl
  have m7_1 := hS.v7.cell 1 (.slice b1 nn q2) rfl
  have m7_2 := hS.v7.cell 2 (.slice c1 no q3) rfl
  have HG := qa0 (HCpF.out _ _ _ _ _ hS.cp)
  obtain ⟨BB, hbv⟩ := hS.bv
  obtain ⟨Al, Cl, hbl⟩ := hbv.bw (fun i j hi hj => (HBX.out.rl.sl i hi).1 j hj) HBX.out.len
  have HBl := qa0 hbl
  obtain ⟨BM, hmr⟩ := hS.mr
  have HMr := qa0 (own_mt21 hmr (fun i hi => HMX.out.sl.1 i hi))
  obtain ⟨K4, T4, x4, E4, hK4, hr4, hq4⟩ := HFour.out wc a1 b1 c1 sl q1 q2 q3 dl Al Cl HG.out HBl.out
  have HR4 := qa0 hr4
  have HQ4 := qa0 hq4
  have hcs := hS.below.size
  clear hS hbv hbl hmr hr4 hq4
  go_wp2_with (first
   | (go_at_call 22; refine (HTrw.out _ a1 b1 c1 q1 q2 q3 HG.out).mono ?_; rintro e w1 ⟨⟨x, k, d1, y, n, d2, z, o, d3, S, M, C9, E1, rfl, hx, hs, hz⟩, hb1⟩; have hl1 := jlow w1 (.cells #[.slice x k d1, .slice y n d2, .slice z o d3] 28); have HB1 := qa0 (jtwo hb1 hl1); have HX1 := qa0 (hx.later hl1 (Nat.le_refl _)); have HS1 := qa0 (hs.later hl1 (Nat.le_refl _) (Nat.le_refl _)); have HZ1 := qa0 (hz.later hl1 (Nat.le_refl _)); have HV1 := qa0 (Vf.new w1 28 #[.slice x k d1, .slice y n d2, .slice z o d3]); have hz1 : wc.heap.size ≤ w1.heap.size := hb1.size; have n9_0 := (HS.out.p9.later HB1.out).cell 0 (.int .i64 r3) rfl; have n9_1 := (HS.out.p9.later HB1.out).cell 1 (.int .i64 c3) rfl; have n9_2 := (HS.out.p9.later HB1.out).cell 2 (.slice s9 n3 d9) rfl; clear hx hs hz hb1 hl1)
   | (go_at_call 9; refine (of_w _ r3 c3 n3 d9 s9 D3 (HMr.out.later HB1.out)).mono ?_; rintro e w2 ⟨⟨x', m', e1, y', n', e2, z', o', e3, E2, rfl, hx2⟩, hb2⟩; have hl2 := jlow w2 (.cells #[.slice x' m' e1, .slice y' n' e2, .slice z' o' e3] 28); have hb22 := jtwo hb2 hl2; have HB2 := qa0 (jtwo HB1.out hb22); have HX2 := qa0 (HX1.out.later hb22 (by simp)); have HS2 := qa0 (HS1.out.later hb22 (by simp) (Nat.le_refl _)); have HZ2 := qa0 (HZ1.out.later hb22 (by simp)); have HV2 := qa0 (HV1.out.later hb22); have HO2 := qa0 (hx2.later hl2 (Nat.le_refl _)); have HW2 := qa0 (Vf.new w2 28 #[.slice x' m' e1, .slice y' n' e2, .slice z' o' e3]); have hz2 : w1.heap.size + 1 ≤ w2.heap.size := by { have := hb2.size; simpa using this }; have n7_0 := (HS.out.v7.later HB2.out).cell 0 (.slice a1 ni q1) rfl; have n7_1 := (HS.out.v7.later HB2.out).cell 1 (.slice b1 nn q2) rfl; have n7_2 := (HS.out.v7.later HB2.out).cell 2 (.slice c1 no q3) rfl; clear hx2 hb2 hl2 hb22)
   | (go_at_call 15; refine (HRunw.out _ a1 b1 c1 sl q1 q2 q3 dl Al Cl (HG.out.later HB2.out) (HBl.out.later HB2.out)).mono ?_; rintro e w3 ⟨⟨s, K, T, gO, BO, E3, rfl, hK, hT, hg, hou⟩, hb3⟩; have HB3 := qa0 (jtwo HB2.out hb3); have HX3 := qa0 (HX2.out.later hb3 (by simp; omega)); have HS3 := qa0 (HS2.out.later hb3 (by simp; omega) (Nat.le_refl _)); have HZ3 := qa0 (HZ2.out.later hb3 (by simp; omega)); have HV3 := qa0 (HV2.out.later hb3); have HO3 := qa0 (HO2.out.later hb3 (by simp)); have HW3 := qa0 (HW2.out.later hb3); have hz3 : w2.heap.size + 1 ≤ w3.heap.size := by { have := hb3.size; simpa using this }; have HOu := qa0 hou; have hg3 : w2.heap.size + 1 ≤ gO := by { simpa using hg }; clear hou hg hb3))
  have es2 : (w2.alloc (.cells #[.slice x' m' e1, .slice y' n' e2, .slice z' o' e3] 28)).heap.size = w2.heap.size + 1 := by simp
  have es1 : (w1.alloc (.cells #[.slice x k d1, .slice y n d2, .slice z o d3] 28)).heap.size = w1.heap.size + 1 := by simp
  rw [es2] at HOu
  rw [es1] at HO3
  clear es1 es2 HX1 HX2 HS1 HS2 HZ1 HZ2 HV1 HV2 HO2 HW2 HB1 HB2 m7_0 m7_1 m7_2 n7_0 n7_1 n7_2 n9_0 n9_1 n9_2
  go_loopw [16] (fun vi wr => ∃ i : Nat, i ≤ n ∧ vi = .int .i64 (i : Int) ∧ Mid wc.heap.size w1.heap.size w3 wr ∧ Sh wr wc.heap.size w1.heap.size y n S M C9 ∧ Wi wr wc.heap.size w1.heap.size 3 1 x k ∧ Wi wr wc.heap.size w1.heap.size 3 1 z o) (fun vi _ => n - (intOf vi).toNat)
  case atStart => exact ⟨0, by omega, rfl, Mid.refl _ _ _, HS3.out, HX3.out, HZ3.out⟩
  case round =>
   clear HS3 HX3 HZ3
   obtain ⟨i, hi, rfl, hmi, hsh, hwx, hwz⟩ := hrel
   have HMi := qa0 hmi
   have HSh := qa0 hsh
   have HWx := qa0 hwx
   have HWz := qa0 hwz
   have hv := hmi.vf HV3.out (.inr (Nat.le_refl _))
   have t0 := hv.cell 0 (.slice x k d1) rfl
   have t1 := hv.cell 1 (.slice y n d2) rfl
   have t2 := hv.cell 2 (.slice z o d3) rfl
   have hnl := hsh.1
   simp only [maxLen] at hnl
   clear hv hmi hsh hwx hwz
   by_cases hlt : i < n
   ·obtain ⟨gy, rfl, cy⟩ := HSh.out.cell hlt
    have hml := (HSh.out.2.2 i hlt).1
    simp only [maxLen] at hml
    obtain ⟨Si, HSi⟩ : ∃ u, Hid (S i = u) := ⟨_, rfl⟩
    obtain ⟨Mi, HMM⟩ : ∃ u, Hid (M i = u) := ⟨_, rfl⟩
    obtain ⟨Ci, HCC⟩ : ∃ u, Hid (C9 i = u) := ⟨_, rfl⟩
    rw [HSi.out, HMM.out, HCC.out] at cy
    rw [HMM.out] at hml
    have p0 : (0 : Int) ≤ (i : Int) := by omega
    have p1 : (i : Int) < (n : Int) := by omega
    go_wp2
    clear cy t0 t1 t2
    go_loopw [17] (fun vj w4 => ∃ j : Nat, j ≤ Mi ∧ vj = .int .i64 (j : Int) ∧ Mid wc.heap.size w1.heap.size w3 w4 ∧ Sh w4 wc.heap.size w1.heap.size (some ⟨gy, 0, none⟩) n S M C9 ∧ Wi w4 wc.heap.size w1.heap.size 3 1 x k ∧ Wi w4 wc.heap.size w1.heap.size 3 1 z o) (fun vj _ => Mi - (intOf vj).toNat)
    case atStart => exact ⟨0, by omega, rfl, HMi.out, HSh.out, HWx.out, HWz.out⟩
    case round =>
     clear HMi HSh HWx HWz
     obtain ⟨j, hj, rfl, hmi, hsh, hwx, hwz⟩ := hrel
     have HMi := qa0 hmi
     have HSh := qa0 hsh
     have HWx := qa0 hwx
     have HWz := qa0 hwz
     have hv := hmi.vf HV3.out (.inr (Nat.le_refl _))
     have t1 := hv.cell 1 (.slice (some ⟨gy, 0, none⟩) n d2) rfl
     obtain ⟨gy', ey, cy⟩ := hsh.cell hlt
     cases ey
     rw [HSi.out, HMM.out, HCC.out] at cy
     clear hv hmi hsh hwx hwz
     by_cases hjl : j < Mi
     ·obtain ⟨g, eg, h1, h2, hcur, hop⟩ := (HSh.out.2.2 i hlt).open (i := j) (by rw [HMM.out]; exact hjl)
      rw [HSi.out] at eg
      subst eg
      have HCu := qa0 hcur
      obtain ⟨⟨v0, c0⟩, f0⟩ := hop 0 (by omega)
      obtain ⟨⟨v1, c1'⟩, f1⟩ := hop 1 (by omega)
      rw [Nat.add_zero] at c0 f0
      have r0 : (0 : Int) ≤ (j : Int) := by omega
      have r1 : (j : Int) < (Mi : Int) := by omega
      clear hop hcur
      go_wp2
      exact ⟨⟨j + 1, by omega, by go_num, (HMi.out.set h1 h2 _).set h1 h2 _, (HSh.out.set HCu.out _).set (by obtain ⟨cur, hcu⟩ := HCu.out; obtain ⟨cur', h5, _⟩ := qd0 (b := g) (i := j * 2) (.int .i64 77) hcu; exact ⟨cur', h5⟩) _, (HWx.out.set _).set _, (HWz.out.set _).set _⟩, by simp [intOf]; omega⟩
     ·obtain rfl : j = Mi := by omega
      go_wp2
      exact ⟨⟨i + 1, by omega, by go_num, HMi.out, HSh.out, HWx.out, HWz.out⟩, by simp [intOf]; omega⟩
   ·obtain rfl : i = n := by omega
    go_wp2
    clear t0 t1 t2 HSh
    go_loopw [18] (fun vi wr => ∃ j : Nat, j ≤ o ∧ vi = .int .i64 (j : Int) ∧ Mid wc.heap.size w1.heap.size w3 wr ∧ Wi wr wc.heap.size w1.heap.size 3 1 x k ∧ Wi wr wc.heap.size w1.heap.size 3 1 z o) (fun vi _ => o - (intOf vi).toNat)
    case atStart => exact ⟨0, by omega, rfl, HMi.out, HWx.out, HWz.out⟩
    case round =>
     clear HMi HWx HWz
     obtain ⟨j, hj, rfl, hmi, hwx, hwz⟩ := hrel
     have HMi := qa0 hmi
     have HWx := qa0 hwx
     have HWz := qa0 hwz
     have hv := hmi.vf HV3.out (.inr (Nat.le_refl _))
     have t2 := hv.cell 2 (.slice z o d3) rfl
     have t0 := hv.cell 0 (.slice x k d1) rfl
     have hol := hwz.1
     simp only [maxLen] at hol
     clear hv hmi hwx
     by_cases hjl : j < o
     ·obtain ⟨g, rfl, h1, h2, -, hop⟩ := hwz.open hjl
      obtain ⟨⟨v0, c0⟩, f0⟩ := hop 0 (by omega)
      rw [Nat.mul_one, Nat.add_zero] at c0 f0
      have r0 : (0 : Int) ≤ (j : Int) := by omega
      have r1 : (j : Int) < (o : Int) := by omega
      clear hop hwz
      go_wp2
      exact ⟨⟨j + 1, by omega, by go_num, HMi.out.set h1 h2 _, HWx.out.set _, HWz.out.set _⟩, by simp [intOf]; omega⟩
     ·obtain rfl : j = o := by omega
      clear hwz
      go_wp2
      clear t0 t2 HWz
      go_loopw [19] (fun vi wr => ∃ j : Nat, j ≤ k ∧ vi = .int .i64 (j : Int) ∧ Mid wc.heap.size w1.heap.size w3 wr ∧ Wi wr wc.heap.size w1.heap.size 3 1 x k) (fun vi _ => k - (intOf vi).toNat)
      case atStart => exact ⟨0, by omega, rfl, HMi.out, HWx.out⟩
      case round =>
       clear HMi HWx
       obtain ⟨l, hl, rfl, hmi, hwx⟩ := hrel
       have HMi := qa0 hmi
       have HWx := qa0 hwx
       have hv := hmi.vf HV3.out (.inr (Nat.le_refl _))
       have t0 := hv.cell 0 (.slice x k d1) rfl
       have hol := hwx.1
       simp only [maxLen] at hol
       clear hv
       by_cases hll : l < k
       ·obtain ⟨g, rfl, h1, h2, -, hop⟩ := hwx.open hll
        obtain ⟨⟨v0, c0⟩, f0⟩ := hop 0 (by omega)
        rw [Nat.mul_one, Nat.add_zero] at c0 f0
        have r0 : (0 : Int) ≤ (l : Int) := by omega
        have r1 : (l : Int) < (k : Int) := by omega
        clear hop hwx hmi
        go_wp2
        exact ⟨⟨l + 1, by omega, by go_num, HMi.out.set h1 h2 _, HWx.out.set _⟩, by simp [intOf]; omega⟩
       ·obtain rfl : l = k := by omega
        have hz7 := hmi.size
        have HOu7 : Hid (OuW wr (w2.heap.size + 1) s K T gO BO) := fun hk => by
         obtain ⟨es, xx, ho, hx⟩ := HOu.out hk
         exact ⟨es, xx, HMi.out.ou ho (by omega), hx⟩
        have HV12 := qa0 (hmi.vf HW3.out (.inr (by omega)))
        have HO12 := qa0 (hmi.wi HO3.out (by omega))
        have HBm := qa0 (hmi.below (D := wc.heap.size) (by omega))
        clear hwx hmi
        go_wp2
        clear t0 HMi HWx HOu HW3 HO3 HV3
        obtain ⟨w7, HW7⟩ : ∃ w7, Hid (wr = w7) := ⟨_, rfl⟩
        rw [HW7.out] at HOu7 HV12 HO12 HBm hz7 ⊢
        clear HW7
        go_loopw [20] (fun vi wr => ∃ i : Nat, i ≤ K ∧ vi = .int .i64 (i : Int) ∧ OuW wr (w2.heap.size + 1) s K T gO BO ∧ Below (w2.heap.size + 1) w7 wr) (fun vi _ => K - (intOf vi).toNat)
        case atStart => exact ⟨0, by omega, rfl, HOu7.out, Below.refl _ _⟩
        case round =>
         clear HOu7
         obtain ⟨i, hi, rfl, hou, hb20⟩ := hrel
         have HB20 := qa0 hb20
         have hz20 := hb20.size
         have HOu := qa0 hou
         clear hou hb20
         by_cases hlt : i < K
         ·obtain ⟨rfl, xx, ho, hx⟩ := HOu.out (by omega)
          have HBO : Hid (Bw wr (some ⟨gO, 0, none⟩) K (fun o => some ⟨BO o, 0, none⟩) (fun _ => T) (fun _ => T) xx) := ⟨ho.rl hx, fun _ _ => Nat.le_refl _, fun _ _ => hT⟩
          have HOx := qa0 ho
          have HX8 := qa0 hx
          have hne := (ho.ne i hlt).1
          have hbl := (ho.row i hlt).lt
          obtain ⟨bi, HBi⟩ : ∃ u, Hid (BO i = u) := ⟨_, rfl⟩
          rw [HBi.out] at hne hbl
          have p0 : (0 : Int) ≤ (i : Int) := by omega
          have p1 : (i : Int) < (K : Int) := by omega
          clear ho hx
          go_wp2_with (first
           | (go_at_call 25; refine (qdz _ (some ⟨gO, 0, none⟩) K K _ _ _ xx HBO.out (by omega)).mono ?_; rintro e w8 ⟨⟨v, rfl, hv⟩, hb8⟩; obtain ⟨sk, dk, rfl, -⟩ := hv.form; have HKp := qa0 hv; have HO8 := qa0 (HOx.out.later hb8); have hz8 := hb8.size; have HB8 := qa0 hb8; have c8 : w8.cell? ⟨gO, i, none⟩ = some (.slice (some ⟨bi, 0, none⟩) T T) := (by { rw [HO8.out.ga.cell i hlt, if_pos hlt, HBi.out] }); clear hv hb8)
           | (go_at_call 27; refine (qde w8 bi T ((i : Int) + 1) hT (by omega) (by omega) ⟨xx i, (by { rw [← HBi.out]; exact HO8.out.row i hlt }), fun j hj => HX8.out i j hlt hj⟩).mono ?_; rintro e w9 ⟨rfl, hrb, hg9⟩; have HRb := qa0 hrb; have HG9 := qa0 hg9; clear hrb hg9))
          obtain ⟨f', hr', hf'⟩ := HRb.out
          have HO9 := qa0 (Ou.copy HO8.out hlt (by rw [HBi.out]; exact hr') (by rw [HBi.out]; exact HG9.out))
          have HKp9 : Hid (Bv w9 wr.heap.size (.slice sk K dk) K (fun _ => T) xx) := by
           obtain ⟨vs, k1, k2⟩ := HKp.out
           refine ⟨vs, World.ownsRow.kept k1 HG9.out (qao k1 hbl), fun i hi => ?_⟩
           obtain ⟨u, hu, ht⟩ := k2 i hi
           exact ⟨u, hu, World.ownsRow.kept ht HG9.out (qao ht hbl)⟩
          obtain ⟨Ak, Ck, hbk⟩ := HKp9.out.bw (fun i j hi hj => HX8.out i j hi hj) (fun _ _ => hT)
          have HBk := qa0 hbk.rl
          have HF' := qa0 hf'
          have HB9 : Hid (Below (w2.heap.size + 1) w7 w9) := (HB20.out.trans (HB8.out.mono (by omega))).trans (jbelow HG9.out (by omega) (fun g e => by have := Option.some.inj e; omega))
          have hz9 := HG9.out.size
          clear hbk hr' hf' c8 HKp HKp9 HBO HO8 HOx HRb HG9 HB8
          go_wp2
          go_loopw [22] (fun vi w10 => ∃ l : Nat, i + 1 ≤ l ∧ l ≤ K ∧ vi = .int .i64 (l : Int) ∧ Below w9.heap.size w9 w10) (fun vi _ => K - (intOf vi).toNat)
          case atStart => exact ⟨i + 1, by omega, by omega, by simp, Below.refl _ _⟩
          case round =>
           obtain ⟨l, hl1, hl2, rfl, hb10⟩ := hrel
           have HB10 := qa0 hb10
           by_cases hll : l < K
           ·have c1 : wr.cell? ⟨gO, l, none⟩ = some (.slice (some ⟨BO l, 0, none⟩) T T) := by rw [(HO9.out.later hb10).ga.cell l hll, if_pos hll]
            obtain ⟨xk, ok, rfl, c2⟩ := (HBk.out.later hb10).at' l hll
            have s2 := (HBk.out.later hb10).sl l hll
            have s1 : Sl wr (some ⟨BO l, 0, none⟩) T (xx l) := (((HO9.out.later hb10).row l hll).congr fun j _ => if_neg (show ¬ l = i by omega)).sl (fun j hj => HX8.out l j hll hj)
            obtain ⟨bo, HBoo⟩ : ∃ u, Hid (BO l = u) := ⟨_, rfl⟩
            obtain ⟨v, HVv⟩ : ∃ u, Hid (Ak l = u) := ⟨_, rfl⟩
            obtain ⟨k', HKk⟩ : ∃ u, Hid (Ck l = u) := ⟨_, rfl⟩
            rw [HBoo.out] at c1 s1
            rw [HVv.out, HKk.out] at c2
            rw [HVv.out] at s2
            have HC := qa0 (fun w2 (hb2 : Below wr.heap.size wr w2) => qex w2 (some ⟨bo, 0, none⟩) v T T k' (xx l) (s1.later hb2) (s2.later hb2))
            have q0 : (0 : Int) ≤ (l : Int) := by omega
            have q1 : (l : Int) < (K : Int) := by omega
            have hdr : Below wr.heap.size wr wr.drew := (Below.refl _ _).drew
            have HD : Hid ((fun w' : World => w'.cell? ⟨gO, l, none⟩ = some (.slice (some ⟨bo, 0, none⟩) T T) ∧ w'.cell? ⟨xk, ok + l, none⟩ = some (.slice v T k')) wr.drew) := ⟨c1, c2⟩
            have HBD := qa0 (jtwo HB10.out hdr)
            have HDr := qa0 hdr
            clear s1 s2 hb10 hdr
            go_wp2
            go_region_held3 (fun w' => w'.cell? ⟨gO, l, none⟩ = some (.slice (some ⟨bo, 0, none⟩) T T) ∧ w'.cell? ⟨xk, ok + l, none⟩ = some (.slice v T k'))
             (first
              | exact HD.out)
             (first
              | (go_at_call 28; refine (HC.out _ HDr.out).mono ?_; rintro e w2 ⟨rfl, rfl⟩))
            go_wp2
            exact ⟨⟨l + 1, by omega, by omega, by go_num, HBD.out⟩, by simp [intOf]; omega⟩
           ·obtain rfl : l = K := by omega
            have HO10 := qa0 (HO9.out.later hb10)
            have HBX10 : Hid (Below (w2.heap.size + 1) w7 wr) := HB9.out.trans (hb10.mono (by omega))
            clear hb10
            go_wp2
            exact ⟨⟨i + 1, by omega, by go_num, fun _ => ⟨rfl, _, HO10.out, fun o j ho hj => by
             show (if o = i then f' j else xx o j) < 256
             split
             ·exact HF'.out j hj
             ·exact HX8.out o j ho hj⟩, HBX10.out⟩, by simp [intOf]; omega⟩
         ·obtain rfl : i = K := by omega
          have HV13 := qa0 (HV12.out.under HB20.out (by omega))
          have HO13 := qa0 (HO12.out.later HB20.out (by omega))
          have HBn := qa0 (HBm.out.trans (HB20.out.mono (show wc.heap.size ≤ w2.heap.size + 1 by omega)))
          have hz21 : w3.heap.size ≤ wr.heap.size := by omega
          go_wp2
          clear HV12 HO12 HBm HB20 HOu
          go_loopw [23] (fun vi wr => ∃ j : Nat, j ≤ m' ∧ vi = .int .i64 (j : Int) ∧ Wi wr (w1.heap.size + 1) w2.heap.size 3 1 x' m' ∧ Vf wr w2.heap.size 28 #[.slice x' m' e1, .slice y' n' e2, .slice z' o' e3] ∧ Below wc.heap.size w3 wr) (fun vi _ => m' - (intOf vi).toNat)
          case atStart => exact ⟨0, by omega, rfl, HO13.out, HV13.out, HBn.out⟩
          case round =>
           clear HO13 HV13 HBn
           obtain ⟨j, hj, rfl, hwo, hv, hbz⟩ := hrel
           have HWo := qa0 hwo
           have HVz := qa0 hv
           have HBz := qa0 hbz
           have t0 := hv.cell 0 (.slice x' m' e1) rfl
           have hol := hwo.1
           simp only [maxLen] at hol
           clear hv
           by_cases hjl : j < m'
           ·obtain ⟨g, rfl, h1, h2, -, hop⟩ := hwo.open hjl
            obtain ⟨⟨v0, c0⟩, f0⟩ := hop 0 (by omega)
            rw [Nat.mul_one, Nat.add_zero] at c0 f0
            have r0 : (0 : Int) ≤ (j : Int) := by omega
            have r1 : (j : Int) < (m' : Int) := by omega
            clear hop hwo hbz
            go_wp2
            exact ⟨⟨j + 1, by omega, by go_num, HWo.out.set _, HVz.out.kept (qa2 _ _ _ _) (fun e => by have := Option.some.inj e; omega), HBz.out.setCell (show wc.heap.size ≤ g by omega) _⟩, by simp [intOf]; omega⟩
           ·obtain rfl : j = m' := by omega
            have HBc : Hid (Below wc.heap.size wc wr) := HB3.out.trans hbz
            have HBw : Hid (Below w.heap.size w wr) := HS.out.below.trans (HBc.out.mono hcs)
            clear hwo hbz HWo HVz HBz
            have v7_0 := (HS.out.v7.later HBc.out).cell 0 (.slice a1 ni q1) rfl
            have v7_1 := (HS.out.v7.later HBc.out).cell 1 (.slice b1 nn q2) rfl
            have v7_2 := (HS.out.v7.later HBc.out).cell 2 (.slice c1 no q3) rfl
            have g1 : (E4 == E4) = true := by simp
            go_wp2_with (first
             | (go_at_call 17; have _x := HRa17; refine (qcz _ sa sb K4 da db Aa Ab (fun _ => T4) Ca Cb x4 HRa17.out HRb17.out (by omega)).mono ?_; rintro e w18 ⟨rfl, hb18⟩; have HBw18 := qa0 (jtwo HBw17.out hb18); clear hb18)
             | (go_at_call 15; refine (HR4.out _ HBc.out).mono ?_; rintro e w12 ⟨⟨sa, da, Aa, Ca, rfl, hra⟩, hb12⟩; have HRa := qa0 hra; have HBc12 := qa0 (jtwo HBc.out hb12); have HBw12 := qa0 (jtwo HBw.out hb12); have u3_0 := (HS.out.v3.later HBc12.out).cell 0 (.slice a ni p) rfl; have u3_1 := (HS.out.v3.later HBc12.out).cell 1 (.slice b nn q) rfl; have u3_2 := (HS.out.v3.later HBc12.out).cell 2 (.slice c no r) rfl; clear hra hb12)
             | (go_at_call 16; refine (HQ4.out _ HBw12.out).mono ?_; rintro e w13 ⟨⟨sb, db, Ab, Cb, rfl, hrb⟩, hb13⟩; have HRb := qa0 hrb; have HRa13 := qa0 (HRa.out.later hb13); have HBc13 := qa0 (jtwo HBc12.out hb13); have HBw13 := qa0 (jtwo HBw12.out hb13); clear hrb hb13)
             | (go_at_call 18; refine (anch21 _).mono ?_; rintro e w14 ⟨rfl, hb14⟩; have HRb14 := qa0 (HRb.out.later hb14); have HRa14 := qa0 (HRa13.out.later hb14); have HBc14 := qa0 (jtwo HBc13.out hb14); have HBw14 := qa0 (jtwo HBw13.out hb14); have u7_0 := (HS.out.v7.later HBc14.out).cell 0 (.slice a1 ni q1) rfl; have u7_1 := (HS.out.v7.later HBc14.out).cell 1 (.slice b1 nn q2) rfl; have u7_2 := (HS.out.v7.later HBc14.out).cell 2 (.slice c1 no q3) rfl; have o3_0 := (HS.out.v3.later HBc14.out).cell 0 (.slice a ni p) rfl; have o3_1 := (HS.out.v3.later HBc14.out).cell 1 (.slice b nn q) rfl; have o3_2 := (HS.out.v3.later HBc14.out).cell 2 (.slice c no r) rfl; clear hb14)
             | (go_at_call 13; refine (HSm.out _ a1 b1 c1 a b c q1 q2 q3 p q r (HG.out.later HBc14.out) (HFX.out.later HBw14.out)).mono ?_; rintro e w15 ⟨rfl, hb15⟩; have HRb15 := qa0 (HRb14.out.later hb15); have HRa15 := qa0 (HRa14.out.later hb15); have HBc15 := qa0 (jtwo HBc14.out hb15); have HBw15 := qa0 (jtwo HBw14.out hb15); clear hb15)
             | (go_at_call 17; refine (qcz _ sl bl nb dl kb Al A L Cl C bt (HBl.out.later HBc15.out).rl (HBX.out.later HBw15.out).rl hnb2).mono ?_; rintro e w16 ⟨rfl, hb16⟩; have HRb16 := qa0 (HRb15.out.later hb16); have HRa16 := qa0 (HRa15.out.later hb16); have HBc16 := qa0 (jtwo HBc15.out hb16); have HBw16 := qa0 (jtwo HBw15.out hb16); have i9_0 := (HS.out.p9.later HBc16.out).cell 0 (.int .i64 r3) rfl; have i9_1 := (HS.out.p9.later HBc16.out).cell 1 (.int .i64 c3) rfl; have i9_2 := (HS.out.p9.later HBc16.out).cell 2 (.slice s9 n3 d9) rfl; have i5_0 := (HS.out.v5.later HBc16.out).cell 0 (.int .i64 r3) rfl; have i5_1 := (HS.out.v5.later HBc16.out).cell 1 (.int .i64 c3) rfl; have i5_2 := (HS.out.v5.later HBc16.out).cell 2 (.slice a3 n3 k3) rfl; clear hb16)
             | (go_at_call 14; refine (like_ans _ r3 c3 s9 a3 n3 d9 k3 D3 D3 (HMr.out.later HBc16.out) (HMX.out.later HBw16.out) (fun _ _ => rfl)).mono ?_; rintro e w17 ⟨rfl, hb17⟩; have HRb17 := qa0 (HRb16.out.later hb17); have HRa17 := qa0 (HRa16.out.later hb17); have HBw17 := qa0 (jtwo HBw16.out hb17); clear hb17))
            go_ret
            exact ⟨rfl, HBw18.out⟩
end Go.Proofs.Ytkfnedpnkeacpaa
