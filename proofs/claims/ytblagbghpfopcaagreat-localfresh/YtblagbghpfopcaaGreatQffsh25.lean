/-
  Contract of the reference: wide.
-/
import Derived.Test.YtblagbghpfopcaaGreatQffsh00
import Derived.Test.YtblagbghpfopcaaGreatQffsh24
set_option maxRecDepth 100000
set_option maxHeartbeats 16000000
namespace Go.Proofs.YtblagbghpfopcaaGreat
open Go.RowKit
theorem elf_top (F R : Nat → Nat) {c top col q l : Nat} (hl : l < c) : elf F R c top col q (top * c + l) = F (top * c + l) := by
 unfold elf
 rw [dm1 hl, if_neg (fun h => h.2 rfl)]
/-- How far wide has come. -/
structure WE (r c n top j : Nat) (p : Nat → Nat) (M : Nat → Nat → Nat) (G : Nat → Nat) : Prop where
 el : ∀ q, q < n → G q < 256
 elm : Elm (m2 G r c) r top j p
 sp : SpEq (m2 G r c) r M r
 jc : j ≤ c
theorem rwide_ok (w : World) (B r c n d : Nat) (s : Option Addr) (F : Nat → Nat) (hd : Ob w B (.slice s n d) n F) (hF : ∀ q, q < n → F q < 256) (R : Wt r c n) :
  Calls Tryz.prog 92 #[mv r c s n d] w fun e w' => ∃ v top p G, e = .returned (.tuple #[mv r c s n d, v]) ∧ Ob w' B (.slice s n d) n G ∧ Oi w' w.heap.size v top p ∧ (∀ q, q < n → G q < 256) ∧ Rdf (m2 G r c) r top p ∧ SpEq (m2 G r c) r (m2 F r c) r ∧ (∀ i, i < top → p i < c) ∧ w.grownBy w' (Value.slice s n d).ownBlock := by
 obtain ⟨wb, HW, HX⟩ : ∃ wb, Hid (wb = (w.alloc (.cells #[.int .i64 (r : Int), .int .i64 (c : Int), .slice s n d] 24)).alloc (.cells #[.int .i64 0, .int .i64 0, .slice none 0 0] 24)) ∧ Hid (Box2 w wb r c n d s) := ⟨_, rfl, box2 w r c n d s⟩
 have HR : Hid (Wt r c n) := R
 have hn := R.le
 have hr := R.r64
 have hc := R.c65
 obtain ⟨M, HM⟩ : ∃ M, Hid (m2 F r c = M) := ⟨_, rfl⟩
 have HI0 : Hid (WInv w wb B r c n 0 (fun _ => 0) s d (.slice none 0 0) F) := ⟨HX.out.va, HX.out.vr, hd.later HX.out.below, Oi.nil _ _ _, qer (qfk _ _) HX.out.below⟩
 have HE0 : Hid (WE r c n 0 0 (fun _ => 0) M F) := by rw [← HM.out]; exact ⟨hF, qig _ _ _, SpEq.refl (qlp hF R) _, by omega⟩
 obtain ⟨i0, hi0, hz0, hz1, hz2⟩ := info_parts infoI
 clear hd hF R
 go_enter Tryz.func92, Tryz.ntmps92
 go_wp2
 rw [← HW.out]
 clear HW HX
 go_loopw [4, 5] (fun sv sj wr => ∃ (top j : Nat) (p : Nat → Nat) (G : Nat → Nat), sj = .int .i64 (j : Int) ∧ WE r c n top j p M G ∧ WInv w wr B r c n top p s d sv G) (fun _ sj _ => c - (intOf sj).toNat)
 case atStart => exact ⟨0, 0, fun _ => 0, F, rfl, HE0.out, HI0.out⟩
 case round =>
  clear HI0 HE0
  obtain ⟨top, j, p, G, rfl, hE, I⟩ := hrel
  obtain ⟨ps, pd, rfl, _⟩ := I.piv.form
  have HE : Hid (WE r c n top j p M G) := hE
  have HI : Hid (WInv w wr B r c n top p s d (.slice ps top pd) G) := I
  have c0 := I.vm.c0
  have c1 := I.vm.c1
  have c2 := I.vm.c2
  have htr := hE.elm.tr
  have hjc := hE.jc
  clear I hE
  by_cases hj : j < c
  ·go_wp2
   go_loopw [4, 7] (fun sv si wi => ∃ i : Nat, top ≤ i ∧ i ≤ r ∧ sv = .slice ps top pd ∧ si = .int .i64 (i : Int) ∧ Hid (∀ t, top ≤ t → t < i → G (t * c + j) = 0) ∧ WInv w wi B r c n top p s d (.slice ps top pd) G) (fun _ si _ => r - (intOf si).toNat)
   case atStart => exact ⟨top, Nat.le_refl _, by omega, rfl, rfl, fun t h1 h2 => by omega, HI.out⟩
   case round =>
    clear HI c0 c1 c2
    obtain ⟨i, hti, hir, rfl, rfl, HZ, I⟩ := hrel
    have HI : Hid (WInv w wr B r c n top p s d (.slice ps top pd) G) := I
    have c0 := I.vm.c0
    have c1 := I.vm.c1
    have c2 := I.vm.c2
    clear I
    by_cases hlt : i < r
    ·obtain ⟨y, HY⟩ : ∃ y, Hid (G (i * c + j) = y) := ⟨_, rfl⟩
     have hy : y < 256 := by rw [← HY.out]; exact HE.out.el _ (HR.out.at hlt hj)
     by_cases hy0 : y = 0
     ·subst hy0
      go_wp2_with (go_at_call 69; refine (qcz _ _ c i j n d 0 s G (HI.out.data.sl HE.out.el) (HR.out.at hlt hj) hn HY).mono ?_; rintro e w5 ⟨rfl, hb5⟩; have HI5 : Hid (WInv w w5 B r c n top p s d (.slice ps top pd) G) := HI.out.later hb5; clear hb5)
      exact ⟨⟨i + 1, by omega, by omega, rfl, by go_num, fun t h1 h2 => by
       by_cases e : t = i
       ·rw [e]; exact HY.out
       ·exact HZ.out t h1 (by omega), HI5.out⟩, by simp [intOf]; omega⟩
     ·have hyb : ((y : Int) == 0) = false := by simpa using hy0
      have htr' : top < r := by omega
      have hnp : 0 < n := by have := HR.out.at htr' hj; omega
      obtain ⟨g, eg⟩ := HI.out.data.some hnp
      subst eg
      obtain ⟨dv, HDV⟩ : ∃ x, Hid (finv y = x) := ⟨_, rfl⟩
      obtain ⟨iv, HIV⟩ : ∃ x, Hid (ive y = x) := ⟨_, rfl⟩
      have hdv : dv < 256 := by rw [← HDV.out]; exact qae _
      have HInv : Hid (∀ w, Calls Tryz.prog 113 #[.int .u8 (y : Int)] w fun e w' => e = .returned (.tuple #[.int .u8 (dv : Int), .int .i64 iv]) ∧ w = w') := by rw [← HDV.out, ← HIV.out]; exact fun w => (qiu y w hy).mono fun _ _ h => ⟨h.1, h.2.symm⟩
      go_wp2_with (first
       | (go_at_call 69; refine (qcz _ _ c i j n d y _ G (HI.out.data.sl HE.out.el) (HR.out.at hlt hj) hn HY).mono ?_; rintro e w5 ⟨rfl, hb5⟩; have HI5 : Hid (WInv w w5 B r c n top p (some ⟨g, 0, none⟩) d (.slice ps top pd) G) := HI.out.later hb5; clear hb5)
       | (go_at_call 113; refine (HInv.out _).mono ?_; rintro e w' ⟨rfl, rfl⟩))
      have HSl : Hid (∀ L t, t < n → swf G dv c top i L t < 256) := fun L => swf_lt HE.out.el hdv HR.out htr' (by omega)
      go_loopw [11] (fun sl wl => ∃ l : Nat, l ≤ c ∧ sl = .int .i64 (l : Int) ∧ WInv w wl B r c n top p (some ⟨g, 0, none⟩) d (.slice ps top pd) (swf G dv c top i l)) (fun sl _ => c - (intOf sl).toNat)
      case atStart => exact ⟨0, by omega, rfl, HI5.out.congr (fun t _ => by rw [swf_zero])⟩
      case round =>
       clear HI5 HI c0 c1 c2
       obtain ⟨l, hl, rfl, I⟩ := hrel
       have HI : Hid (WInv w wr B r c n top p (some ⟨g, 0, none⟩) d (.slice ps top pd) (swf G dv c top i l)) := I
       have c0 := I.vm.c0
       have c1 := I.vm.c1
       have c2 := I.vm.c2
       clear I
       by_cases hll : l < c
       ·obtain ⟨P1, HP1⟩ : ∃ x, Hid (i * c + l = x) := ⟨_, rfl⟩
        obtain ⟨P2, HP2⟩ : ∃ x, Hid (top * c + l = x) := ⟨_, rfl⟩
        have hp1 : P1 < n := by rw [← HP1.out]; exact HR.out.at hlt hll
        have hp2 : P2 < n := by rw [← HP2.out]; exact HR.out.at htr' hll
        obtain ⟨xu, HXU⟩ : ∃ x, Hid (G P2 = x) := ⟨_, rfl⟩
        obtain ⟨xv, HXV⟩ : ∃ x, Hid (G P1 = x) := ⟨_, rfl⟩
        have hxu : xu < 256 := by rw [← HXU.out]; exact HE.out.el _ hp2
        have hxv : xv < 256 := by rw [← HXV.out]; exact HE.out.el _ hp1
        obtain ⟨z, HZ2⟩ : ∃ x, Hid (fm dv xv = x) := ⟨_, rfl⟩
        have hz : z < 256 := by rw [← HZ2.out]; exact qaq _ _ hdv
        have HMul : Hid (∀ w, Calls Tryz.prog 114 #[.int .u8 (dv : Int), .int .u8 (xv : Int)] w fun e w' => e = .returned (.int .u8 (z : Int)) ∧ w = w') := by rw [← HZ2.out]; exact fun w => qg4 dv xv w hdv hxv
        have HA1 : Hid (∀ w', Below wr.heap.size wr w' → Calls Tryz.prog 69 #[.agg #[.int .i64 (r : Int), .int .i64 (c : Int), .slice (some ⟨g, 0, none⟩) n d], .int .i64 (top : Int), .int .i64 (l : Int)] w' fun e w'' => e = .returned (.int .u8 (xu : Int)) ∧ Below w'.heap.size w' w'') := fun w' h' => qcz w' _ c top l n d xu _ _ ((HI.out.data.later h').sl (HSl.out l)) (by rw [HP2.out]; exact hp2) hn (by rw [qlq _ hll, HP2.out]; exact HXU)
        have HA2 : Hid (∀ w', Below wr.heap.size wr w' → Calls Tryz.prog 69 #[.agg #[.int .i64 (r : Int), .int .i64 (c : Int), .slice (some ⟨g, 0, none⟩) n d], .int .i64 (i : Int), .int .i64 (l : Int)] w' fun e w'' => e = .returned (.int .u8 (xv : Int)) ∧ Below w'.heap.size w' w'') := fun w' h' => qcz w' _ c i l n d xv _ _ ((HI.out.data.later h').sl (HSl.out l)) (by rw [HP1.out]; exact hp1) hn (by rw [qlq _ hll, HP1.out]; exact HXV)
        have e1 : ((i : Int) * (c : Int)) = ((i * c : Nat) : Int) := by simp
        have m1 : i * c ≤ P1 := by rw [← HP1.out]; omega
        have e2 : ((top : Int) * (c : Int)) = ((top * c : Nat) : Int) := by simp
        have m2' : top * c ≤ P2 := by rw [← HP2.out]; omega
        have wa1 : IntKind.i64.wrap ((i : Int) * (c : Int)) = (i : Int) * (c : Int) := by rw [e1, IntKind.wrap_i64]; omega
        have wa2 : IntKind.i64.wrap ((i : Int) * (c : Int) + (l : Int)) = (P1 : Int) := by rw [e1, IntKind.wrap_i64]; have := HP1.out; omega
        have wb1 : IntKind.i64.wrap ((top : Int) * (c : Int)) = (top : Int) * (c : Int) := by rw [e2, IntKind.wrap_i64]; omega
        have wb2 : IntKind.i64.wrap ((top : Int) * (c : Int) + (l : Int)) = (P2 : Int) := by rw [e2, IntKind.wrap_i64]; have := HP2.out; omega
        have p0 : (0 : Int) ≤ (P1 : Int) := by omega
        have p1 : (P1 : Int) < (n : Int) := by omega
        have p2 : (0 : Int) ≤ (P2 : Int) := by omega
        have p3 : (P2 : Int) < (n : Int) := by omega
        have HD : Hid (wr.drew.cell? ⟨w.heap.size, 0, none⟩ = some (.int .i64 (r : Int)) ∧ wr.drew.cell? ⟨w.heap.size, 1, none⟩ = some (.int .i64 (c : Int)) ∧ wr.drew.cell? ⟨w.heap.size, 2, none⟩ = some (.slice (some ⟨g, 0, none⟩) n d)) := ⟨c0, c1, c2⟩
        clear e1 e2
        go_wp2
        refine wp_region_held (S := fun w' => w'.cell? ⟨w.heap.size, 0, none⟩ = some (.int .i64 (r : Int)) ∧ w'.cell? ⟨w.heap.size, 1, none⟩ = some (.int .i64 (c : Int)) ∧ w'.cell? ⟨w.heap.size, 2, none⟩ = some (.slice (some ⟨g, 0, none⟩) n d)) (by kernel_rfl) ?_
        refine wtkq 0 ?vs0 rfl (by kernel_rfl) (fun _ _ _ h => h) (by rfl) ?ys0 HD.out ?zs0
        case ys0 => (intro w hSw; (try dsimp only at hSw); go_simp; try with_reducible rfl)
        try simp only [mz1, mz3, Act.put, mz4, mz5, mz6]
        refine wtkq 1 ?vs1 rfl (by kernel_rfl) (fun _ _ _ h => h) (by rfl) ?ys1 HD.out ?zs1
        case ys1 => (intro w hSw; (try dsimp only at hSw); go_simp; try with_reducible rfl)
        try simp only [mz1, mz2, mz3, Act.put, mz4, mz5, mz6]
        refine wtkq 2 ?vs2 rfl (by kernel_rfl) (fun _ _ _ h => h) (by rfl) ?ys2 HD.out ?zs2
        case ys2 => (intro w hSw; (try dsimp only at hSw); go_simp; try with_reducible rfl)
        try simp only [mz1, mz2, mz3, Act.put, mz4, mz5, mz6]
        refine wtkq 4 ?vs4 rfl (by kernel_rfl) (fun _ _ _ h => h) (by rfl) ?ys4 HD.out ?zs4
        case ys4 => (intro w hSw; (try dsimp only at hSw); go_simp; try with_reducible rfl)
        try simp only [mz1, mz2, mz3, Act.put, mz4, mz5, mz6]
        refine wtkq 5 ?vs5 rfl (by kernel_rfl) (fun _ _ _ h => h) (by rfl) ?ys5 HD.out ?zs5
        case ys5 => (intro w hSw; (try dsimp only at hSw); go_simp; try with_reducible rfl)
        try simp only [mz1, mz2, mz3, Act.put, mz4, mz5, mz6]
        refine wtkq 6 ?vs6 rfl (by kernel_rfl) (fun _ _ _ h => h) (by rfl) ?ys6 HD.out ?zs6
        case ys6 => (intro w hSw; (try dsimp only at hSw); go_simp; try with_reducible rfl)
        try simp only [mz1, mz2, mz3, Act.put, mz4, mz5, mz6]
        refine wpAnyH_ready (rs := [3]) (by kernel_rfl) (by simp) ?_
        refine AllReadyH.cons rfl (fun K hK => ?_) AllReadyH.nil
        go_simp
        refine (HA1.out wr.drew (Below.refl _ _).drew).mono ?_; rintro e w6 ⟨rfl, hb6⟩; have HD6 : Hid (w6.cell? ⟨w.heap.size, 0, none⟩ = some (.int .i64 (r : Int)) ∧ w6.cell? ⟨w.heap.size, 1, none⟩ = some (.int .i64 (c : Int)) ∧ w6.cell? ⟨w.heap.size, 2, none⟩ = some (.slice (some ⟨g, 0, none⟩) n d)) := ⟨keepc hb6 HD.out.1, keepc hb6 HD.out.2.1, keepc hb6 HD.out.2.2⟩; have HB6 : Hid (Below wr.heap.size wr w6) := qa1 (Below.refl _ _).drew hb6; clear hb6
        refine hK.out _ _ HD6.out (fun _ => ?_)
        clear hK K
        try simp only [mz1, mz2, mz3, Act.put, mz4, mz5, mz6]
        refine wpAnyH_ready (rs := [7]) (by kernel_rfl) (by simp) ?_
        refine AllReadyH.cons rfl (fun K hK => ?_) AllReadyH.nil
        go_simp
        refine (HA2.out w6 HB6.out).mono ?_; rintro e w7 ⟨rfl, hb7⟩; have HD7 : Hid (w7.cell? ⟨w.heap.size, 0, none⟩ = some (.int .i64 (r : Int)) ∧ w7.cell? ⟨w.heap.size, 1, none⟩ = some (.int .i64 (c : Int)) ∧ w7.cell? ⟨w.heap.size, 2, none⟩ = some (.slice (some ⟨g, 0, none⟩) n d)) := ⟨keepc hb7 HD6.out.1, keepc hb7 HD6.out.2.1, keepc hb7 HD6.out.2.2⟩; have HB7 : Hid (Below wr.heap.size wr w7) := qa1 HB6.out hb7; clear hb7
        refine hK.out _ _ HD7.out (fun _ => ?_)
        clear hK K
        try simp only [mz1, mz2, mz3, Act.put, mz4, mz5, mz6]
        refine wtkq 8 ?vs8 rfl (by kernel_rfl) (fun _ _ _ h => h) (by rfl) ?ys8 HD7.out ?zs8
        case ys8 => (intro w hSw; (try dsimp only at hSw); go_simp; try with_reducible rfl)
        try simp only [mz1, mz2, mz3, Act.put, mz4, mz5, mz6]
        refine wtkq 9 ?vs9 rfl (by kernel_rfl) (fun _ _ _ h => h) (by rfl) ?ys9 HD7.out ?zs9
        case ys9 => (intro w hSw; (try dsimp only at hSw); go_simp; try with_reducible rfl)
        try simp only [mz1, mz2, mz3, Act.put, mz4, mz5, mz6]
        refine wpAnyH_done (by kernel_rfl) ?_ _
        have HI7 : Hid (WInv w w7 B r c n top p (some ⟨g, 0, none⟩) d (.slice ps top pd) (swf G dv c top i l)) := HI.out.later HB7.out
        have k1 := HI7.out.data.cell hp1
        have k2 := HI7.out.data.free P1
        have k3 := HD7.out.1
        have k4 := HD7.out.2.1
        have k5 := HD7.out.2.2
        obtain ⟨W8, HW8⟩ : ∃ W, Hid (W = w7.setCell ⟨g, P1, none⟩ (.int .u8 (xu : Int))) := ⟨_, rfl⟩
        have HI8 : Hid (WInv w W8 B r c n top p (some ⟨g, 0, none⟩) d (.slice ps top pd) (fun t => if t = P1 then xu else swf G dv c top i l t)) := by rw [HW8.out]; exact HI7.out.set
        have q3 := HI8.out.vm.c0
        have q4 := HI8.out.vm.c1
        have q5 := HI8.out.vm.c2
        have HD8 : Hid (W8.drew.cell? ⟨w.heap.size, 0, none⟩ = some (.int .i64 (r : Int)) ∧ W8.drew.cell? ⟨w.heap.size, 1, none⟩ = some (.int .i64 (c : Int)) ∧ W8.drew.cell? ⟨w.heap.size, 2, none⟩ = some (.slice (some ⟨g, 0, none⟩) n d)) := ⟨q3, q4, q5⟩
        go_wp2
        rw [← HW8.out]
        refine qai (k := 12) (n := 12) (fun w' => w'.cell? ⟨w.heap.size, 0, none⟩ = some (.int .i64 (r : Int)) ∧ w'.cell? ⟨w.heap.size, 1, none⟩ = some (.int .i64 (c : Int)) ∧ w'.cell? ⟨w.heap.size, 2, none⟩ = some (.slice (some ⟨g, 0, none⟩) n d)) (by kernel_rfl) (by kernel_rfl) (by decide) (by rfl) ?_
        refine wtkq 0 ?vm0 rfl (by kernel_rfl) (fun _ _ _ h => h) (by rfl) ?ym0 HD8.out ?zm0
        case ym0 => (intro w hSw; (try dsimp only at hSw); go_simp; try with_reducible rfl)
        try simp only [mz1, mz3, Act.put, mz4, mz5, mz6]
        refine wtkq 1 ?vm1 rfl (by kernel_rfl) (fun _ _ _ h => h) (by rfl) ?ym1 HD8.out ?zm1
        case ym1 => (intro w hSw; (try dsimp only at hSw); go_simp; try with_reducible rfl)
        try simp only [mz1, mz2, mz3, Act.put, mz4, mz5, mz6]
        refine wtkq 2 ?vm2 rfl (by kernel_rfl) (fun _ _ _ h => h) (by rfl) ?ym2 HD8.out ?zm2
        case ym2 => (intro w hSw; (try dsimp only at hSw); go_simp; try with_reducible rfl)
        try simp only [mz1, mz2, mz3, Act.put, mz4, mz5, mz6]
        refine wtkq 3 ?vm3 rfl (by kernel_rfl) (fun _ _ _ h => h) (by rfl) ?ym3 HD8.out ?zm3
        case ym3 => (intro w hSw; (try dsimp only at hSw); go_simp; try with_reducible rfl)
        try simp only [mz1, mz2, mz3, Act.put, mz4, mz5, mz6]
        refine wtkq 4 ?vm4 rfl (by kernel_rfl) (fun _ _ _ h => h) (by rfl) ?ym4 HD8.out ?zm4
        case ym4 => (intro w hSw; (try dsimp only at hSw); go_simp; try with_reducible rfl)
        try simp only [mz1, mz2, mz3, Act.put, mz4, mz5, mz6]
        refine wtkq 5 ?vm5 rfl (by kernel_rfl) (fun _ _ _ h => h) (by rfl) ?ym5 HD8.out ?zm5
        case ym5 => (intro w hSw; (try dsimp only at hSw); go_simp; try with_reducible rfl)
        try simp only [mz1, mz2, mz3, Act.put, mz4, mz5, mz6]
        refine wtkq 6 ?vm6 rfl (by kernel_rfl) (fun _ _ _ h => h) (by rfl) ?ym6 HD8.out ?zm6
        case ym6 => (intro w hSw; (try dsimp only at hSw); go_simp; try with_reducible rfl)
        try simp only [mz1, mz2, mz3, Act.put, mz4, mz5, mz6]
        refine wtkq 7 ?vm7 rfl (by kernel_rfl) (fun _ _ _ h => h) (by rfl) ?ym7 HD8.out ?zm7
        case ym7 => (intro w hSw; (try dsimp only at hSw); go_simp; try with_reducible rfl)
        try simp only [mz1, mz2, mz3, Act.put, mz4, mz5, mz6]
        refine wtkq 8 ?vm8 rfl (by kernel_rfl) (fun _ _ _ h => h) (by rfl) ?ym8 HD8.out ?zm8
        case ym8 => (intro w hSw; (try dsimp only at hSw); go_simp; try with_reducible rfl)
        try simp only [mz1, mz2, mz3, Act.put, mz4, mz5, mz6]
        refine wtkq 9 ?vm9 rfl (by kernel_rfl) (fun _ _ _ h => h) (by rfl) ?ym9 HD8.out ?zm9
        case ym9 => (intro w hSw; (try dsimp only at hSw); go_simp; try with_reducible rfl)
        try simp only [mz1, mz2, mz3, Act.put, mz4, mz5, mz6]
        refine wpAnyH_ready (rs := [10]) (by kernel_rfl) (by simp) ?_
        refine AllReadyH.cons rfl (fun K hK => ?_) AllReadyH.nil
        go_simp
        refine (HMul.out _).mono ?_; rintro e w' ⟨rfl, rfl⟩; dsimp only
        refine hK.out _ _ HD8.out (fun _ => ?_)
        clear hK K
        try simp only [mz1, mz2, mz3, Act.put, mz4, mz5, mz6]
        refine wtkq 11 ?vm11 rfl (by kernel_rfl) (fun _ _ _ h => h) (by rfl) ?ym11 HD8.out ?zm11
        case ym11 => (intro w hSw; (try dsimp only at hSw); go_simp; try with_reducible rfl)
        try simp only [mz1, mz2, mz3, Act.put, mz4, mz5, mz6]
        refine wpAnyH_done (by kernel_rfl) ?_ _
        have r1 : W8.drew.cell? ⟨g, P2, none⟩ = some (.int .u8 (((if P2 = P1 then xu else swf G dv c top i l P2 : Nat)) : Int)) := HI8.out.data.cell hp2
        have r2 : W8.drew.frozen? ⟨g, P2, none⟩ = false := HI8.out.data.free P2
        refine qb3 rfl (fun K hK => ?_)
        go_simp
        refine hK.out _ _ ?_
        clear hK K
        try simp only [mz1, mz2, mz3, Act.put, mz4, mz5, mz6]
        go_wp2
        exact ⟨⟨l + 1, by omega, by go_num, ((HI8.out.later (Below.refl _ _).drew).set (q := P2) (x := z)).congr (fun t _ => by rw [← HZ2.out, ← HXU.out, ← HXV.out, ← HP1.out, ← HP2.out]; exact swf_step G hll t)⟩, by simp [intOf]; omega⟩
       ·have hlc : c = l := by omega
        subst hlc
        obtain ⟨G2, HG2⟩ : ∃ f, Hid (swf G dv c top i c = f) := ⟨_, rfl⟩
        have HGL : Hid (∀ t, t < n → G2 t < 256) := by rw [← HG2.out]; exact HSl.out c
        have HI2 : Hid (WInv w wr B r c n top p (some ⟨g, 0, none⟩) d (.slice ps top pd) G2) := by rw [← HG2.out]; exact HI.out
        obtain ⟨h, HH⟩ : ∃ h, Hid ((fun l => G2 (top * c + l)) = h) := ⟨_, rfl⟩
        go_wp2
        go_loopw [14] (fun sk wk => ∃ q : Nat, q ≤ r ∧ sk = .int .i64 (q : Int) ∧ WInv w wk B r c n top p (some ⟨g, 0, none⟩) d (.slice ps top pd) (elf G2 h c top j (q * c))) (fun sk _ => r - (intOf sk).toNat)
        case atStart => exact ⟨0, by omega, rfl, HI2.out.congr (fun t _ => by rw [Nat.zero_mul, qis])⟩
        case round =>
         clear HI2 HI c0 c1 c2
         obtain ⟨q, hq, rfl, I⟩ := hrel
         have HI : Hid (WInv w wr B r c n top p (some ⟨g, 0, none⟩) d (.slice ps top pd) (elf G2 h c top j (q * c))) := I
         have c0 := I.vm.c0
         have c1 := I.vm.c1
         have c2 := I.vm.c2
         clear I
         by_cases hlq : q < r
         ·obtain ⟨cc, HCC⟩ : ∃ x, Hid (G2 (q * c + j) = x) := ⟨_, rfl⟩
          have hcc : cc < 256 := by rw [← HCC.out]; exact HGL.out _ (HR.out.at hlq hj)
          go_wp2_with (go_at_call 69; refine (qcz _ _ c q j n d cc _ (elf G2 h c top j (q * c)) (HI.out.data.sl (qhs HGL.out HR.out hj _)) (HR.out.at hlq hj) hn (by rw [qe4 _ _ _ _ _ _ _ (by omega)]; exact HCC)).mono ?_; rintro e w15 ⟨rfl, hb15⟩; have HI15 : Hid (WInv w w15 B r c n top p (some ⟨g, 0, none⟩) d (.slice ps top pd) (elf G2 h c top j (q * c))) := HI.out.later hb15; clear hb15)
          go_loopw [16] (fun sl wl => ∃ l : Nat, l ≤ c ∧ sl = .int .i64 (l : Int) ∧ Hid (q = top → l = 0) ∧ WInv w wl B r c n top p (some ⟨g, 0, none⟩) d (.slice ps top pd) (elf G2 h c top j (q * c + l))) (fun sl _ => c - (intOf sl).toNat)
          case atStart => exact ⟨0, by omega, rfl, fun _ => rfl, HI15.out⟩
          case round =>
           clear HI15 HI c0 c1 c2
           obtain ⟨l, hl, rfl, HL0, I⟩ := hrel
           have HI : Hid (WInv w wr B r c n top p (some ⟨g, 0, none⟩) d (.slice ps top pd) (elf G2 h c top j (q * c + l))) := I
           have c0 := I.vm.c0
           have c1 := I.vm.c1
           have c2 := I.vm.c2
           by_cases hqt : q = top
           ·have HQT : Hid (q = top) := hqt
            have HL : Hid (l = 0) := HL0.out hqt
            have g1 : ((q : Int) != (top : Int)) = false := by rw [hqt]; simp
            clear hqt I
            by_cases hll : l < c
            ·go_wp2
             exact ⟨⟨q + 1, by omega, by go_num, HI.out.congr (fun t _ => by rw [HL.out, Nat.add_zero, HQT.out, qg7])⟩, by simp [intOf]; omega⟩
            ·go_wp2
             exact ⟨⟨q + 1, by omega, by go_num, HI.out.congr (fun t _ => by rw [HL.out, Nat.add_zero, HQT.out, qg7])⟩, by simp [intOf]; omega⟩
           ·have g1 : ((q : Int) != (top : Int)) = true := by simp; omega
            have HQT : Hid (q ≠ top) := hqt
            clear hqt
            by_cases hll : l < c
            ·obtain ⟨P, HP⟩ : ∃ x, Hid (q * c + l = x) := ⟨_, rfl⟩
             have hpn : P < n := by rw [← HP.out]; exact HR.out.at hlq hll
             have hd := I.data.cell hpn
             obtain ⟨x, HX⟩ : ∃ x, Hid (G2 P = x) := ⟨_, rfl⟩
             rw [HP.out, qe4 _ _ _ _ _ _ _ (Nat.le_refl _), HX.out] at hd
             have hx : x < 256 := by rw [← HX.out]; exact HGL.out _ hpn
             obtain ⟨z, HZ'⟩ : ∃ x, Hid (h l = x) := ⟨_, rfl⟩
             have HZt : Hid (G2 (top * c + l) = z) := by rw [← HZ'.out, ← HH.out]; exact rfl
             have hz : z < 256 := by rw [← HZt.out]; exact HGL.out _ (HR.out.at htr' hll)
             obtain ⟨v, HV⟩ : ∃ v, Hid (fm cc z = v) := ⟨_, rfl⟩
             have hv : v < 256 := by rw [← HV.out]; exact qaq _ _ hcc
             have hxo : bits .xor .u8 (x : Int) (v : Int) = ((x ^^^ v : Nat) : Int) := u8_xor_nat _ _ hx hv
             have HMul : Hid (∀ w, Calls Tryz.prog 114 #[.int .u8 (cc : Int), .int .u8 (z : Int)] w fun e w' => e = .returned (.int .u8 (v : Int)) ∧ w = w') := by rw [← HV.out]; exact fun w => qg4 cc z w hcc hz
             have HAt : Hid (∀ w', Below wr.heap.size wr w' → Calls Tryz.prog 69 #[.agg #[.int .i64 (r : Int), .int .i64 (c : Int), .slice (some ⟨g, 0, none⟩) n d], .int .i64 (top : Int), .int .i64 (l : Int)] w' fun e w'' => e = .returned (.int .u8 (z : Int)) ∧ Below w'.heap.size w' w'') := fun w' h' => qcz w' _ c top l n d z _ _ ((HI.out.data.later h').sl (qhs HGL.out HR.out hj _)) (HR.out.at htr' hll) hn (by rw [elf_top _ _ hll]; exact HZt)
             have e1 : ((q : Int) * (c : Int)) = ((q * c : Nat) : Int) := by simp
             have hmp : q * c ≤ P := by rw [← HP.out]; omega
             have w1' : IntKind.i64.wrap ((q : Int) * (c : Int)) = (q : Int) * (c : Int) := by rw [e1, IntKind.wrap_i64]; omega
             have w2' : IntKind.i64.wrap ((q : Int) * (c : Int) + (l : Int)) = (P : Int) := by rw [e1, IntKind.wrap_i64]; have := HP.out; omega
             have p0 : (0 : Int) ≤ (P : Int) := by omega
             have p1 : (P : Int) < (n : Int) := by omega
             have HD : Hid (wr.drew.cell? ⟨w.heap.size, 0, none⟩ = some (.int .i64 (r : Int)) ∧ wr.drew.cell? ⟨w.heap.size, 1, none⟩ = some (.int .i64 (c : Int)) ∧ wr.drew.cell? ⟨w.heap.size, 2, none⟩ = some (.slice (some ⟨g, 0, none⟩) n d) ∧ wr.drew.cell? ⟨g, P, none⟩ = some (.int .u8 (x : Int))) := ⟨c0, c1, c2, hd⟩
             clear I e1
             go_wp2
             refine qai (k := 18) (n := 18) (fun w' => w'.cell? ⟨w.heap.size, 0, none⟩ = some (.int .i64 (r : Int)) ∧ w'.cell? ⟨w.heap.size, 1, none⟩ = some (.int .i64 (c : Int)) ∧ w'.cell? ⟨w.heap.size, 2, none⟩ = some (.slice (some ⟨g, 0, none⟩) n d) ∧ w'.cell? ⟨g, P, none⟩ = some (.int .u8 (x : Int))) (by kernel_rfl) (by kernel_rfl) (by decide) (by rfl) ?_
             refine wtkq 0 ?ve0 rfl (by kernel_rfl) (fun _ _ _ h => h) (by rfl) ?ye0 HD.out ?ze0
             case ye0 => (intro w hSw; (try dsimp only at hSw); go_simp; try with_reducible rfl)
             try simp only [mz1, mz3, Act.put, mz4, mz5, mz6]
             refine wtkq 1 ?ve1 rfl (by kernel_rfl) (fun _ _ _ h => h) (by rfl) ?ye1 HD.out ?ze1
             case ye1 => (intro w hSw; (try dsimp only at hSw); go_simp; try with_reducible rfl)
             try simp only [mz1, mz2, mz3, Act.put, mz4, mz5, mz6]
             refine wtkq 2 ?ve2 rfl (by kernel_rfl) (fun _ _ _ h => h) (by rfl) ?ye2 HD.out ?ze2
             case ye2 => (intro w hSw; (try dsimp only at hSw); go_simp; try with_reducible rfl)
             try simp only [mz1, mz2, mz3, Act.put, mz4, mz5, mz6]
             refine wtkq 3 ?ve3 rfl (by kernel_rfl) (fun _ _ _ h => h) (by rfl) ?ye3 HD.out ?ze3
             case ye3 => (intro w hSw; (try dsimp only at hSw); go_simp; try with_reducible rfl)
             try simp only [mz1, mz2, mz3, Act.put, mz4, mz5, mz6]
             refine wtkq 4 ?ve4 rfl (by kernel_rfl) (fun _ _ _ h => h) (by rfl) ?ye4 HD.out ?ze4
             case ye4 => (intro w hSw; (try dsimp only at hSw); go_simp; try with_reducible rfl)
             try simp only [mz1, mz2, mz3, Act.put, mz4, mz5, mz6]
             refine wtkq 5 ?ve5 rfl (by kernel_rfl) (fun _ _ _ h => h) (by rfl) ?ye5 HD.out ?ze5
             case ye5 => (intro w hSw; (try dsimp only at hSw); go_simp; try with_reducible rfl)
             try simp only [mz1, mz2, mz3, Act.put, mz4, mz5, mz6]
             refine wtkq 6 ?ve6 rfl (by kernel_rfl) (fun _ _ _ h => h) (by rfl) ?ye6 HD.out ?ze6
             case ye6 => (intro w hSw; (try dsimp only at hSw); go_simp; try with_reducible rfl)
             try simp only [mz1, mz2, mz3, Act.put, mz4, mz5, mz6]
             refine wtkq 7 ?ve7 rfl (by kernel_rfl) (fun _ _ _ h => h) (by rfl) ?ye7 HD.out ?ze7
             case ye7 => (intro w hSw; (try dsimp only at hSw); go_simp; try with_reducible rfl)
             try simp only [mz1, mz2, mz3, Act.put, mz4, mz5, mz6]
             refine wtkq 8 ?ve8 rfl (by kernel_rfl) (fun _ _ _ h => h) (by rfl) ?ye8 HD.out ?ze8
             case ye8 => (intro w hSw; (try dsimp only at hSw); go_simp; try with_reducible rfl)
             try simp only [mz1, mz2, mz3, Act.put, mz4, mz5, mz6]
             refine wtkq 9 ?ve9 rfl (by kernel_rfl) (fun _ _ _ h => h) (by rfl) ?ye9 HD.out ?ze9
             case ye9 => (intro w hSw; (try dsimp only at hSw); go_simp; try with_reducible rfl)
             try simp only [mz1, mz2, mz3, Act.put, mz4, mz5, mz6]
             refine wtkq 10 ?ve10 rfl (by kernel_rfl) (fun _ _ _ h => h) (by rfl) ?ye10 HD.out ?ze10
             case ye10 => (intro w hSw; (try dsimp only at hSw); go_simp; try with_reducible rfl)
             try simp only [mz1, mz2, mz3, Act.put, mz4, mz5, mz6]
             refine wtkq 11 ?ve11 rfl (by kernel_rfl) (fun _ _ _ h => h) (by rfl) ?ye11 HD.out ?ze11
             case ye11 => (intro w hSw; (try dsimp only at hSw); go_simp; try with_reducible rfl)
             try simp only [mz1, mz2, mz3, Act.put, mz4, mz5, mz6]
             refine wtkq 12 ?ve12 rfl (by kernel_rfl) (fun _ _ _ h => h) (by rfl) ?ye12 HD.out ?ze12
             case ye12 => (intro w hSw; (try dsimp only at hSw); go_simp; try with_reducible rfl)
             try simp only [mz1, mz2, mz3, Act.put, mz4, mz5, mz6]
             refine wtkq 13 ?ve13 rfl (by kernel_rfl) (fun _ _ _ h => h) (by rfl) ?ye13 HD.out ?ze13
             case ye13 => (intro w hSw; (try dsimp only at hSw); go_simp; try with_reducible rfl)
             try simp only [mz1, mz2, mz3, Act.put, mz4, mz5, mz6]
             refine wpAnyH_ready (rs := [14]) (by kernel_rfl) (by simp) ?_
             refine AllReadyH.cons rfl (fun K hK => ?_) AllReadyH.nil
             go_simp
             refine (HAt.out wr.drew (Below.refl _ _).drew).mono ?_; rintro e w6 ⟨rfl, hb6⟩; have HD6 : Hid (w6.cell? ⟨w.heap.size, 0, none⟩ = some (.int .i64 (r : Int)) ∧ w6.cell? ⟨w.heap.size, 1, none⟩ = some (.int .i64 (c : Int)) ∧ w6.cell? ⟨w.heap.size, 2, none⟩ = some (.slice (some ⟨g, 0, none⟩) n d) ∧ w6.cell? ⟨g, P, none⟩ = some (.int .u8 (x : Int))) := ⟨keepc hb6 HD.out.1, keepc hb6 HD.out.2.1, keepc hb6 HD.out.2.2.1, keepc hb6 HD.out.2.2.2⟩; have HB6 : Hid (Below wr.heap.size wr w6) := qa1 (Below.refl _ _).drew hb6; clear hb6
             refine hK.out _ _ HD6.out (fun _ => ?_)
             clear hK K
             try simp only [mz1, mz2, mz3, Act.put, mz4, mz5, mz6]
             refine wpAnyH_ready (rs := [15]) (by kernel_rfl) (by simp) ?_
             refine AllReadyH.cons rfl (fun K hK => ?_) AllReadyH.nil
             go_simp
             refine (HMul.out _).mono ?_; rintro e w' ⟨rfl, rfl⟩; dsimp only
             refine hK.out _ _ HD6.out (fun _ => ?_)
             clear hK K
             try simp only [mz1, mz2, mz3, Act.put, mz4, mz5, mz6]
             refine wtkq 16 ?ve16 rfl (by kernel_rfl) (fun _ _ _ h => h) (by rfl) ?ye16 HD6.out ?ze16
             case ye16 => (intro w hSw; (try dsimp only at hSw); go_simp; try with_reducible rfl)
             try simp only [mz1, mz2, mz3, Act.put, mz4, mz5, mz6]
             refine wtkq 17 ?ve17 rfl (by kernel_rfl) (fun _ _ _ h => h) (by rfl) ?ye17 HD6.out ?ze17
             case ye17 => (intro w hSw; (try dsimp only at hSw); go_simp; try with_reducible rfl)
             try simp only [mz1, mz2, mz3, Act.put, mz4, mz5, mz6]
             refine wpAnyH_done (by kernel_rfl) ?_ _
             have r1 := HD6.out.2.2.2
             have r2 := (HI.out.later HB6.out).data.free P
             refine qb3 rfl (fun K hK => ?_)
             go_simp
             refine hK.out _ _ ?_
             clear hK K
             try simp only [mz1, mz2, mz3, Act.put, mz4, mz5, mz6]
             go_wp2
             exact ⟨⟨l + 1, by omega, by go_num, fun e => absurd e HQT.out, ((HI.out.later HB6.out).set (q := P) (x := x ^^^ v)).congr (fun t _ => by rw [← HX.out, ← HV.out, ← HCC.out, ← HZ'.out, ← HP.out]; exact qit G2 h hll HQT.out t)⟩, by simp [intOf]; omega⟩
            ·have hlc : c = l := by omega
             subst hlc
             clear I
             go_wp2
             exact ⟨⟨q + 1, by omega, by go_num, HI.out.congr (fun t _ => by rw [Nat.add_mul, Nat.one_mul])⟩, by simp [intOf]; omega⟩
         ·have hqr : r = q := by omega
          subst hqr
          have hml2 : top + 1 ≤ maxLen := by unfold maxLen; omega
          have hsz : w.heap.size ≤ wr.heap.size := HI.out.grown.size
          go_wp2_with (at_builtin; refine wpList_append_own _ rfl _ _ 34 rfl w.heap.size 3 i0 (.int .i64 0) 1 8 Tryz.underlying34 hi0 hz0 hz1 hz2 rfl (by decide) _ top _ rfl (World.ownsRow.alloc HI.out.piv _) ⟨wr.heap.size, 0, none⟩ 1 1 [.int .i64 (j : Int)] rfl rfl (qe5 _ _ _) (qe6 _) hml2 (by omega) (by simp; omega) ?_; intro v' w16 hown' hgrow' _; have HO16 : Hid (w16.ownsRow w.heap.size 3 1 v' (top + 1) ((irow top p).toList ++ [.int .i64 (j : Int)])) := hown'; have HG16 : Hid ((wr.alloc (.cells #[.int .i64 (j : Int)] 3)).grownBy w16 (Value.slice ps top pd).ownBlock) := hgrow'; clear hown' hgrow')
          have HN16 := WInv.more _ HI.out HO16.out HG16.out
          have HRd := wide_round (h := h) (d := dv) HE.out.el HR.out HE.out.elm HE.out.sp hti hlt hj (by rw [HY.out]; exact hy0) (by rw [HY.out, HDV.out]) (fun l _ => by rw [HG2.out, ← HH.out])
          rw [HG2.out] at HRd
          exact ⟨⟨top + 1, j + 1, _, _, by go_num, ⟨qhs HGL.out HR.out hj _, HRd.1, HRd.2, hj⟩, HN16⟩, by simp [intOf]; omega⟩
    ·have HIR : Hid (i = r) := Nat.le_antisymm hir (by omega)
     go_wp2
     exact ⟨⟨top, j + 1, p, G, by go_num, ⟨HE.out.el, HE.out.elm.skip (fun t h1 h2 => by rw [qan _ h2 hj]; exact HZ.out t h1 (by rw [HIR.out]; exact h2)), HE.out.sp, hj⟩, HI.out⟩, by simp [intOf]; omega⟩
  ·have HVo : Hid (Vr wr (w.heap.size + 1) (.int .i64 0) (.int .i64 0) (.slice none 0 0)) := HI.out.vo
   go_wp2_with (refine qa8 rfl _ _ rfl (w.heap.size + 1) _ _ _ (.int .i64 (r : Int)) (.int .i64 (c : Int)) (.slice s n d) rfl rfl HVo.out rfl rfl rfl ?_; intro w4 HV4 HG4)
   have d0 := HV4.out.c0
   have d1 := HV4.out.c1
   have d2 := HV4.out.c2
   refine bodyPost_ret (v := .tuple #[mv r c s n d, .slice ps top pd]) (by simp [results, Tryz.results92, go_sem, d0, d1, d2, mv]) rfl ?_
   have J := HI.out
   exact ⟨_, top, p, G, rfl, J.data.kept HG4.out (.inr (qak J.data J.vo)), J.piv.kept HG4.out (.inr (qbb J.piv J.vo)), HE.out.el, HE.out.elm.rdf (.inr (fun _ l _ hl => qad _ (by omega))), by rw [HM.out]; exact HE.out.sp, fun i hi => by have := HE.out.elm.lt i hi; omega, qdd J.grown HG4.out (fun b e => .inr (by cases e; omega))⟩
end Go.Proofs.YtblagbghpfopcaaGreat
