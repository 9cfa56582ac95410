/-
  Stage 21: the reference's Matrix, the good way.
-/
import Derived.Test.YtkfnedpnkeacpaaQmmde00
import Derived.Test.YtkfnedpnkeacpaaQmmde44
set_option maxRecDepth 100000
set_option maxHeartbeats 16000000
namespace Go.Proofs.Ytkfnedpnkeacpaa
open Go.RowKit
theorem qcd {w : World} {g : Nat} {t : TypeId} {n : Nat} {f : Nat → Nat} (h : RowAt w g t n f) (i : Nat) : w.frozen? ⟨g, i, none⟩ = false := by
 unfold RowAt at h
 simp [World.frozen?, h]
theorem qcy {w : World} {B g n : Nat} {f : Nat → Nat} (h : RowAt w g 5 n f) (hB : B ≤ g) (hn : n ≤ maxLen) : w.ownsRow B 5 1 (.slice (some ⟨g, 0, none⟩) n n) n (row n f).toList :=
 ⟨by simp [qa3], .inr ⟨g, n, row n f, rfl, hB, h, Nat.le_refl _, hn, by simp [qa3], by rw [Nat.mul_one, List.take_of_length_le (by simp [qa3])]⟩⟩
theorem qfd {w : World} {g n k : Nat} {T : TypeId} (h : RowAt w g T n (fun _ => 0)) : RowAt (w.setCell ⟨g, k, none⟩ (.int .u8 1)) g T n (unb k) :=
 ((show Ga w g T n (fun _ => .int .u8 ((0 : Nat) : Int)) from h).set k (.int .u8 1)).congr (v' := fun i => .int .u8 (unb k i : Nat)) fun i _ => by
  unfold unb
  by_cases e : i = k
  ·rw [if_pos e, if_pos e.symm]; rfl
  ·rw [if_neg e, if_neg (fun e2 => e e2.symm)]
theorem qb5 (w : World) (g k : Nat) (v : Value) : (w.setCell ⟨g, k, none⟩ v).heap.size = w.heap.size := by simp
theorem qas (w : World) (g k : Nat) (v : Value) : Below g w (w.setCell ⟨g, k, none⟩ v) := (Below.refl g w).setCell (Nat.le_refl _) v
theorem Bo.lt21 {w : World} {B : Nat} {a : Option Addr} {n d L : Nat} {x : Nat → Nat → Nat} (h : Bo w B (.slice a n d) n L x) : ∀ gv, a = some ⟨gv, 0, none⟩ → gv < w.heap.size := fun gv e => by
 obtain ⟨vs, h1, _⟩ := h
 rcases h1.2 with ⟨e1, _⟩ | ⟨g9, cap, cur, e1, _, hg, _⟩
 ·rw [e] at e1; cases e1
 ·rw [e] at e1
  cases e1
  exact lt_of_block hg
theorem rmat_ok0 (w : World) (a b c : Option Addr) (p q r n Z : Nat) (F : Fl) (h : FlR w a b c F) (hM : MayP F) (hI : ∀ i, i < F.ni → F.inp i < (n : Int)) (hn : n ≤ 64) (hZ : F.no * n = Z) (h0 : F.ni = 0) :
  Calls Try.prog 12 #[flv a F.ni p b F.nn q c F.no r, .int .i64 (n : Int)] w fun e w' => (∃ s d, e = .returned (.tuple #[mv F.no n s Z d, .int .i64 0]) ∧ w'.ownsRow w.heap.size 5 1 (.slice s Z d) Z (row Z (mtf F n)).toList) ∧ Below w.heap.size w w' := by
 obtain ⟨wb, HW⟩ : ∃ wb, Hid ((w.alloc (.cells #[.slice a F.ni p, .slice b F.nn q, .slice c F.no r] 28)).alloc (.cells #[.int .i64 0, .int .i64 0, .slice none 0 0] 24) = wb) := ⟨_, rfl⟩
 have HB0 : Hid (Below w.heap.size w wb) := by rw [← HW.out]; exact jtwo (jlow _ _) (jlow _ _)
 have HV0 : Hid (Vf wb w.heap.size 28 #[.slice a F.ni p, .slice b F.nn q, .slice c F.no r]) := by rw [← HW.out]; exact (Vf.new w _ _).later (jlow _ _)
 have HR0 : Hid (Vf wb (w.heap.size + 1) 24 #[.int .i64 0, .int .i64 0, .slice none 0 0]) := by rw [← HW.out]; exact Vf.new1 _ _ _ _
 obtain ⟨i0, hi0, hz0, hz1, hz2⟩ := info_parts jsl8
 obtain ⟨i1, hi1, hy0, hy1, hy2⟩ := info_parts qbu
 have HMy := qa0 (fun w2 (hb : Below w.heap.size w w2) => qa9 (qam w2 a b c p q r F (h.later hb)) hM)
 have HRu := qa0 (fun w2 (hb : Below w.heap.size w w2) bl kb A C (hB : Bw w2 bl n A (fun _ => n) C unb) => (qcc w2 a b c bl p q r n kb F A (fun _ => n) C unb (h.later hb) hM hB (by omega)).mono fun e w' hh => by
  obtain ⟨⟨_, hv⟩ | ⟨hno, _⟩, hb'⟩ := hh
  ·rw [show len1 n (fun _ => n) = n by (unfold len1; dsimp only; split <;> omega)] at hv
   exact (⟨hv, hb'⟩ : (∃ v, e = .returned (.tuple #[v, .int .i64 0]) ∧ Bo w' w2.heap.size v F.no n (fun o => vlx F unb (F.out o).toNat)) ∧ Below w2.heap.size w2 w')
  ·exact absurd ⟨hI, fun _ _ => rfl⟩ hno)
 have hno := hM.o64
 have HLt : Hid (∀ o j, o < F.no → j < n → vlx F unb (F.out o).toNat j < 256) := fun o j ho _ => qcv hM (fun v j h1 h2 h3 => h.fc8 h1 h2 h3) (fun u _ => qc0 _ _) (by have := hM.outs o ho; omega)
 have hml : n ≤ maxLen := by unfold maxLen; omega
 obtain ⟨ni, HNi⟩ : ∃ x, Hid (F.ni = x) := ⟨_, rfl⟩
 obtain ⟨nn, HNn⟩ : ∃ x, Hid (F.nn = x) := ⟨_, rfl⟩
 obtain ⟨no, HNo⟩ : ∃ x, Hid (F.no = x) := ⟨_, rfl⟩
 rw [HNi.out, HNn.out, HNo.out] at HMy HRu HV0
 rw [HNi.out, HNn.out, HNo.out] at HW
 rw [HNi.out, HNn.out, HNo.out]
 have g1 : (ni : Int) = 0 := by have := HNi.out; omega
 have g2 : decide ((0 : Int) < (ni : Int)) = false := decide_eq_false (by omega)
 have g3 : decide (0 < ni) = false := decide_eq_false (by omega)
 have g4 : ¬ (0 : Int) < (ni : Int) := by omega
 rw [HNo.out] at HLt hno hZ
 have HZ := qa0 hZ
 have hZ4 : Z ≤ 4096 := by rw [← hZ]; exact Nat.mul_le_mul hno hn
 have g5 : decide ((n : Int) < 0) = false := decide_eq_false (by omega)
 have g6 : decide ((64 : Int) < (n : Int)) = false := decide_eq_false (by omega)
 have g7 : ¬ (n : Int) < 0 := by omega
 have g8 : ¬ (64 : Int) < (n : Int) := by omega
 clear h hM hI hZ h0
 go_enter Try.func12, Try.ntmps12
 have f0 := HV0.out.cell 0 (.slice a ni p) rfl
 have f1 := HV0.out.cell 1 (.slice b nn q) rfl
 have f2 := HV0.out.cell 2 (.slice c no r) rfl
 rw [← HW.out] at f0 f1 f2
 have hVl : w.heap.size + 1 < wb.heap.size := HR0.out.lt
 go_wp2_with (first
  | (go_at_call 21; rw [HW.out]; refine (HMy.out _ HB0.out).mono ?_; rintro e w1 ⟨rfl, hb1⟩; have HB1 := qa0 (jtwo HB0.out hb1); have HV1 := qa0 (HV0.out.later hb1); have HR1 := qa0 (HR0.out.later hb1); have f0 := HV1.out.cell 0 (.slice a ni p) rfl; have f1 := HV1.out.cell 1 (.slice b nn q) rfl; have f2 := HV1.out.cell 2 (.slice c no r) rfl; have hs1 := hb1.size; clear hb1))
 clear HB0 HV0 HR0 f0 f1 f2
 have hVl1 : w.heap.size + 1 < w1.heap.size := by omega
 go_loopw [6, 7] (fun vv vi wr => ∃ k : Nat, k ≤ n ∧ vi = .int .i64 (k : Int) ∧ Bo wr (w.heap.size + 2) vv k n unb ∧ Vf wr w.heap.size 28 #[.slice a ni p, .slice b nn q, .slice c no r] ∧ Vf wr (w.heap.size + 1) 24 #[.int .i64 0, .int .i64 0, .slice none 0 0] ∧ Below w.heap.size w wr) (fun _ vi _ => n - (intOf vi).toNat)
 case atStart => exact ⟨0, by omega, rfl, Bo.nil _ _ _ _, HV1.out, HR1.out, HB1.out⟩
 case round =>
  clear HB1 HV1 HR1
  obtain ⟨k, hk, rfl, hbo, hv2, hr2, hb2⟩ := hrel
  have HBo := qa0 hbo
  have HV2 := qa0 hv2
  have HR2 := qa0 hr2
  have HB2 := qa0 hb2
  have hws := hr2.lt
  by_cases hlk : k < n
  ·have p0 : (0 : Int) ≤ (k : Int) := by omega
   have p1 : (k : Int) < (n : Int) := by omega
   have hmk : k + 1 ≤ maxLen := by unfold maxLen; omega
   clear hbo hv2 hr2 hb2
   go_wp2_with (first
    | (at_make; refine wpList_make_full _ rfl _ _ 22 rfl wr.heap.size 5 i1 (.int .u8 0) 1 Try.underlying22 hi1 hy0 hy1 .i64 .i64 _ _ n rfl rfl rfl rfl (by rw [hy2]; omega) hml (Nat.le_refl _) ?_; intro w3 hown hgrow; have hr3 : RowAt w3 wr.heap.size 5 n (fun _ => 0) := qaq (z := .int .u8 0) rfl hown; have HR3 := qa0 hr3; have hb3 : Below wr.heap.size wr w3 := qa7.mp hgrow; have HB3 := qa0 hb3; have g0 := hr3.cell k hlk; have gf := qcd hr3 k; clear hown hgrow hr3 hb3)
    | (at_builtin; obtain ⟨vs4, hvs4, hel4⟩ := (HBo.out.later (HB3.out.trans (qas w3 wr.heap.size k (.int .u8 1)))); have HVs4 := qa0 hvs4; have HEl4 := qa0 hel4; clear hvs4 hel4; refine wpList_append_own _ rfl _ _ 41 rfl (w.heap.size + 2) 22 i0 (.slice none 0 0) 1 24 Try.underlying41 hi0 hz0 hz1 hz2 rfl (by decide) _ k vs4 rfl (World.ownsRow.alloc HVs4.out _) ⟨w3.heap.size, 0, none⟩ 1 1 [.slice (some ⟨wr.heap.size, 0, none⟩) n n] rfl rfl (by rw [← qb5 w3 wr.heap.size k (.int .u8 1)]; exact qak _ _ _) (by intro x hx; rw [List.mem_singleton.1 hx]; rfl) hmk (by omega) (by have := HB3.out.size; simp; omega) ?_; intro v4 w4 hown4 hgrow4 _; have HO4 := qa0 hown4; have HG4 := qa0 hgrow4; clear hown4 hgrow4))
   have hbs := HB3.out.trans (qas w3 wr.heap.size k (.int .u8 1))
   have hu : (w3.setCell ⟨wr.heap.size, k, none⟩ (.int .u8 1)).ownsRow wr.heap.size 5 1 (.slice (some ⟨wr.heap.size, 0, none⟩) n n) n (row n (unb k)).toList := qcy (qfd HR3.out) (Nat.le_refl _) hml
   obtain ⟨hbo4, hv4, hb4, _⟩ := qby (w := w) (D := w.heap.size + 2) (x := unb) (f := unb k) (by omega) HVs4.out HEl4.out hu (by omega) HO4.out HG4.out rfl (HV2.out.later hbs) (jtwo HB2.out hbs)
   have hr4 := ((HR2.out.later hbs).later (jlow _ _)).kept HG4.out (qae HVs4.out (by omega))
   exact ⟨⟨k + 1, by omega, by go_num, hbo4, hv4, hr4, hb4⟩, by simp [intOf]; omega⟩
  ·obtain rfl : k = n := by omega
   obtain ⟨va, vd, rfl, _⟩ := hbo.form
   obtain ⟨A, C, hBw⟩ := hbo.bw2 (fun i j _ _ => qc0 i j) (by omega)
   have HCr := qa0 (HRu.out wr hb2 va vd A C hBw)
   have f0 := HV2.out.cell 0 (.slice a ni p) rfl
   have f1 := HV2.out.cell 1 (.slice b nn q) rfl
   have f2 := HV2.out.cell 2 (.slice c no r) rfl
   have hws2 := hb2.size
   clear hbo hv2 hr2 hb2 hBw HRu
   go_wp2_with (go_at_call 16; refine HCr.out.mono ?_; rintro e w6 ⟨⟨v6, rfl, ho6⟩, hb6⟩; obtain ⟨oa, od, rfl, _⟩ := ho6.form; have hl6 := jlow w6 (.cells #[.int .i64 (no : Int), .int .i64 (k : Int), .slice none 0 0] 24); have HO6 := qa0 ho6; have HR6 := qa0 (HR2.out.later (jtwo hb6 hl6)); have HB6 := qa0 (jtwo HB2.out (jtwo hb6 hl6)); have HY6 := qa0 (Vf.new w6 24 #[.int .i64 (no : Int), .int .i64 (k : Int), .slice none 0 0]); have hs6 := hb6.size; have HOl := qa0 ho6.lt21; clear ho6 hb6 hl6)
   have esY : (w6.alloc (.cells #[.int .i64 (no : Int), .int .i64 (k : Int), .slice none 0 0] 24)).heap.size = w6.heap.size + 1 := by simp
   obtain ⟨Y, HYe⟩ : ∃ Y, Hid (w6.heap.size = Y) := ⟨_, rfl⟩
   rw [HYe.out] at HY6 HOl ⊢
   have hYV : w.heap.size + 1 < Y := by rw [← HYe.out]; omega
   have HOs : Hid (Below Y w6 (w6.alloc (.cells #[.int .i64 (no : Int), .int .i64 (k : Int), .slice none 0 0] 24))) := (jlow _ _).mono (by rw [HYe.out]; exact Nat.le_refl _)
   obtain ⟨W6, HW6⟩ : ∃ W6, Hid ((w6.alloc (.cells #[.int .i64 (no : Int), .int .i64 (k : Int), .slice none 0 0] 24)) = W6) := ⟨_, rfl⟩
   rw [HYe.out] at esY
   rw [HW6.out] at esY HR6 HB6 HY6 HOs ⊢
   have HVb : Hid (∀ o j, o < no → j < k → vlx F unb (F.out o).toNat j < 256) := HLt.out
   clear HBo HV2 HR2 HB2 HCr f0 f1 f2 HW6 HLt
   go_loopw [12] (fun vi wr => ∃ (i : Nat) (dv : Value), i ≤ no ∧ vi = .int .i64 (i : Int) ∧ wr.ownsRow (Y + 1) 5 1 dv (i * k) (row (i * k) (mtf F k)).toList ∧ Vf wr Y 24 #[.int .i64 (no : Int), .int .i64 (k : Int), dv] ∧ Vf wr (w.heap.size + 1) 24 #[.int .i64 0, .int .i64 0, .slice none 0 0] ∧ Below Y w6 wr ∧ Below w.heap.size w wr) (fun vi _ => no - (intOf vi).toNat)
   case atStart => exact ⟨0, _, by omega, rfl, by rw [Nat.zero_mul, qay]; exact World.ownsRow_nil _ _ _ _, HY6.out, HR6.out, HOs.out, HB6.out⟩
   case round =>
    clear HY6 HR6 HB6 HOs
    obtain ⟨i, dv, hi, rfl, hd, hY, hR, hbY, hb⟩ := hrel
    have hO := HO6.out.later (by rw [HYe.out]; exact hbY)
    have HDv0 := qa0 hd
    have HY7 := qa0 hY
    have HR7 := qa0 hR
    have HO7 := qa0 hbY
    have HB7 := qa0 hb
    by_cases hil : i < no
    ·obtain ⟨gv, u, rfl, hcv, hov⟩ := hO.cell i hil
     have hgvY := HOl.out gv rfl
     obtain ⟨s2, d2, rfl, hs2, _⟩ := qb6 hov (fun j hj => HVb.out i j hil hj)
     have hn2 : s2 = none → k = 0 ∧ d2 = 0 := fun e => by
      rcases hov.2 with ⟨e1, e2⟩ | ⟨g2, cap, cur, e1, _⟩
      ·simp at e1; exact ⟨e2, e1.2.2⟩
      ·simp only [Value.slice.injEq] at e1; rw [e1.1] at e; cases e
     have HNil := qa0 hn2
     obtain ⟨pp, HP⟩ : ∃ p, Hid (i * k = p) := ⟨_, rfl⟩
     rw [HP.out] at HDv0
     have hfit : pp + k ≤ Z := by rw [← HP.out, ← HZ.out]; exact Nat.le_trans (Nat.le_of_eq (show i * k + k = (i + 1) * k by rw [Nat.add_mul, Nat.one_mul])) (Nat.mul_le_mul_right k hil)
     have hlim : pp + k ≤ 140737488351232 := by omega
     have p0 : (0 : Int) ≤ (i : Int) := by omega
     have p1 : (i : Int) < (no : Int) := by omega
     obtain ⟨f, HFf⟩ : ∃ f : Nat → Nat, Hid (mtf F k = f) := ⟨_, rfl⟩
     obtain ⟨hh, HHh⟩ : ∃ hh : Nat → Nat, Hid (vlx F unb (F.out i).toNat = hh) := ⟨_, rfl⟩
     have HNext : Hid (∀ p, p < pp + k → (if p < pp then f p else hh (p - pp)) = f p) := fun p hp => by
      by_cases h1 : p < pp
      ·rw [if_pos h1]
      ·rw [if_neg h1, ← HFf.out, ← HHh.out, ← qfc F (show p - pp < k by omega), HP.out, show pp + (p - pp) = p by omega]
     have hdr : Below wr.heap.size wr wr.drew := (Below.refl _ _).drew
     have HYD := qa0 (HY7.out.later hdr)
     have HRD := qa0 (HR7.out.later hdr)
     have HOD := qa0 (HO7.out.trans (hdr.mono (Nat.le_of_lt hY.lt)))
     have HBD := qa0 (jtwo HB7.out hdr)
     have HDv : Hid (wr.drew.ownsRow (Y + 1) 5 1 dv pp (row pp f).toList) := by rw [← HFf.out]; exact qad HDv0.out hdr
     have HSl : Hid (Sl wr.drew s2 k hh) := by rw [← HHh.out]; exact hs2.later hdr
     have hYl : Y + 1 ≤ wr.drew.heap.size := HYD.out.lt
     have HD : Hid ((fun w' => w'.cell? ⟨Y, 2, none⟩ = some dv ∧ w'.cell? ⟨gv, i, none⟩ = some (.slice s2 k d2) ∧ w'.frozen? ⟨Y, 2, none⟩ = false) wr.drew) := ⟨hY.cell 2 dv rfl, hcv, hY.free 2⟩
     clear hd hY hR hO hbY hb hs2 hn2 hov hdr HDv0 HY7 HR7 HO7 HB7
     go_wp2
     refine qan (k := 8) (n := 8) (fun w' => w'.cell? ⟨Y, 2, none⟩ = some dv ∧ w'.cell? ⟨gv, i, none⟩ = some (.slice s2 k d2) ∧ w'.frozen? ⟨Y, 2, none⟩ = false) (by kernel_rfl) (by kernel_rfl) (by decide) (by rfl) ?_
     refine wtkq 0 ?v0 rfl (by kernel_rfl) (fun _ _ _ h => h) (by rfl) ?y0 HD.out ?z0
     case y0 => (intro w hSw; (try dsimp only at hSw); go_simp; try with_reducible rfl)
     try simp only [mz1, mz3, Act.put, mz4, mz5, mz6]
     refine wtkq 1 ?v1 rfl (by kernel_rfl) (fun _ _ _ h => h) (by rfl) ?y1 HD.out ?z1
     case y1 => (intro w hSw; (try dsimp only at hSw); go_simp; try with_reducible rfl)
     try simp only [mz1, mz2, mz3, Act.put, mz4, mz5, mz6]
     refine wtkq 2 ?v2 rfl (by kernel_rfl) (fun _ _ _ h => h) (by rfl) ?y2 HD.out ?z2
     case y2 => (intro w hSw; (try dsimp only at hSw); go_simp; try with_reducible rfl)
     try simp only [mz1, mz2, mz3, Act.put, mz4, mz5, mz6]
     refine wtkq 3 ?v3 rfl (by kernel_rfl) (fun _ _ _ h => h) (by rfl) ?y3 HD.out ?z3
     case y3 => (intro w hSw; (try dsimp only at hSw); go_simp; try with_reducible rfl)
     try simp only [mz1, mz2, mz3, Act.put, mz4, mz5, mz6]
     refine wtkq 4 ?v4 rfl (by kernel_rfl) (fun _ _ _ h => h) (by rfl) ?y4 HD.out ?z4
     case y4 => (intro w hSw; (try dsimp only at hSw); go_simp; try with_reducible rfl)
     try simp only [mz1, mz2, mz3, Act.put, mz4, mz5, mz6]
     refine wtkq 5 ?v5 rfl (by kernel_rfl) (fun _ _ _ h => h) (by rfl) ?y5 HD.out ?z5
     case y5 => (intro w hSw; (try dsimp only at hSw); go_simp; try with_reducible rfl)
     try simp only [mz1, mz2, mz3, Act.put, mz4, mz5, mz6]
     refine wpAnyH_ready (rs := [6]) (by kernel_rfl) (by simp) ?_
     refine AllReadyH.cons rfl (fun KK hKK => ?_) AllReadyH.nil
     refine qav rfl _ _ rfl (Y + 1) pp k d2 dv f hh s2 rfl HDv.out rfl HSl.out HNil.out hlim hYl ?_
     intro v8 w8 hown8 hgrow8
     obtain ⟨g8, d8, rfl⟩ := qa8 hown8
     have HO8 := qa0 hown8
     have HG8 := qa0 hgrow8
     have HY8 := qa0 (HYD.out.kept hgrow8 (qae HDv.out (by omega)))
     have HC8 := qa0 (hgrow8.cell HD.out.2.1 (fun e => by have := qa6 HDv.out gv e.symm; omega))
     clear hown8 hgrow8
     refine hKK.out _ _ ⟨HY8.out.cell 2 dv rfl, HC8.out, HY8.out.free 2⟩ (fun _ => ?_)
     clear hKK KK
     try simp only [mz1, mz2, mz3, Act.put, mz4, mz5, mz6]
     refine wtkq 7 ?v7 rfl (by kernel_rfl) (fun _ _ _ h => h) (by rfl) ?y7 ⟨HY8.out.cell 2 dv rfl, HC8.out, HY8.out.free 2⟩ ?z7
     case y7 => (intro w hSw; (try dsimp only at hSw); go_simp; try with_reducible rfl)
     try simp only [mz1, mz2, mz3, Act.put, mz4, mz5, mz6]
     refine wpAnyH_done (by kernel_rfl) ?_ _
     have q1 := HY8.out.cell 2 dv rfl
     have q2 := HY8.out.free 2
     refine qbx rfl (fun KK hKK => ?_)
     go_simp
     refine hKK.out _ _ ?_
     clear hKK KK
     try simp only [mz1, mz2, mz3, Act.put, mz4, mz5, mz6]
     have HRow9 : Hid ((w8.setCell ⟨Y, 2, none⟩ (.slice g8 (pp + k) d8)).ownsRow (Y + 1) 5 1 (.slice g8 (pp + k) d8) ((i + 1) * k) (row ((i + 1) * k) (mtf F k)).toList) := by
      have e3 : (i + 1) * k = pp + k := by rw [Nat.add_mul, Nat.one_mul, HP.out]
      rw [e3, HFf.out, ← qax (pp + k) _ f HNext.out]
      exact World.ownsRow.kept HO8.out (qa1 _ _ _ _) (qaa HO8.out (by omega))
     have HY9 : Hid (Vf (w8.setCell ⟨Y, 2, none⟩ (.slice g8 (pp + k) d8)) Y 24 #[.int .i64 (no : Int), .int .i64 (k : Int), .slice g8 (pp + k) d8]) := HY8.out.put 2 _
     have HR9 := qa0 ((HRD.out.kept HG8.out (qae HDv.out (by omega))).kept (qa1 w8 Y 2 (.slice g8 (pp + k) d8)) (fun e => by have := Option.some.inj e; omega))
     have hO8 := (HOD.out.grown HG8.out (by have := HOD.out.size; have := HYe.out; omega) (fun k e => by have := qa6 HDv.out k e; omega)).setCell (p := ⟨Y, 2, none⟩) (Nat.le_refl _) (.slice g8 (pp + k) d8)
     have hB8 := (HBD.out.grown HG8.out HBD.out.size (fun k e => by have := qa6 HDv.out k e; omega)).setCell (p := ⟨Y, 2, none⟩) (by show w.heap.size ≤ Y; omega) (.slice g8 (pp + k) d8)
     have HO9 := qa0 hO8
     have HB9 := qa0 hB8
     clear hO8 hB8
     go_wp2
     exact ⟨⟨i + 1, _, by omega, by go_num, HRow9.out, HY9.out, HR9.out, HO9.out, HB9.out⟩, by simp [intOf]; omega⟩
    ·obtain rfl : i = no := by omega
     rw [HZ.out] at HDv0
     obtain ⟨sD, dD, rfl⟩ := qa8 HDv0.out
     have y0 := hY.cell 0 (.int .i64 (i : Int)) rfl
     have y1 := hY.cell 1 (.int .i64 (k : Int)) rfl
     have y2 := hY.cell 2 (.slice sD Z dD) rfl
     clear hd hY hR hO hb
     go_wp2_with (refine qa4 rfl 24 _ _ rfl (w.heap.size + 1) #[.int .i64 0, .int .i64 0, .slice none 0 0] #[.int .i64 (i : Int), .int .i64 (k : Int), .slice sD Z dD] rfl rfl HR7.out qb4 rfl (qee _ _ _ _ _) ?_; intro w9 HV9 HG9)
     have d0 := HV9.out.cell 0 (.int .i64 (i : Int)) rfl
     have d1 := HV9.out.cell 1 (.int .i64 (k : Int)) rfl
     have d2 := HV9.out.cell 2 (.slice sD Z dD) rfl
     refine bodyPost_ret (v := .tuple #[mv i k sD Z dD, .int .i64 0]) (by simp [results, Try.results12, go_sem, d0, d1, d2, mv]) rfl ?_
     have hD9 := qah (World.ownsRow.kept HDv0.out HG9.out (qaa HDv0.out (by omega))) (show w.heap.size ≤ Y + 1 by omega)
     exact ⟨⟨sD, dD, rfl, hD9⟩, HB7.out.grown HG9.out HB7.out.size (fun k e => by have := Option.some.inj e; omega)⟩
theorem rmat_ok1 (w : World) (a b c : Option Addr) (p q r n Z : Nat) (F : Fl) (h : FlR w a b c F) (hM : MayP F) (hI : ∀ i, i < F.ni → F.inp i < (n : Int)) (hn : n ≤ 64) (hZ : F.no * n = Z) (h0 : 0 < F.ni) :
  Calls Try.prog 12 #[flv a F.ni p b F.nn q c F.no r, .int .i64 (n : Int)] w fun e w' => (∃ s d, e = .returned (.tuple #[mv F.no n s Z d, .int .i64 0]) ∧ w'.ownsRow w.heap.size 5 1 (.slice s Z d) Z (row Z (mtf F n)).toList) ∧ Below w.heap.size w w' := by
 obtain ⟨wb, HW⟩ : ∃ wb, Hid ((w.alloc (.cells #[.slice a F.ni p, .slice b F.nn q, .slice c F.no r] 28)).alloc (.cells #[.int .i64 0, .int .i64 0, .slice none 0 0] 24) = wb) := ⟨_, rfl⟩
 have HB0 : Hid (Below w.heap.size w wb) := by rw [← HW.out]; exact jtwo (jlow _ _) (jlow _ _)
 have HV0 : Hid (Vf wb w.heap.size 28 #[.slice a F.ni p, .slice b F.nn q, .slice c F.no r]) := by rw [← HW.out]; exact (Vf.new w _ _).later (jlow _ _)
 have HR0 : Hid (Vf wb (w.heap.size + 1) 24 #[.int .i64 0, .int .i64 0, .slice none 0 0]) := by rw [← HW.out]; exact Vf.new1 _ _ _ _
 obtain ⟨i0, hi0, hz0, hz1, hz2⟩ := info_parts jsl8
 obtain ⟨i1, hi1, hy0, hy1, hy2⟩ := info_parts qbu
 have HMy := qa0 (fun w2 (hb : Below w.heap.size w w2) => qa9 (qam w2 a b c p q r F (h.later hb)) hM)
 have hi7 := h.hi
 have HIn := qa0 h.inp
 have HRu := qa0 (fun w2 (hb : Below w.heap.size w w2) bl kb A C (hB : Bw w2 bl n A (fun _ => n) C unb) => (qcc w2 a b c bl p q r n kb F A (fun _ => n) C unb (h.later hb) hM hB (by omega)).mono fun e w' hh => by
  obtain ⟨⟨_, hv⟩ | ⟨hno, _⟩, hb'⟩ := hh
  ·rw [show len1 n (fun _ => n) = n by (unfold len1; dsimp only; split <;> omega)] at hv
   exact (⟨hv, hb'⟩ : (∃ v, e = .returned (.tuple #[v, .int .i64 0]) ∧ Bo w' w2.heap.size v F.no n (fun o => vlx F unb (F.out o).toNat)) ∧ Below w2.heap.size w2 w')
  ·exact absurd ⟨hI, fun _ _ => rfl⟩ hno)
 have hno := hM.o64
 have HLt : Hid (∀ o j, o < F.no → j < n → vlx F unb (F.out o).toNat j < 256) := fun o j ho _ => qcv hM (fun v j h1 h2 h3 => h.fc8 h1 h2 h3) (fun u _ => qc0 _ _) (by have := hM.outs o ho; omega)
 have hml : n ≤ maxLen := by unfold maxLen; omega
 obtain ⟨ni, HNi⟩ : ∃ x, Hid (F.ni = x) := ⟨_, rfl⟩
 obtain ⟨nn, HNn⟩ : ∃ x, Hid (F.nn = x) := ⟨_, rfl⟩
 obtain ⟨no, HNo⟩ : ∃ x, Hid (F.no = x) := ⟨_, rfl⟩
 rw [HNi.out, HNn.out, HNo.out] at HMy HRu HV0
 rw [HNi.out, HNn.out, HNo.out] at HW
 rw [HNi.out, HNn.out, HNo.out]
 have hni : 0 < ni := by rw [← HNi.out]; exact h0
 rw [HNi.out] at HIn hi7
 obtain ⟨lb, lo, rfl, hlc⟩ := HIn.out (ni - 1) (by omega)
 obtain ⟨lk, HLK⟩ : ∃ k, Hid (ni - 1 = k) := ⟨_, rfl⟩
 obtain ⟨lz, HLZ⟩ : ∃ z, Hid (F.inp lk = z) := ⟨_, rfl⟩
 rw [HLK.out, HLZ.out] at hlc
 have HLc := qa0 hlc
 have g1 : ¬ (ni : Int) = 0 := by omega
 have g2 : decide ((0 : Int) < (ni : Int)) = true := decide_eq_true (by omega)
 have g3 : decide (0 < ni) = true := decide_eq_true hni
 have wl : IntKind.i64.wrap ((ni : Int) - 1) = (lk : Int) := by have := HLK.out; rw [IntKind.wrap_i64]; omega
 have l0 : (0 : Int) ≤ (lk : Int) := by omega
 have l1 : (lk : Int) < (ni : Int) := by have := HLK.out; omega
 have hlz : lz < (n : Int) := by rw [← HLZ.out, ← HLK.out, ← HNi.out]; exact hI (F.ni - 1) (by omega)
 have g9 : decide ((n : Int) ≤ lz) = false := decide_eq_false (by omega)
 have g10 : ¬ (n : Int) ≤ lz := by omega
 clear hlc
 rw [HNo.out] at HLt hno hZ
 have HZ := qa0 hZ
 have hZ4 : Z ≤ 4096 := by rw [← hZ]; exact Nat.mul_le_mul hno hn
 have g5 : decide ((n : Int) < 0) = false := decide_eq_false (by omega)
 have g6 : decide ((64 : Int) < (n : Int)) = false := decide_eq_false (by omega)
 have g7 : ¬ (n : Int) < 0 := by omega
 have g8 : ¬ (64 : Int) < (n : Int) := by omega
 clear h hM hI hZ h0
 go_enter Try.func12, Try.ntmps12
 have f0 := HV0.out.cell 0 (.slice (some ⟨lb, lo, none⟩) ni p) rfl
 have f1 := HV0.out.cell 1 (.slice b nn q) rfl
 have f2 := HV0.out.cell 2 (.slice c no r) rfl
 rw [← HW.out] at f0 f1 f2
 have hVl : w.heap.size + 1 < wb.heap.size := HR0.out.lt
 go_wp2_with (first
  | (go_at_call 21; rw [HW.out]; refine (HMy.out _ HB0.out).mono ?_; rintro e w1 ⟨rfl, hb1⟩; have HB1 := qa0 (jtwo HB0.out hb1); have HV1 := qa0 (HV0.out.later hb1); have HR1 := qa0 (HR0.out.later hb1); have f0 := HV1.out.cell 0 (.slice (some ⟨lb, lo, none⟩) ni p) rfl; have f1 := HV1.out.cell 1 (.slice b nn q) rfl; have f2 := HV1.out.cell 2 (.slice c no r) rfl; have lc := keepc HB1.out HLc.out; have hs1 := hb1.size; clear hb1))
 clear HB0 HV0 HR0 f0 f1 f2
 have hVl1 : w.heap.size + 1 < w1.heap.size := by omega
 go_loopw [6, 7] (fun vv vi wr => ∃ k : Nat, k ≤ n ∧ vi = .int .i64 (k : Int) ∧ Bo wr (w.heap.size + 2) vv k n unb ∧ Vf wr w.heap.size 28 #[.slice (some ⟨lb, lo, none⟩) ni p, .slice b nn q, .slice c no r] ∧ Vf wr (w.heap.size + 1) 24 #[.int .i64 0, .int .i64 0, .slice none 0 0] ∧ Below w.heap.size w wr) (fun _ vi _ => n - (intOf vi).toNat)
 case atStart => exact ⟨0, by omega, rfl, Bo.nil _ _ _ _, HV1.out, HR1.out, HB1.out⟩
 case round =>
  clear HB1 HV1 HR1
  obtain ⟨k, hk, rfl, hbo, hv2, hr2, hb2⟩ := hrel
  have HBo := qa0 hbo
  have HV2 := qa0 hv2
  have HR2 := qa0 hr2
  have HB2 := qa0 hb2
  have hws := hr2.lt
  by_cases hlk : k < n
  ·have p0 : (0 : Int) ≤ (k : Int) := by omega
   have p1 : (k : Int) < (n : Int) := by omega
   have hmk : k + 1 ≤ maxLen := by unfold maxLen; omega
   clear hbo hv2 hr2 hb2
   go_wp2_with (first
    | (at_make; refine wpList_make_full _ rfl _ _ 22 rfl wr.heap.size 5 i1 (.int .u8 0) 1 Try.underlying22 hi1 hy0 hy1 .i64 .i64 _ _ n rfl rfl rfl rfl (by rw [hy2]; omega) hml (Nat.le_refl _) ?_; intro w3 hown hgrow; have hr3 : RowAt w3 wr.heap.size 5 n (fun _ => 0) := qaq (z := .int .u8 0) rfl hown; have HR3 := qa0 hr3; have hb3 : Below wr.heap.size wr w3 := qa7.mp hgrow; have HB3 := qa0 hb3; have g0 := hr3.cell k hlk; have gf := qcd hr3 k; clear hown hgrow hr3 hb3)
    | (at_builtin; obtain ⟨vs4, hvs4, hel4⟩ := (HBo.out.later (HB3.out.trans (qas w3 wr.heap.size k (.int .u8 1)))); have HVs4 := qa0 hvs4; have HEl4 := qa0 hel4; clear hvs4 hel4; refine wpList_append_own _ rfl _ _ 41 rfl (w.heap.size + 2) 22 i0 (.slice none 0 0) 1 24 Try.underlying41 hi0 hz0 hz1 hz2 rfl (by decide) _ k vs4 rfl (World.ownsRow.alloc HVs4.out _) ⟨w3.heap.size, 0, none⟩ 1 1 [.slice (some ⟨wr.heap.size, 0, none⟩) n n] rfl rfl (by rw [← qb5 w3 wr.heap.size k (.int .u8 1)]; exact qak _ _ _) (by intro x hx; rw [List.mem_singleton.1 hx]; rfl) hmk (by omega) (by have := HB3.out.size; simp; omega) ?_; intro v4 w4 hown4 hgrow4 _; have HO4 := qa0 hown4; have HG4 := qa0 hgrow4; clear hown4 hgrow4))
   have hbs := HB3.out.trans (qas w3 wr.heap.size k (.int .u8 1))
   have hu : (w3.setCell ⟨wr.heap.size, k, none⟩ (.int .u8 1)).ownsRow wr.heap.size 5 1 (.slice (some ⟨wr.heap.size, 0, none⟩) n n) n (row n (unb k)).toList := qcy (qfd HR3.out) (Nat.le_refl _) hml
   obtain ⟨hbo4, hv4, hb4, _⟩ := qby (w := w) (D := w.heap.size + 2) (x := unb) (f := unb k) (by omega) HVs4.out HEl4.out hu (by omega) HO4.out HG4.out rfl (HV2.out.later hbs) (jtwo HB2.out hbs)
   have hr4 := ((HR2.out.later hbs).later (jlow _ _)).kept HG4.out (qae HVs4.out (by omega))
   exact ⟨⟨k + 1, by omega, by go_num, hbo4, hv4, hr4, hb4⟩, by simp [intOf]; omega⟩
  ·obtain rfl : k = n := by omega
   obtain ⟨va, vd, rfl, _⟩ := hbo.form
   obtain ⟨A, C, hBw⟩ := hbo.bw2 (fun i j _ _ => qc0 i j) (by omega)
   have HCr := qa0 (HRu.out wr hb2 va vd A C hBw)
   have f0 := HV2.out.cell 0 (.slice (some ⟨lb, lo, none⟩) ni p) rfl
   have f1 := HV2.out.cell 1 (.slice b nn q) rfl
   have f2 := HV2.out.cell 2 (.slice c no r) rfl
   have hws2 := hb2.size
   clear hbo hv2 hr2 hb2 hBw HRu
   go_wp2_with (go_at_call 16; refine HCr.out.mono ?_; rintro e w6 ⟨⟨v6, rfl, ho6⟩, hb6⟩; obtain ⟨oa, od, rfl, _⟩ := ho6.form; have hl6 := jlow w6 (.cells #[.int .i64 (no : Int), .int .i64 (k : Int), .slice none 0 0] 24); have HO6 := qa0 ho6; have HR6 := qa0 (HR2.out.later (jtwo hb6 hl6)); have HB6 := qa0 (jtwo HB2.out (jtwo hb6 hl6)); have HY6 := qa0 (Vf.new w6 24 #[.int .i64 (no : Int), .int .i64 (k : Int), .slice none 0 0]); have hs6 := hb6.size; have HOl := qa0 ho6.lt21; clear ho6 hb6 hl6)
   have esY : (w6.alloc (.cells #[.int .i64 (no : Int), .int .i64 (k : Int), .slice none 0 0] 24)).heap.size = w6.heap.size + 1 := by simp
   obtain ⟨Y, HYe⟩ : ∃ Y, Hid (w6.heap.size = Y) := ⟨_, rfl⟩
   rw [HYe.out] at HY6 HOl ⊢
   have hYV : w.heap.size + 1 < Y := by rw [← HYe.out]; omega
   have HOs : Hid (Below Y w6 (w6.alloc (.cells #[.int .i64 (no : Int), .int .i64 (k : Int), .slice none 0 0] 24))) := (jlow _ _).mono (by rw [HYe.out]; exact Nat.le_refl _)
   obtain ⟨W6, HW6⟩ : ∃ W6, Hid ((w6.alloc (.cells #[.int .i64 (no : Int), .int .i64 (k : Int), .slice none 0 0] 24)) = W6) := ⟨_, rfl⟩
   rw [HYe.out] at esY
   rw [HW6.out] at esY HR6 HB6 HY6 HOs ⊢
   have HVb : Hid (∀ o j, o < no → j < k → vlx F unb (F.out o).toNat j < 256) := HLt.out
   clear HBo HV2 HR2 HB2 HCr f0 f1 f2 HW6 HLt
   go_loopw [12] (fun vi wr => ∃ (i : Nat) (dv : Value), i ≤ no ∧ vi = .int .i64 (i : Int) ∧ wr.ownsRow (Y + 1) 5 1 dv (i * k) (row (i * k) (mtf F k)).toList ∧ Vf wr Y 24 #[.int .i64 (no : Int), .int .i64 (k : Int), dv] ∧ Vf wr (w.heap.size + 1) 24 #[.int .i64 0, .int .i64 0, .slice none 0 0] ∧ Below Y w6 wr ∧ Below w.heap.size w wr) (fun vi _ => no - (intOf vi).toNat)
   case atStart => exact ⟨0, _, by omega, rfl, by rw [Nat.zero_mul, qay]; exact World.ownsRow_nil _ _ _ _, HY6.out, HR6.out, HOs.out, HB6.out⟩
   case round =>
    clear HY6 HR6 HB6 HOs
    obtain ⟨i, dv, hi, rfl, hd, hY, hR, hbY, hb⟩ := hrel
    have hO := HO6.out.later (by rw [HYe.out]; exact hbY)
    have HDv0 := qa0 hd
    have HY7 := qa0 hY
    have HR7 := qa0 hR
    have HO7 := qa0 hbY
    have HB7 := qa0 hb
    by_cases hil : i < no
    ·obtain ⟨gv, u, rfl, hcv, hov⟩ := hO.cell i hil
     have hgvY := HOl.out gv rfl
     obtain ⟨s2, d2, rfl, hs2, _⟩ := qb6 hov (fun j hj => HVb.out i j hil hj)
     have hn2 : s2 = none → k = 0 ∧ d2 = 0 := fun e => by
      rcases hov.2 with ⟨e1, e2⟩ | ⟨g2, cap, cur, e1, _⟩
      ·simp at e1; exact ⟨e2, e1.2.2⟩
      ·simp only [Value.slice.injEq] at e1; rw [e1.1] at e; cases e
     have HNil := qa0 hn2
     obtain ⟨pp, HP⟩ : ∃ p, Hid (i * k = p) := ⟨_, rfl⟩
     rw [HP.out] at HDv0
     have hfit : pp + k ≤ Z := by rw [← HP.out, ← HZ.out]; exact Nat.le_trans (Nat.le_of_eq (show i * k + k = (i + 1) * k by rw [Nat.add_mul, Nat.one_mul])) (Nat.mul_le_mul_right k hil)
     have hlim : pp + k ≤ 140737488351232 := by omega
     have p0 : (0 : Int) ≤ (i : Int) := by omega
     have p1 : (i : Int) < (no : Int) := by omega
     obtain ⟨f, HFf⟩ : ∃ f : Nat → Nat, Hid (mtf F k = f) := ⟨_, rfl⟩
     obtain ⟨hh, HHh⟩ : ∃ hh : Nat → Nat, Hid (vlx F unb (F.out i).toNat = hh) := ⟨_, rfl⟩
     have HNext : Hid (∀ p, p < pp + k → (if p < pp then f p else hh (p - pp)) = f p) := fun p hp => by
      by_cases h1 : p < pp
      ·rw [if_pos h1]
      ·rw [if_neg h1, ← HFf.out, ← HHh.out, ← qfc F (show p - pp < k by omega), HP.out, show pp + (p - pp) = p by omega]
     have hdr : Below wr.heap.size wr wr.drew := (Below.refl _ _).drew
     have HYD := qa0 (HY7.out.later hdr)
     have HRD := qa0 (HR7.out.later hdr)
     have HOD := qa0 (HO7.out.trans (hdr.mono (Nat.le_of_lt hY.lt)))
     have HBD := qa0 (jtwo HB7.out hdr)
     have HDv : Hid (wr.drew.ownsRow (Y + 1) 5 1 dv pp (row pp f).toList) := by rw [← HFf.out]; exact qad HDv0.out hdr
     have HSl : Hid (Sl wr.drew s2 k hh) := by rw [← HHh.out]; exact hs2.later hdr
     have hYl : Y + 1 ≤ wr.drew.heap.size := HYD.out.lt
     have HD : Hid ((fun w' => w'.cell? ⟨Y, 2, none⟩ = some dv ∧ w'.cell? ⟨gv, i, none⟩ = some (.slice s2 k d2) ∧ w'.frozen? ⟨Y, 2, none⟩ = false) wr.drew) := ⟨hY.cell 2 dv rfl, hcv, hY.free 2⟩
     clear hd hY hR hO hbY hb hs2 hn2 hov hdr HDv0 HY7 HR7 HO7 HB7
     go_wp2
     refine qan (k := 8) (n := 8) (fun w' => w'.cell? ⟨Y, 2, none⟩ = some dv ∧ w'.cell? ⟨gv, i, none⟩ = some (.slice s2 k d2) ∧ w'.frozen? ⟨Y, 2, none⟩ = false) (by kernel_rfl) (by kernel_rfl) (by decide) (by rfl) ?_
     refine wtkq 0 ?v0 rfl (by kernel_rfl) (fun _ _ _ h => h) (by rfl) ?y0 HD.out ?z0
     case y0 => (intro w hSw; (try dsimp only at hSw); go_simp; try with_reducible rfl)
     try simp only [mz1, mz3, Act.put, mz4, mz5, mz6]
     refine wtkq 1 ?v1 rfl (by kernel_rfl) (fun _ _ _ h => h) (by rfl) ?y1 HD.out ?z1
     case y1 => (intro w hSw; (try dsimp only at hSw); go_simp; try with_reducible rfl)
     try simp only [mz1, mz2, mz3, Act.put, mz4, mz5, mz6]
     refine wtkq 2 ?v2 rfl (by kernel_rfl) (fun _ _ _ h => h) (by rfl) ?y2 HD.out ?z2
     case y2 => (intro w hSw; (try dsimp only at hSw); go_simp; try with_reducible rfl)
     try simp only [mz1, mz2, mz3, Act.put, mz4, mz5, mz6]
     refine wtkq 3 ?v3 rfl (by kernel_rfl) (fun _ _ _ h => h) (by rfl) ?y3 HD.out ?z3
     case y3 => (intro w hSw; (try dsimp only at hSw); go_simp; try with_reducible rfl)
     try simp only [mz1, mz2, mz3, Act.put, mz4, mz5, mz6]
     refine wtkq 4 ?v4 rfl (by kernel_rfl) (fun _ _ _ h => h) (by rfl) ?y4 HD.out ?z4
     case y4 => (intro w hSw; (try dsimp only at hSw); go_simp; try with_reducible rfl)
     try simp only [mz1, mz2, mz3, Act.put, mz4, mz5, mz6]
     refine wtkq 5 ?v5 rfl (by kernel_rfl) (fun _ _ _ h => h) (by rfl) ?y5 HD.out ?z5
     case y5 => (intro w hSw; (try dsimp only at hSw); go_simp; try with_reducible rfl)
     try simp only [mz1, mz2, mz3, Act.put, mz4, mz5, mz6]
     refine wpAnyH_ready (rs := [6]) (by kernel_rfl) (by simp) ?_
     refine AllReadyH.cons rfl (fun KK hKK => ?_) AllReadyH.nil
     refine qav rfl _ _ rfl (Y + 1) pp k d2 dv f hh s2 rfl HDv.out rfl HSl.out HNil.out hlim hYl ?_
     intro v8 w8 hown8 hgrow8
     obtain ⟨g8, d8, rfl⟩ := qa8 hown8
     have HO8 := qa0 hown8
     have HG8 := qa0 hgrow8
     have HY8 := qa0 (HYD.out.kept hgrow8 (qae HDv.out (by omega)))
     have HC8 := qa0 (hgrow8.cell HD.out.2.1 (fun e => by have := qa6 HDv.out gv e.symm; omega))
     clear hown8 hgrow8
     refine hKK.out _ _ ⟨HY8.out.cell 2 dv rfl, HC8.out, HY8.out.free 2⟩ (fun _ => ?_)
     clear hKK KK
     try simp only [mz1, mz2, mz3, Act.put, mz4, mz5, mz6]
     refine wtkq 7 ?v7 rfl (by kernel_rfl) (fun _ _ _ h => h) (by rfl) ?y7 ⟨HY8.out.cell 2 dv rfl, HC8.out, HY8.out.free 2⟩ ?z7
     case y7 => (intro w hSw; (try dsimp only at hSw); go_simp; try with_reducible rfl)
     try simp only [mz1, mz2, mz3, Act.put, mz4, mz5, mz6]
     refine wpAnyH_done (by kernel_rfl) ?_ _
     have q1 := HY8.out.cell 2 dv rfl
     have q2 := HY8.out.free 2
     refine qbx rfl (fun KK hKK => ?_)
     go_simp
     refine hKK.out _ _ ?_
     clear hKK KK
     try simp only [mz1, mz2, mz3, Act.put, mz4, mz5, mz6]
     have HRow9 : Hid ((w8.setCell ⟨Y, 2, none⟩ (.slice g8 (pp + k) d8)).ownsRow (Y + 1) 5 1 (.slice g8 (pp + k) d8) ((i + 1) * k) (row ((i + 1) * k) (mtf F k)).toList) := by
      have e3 : (i + 1) * k = pp + k := by rw [Nat.add_mul, Nat.one_mul, HP.out]
      rw [e3, HFf.out, ← qax (pp + k) _ f HNext.out]
      exact World.ownsRow.kept HO8.out (qa1 _ _ _ _) (qaa HO8.out (by omega))
     have HY9 : Hid (Vf (w8.setCell ⟨Y, 2, none⟩ (.slice g8 (pp + k) d8)) Y 24 #[.int .i64 (no : Int), .int .i64 (k : Int), .slice g8 (pp + k) d8]) := HY8.out.put 2 _
     have HR9 := qa0 ((HRD.out.kept HG8.out (qae HDv.out (by omega))).kept (qa1 w8 Y 2 (.slice g8 (pp + k) d8)) (fun e => by have := Option.some.inj e; omega))
     have hO8 := (HOD.out.grown HG8.out (by have := HOD.out.size; have := HYe.out; omega) (fun k e => by have := qa6 HDv.out k e; omega)).setCell (p := ⟨Y, 2, none⟩) (Nat.le_refl _) (.slice g8 (pp + k) d8)
     have hB8 := (HBD.out.grown HG8.out HBD.out.size (fun k e => by have := qa6 HDv.out k e; omega)).setCell (p := ⟨Y, 2, none⟩) (by show w.heap.size ≤ Y; omega) (.slice g8 (pp + k) d8)
     have HO9 := qa0 hO8
     have HB9 := qa0 hB8
     clear hO8 hB8
     go_wp2
     exact ⟨⟨i + 1, _, by omega, by go_num, HRow9.out, HY9.out, HR9.out, HO9.out, HB9.out⟩, by simp [intOf]; omega⟩
    ·obtain rfl : i = no := by omega
     rw [HZ.out] at HDv0
     obtain ⟨sD, dD, rfl⟩ := qa8 HDv0.out
     have y0 := hY.cell 0 (.int .i64 (i : Int)) rfl
     have y1 := hY.cell 1 (.int .i64 (k : Int)) rfl
     have y2 := hY.cell 2 (.slice sD Z dD) rfl
     clear hd hY hR hO hb
     go_wp2_with (refine qa4 rfl 24 _ _ rfl (w.heap.size + 1) #[.int .i64 0, .int .i64 0, .slice none 0 0] #[.int .i64 (i : Int), .int .i64 (k : Int), .slice sD Z dD] rfl rfl HR7.out qb4 rfl (qee _ _ _ _ _) ?_; intro w9 HV9 HG9)
     have d0 := HV9.out.cell 0 (.int .i64 (i : Int)) rfl
     have d1 := HV9.out.cell 1 (.int .i64 (k : Int)) rfl
     have d2 := HV9.out.cell 2 (.slice sD Z dD) rfl
     refine bodyPost_ret (v := .tuple #[mv i k sD Z dD, .int .i64 0]) (by simp [results, Try.results12, go_sem, d0, d1, d2, mv]) rfl ?_
     have hD9 := qah (World.ownsRow.kept HDv0.out HG9.out (qaa HDv0.out (by omega))) (show w.heap.size ≤ Y + 1 by omega)
     exact ⟨⟨sD, dD, rfl, hD9⟩, HB7.out.grown HG9.out HB7.out.size (fun k e => by have := Option.some.inj e; omega)⟩
theorem rmat_ok (w : World) (a b c : Option Addr) (p q r n Z : Nat) (F : Fl) (h : FlR w a b c F) (hM : MayP F) (hI : ∀ i, i < F.ni → F.inp i < (n : Int)) (hn : n ≤ 64) (hZ : F.no * n = Z) :
  Calls Try.prog 12 #[flv a F.ni p b F.nn q c F.no r, .int .i64 (n : Int)] w fun e w' => (∃ s d, e = .returned (.tuple #[mv F.no n s Z d, .int .i64 0]) ∧ w'.ownsRow w.heap.size 5 1 (.slice s Z d) Z (row Z (mtf F n)).toList) ∧ Below w.heap.size w w' := by
 by_cases h0 : F.ni = 0
 ·exact rmat_ok0 w a b c p q r n Z F h hM hI hn hZ h0
 ·exact rmat_ok1 w a b c p q r n Z F h hM hI hn hZ (by omega)
end Go.Proofs.Ytkfnedpnkeacpaa
