/-
  Stage 21: flow.Matrix.
-/
import Derived.Test.YtkfnedpnkeacpaaQmmde00
import Derived.Test.YtkfnedpnkeacpaaQmmde42
set_option maxRecDepth 100000
set_option maxHeartbeats 16000000
namespace Go.Proofs.Ytkfnedpnkeacpaa
open Go.RowKit
theorem qee (x y : Int) (s : Option Addr) (n d : Nat) : (#[Value.int .i64 x, .int .i64 y, .slice s n d]).all (·.oneCell') = true := by simp [Value.oneCell']
/-- What lies beside is kept. -/
theorem Ou.beside {w w' : World} {base g n k T b : Nat} {B : Nat → Nat} {x : Nat → Nat → Nat} (h : Ou w base g n k T B x) (hg : w.grownBy w' (some b)) (hb : b < base) (hne : b ≠ g) : Ou w' base g n k T B x :=
 ⟨h.ga.kept hg (fun e => hne (Option.some.inj e)), fun o ho => (h.row o ho).kept hg (by have := (h.ne o ho).1; omega), h.ne, h.inj⟩
theorem fmat_ok (w : World) (a b c : Option Addr) (p q r n Z : Nat) (F : Fl) (h : FlR w a b c F) (hM : MayP F) (hI : ∀ i, i < F.ni → F.inp i < (n : Int)) (hn : n ≤ 64) (hZ : F.no * n = Z) :
  Calls Try.prog 11 #[flv a F.ni p b F.nn q c F.no r, .int .i64 (n : Int)] w fun e w' => (∃ g, e = .returned (.tuple #[mv F.no n (some ⟨g, 0, none⟩) Z Z, .int .i64 0]) ∧ RowAt w' g 5 Z (mtf F n) ∧ w.heap.size ≤ g) ∧ Below w.heap.size w w' := by
 obtain ⟨i0, hi0, hz0, hz1, hz2⟩ := info_parts jsl8
 obtain ⟨wb, HW⟩ : ∃ wb, Hid ((w.alloc (.cells #[.slice a F.ni p, .slice b F.nn q, .slice c F.no r] 28)).alloc (.cells #[.int .i64 0, .int .i64 0, .slice none 0 0] 24) = wb) := ⟨_, rfl⟩
 have HB0 : Hid (Below w.heap.size w wb) := by rw [← HW.out]; exact jtwo (jlow _ _) (jlow _ _)
 have HV0 : Hid (Vf wb w.heap.size 28 #[.slice a F.ni p, .slice b F.nn q, .slice c F.no r]) := by rw [← HW.out]; exact (Vf.new w _ _).later (jlow _ _)
 have HR0 : Hid (Vf wb (w.heap.size + 1) 24 #[.int .i64 0, .int .i64 0, .slice none 0 0]) := by rw [← HW.out]; exact Vf.new1 _ _ _ _
 have HMy := qa0 (fun w2 (hb : Below w.heap.size w w2) => qa9 (qbm w2 a b c p q r F (h.later hb)) hM)
 have HEn := qa0 (fun w2 (hb : Below w.heap.size w w2) => qa9 (qb8 w2 a b c p q r F (h.later hb) (n : Int)) (en_of hI))
 have HOu := qa0 (fun w2 (hb : Below w.heap.size w w2) bl A C (hB : Bl w2 bl n n A C unb) => qd9 w2 a b c bl p q r n n n F A C unb (h.later hb) hM hB hI (by omega))
 have hno := hM.o64
 have HLt : Hid (∀ o j, o < F.no → j < n → vlx F unb (F.out o).toNat j < 256) := fun o j ho _ => qcv hM (fun v j h1 h2 h3 => h.fc8 h1 h2 h3) (fun u _ => qc0 _ _) (by have := hM.outs o ho; omega)
 have hml : n ≤ maxLen := by unfold maxLen; omega
 obtain ⟨A2, HA2⟩ : ∃ A2, Hid (n * n = A2) := ⟨_, rfl⟩
 have RA : Rt n n A2 := ⟨hn, hn, HA2.out⟩
 have HRo := qa0 (fun w2 g i (hr : RowAt w2 g 5 A2 (idf n)) (hi : i < n) => (qf3 w2 n n A2 A2 i (some ⟨g, 0, none⟩) (idf n) (hr.mt fun j _ => idf_lt n j) RA hi).mono fun e w' hh => by
  obtain ⟨v, he, ho, hb⟩ := hh
  rw [qax n _ (unb i) (fun j hj => idf_at n i j hi hj)] at ho
  exact (⟨v, he, ho, hb⟩ : ∃ v, e = .returned (.tuple #[v, .int .i64 0]) ∧ w'.ownsRow w2.heap.size 5 1 v n (row n (unb i)).toList ∧ Below w2.heap.size w2 w'))
 have HId := qa0 (fun w2 => qf1 w2 n A2 hn HA2)
 obtain ⟨ni, HNi⟩ : ∃ x, Hid (F.ni = x) := ⟨_, rfl⟩
 obtain ⟨nn, HNn⟩ : ∃ x, Hid (F.nn = x) := ⟨_, rfl⟩
 obtain ⟨no, HNo⟩ : ∃ x, Hid (F.no = x) := ⟨_, rfl⟩
 rw [HNi.out, HNn.out, HNo.out] at HMy HEn HOu HV0
 rw [HNi.out, HNn.out, HNo.out] at HW
 rw [HNi.out, HNn.out, HNo.out]
 rw [HNo.out] at HLt hno hZ
 have HMk := qa0 (fun w2 => mmake_ok w2 no n Z hno hn (qa0 hZ))
 have HZ := qa0 hZ
 have hZ4 : Z ≤ 4096 := by rw [← hZ]; exact Nat.mul_le_mul hno hn
 clear h hM hI hZ
 go_enter Try.func11, Try.ntmps11
 have f0 := HV0.out.cell 0 (.slice a ni p) rfl
 have f1 := HV0.out.cell 1 (.slice b nn q) rfl
 have f2 := HV0.out.cell 2 (.slice c no r) rfl
 rw [← HW.out] at f0 f1 f2
 have hV : w.heap.size < wb.heap.size := HV0.out.lt
 have hR : w.heap.size + 1 < wb.heap.size := HR0.out.lt
 go_wp2_with (first
  | (go_at_call 34; rw [HW.out]; refine (HMy.out _ HB0.out).mono ?_; rintro e w1 ⟨rfl, hb1⟩; have HB1 := qa0 (jtwo HB0.out hb1); have HV1 := qa0 (HV0.out.later hb1); have HR1 := qa0 (HR0.out.later hb1); have f0 := HV1.out.cell 0 (.slice a ni p) rfl; have f1 := HV1.out.cell 1 (.slice b nn q) rfl; have f2 := HV1.out.cell 2 (.slice c no r) rfl; clear hb1)
  | (go_at_call 35; refine (HEn.out _ HB1.out).mono ?_; rintro e w2 ⟨rfl, hb2⟩; have HB2 := qa0 (jtwo HB1.out hb2); have HV2 := qa0 (HV1.out.later hb2); have HR2 := qa0 (HR1.out.later hb2); clear hb2)
  | (go_at_call 36; refine (HId.out w2).mono ?_; rintro e w3 ⟨g1, rfl, hr3, hg3, hb3⟩; have hl3 := jlow w3 (.cells #[.int .i64 (n : Int), .int .i64 (n : Int), .slice (some ⟨g1, 0, none⟩) A2 A2] 24); have HB3 := qa0 (jtwo HB2.out (jtwo hb3 hl3)); have HV3 := qa0 (HV2.out.later (jtwo hb3 hl3)); have HR3 := qa0 (HR2.out.later (jtwo hb3 hl3)); have HI3 := qa0 (hr3.later hl3); have HX3 := qa0 (Vf.new w3 24 #[.int .i64 (n : Int), .int .i64 (n : Int), .slice (some ⟨g1, 0, none⟩) A2 A2]); have hs3 : w.heap.size + 1 < w3.heap.size := Nat.lt_of_lt_of_le HR2.out.lt hb3.size; have hg13 : g1 < w3.heap.size := hr3.lt; clear hr3 hg3 hb3 hl3)
  | (at_make; refine wpList_make_full _ rfl _ _ 41 rfl (w3.alloc (.cells #[.int .i64 (n : Int), .int .i64 (n : Int), .slice (some ⟨g1, 0, none⟩) A2 A2] 24)).heap.size 22 i0 (.slice none 0 0) 1 Try.underlying41 hi0 hz0 hz1 .i64 .i64 _ _ n rfl rfl rfl rfl (by rw [hz2]; omega) hml (Nat.le_refl _) ?_; intro w4 hown hgrow; have HG4 : Hid (Ga w4 (w3.alloc (.cells #[.int .i64 (n : Int), .int .i64 (n : Int), .slice (some ⟨g1, 0, none⟩) A2 A2] 24)).heap.size 22 n (fun _ => .slice none 0 0)) := qaq rfl hown; have hb4 : Below (w3.alloc (.cells #[.int .i64 (n : Int), .int .i64 (n : Int), .slice (some ⟨g1, 0, none⟩) A2 A2] 24)).heap.size (w3.alloc (.cells #[.int .i64 (n : Int), .int .i64 (n : Int), .slice (some ⟨g1, 0, none⟩) A2 A2] 24)) w4 := qa7.mp hgrow; have HB4 := qa0 (jtwo HB3.out hb4); have HV4 := qa0 (HV3.out.later hb4); have HR4 := qa0 (HR3.out.later hb4); have HI4 := qa0 (HI3.out.later hb4); have HX4 := qa0 (HX3.out.later hb4); clear hown hgrow hb4))
 have es : (w3.alloc (.cells #[.int .i64 (n : Int), .int .i64 (n : Int), .slice (some ⟨g1, 0, none⟩) A2 A2] 24)).heap.size = w3.heap.size + 1 := by simp
 rw [es] at HG4
 obtain ⟨X, HXe⟩ : ∃ g, Hid (w3.heap.size = g) := ⟨_, rfl⟩
 rw [HXe.out] at HG4 HX4 ⊢
 have hXg := HG4.out.lt
 rw [HXe.out] at hs3 hg13
 have HS4 : Hid (Bs w4 (X + 2) (X + 1) n 0 (fun _ => .slice none 0 0) unb) := ⟨HG4.out, fun i hi => by omega, by omega⟩
 clear HG4 HB0 HV0 HR0 HB1 HV1 HR1 HB2 HV2 HR2 HB3 HV3 HR3 HI3 HX3 HXe es
 go_loopw [37] (fun vi wr => ∃ (k : Nat) (v : Nat → Value), k ≤ n ∧ vi = .int .i64 (k : Int) ∧ Bs wr (X + 2) (X + 1) n k v unb ∧ Vf wr w.heap.size 28 #[.slice a ni p, .slice b nn q, .slice c no r] ∧ Vf wr (w.heap.size + 1) 24 #[.int .i64 0, .int .i64 0, .slice none 0 0] ∧ Vf wr X 24 #[.int .i64 (n : Int), .int .i64 (n : Int), .slice (some ⟨g1, 0, none⟩) A2 A2] ∧ RowAt wr g1 5 A2 (idf n) ∧ Below w.heap.size w wr) (fun vi _ => n - (intOf vi).toNat)
 case atStart => exact ⟨0, _, by omega, rfl, HS4.out, HV4.out, HR4.out, HX4.out, HI4.out, HB4.out⟩
 case round =>
  clear HS4 HB4 HV4 HR4 HX4 HI4
  obtain ⟨k, v, hk, rfl, hS, hV5, hR5, hX5, hI5, hb5⟩ := hrel
  have HS5 := qa0 hS
  have HV5 := qa0 hV5
  have HR5 := qa0 hR5
  have HX5 := qa0 hX5
  have HI5 := qa0 hI5
  have HB5 := qa0 hb5
  clear hS hV5 hR5 hb5
  by_cases hlt : k < n
  ·have q0 : (0 : Int) ≤ (k : Int) := by omega
   have q1 : (k : Int) < (n : Int) := by omega
   have i0' := hX5.cell 0 (.int .i64 (n : Int)) rfl
   have i1' := hX5.cell 1 (.int .i64 (n : Int)) rfl
   have i2' := hX5.cell 2 (.slice (some ⟨g1, 0, none⟩) A2 A2) rfl
   have HRk := qa0 (HRo.out wr g1 k hI5 hlt)
   have hwl := HS5.out.ga.lt
   clear hX5 hI5
   go_wp2_with (go_at_call 31; refine HRk.out.mono ?_; rintro e w6 ⟨u, rfl, hu6, hb6⟩; obtain ⟨s6, d6, rfl⟩ := qa8 hu6; have HU6 := qa0 hu6; have HS6 := qa0 (HS5.out.later hb6); have HV6 := qa0 (HV5.out.later hb6); have HR6 := qa0 (HR5.out.later hb6); have HX6 := qa0 (HX5.out.later hb6); have HI6 := qa0 (HI5.out.later hb6); have HB6 := qa0 (jtwo HB5.out hb6); have g0 := HS6.out.ga.cell k hlt; have gf := HS6.out.ga.free k; clear hu6 hb6)
   exact ⟨⟨k + 1, _, by omega, by go_num, HS6.out.more HU6.out (by omega), HV6.out.kept (qa1 _ _ _ _) (fun e => by have := Option.some.inj e; omega), HR6.out.kept (qa1 _ _ _ _) (fun e => by have := Option.some.inj e; omega), HX6.out.kept (qa1 _ _ _ _) (fun e => by have := Option.some.inj e; omega), HI6.out.kept (qa1 _ _ _ _) (by omega), HB6.out.setCell (by show w.heap.size ≤ X + 1; omega) _⟩, by simp [intOf]; omega⟩
  ·obtain rfl : k = n := by omega
   obtain ⟨A, C, hBl⟩ := HS5.out.bl qc0
   have HBl := qa0 hBl
   have f2 := HV5.out.cell 2 (.slice c no r) rfl
   have f0 := HV5.out.cell 0 (.slice a ni p) rfl
   have f1 := HV5.out.cell 1 (.slice b nn q) rfl
   clear hX5 hI5 hBl
   go_wp2_with (first
    | (go_at_call 37; refine (HMk.out wr).mono ?_; rintro e w6 ⟨g2, rfl, hr6, hg6, hb6⟩; have hl6 := jlow w6 (.cells #[.int .i64 (no : Int), .int .i64 (k : Int), .slice (some ⟨g2, 0, none⟩) Z Z] 24); have HB6 := qa0 (jtwo HB5.out (jtwo hb6 hl6)); have HV6 := qa0 (HV5.out.later (jtwo hb6 hl6)); have HR6 := qa0 (HR5.out.later (jtwo hb6 hl6)); have HBl6 := qa0 (HBl.out.later (jtwo hb6 hl6)); have HM6 := qa0 (hr6.later hl6); have HY6 := qa0 (Vf.new w6 24 #[.int .i64 (no : Int), .int .i64 (k : Int), .slice (some ⟨g2, 0, none⟩) Z Z]); have f0 := HV6.out.cell 0 (.slice a ni p) rfl; have f1 := HV6.out.cell 1 (.slice b nn q) rfl; have f2 := HV6.out.cell 2 (.slice c no r) rfl; have hwg := Nat.le_trans (Nat.le_trans (HB5.out.size) (Nat.le_refl _)) hg6; have hg26 : g2 < w6.heap.size := hr6.lt; have hRg : w.heap.size + 1 < g2 := Nat.lt_of_lt_of_le HR5.out.lt hg6; clear hr6 hg6 hb6 hl6)
    | (go_at_call 38; refine (HOu.out _ HB6.out _ _ _ HBl6.out).mono ?_; rintro e w7 ⟨⟨g3, B, rfl, hg7, ho7⟩, hb7⟩; have HO7 := qa0 ho7; have HB7 := qa0 (jtwo HB6.out hb7); have HV7 := qa0 (HV6.out.later hb7); have HR7 := qa0 (HR6.out.later hb7); have HM7 := qa0 (HM6.out.later hb7); have HY7 := qa0 (HY6.out.later hb7); clear ho7 hb7))
   obtain ⟨Y, HYe⟩ : ∃ Y, Hid (w6.heap.size = Y) := ⟨_, rfl⟩
   have es6 : (w6.alloc (.cells #[.int .i64 (no : Int), .int .i64 (k : Int), .slice (some ⟨g2, 0, none⟩) Z Z] 24)).heap.size = Y + 1 := by rw [← HYe.out]; simp
   rw [es6] at hg7 HO7
   rw [HYe.out] at HY7 hg26 ⊢
   have HRow7 : Hid (RowAt w7 g2 5 Z (fun p => if p < 0 * k then mtf F k p else 0)) := HM7.out.congr (fun p _ => by rw [if_neg (by omega)])
   clear HYe es6 HM7 HM6 HBl6 HB6 HV6 HR6 HY6 HS5 HBl HX5 HI5 HB5 HV5 HR5 HV7 f0 f1 f2 HOu
   go_loopw [63] (fun vi wr => ∃ i : Nat, i ≤ no ∧ vi = .int .i64 (i : Int) ∧ RowAt wr g2 5 Z (fun p => if p < i * k then mtf F k p else 0) ∧ Ou wr (Y + 1) g3 no no k B (fun o i => vlx F unb (F.out o).toNat i) ∧ Vf wr (w.heap.size + 1) 24 #[.int .i64 0, .int .i64 0, .slice none 0 0] ∧ Vf wr Y 24 #[.int .i64 (no : Int), .int .i64 (k : Int), .slice (some ⟨g2, 0, none⟩) Z Z] ∧ Below w.heap.size w wr) (fun vi _ => no - (intOf vi).toNat)
   case atStart => exact ⟨0, by omega, rfl, HRow7.out, HO7.out, HR7.out, HY7.out, HB7.out⟩
   case round =>
    clear HRow7 HO7 HR7 HY7 HB7
    obtain ⟨i, hi, rfl, hr8, ho8, hR8, hY8, hb8⟩ := hrel
    have HRow8 := qa0 hr8
    have HO8 := qa0 ho8
    have HR8 := qa0 hR8
    have HY8 := qa0 hY8
    have HB8 := qa0 hb8
    have y2 := hY8.cell 2 (.slice (some ⟨g2, 0, none⟩) Z Z) rfl
    clear hr8 hR8 hb8
    by_cases hil : i < no
    ·have c0 := ho8.ga.cell i hil
     rw [if_pos hil] at c0
     have hsl := (ho8.row i hil).sl (fun j hj => HLt.out i j hil hj)
     have hBi := (ho8.ne i hil).1
     obtain ⟨bi, HBi⟩ : ∃ b, Hid (B i = b) := ⟨_, rfl⟩
     rw [HBi.out] at c0 hsl hBi
     have HSl := qa0 hsl
     obtain ⟨pp, HP⟩ : ∃ p, Hid (i * k = p) := ⟨_, rfl⟩
     have hfit : pp + k ≤ Z := by rw [← HP.out, ← HZ.out]; exact Nat.le_trans (Nat.le_of_eq (show i * k + k = (i + 1) * k by rw [Nat.add_mul, Nat.one_mul])) (Nat.mul_le_mul_right k hil)
     have e1 : (i : Int) * (k : Int) = (pp : Int) := by rw [← HP.out]; simp
     have w1 : IntKind.i64.wrap (pp : Int) = (pp : Int) := by rw [IntKind.wrap_i64]; omega
     have p0 : (0 : Int) ≤ (i : Int) := by omega
     have p1 : (i : Int) < (no : Int) := by omega
     have b0 : (0 : Int) ≤ (pp : Int) := by omega
     have b1 : (pp : Int) ≤ (Z : Int) := by omega
     obtain ⟨f, HFf⟩ : ∃ f : Nat → Nat, Hid ((fun p => if p < i * k then mtf F k p else 0) = f) := ⟨_, rfl⟩
     obtain ⟨hh, HHh⟩ : ∃ hh : Nat → Nat, Hid ((fun j => vlx F unb (F.out i).toNat j) = hh) := ⟨_, rfl⟩
     have HNext : Hid (∀ p, p < Z → cpf f hh pp k p = if p < (i + 1) * k then mtf F k p else 0) := fun p hp => by
      rw [← HFf.out, ← HHh.out, ← HP.out]
      unfold cpf
      dsimp only
      have e3 : (i + 1) * k = i * k + k := by rw [Nat.add_mul, Nat.one_mul]
      by_cases h1 : i * k ≤ p ∧ p < i * k + k
      ·rw [if_pos h1, if_pos (by omega)]
       have e4 : p = i * k + (p - i * k) := by omega
       rw [show mtf F k p = mtf F k (i * k + (p - i * k)) by rw [← e4], qfc F (by omega)]
      ·rw [if_neg h1]
       by_cases h2 : p < i * k
       ·rw [if_pos h2, if_pos (by omega)]
       ·rw [if_neg h2, if_neg (by omega)]
     rw [HFf.out] at HRow8
     rw [HHh.out] at HSl
     clear ho8 hY8 hsl
     by_cases hZp : Z = pp
     ·subst hZp
      have hk0 : k ≤ 0 := by omega
      have b2 : Z - Z = 0 := by omega
      go_wp2_with (refine qau rfl _ _ rfl g2 Z Z k 0 0 k (some ⟨g2, 0, none⟩) (some ⟨bi, 0, none⟩) f hh rfl rfl hk0 HRow8.out (fun h => absurd h (by omega)) HSl.out hfit ?_; intro w9 HR9 HG9)
      have HR10 : Hid (RowAt w9 g2 5 Z (fun p => if p < (i + 1) * k then mtf F k p else 0)) := HR9.out.congr HNext.out
      have HO10 := qa0 (HO8.out.beside HG9.out (by omega) (by omega))
      have HV10 := qa0 (HR8.out.kept HG9.out (fun e => by have := Option.some.inj e; omega))
      have HY10 := qa0 (HY8.out.kept HG9.out (fun e => by have := Option.some.inj e; omega))
      have HB10 := qa0 (HB8.out.grown HG9.out HB8.out.size (fun k e => by have := Option.some.inj e; omega))
      exact ⟨⟨i + 1, by omega, by go_num, HR10.out, HO10.out, HV10.out, HY10.out, HB10.out⟩, by simp [intOf]; omega⟩
     ·go_wp2_with (refine qau rfl _ _ rfl g2 pp Z k (Z - pp) (Z - pp) k (some ⟨g2, pp, none⟩) (some ⟨bi, 0, none⟩) f hh rfl rfl (by omega) HRow8.out (fun _ => rfl) HSl.out hfit ?_; intro w9 HR9 HG9)
      have HR10 : Hid (RowAt w9 g2 5 Z (fun p => if p < (i + 1) * k then mtf F k p else 0)) := HR9.out.congr HNext.out
      have HO10 := qa0 (HO8.out.beside HG9.out (by omega) (by omega))
      have HV10 := qa0 (HR8.out.kept HG9.out (fun e => by have := Option.some.inj e; omega))
      have HY10 := qa0 (HY8.out.kept HG9.out (fun e => by have := Option.some.inj e; omega))
      have HB10 := qa0 (HB8.out.grown HG9.out HB8.out.size (fun k e => by have := Option.some.inj e; omega))
      exact ⟨⟨i + 1, by omega, by go_num, HR10.out, HO10.out, HV10.out, HY10.out, HB10.out⟩, by simp [intOf]; omega⟩
    ·obtain rfl : i = no := by omega
     have y0 := hY8.cell 0 (.int .i64 (i : Int)) rfl
     have y1 := hY8.cell 1 (.int .i64 (k : Int)) rfl
     have r0 := HR8.out.cell 0 (.int .i64 0) rfl
     have HRow : Hid (RowAt wr g2 5 Z (mtf F k)) := HRow8.out.congr fun p hp => by rw [if_pos (by rw [HZ.out]; exact hp)]
     clear ho8 hY8
     go_wp2_with (refine qa4 rfl 24 _ _ rfl (w.heap.size + 1) #[.int .i64 0, .int .i64 0, .slice none 0 0] #[.int .i64 (i : Int), .int .i64 (k : Int), .slice (some ⟨g2, 0, none⟩) Z Z] rfl rfl HR8.out qb4 rfl (qee _ _ _ _ _) ?_; intro w9 HV9 HG9)
     have d0 := HV9.out.cell 0 (.int .i64 (i : Int)) rfl
     have d1 := HV9.out.cell 1 (.int .i64 (k : Int)) rfl
     have d2 := HV9.out.cell 2 (.slice (some ⟨g2, 0, none⟩) Z Z) rfl
     refine bodyPost_ret (v := .tuple #[mv i k (some ⟨g2, 0, none⟩) Z Z, .int .i64 0]) (by simp [results, Try.results11, go_sem, d0, d1, d2, mv]) rfl ?_
     exact ⟨⟨g2, rfl, HRow.out.kept HG9.out (by omega), by omega⟩, HB8.out.grown HG9.out HB8.out.size (fun k e => by have := Option.some.inj e; omega)⟩
theorem fmat_b1 (w : World) (a b c : Option Addr) (p q r : Nat) (n : Int) (F : Fl) (h : FlR w a b c F) (hM : ¬ MayP F) :
  Calls Try.prog 11 #[flv a F.ni p b F.nn q c F.no r, .int .i64 n] w fun e w' => e = .returned (.tuple #[mv 0 0 none 0 0, .int .i64 2]) ∧ Below w.heap.size w w' := by
 obtain ⟨wb, HW⟩ : ∃ wb, Hid ((w.alloc (.cells #[.slice a F.ni p, .slice b F.nn q, .slice c F.no r] 28)).alloc (.cells #[.int .i64 0, .int .i64 0, .slice none 0 0] 24) = wb) := ⟨_, rfl⟩
 have HB0 : Hid (Below w.heap.size w wb) := by rw [← HW.out]; exact jtwo (jlow _ _) (jlow _ _)
 have HV0 : Hid (Vf wb w.heap.size 28 #[.slice a F.ni p, .slice b F.nn q, .slice c F.no r]) := by rw [← HW.out]; exact (Vf.new w _ _).later (jlow _ _)
 have HR0 : Hid (Vf wb (w.heap.size + 1) 24 #[.int .i64 0, .int .i64 0, .slice none 0 0]) := by rw [← HW.out]; exact Vf.new1 _ _ _ _
 have HMy := qa0 (fun w2 (hb : Below w.heap.size w w2) => qb1 (qbm w2 a b c p q r F (h.later hb)) hM)
 obtain ⟨ni, HNi⟩ : ∃ x, Hid (F.ni = x) := ⟨_, rfl⟩
 obtain ⟨nn, HNn⟩ : ∃ x, Hid (F.nn = x) := ⟨_, rfl⟩
 obtain ⟨no, HNo⟩ : ∃ x, Hid (F.no = x) := ⟨_, rfl⟩
 rw [HNi.out, HNn.out, HNo.out] at HMy HV0
 rw [HNi.out, HNn.out, HNo.out] at HW
 rw [HNi.out, HNn.out, HNo.out]
 clear h hM
 go_enter Try.func11, Try.ntmps11
 have f0 := HV0.out.cell 0 (.slice a ni p) rfl
 have f1 := HV0.out.cell 1 (.slice b nn q) rfl
 have f2 := HV0.out.cell 2 (.slice c no r) rfl
 rw [← HW.out] at f0 f1 f2
 go_wp2_with (first
  | (go_at_call 34; rw [HW.out]; refine (HMy.out _ HB0.out).mono ?_; rintro e w1 ⟨rfl, hb1⟩; have HB1 := qa0 (jtwo HB0.out hb1); have HV1 := qa0 (HV0.out.later hb1); have HR1 := qa0 (HR0.out.later hb1); have f0 := HV1.out.cell 0 (.slice a ni p) rfl; have f1 := HV1.out.cell 1 (.slice b nn q) rfl; have f2 := HV1.out.cell 2 (.slice c no r) rfl; clear hb1)
  | (refine qa4 rfl 24 _ _ rfl (w.heap.size + 1) #[.int .i64 0, .int .i64 0, .slice none 0 0] #[.int .i64 0, .int .i64 0, .slice none 0 0] rfl rfl HR1.out qb4 rfl (qee _ _ _ _ _) ?_; intro w9 HV9 HG9))
 have d0 := HV9.out.cell 0 (.int .i64 0) rfl
 have d1 := HV9.out.cell 1 (.int .i64 0) rfl
 have d2 := HV9.out.cell 2 (.slice none 0 0) rfl
 refine bodyPost_ret (v := .tuple #[mv 0 0 none 0 0, .int .i64 2]) (by simp [results, Try.results11, go_sem, d0, d1, d2, mv]) rfl ?_
 exact ⟨rfl, HB1.out.grown HG9.out HB1.out.size (fun k e => by have := Option.some.inj e; omega)⟩
theorem fmat_b2 (w : World) (a b c : Option Addr) (p q r : Nat) (n : Int) (F : Fl) (h : FlR w a b c F) (hM : MayP F) (hE : ¬ EnP F n) :
  Calls Try.prog 11 #[flv a F.ni p b F.nn q c F.no r, .int .i64 n] w fun e w' => e = .returned (.tuple #[mv 0 0 none 0 0, .int .i64 2]) ∧ Below w.heap.size w w' := by
 obtain ⟨wb, HW⟩ : ∃ wb, Hid ((w.alloc (.cells #[.slice a F.ni p, .slice b F.nn q, .slice c F.no r] 28)).alloc (.cells #[.int .i64 0, .int .i64 0, .slice none 0 0] 24) = wb) := ⟨_, rfl⟩
 have HB0 : Hid (Below w.heap.size w wb) := by rw [← HW.out]; exact jtwo (jlow _ _) (jlow _ _)
 have HV0 : Hid (Vf wb w.heap.size 28 #[.slice a F.ni p, .slice b F.nn q, .slice c F.no r]) := by rw [← HW.out]; exact (Vf.new w _ _).later (jlow _ _)
 have HR0 : Hid (Vf wb (w.heap.size + 1) 24 #[.int .i64 0, .int .i64 0, .slice none 0 0]) := by rw [← HW.out]; exact Vf.new1 _ _ _ _
 have HMy := qa0 (fun w2 (hb : Below w.heap.size w w2) => qa9 (qbm w2 a b c p q r F (h.later hb)) hM)
 have HEn := qa0 (fun w2 (hb : Below w.heap.size w w2) => qb1 (qb8 w2 a b c p q r F (h.later hb) n) hE)
 obtain ⟨ni, HNi⟩ : ∃ x, Hid (F.ni = x) := ⟨_, rfl⟩
 obtain ⟨nn, HNn⟩ : ∃ x, Hid (F.nn = x) := ⟨_, rfl⟩
 obtain ⟨no, HNo⟩ : ∃ x, Hid (F.no = x) := ⟨_, rfl⟩
 rw [HNi.out, HNn.out, HNo.out] at HMy HEn HV0
 rw [HNi.out, HNn.out, HNo.out] at HW
 rw [HNi.out, HNn.out, HNo.out]
 clear h hM hE
 go_enter Try.func11, Try.ntmps11
 have f0 := HV0.out.cell 0 (.slice a ni p) rfl
 have f1 := HV0.out.cell 1 (.slice b nn q) rfl
 have f2 := HV0.out.cell 2 (.slice c no r) rfl
 rw [← HW.out] at f0 f1 f2
 go_wp2_with (first
  | (go_at_call 34; rw [HW.out]; refine (HMy.out _ HB0.out).mono ?_; rintro e w1 ⟨rfl, hb1⟩; have HB1 := qa0 (jtwo HB0.out hb1); have HV1 := qa0 (HV0.out.later hb1); have HR1 := qa0 (HR0.out.later hb1); have f0 := HV1.out.cell 0 (.slice a ni p) rfl; have f1 := HV1.out.cell 1 (.slice b nn q) rfl; have f2 := HV1.out.cell 2 (.slice c no r) rfl; clear hb1)
  | (go_at_call 35; refine (HEn.out _ HB1.out).mono ?_; rintro e w2 ⟨rfl, hb2⟩; have HB2 := qa0 (jtwo HB1.out hb2); have HR2 := qa0 (HR1.out.later hb2); clear hb2)
  | (refine qa4 rfl 24 _ _ rfl (w.heap.size + 1) #[.int .i64 0, .int .i64 0, .slice none 0 0] #[.int .i64 0, .int .i64 0, .slice none 0 0] rfl rfl HR2.out qb4 rfl (qee _ _ _ _ _) ?_; intro w9 HV9 HG9))
 have d0 := HV9.out.cell 0 (.int .i64 0) rfl
 have d1 := HV9.out.cell 1 (.int .i64 0) rfl
 have d2 := HV9.out.cell 2 (.slice none 0 0) rfl
 refine bodyPost_ret (v := .tuple #[mv 0 0 none 0 0, .int .i64 2]) (by simp [results, Try.results11, go_sem, d0, d1, d2, mv]) rfl ?_
 exact ⟨rfl, HB2.out.grown HG9.out HB2.out.size (fun k e => by have := Option.some.inj e; omega)⟩
theorem fmat_b3 (w : World) (a b c : Option Addr) (p q r : Nat) (n : Int) (F : Fl) (h : FlR w a b c F) (hM : MayP F) (hE : EnP F n) (hS : ¬ (0 ≤ n ∧ n ≤ 64)) :
  Calls Try.prog 11 #[flv a F.ni p b F.nn q c F.no r, .int .i64 n] w fun e w' => e = .returned (.tuple #[mv 0 0 none 0 0, .int .i64 2]) ∧ Below w.heap.size w w' := by
 obtain ⟨wb, HW⟩ : ∃ wb, Hid ((w.alloc (.cells #[.slice a F.ni p, .slice b F.nn q, .slice c F.no r] 28)).alloc (.cells #[.int .i64 0, .int .i64 0, .slice none 0 0] 24) = wb) := ⟨_, rfl⟩
 have HB0 : Hid (Below w.heap.size w wb) := by rw [← HW.out]; exact jtwo (jlow _ _) (jlow _ _)
 have HV0 : Hid (Vf wb w.heap.size 28 #[.slice a F.ni p, .slice b F.nn q, .slice c F.no r]) := by rw [← HW.out]; exact (Vf.new w _ _).later (jlow _ _)
 have HR0 : Hid (Vf wb (w.heap.size + 1) 24 #[.int .i64 0, .int .i64 0, .slice none 0 0]) := by rw [← HW.out]; exact Vf.new1 _ _ _ _
 have HMy := qa0 (fun w2 (hb : Below w.heap.size w w2) => qa9 (qbm w2 a b c p q r F (h.later hb)) hM)
 have HEn := qa0 (fun w2 (hb : Below w.heap.size w w2) => qa9 (qb8 w2 a b c p q r F (h.later hb) n) hE)
 have HId := qa0 (fun w2 => qe8 w2 n hS)
 obtain ⟨ni, HNi⟩ : ∃ x, Hid (F.ni = x) := ⟨_, rfl⟩
 obtain ⟨nn, HNn⟩ : ∃ x, Hid (F.nn = x) := ⟨_, rfl⟩
 obtain ⟨no, HNo⟩ : ∃ x, Hid (F.no = x) := ⟨_, rfl⟩
 rw [HNi.out, HNn.out, HNo.out] at HMy HEn HV0
 rw [HNi.out, HNn.out, HNo.out] at HW
 rw [HNi.out, HNn.out, HNo.out]
 clear h hM hE hS
 go_enter Try.func11, Try.ntmps11
 have f0 := HV0.out.cell 0 (.slice a ni p) rfl
 have f1 := HV0.out.cell 1 (.slice b nn q) rfl
 have f2 := HV0.out.cell 2 (.slice c no r) rfl
 rw [← HW.out] at f0 f1 f2
 go_wp2_with (first
  | (go_at_call 34; rw [HW.out]; refine (HMy.out _ HB0.out).mono ?_; rintro e w1 ⟨rfl, hb1⟩; have HB1 := qa0 (jtwo HB0.out hb1); have HV1 := qa0 (HV0.out.later hb1); have HR1 := qa0 (HR0.out.later hb1); have f0 := HV1.out.cell 0 (.slice a ni p) rfl; have f1 := HV1.out.cell 1 (.slice b nn q) rfl; have f2 := HV1.out.cell 2 (.slice c no r) rfl; clear hb1)
  | (go_at_call 35; refine (HEn.out _ HB1.out).mono ?_; rintro e w2 ⟨rfl, hb2⟩; have HB2 := qa0 (jtwo HB1.out hb2); have HR2 := qa0 (HR1.out.later hb2); clear hb2)
  | (go_at_call 36; refine (HId.out w2).mono ?_; rintro e w3 ⟨rfl, hb3⟩; have hl3 := jlow w3 (.cells #[.int .i64 0, .int .i64 0, .slice none 0 0] 24); have HB3 := qa0 (jtwo HB2.out (jtwo hb3 hl3)); have HR3 := qa0 (HR2.out.later (jtwo hb3 hl3)); clear hb3 hl3)
  | (refine qa4 rfl 24 _ _ rfl (w.heap.size + 1) #[.int .i64 0, .int .i64 0, .slice none 0 0] #[.int .i64 0, .int .i64 0, .slice none 0 0] rfl rfl HR3.out qb4 rfl (qee _ _ _ _ _) ?_; intro w9 HV9 HG9))
 have d0 := HV9.out.cell 0 (.int .i64 0) rfl
 have d1 := HV9.out.cell 1 (.int .i64 0) rfl
 have d2 := HV9.out.cell 2 (.slice none 0 0) rfl
 refine bodyPost_ret (v := .tuple #[mv 0 0 none 0 0, .int .i64 2]) (by simp [results, Try.results11, go_sem, d0, d1, d2, mv]) rfl ?_
 exact ⟨rfl, HB3.out.grown HG9.out HB3.out.size (fun k e => by have := Option.some.inj e; omega)⟩
/-- There is a matrix of so many columns. -/
def MtP21 (F : Fl) (n : Int) : Prop := MayP F ∧ EnP F n ∧ 0 ≤ n ∧ n ≤ 64
theorem fmat_bad (w : World) (a b c : Option Addr) (p q r : Nat) (n : Int) (F : Fl) (h : FlR w a b c F) (hM : ¬ MtP21 F n) :
  Calls Try.prog 11 #[flv a F.ni p b F.nn q c F.no r, .int .i64 n] w fun e w' => e = .returned (.tuple #[mv 0 0 none 0 0, .int .i64 2]) ∧ Below w.heap.size w w' := by
 by_cases h1 : MayP F
 ·by_cases h2 : EnP F n
  ·exact fmat_b3 w a b c p q r n F h h1 h2 (fun h3 => hM ⟨h1, h2, h3⟩)
  ·exact fmat_b2 w a b c p q r n F h h1 h2
 ·exact fmat_b1 w a b c p q r n F h h1
end Go.Proofs.Ytkfnedpnkeacpaa
