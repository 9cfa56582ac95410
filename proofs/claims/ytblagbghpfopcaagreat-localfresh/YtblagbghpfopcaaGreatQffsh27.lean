/-
  Contract of the reference: Solve.
-/
import Derived.Test.YtblagbghpfopcaaGreatQffsh00
import Derived.Test.YtblagbghpfopcaaGreatQffsh26
set_option maxRecDepth 100000
set_option maxHeartbeats 16000000
namespace Go.Proofs.YtblagbghpfopcaaGreat
open Go.RowKit
theorem qde {w : World} {B n b : Nat} {v x y z : Value} {ls : List Value} (h : w.ownsRow B 5 1 v n ls) (hv : Vr w b x y z) : v.ownBlock ≠ some b := by
 rcases h.2 with ⟨e, _⟩ | ⟨g, cap, cur, e, _, hg, _⟩
 ·rw [e]; simp [Value.ownBlock]
 ·rw [e]
  intro he
  have : g = b := by simpa [Value.ownBlock] using he
  subst this
  unfold Vr at hv
  rw [hg] at hv
  have := Option.some.inj hv
  injection this with _ h2
  exact absurd h2 (by decide)
theorem one_sl (w : World) (x : Nat) (hx : x < 256) : Sl (w.alloc (.cells #[.int .u8 (x : Int)] 5)) (some ⟨w.heap.size, 0, none⟩) 1 (fun _ => x) := by
 refine ⟨fun _ _ => hx, fun i hi => ⟨w.heap.size, 0, rfl, ?_⟩⟩
 obtain rfl : i = 0 := by omega
 have := qg3 w 5 x 0 _ rfl
 rw [Nat.zero_add]
 exact this
theorem one_kept {x0 x1 x2 : World} {B N dd x : Nat} {so : Option Addr} {H : Nat → Nat} (h : Sl x1 (some ⟨x0.heap.size, 0, none⟩) 1 (fun _ => x)) (hg : x1.grownBy x2 (Value.slice so N dd).ownBlock) (ho : Ob x0 B (.slice so N dd) N H) : Sl x2 (some ⟨x0.heap.size, 0, none⟩) 1 (fun _ => x) := by
 refine ⟨h.1, fun i hi => ?_⟩
 obtain ⟨b, o, e, hc⟩ := h.2 i hi
 refine ⟨b, o, e, hg.cell hc (fun e2 => ?_)⟩
 have eb : b = x0.heap.size := by
  have := congrArg (Option.map Addr.block) e
  simpa using this.symm
 have := (ho.base e2.symm).2
 have : b < x0.heap.size := this
 omega
/-- What Solve's second loop keeps. -/
structure qes (w wr : World) (br r c n k N dd top : Nat) (p : Nat → Nat) (a so : Option Addr) (v : Value) (G : Nat → Nat) : Prop where
 va : Vr wr w.heap.size (.int .i64 (r : Int)) (.int .i64 (c : Int)) (.slice a n k)
 vr : Vr wr br (.int .i64 (r : Int)) (.int .i64 ((c : Int) + 1)) (.slice so N dd)
 data : Ob wr w.heap.size (.slice so N dd) N G
 piv : Oi wr w.heap.size v top p
 low : w.heap.size < br
 below : Below w.heap.size w wr
theorem qes.later {w wr w' : World} {br r c n k N dd top : Nat} {p : Nat → Nat} {a so : Option Addr} {v : Value} {G : Nat → Nat} (I : qes w wr br r c n k N dd top p a so v G) (hb : Below wr.heap.size wr w') : qes w w' br r c n k N dd top p a so v G :=
 ⟨I.va.later hb, I.vr.later hb, I.data.later hb, I.piv.later hb, I.low, qa1 I.below hb⟩
theorem qes.kept {w wr w' : World} {br r c n k N dd top g : Nat} {p : Nat → Nat} {a so : Option Addr} {v : Value} {G : Nat → Nat} (I : qes w wr br r c n k N dd top p a so v G) (hg : wr.grownBy w' (some g)) (h1 : w.heap.size < g) (h2 : br ≠ g) (h3 : (Value.slice so N dd).ownBlock ≠ some g) (h4 : v.ownBlock ≠ some g) : qes w w' br r c n k N dd top p a so v G :=
 ⟨I.va.kept hg (by omega), I.vr.kept hg h2, I.data.kept hg (.inr h3), I.piv.kept hg (.inr h4), I.low, qa6 I.below hg (by omega)⟩
theorem s2_begin {w wr w5 : World} {r c n k N dd top : Nat} {p : Nat → Nat} {a so : Option Addr} {v : Value} {G H : Nat → Nat} (va : Vr wr w.heap.size (.int .i64 (r : Int)) (.int .i64 (c : Int)) (.slice a n k)) (ho : Ob wr (w.heap.size + 1) (.slice so N dd) N H) (ho5 : Ob w5 (w.heap.size + 1) (.slice so N dd) N G) (hp5 : Oi w5 wr.heap.size v top p) (hb : Below w.heap.size w wr) (hg5 : wr.grownBy w5 (Value.slice so N dd).ownBlock) :
  qes w (w5.alloc (.cells #[.int .i64 (r : Int), .int .i64 ((c : Int) + 1), .slice so N dd] 24)) w5.heap.size r c n k N dd top p a so v G := by
 have h1 := va.grown hg5 (qak ho va)
 have h2 : Below w.heap.size w w5 := by
  cases hv : (Value.slice so N dd).ownBlock with
  | none => rw [hv] at hg5; exact qa1 hb (qa4.mp hg5)
  | some g => rw [hv] at hg5; exact qa6 hb hg5 (by have := (ho.base hv).1; omega)
 have := hb.size
 exact ⟨h1.later (qa0 _ _), Vr.new w5 _ _ _, (ho5.mono (by omega)).later (qa0 _ _), (hp5.mono (by omega)).later (qa0 _ _), h1.lt, qa1 h2 (qa0 _ _)⟩
theorem row_ob {w : World} {B g n : Nat} {f : Nat → Nat} (h : RowAt w g 5 n f) (hn : n ≤ 140737488351232) (hB : B ≤ g) : Ob w B (.slice (some ⟨g, 0, none⟩) n n) n f :=
 ⟨by simp [qa5], .inr ⟨g, n, row n f, rfl, hB, h, Nat.le_refl _, by unfold maxLen; omega, by simp [qa5], List.take_of_length_le (by simp [qa5])⟩⟩
theorem qh2 (w : World) (r c n k kb : Nat) (a b : Option Addr) (F X : Nat → Nat) (ha : Mt w a n k F) (R : Rt r c n) (hb : Sl w b r X) :
  Calls Tryz.prog 72 #[mv r c a n k, .slice b r kb] w fun e w' => (∃ s d x, e = .returned (.tuple #[.slice s c d, .bool true, .int .i64 0]) ∧ Ob w' w.heap.size (.slice s c d) c x ∧ SolA F X r c x ∧ Below w.heap.size w w') ∨ (e = .returned (.tuple #[.slice none 0 0, .bool false, .int .i64 0]) ∧ (∀ x, ¬ Sol (m2 F r c) r c (ext0 X r) x) ∧ Below w.heap.size w w') := by
 have HR : Hid (Rt r c n) := R
 have HSa : Hid (Mt w a n k F) := ha
 have HSb : Hid (Sl w b r X) := hb
 have hn := R.le
 have hr := R.r64
 have hc := R.c64
 obtain ⟨wb, HW⟩ : ∃ wb, Hid (wb = w.alloc (.cells #[.int .i64 (r : Int), .int .i64 (c : Int), .slice a n k] 24)) := ⟨_, rfl⟩
 have HVa : Hid (Vr wb w.heap.size (.int .i64 (r : Int)) (.int .i64 (c : Int)) (.slice a n k)) := by show Vr _ _ _ _ _; rw [HW.out]; exact Vr.new _ _ _ _
 have HB0 : Hid (Below w.heap.size w wb) := by rw [HW.out]; exact qa0 _ _
 have v0 := HVa.out.c0
 have v1 := HVa.out.c1
 have v2 := HVa.out.c2
 have wc : IntKind.i64.wrap ((c : Int) + 1) = (c : Int) + 1 := by rw [IntKind.wrap_i64]; omega
 obtain ⟨i0, hi0, hz0, hz1, hz2⟩ := info_parts qcy
 clear ha R hb
 go_enter Tryz.func72, Tryz.ntmps72
 go_wp2_with (go_at_call 68; rw [← HW.out]; refine (qas _ _ _ _ _ _ HR.out.p).mono ?_; rintro e w1 ⟨rfl, hb1⟩; have HVa1 : Hid (Vr w1 w.heap.size (.int .i64 (r : Int)) (.int .i64 (c : Int)) (.slice a n k)) := HVa.out.later hb1; have HB1 : Hid (Below w.heap.size w w1) := qa1 HB0.out hb1; have u0 := HVa1.out.c0; have u1 := HVa1.out.c1; have u2 := HVa1.out.c2; clear hb1)
 obtain ⟨W2, HW2⟩ : ∃ W, Hid (W = w1.alloc (.cells #[.int .i64 (r : Int), .int .i64 ((c : Int) + 1), .slice none 0 0] 24)) := ⟨_, rfl⟩
 have hlow : w.heap.size < w1.heap.size := HVa1.out.lt
 have HI0 : Hid (SInv w W2 w1.heap.size r c n k 0 a none 0 (auf F X c)) := by
  show SInv _ _ _ _ _ _ _ _ _ _ _ _
  rw [HW2.out]
  refine ⟨HVa1.out.later (qa0 _ _), ?_, ?_, hlow, qa1 HB1.out (qa0 _ _)⟩
  ·rw [Nat.zero_mul]; exact Vr.new w1 _ _ _
  ·rw [Nat.zero_mul]; exact (show Ob _ _ _ 0 _ from ⟨by simp [qa5], .inl ⟨rfl, rfl⟩⟩)
 rw [← HW2.out]
 clear HW HW2 HVa HB0 HVa1 HB1 v0 v1 v2 u0 u1 u2
 go_loopw [8] (fun si wr => ∃ (i : Nat) (so : Option Addr) (dd : Nat), i ≤ r ∧ si = .int .i64 (i : Int) ∧ SInv w wr w1.heap.size r c n k i a so dd (auf F X c)) (fun si _ => r - (intOf si).toNat)
 case atStart => exact ⟨0, none, 0, by omega, rfl, HI0.out⟩
 case round =>
  clear HI0
  obtain ⟨i, so, dd, hir, rfl, I⟩ := hrel
  have HI : Hid (SInv w wr w1.heap.size r c n k i a so dd (auf F X c)) := I
  have c0 := I.va.c0
  have c1 := I.va.c1
  have c2 := I.va.c2
  clear I
  obtain ⟨N, HN⟩ : ∃ x, Hid (i * (c + 1) = x) := ⟨_, rfl⟩
  have hN : N ≤ 4160 := by rw [← HN.out]; exact Nat.mul_le_mul (by omega : i ≤ 64) (by omega : c + 1 ≤ 65)
  by_cases hlt : i < r
  ·obtain ⟨bx, bo, eb, hcb⟩ := HSb.out.2 i hlt
   subst eb
   obtain ⟨xi, HXi⟩ : ∃ x, Hid (X i = x) := ⟨_, rfl⟩
   rw [HXi.out] at hcb
   have hxi : xi < 256 := by rw [← HXi.out]; exact HSb.out.1 i hlt
   have hbx : bx < w.heap.size := qap hcb
   have HX0 : Hid (w.cell? ⟨bx, bo + i, none⟩ = some (.int .u8 (xi : Int))) := hcb
   have p0 : (0 : Int) ≤ (i : Int) := by omega
   have p1 : (i : Int) < (r : Int) := by omega
   clear hcb
   go_wp2_with (go_at_call 38; refine (qg6 _ r c n k i a F (HSa.out.later HI.out.below).sl HR.out hlt).mono ?_; rintro e w9 ⟨v9, rfl, ho9, hb9⟩; obtain ⟨s9, d9, e9, _, _⟩ := qbi ho9; subst e9; have HS9 : Hid (Sl w9 s9 c (fun j => F (i * c + j))) := qcf ho9 (fun l hl => HSa.out.sl.1 _ (HR.out.at hlt hl)); have HN9 : Hid (s9 = none → c = 0 ∧ d9 = 0) := qbn ho9; have HI9 : Hid (SInv w w9 w1.heap.size r c n k i a so dd (auf F X c)) := HI.out.later hb9; clear ho9 hb9)
   obtain ⟨x0, HWD⟩ : ∃ x, Hid (x = w9.drew) := ⟨_, rfl⟩
   have bd : Below w9.heap.size w9 x0 := by rw [HWD.out]; exact (Below.refl _ _).drew
   have HVa_x0 : Hid (Vr x0 w.heap.size (.int .i64 (r : Int)) (.int .i64 (c : Int)) (.slice a n k)) := HI9.out.va.later bd
   have HVb_x0 : Hid (Vr x0 w1.heap.size (.int .i64 (r : Int)) (.int .i64 ((c : Int) + 1)) (.slice so N dd)) := by have h1 := HI9.out.vb.later bd; rw [HN.out] at h1; exact h1
   have HO_x0 : Hid (Ob x0 (w.heap.size + 1) (.slice so N dd) N (auf F X c)) := by have h1 := HI9.out.out.later bd; rw [HN.out] at h1; exact h1
   have HS_x0 : Hid (Sl x0 s9 c (fun j => F (i * c + j))) := HS9.out.later bd
   have HB_x0 : Hid (Below w.heap.size w x0) := qa1 HI9.out.below bd
   have HX_x0 : Hid (x0.cell? ⟨bx, bo + i, none⟩ = some (.int .u8 (xi : Int))) := keepc HB_x0.out HX0.out
   have HD : Hid (x0.cell? ⟨w1.heap.size, 2, none⟩ = some (.slice so N dd) ∧ x0.cell? ⟨bx, bo + i, none⟩ = some (.int .u8 (xi : Int))) := ⟨HVb_x0.out.c2, HX_x0.out⟩
   clear bd
   refine qai (k := 11) (n := 11) (fun w' => w'.cell? ⟨w1.heap.size, 2, none⟩ = some (.slice so N dd) ∧ w'.cell? ⟨bx, bo + i, none⟩ = some (.int .u8 (xi : Int))) (by kernel_rfl) (by kernel_rfl) (by decide) (by rfl) ?_
   rw [← HWD.out]
   refine wtkq 0 ?va0 rfl (by kernel_rfl) (fun _ _ _ h => h) (by rfl) ?ya0 HD.out ?za0
   case ya0 => (intro w hSw; (try dsimp only at hSw); go_simp; try with_reducible rfl)
   try simp only [mz1, mz3, Act.put, mz4, mz5, mz6]
   refine wtkq 1 ?va1 rfl (by kernel_rfl) (fun _ _ _ h => h) (by rfl) ?ya1 HD.out ?za1
   case ya1 => (intro w hSw; (try dsimp only at hSw); go_simp; try with_reducible rfl)
   try simp only [mz1, mz2, mz3, Act.put, mz4, mz5, mz6]
   refine wtkq 2 ?va2 rfl (by kernel_rfl) (fun _ _ _ h => h) (by rfl) ?ya2 HD.out ?za2
   case ya2 => (intro w hSw; (try dsimp only at hSw); go_simp; try with_reducible rfl)
   try simp only [mz1, mz2, mz3, Act.put, mz4, mz5, mz6]
   refine wtkq 4 ?va4 rfl (by kernel_rfl) (fun _ _ _ h => h) (by rfl) ?ya4 HD.out ?za4
   case ya4 => (intro w hSw; (try dsimp only at hSw); go_simp; try with_reducible rfl)
   try simp only [mz1, mz2, mz3, Act.put, mz4, mz5, mz6]
   refine wtkq 5 ?va5 rfl (by kernel_rfl) (fun _ _ _ h => h) (by rfl) ?ya5 HD.out ?za5
   case ya5 => (intro w hSw; (try dsimp only at hSw); go_simp; try with_reducible rfl)
   try simp only [mz1, mz2, mz3, Act.put, mz4, mz5, mz6]
   refine wtkq 6 ?va6 rfl (by kernel_rfl) (fun _ _ _ h => h) (by rfl) ?ya6 HD.out ?za6
   case ya6 => (intro w hSw; (try dsimp only at hSw); go_simp; try with_reducible rfl)
   try simp only [mz1, mz2, mz3, Act.put, mz4, mz5, mz6]
   refine wtkq 7 ?va7 rfl (by kernel_rfl) (fun _ _ _ h => h) (by rfl) ?ya7 HD.out ?za7
   case ya7 => (intro w hSw; (try dsimp only at hSw); go_simp; try with_reducible rfl)
   try simp only [mz1, mz2, mz3, Act.put, mz4, mz5, mz6]
   refine wpAnyH_ready (rs := [3, 8]) (by kernel_rfl) (by simp) ?_
   refine AllReadyH.cons rfl (fun K hK => ?_) (AllReadyH.cons rfl (fun K hK => ?_) AllReadyH.nil)
   ·refine qao rfl _ _ rfl (w.heap.size + 1) N (.slice so N dd) (row N (auf F X c)).toList rfl HO_x0.out s9 c d9 (fun j => F (i * c + j)) rfl HS_x0.out HN9.out (by omega) (by have := HVb_x0.out.lt; omega) ?_
    intro v1 x1 hown hgrow
    obtain ⟨so1, dd1, ev1, _, _⟩ := qbi hown
    subst ev1
    have HO1_x1 : Hid (x1.ownsRow (w.heap.size + 1) 5 1 (.slice so1 (N + c) dd1) (N + c) ((row N (auf F X c)).toList ++ (row c (fun j => F (i * c + j))).toList)) := hown
    have HX_x1 : Hid (x1.cell? ⟨bx, bo + i, none⟩ = some (.int .u8 (xi : Int))) := keepg hgrow HX_x0.out (fun e => by have := qaa HO_x0.out _ e; omega)
    have HB_x1 : Hid (Below w.heap.size w x1) := by
     cases hv : (Value.slice so N dd).ownBlock with
     | none => rw [hv] at hgrow; exact qa1 HB_x0.out (qa4.mp hgrow)
     | some g => rw [hv] at hgrow; exact qa6 HB_x0.out hgrow (by have := qaa HO_x0.out _ hv; omega)
    have HVa_x1 : Hid (Vr x1 w.heap.size (.int .i64 (r : Int)) (.int .i64 (c : Int)) (.slice a n k)) := HVa_x0.out.grown hgrow (qak HO_x0.out HVa_x0.out)
    have HVb_x1 : Hid (Vr x1 w1.heap.size (.int .i64 (r : Int)) (.int .i64 ((c : Int) + 1)) (.slice so N dd)) := HVb_x0.out.grown hgrow (qak HO_x0.out HVb_x0.out)
    have HD_x1 : Hid (x1.cell? ⟨w1.heap.size, 2, none⟩ = some (.slice so N dd) ∧ x1.cell? ⟨bx, bo + i, none⟩ = some (.int .u8 (xi : Int))) := ⟨HVb_x1.out.c2, HX_x1.out⟩
    refine hK.out _ _ HD_x1.out (fun _ => ?_)
    clear hK K
    try simp only [mz1, mz2, mz3, Act.put, mz4, mz5, mz6]
    refine wpAnyH_ready (rs := [8]) (by kernel_rfl) (by simp) ?_
    refine AllReadyH.cons rfl (fun K hK => ?_) AllReadyH.nil
    go_simp
    obtain ⟨x2, hwx2⟩ : ∃ x, Hid (x = x1.alloc (.cells #[.int .u8 (xi : Int)] 5)) := ⟨_, rfl⟩
    rw [← hwx2.out]
    have hbx2 : Below x1.heap.size x1 x2 := by rw [hwx2.out]; exact qa0 _ _
    have HC_x2 : Hid (Sl x2 (some ⟨x1.heap.size, 0, none⟩) 1 (fun _ => xi)) := by rw [hwx2.out]; exact one_sl x1 xi hxi
    have HX_x2 : Hid (x2.cell? ⟨bx, bo + i, none⟩ = some (.int .u8 (xi : Int))) := keepc hbx2 HX_x1.out
    have HB_x2 : Hid (Below w.heap.size w x2) := qa1 HB_x1.out hbx2
    have HVa_x2 : Hid (Vr x2 w.heap.size (.int .i64 (r : Int)) (.int .i64 (c : Int)) (.slice a n k)) := HVa_x1.out.later hbx2
    have HVb_x2 : Hid (Vr x2 w1.heap.size (.int .i64 (r : Int)) (.int .i64 ((c : Int) + 1)) (.slice so N dd)) := HVb_x1.out.later hbx2
    have HO1_x2 : Hid (x2.ownsRow (w.heap.size + 1) 5 1 (.slice so1 (N + c) dd1) (N + c) ((row N (auf F X c)).toList ++ (row c (fun j => F (i * c + j))).toList)) := World.ownsRow.kept HO1_x1.out (qa4.mpr hbx2) (by cases hv : (Value.slice so1 (N + c) dd1).ownBlock <;> simp)
    have HD_x2 : Hid (x2.cell? ⟨w1.heap.size, 2, none⟩ = some (.slice so N dd) ∧ x2.cell? ⟨bx, bo + i, none⟩ = some (.int .u8 (xi : Int))) := ⟨HVb_x2.out.c2, HX_x2.out⟩
    refine hK.out _ _ HD_x2.out (fun _ => ?_)
    clear hK K
    try simp only [mz1, mz2, mz3, Act.put, mz4, mz5, mz6]
    refine wpAnyH_ready (rs := [9]) (by kernel_rfl) (by simp) ?_
    refine AllReadyH.cons rfl (fun K hK => ?_) AllReadyH.nil
    refine qao rfl _ _ rfl (w.heap.size + 1) (N + c) (.slice so1 (N + c) dd1) _ rfl HO1_x2.out (some ⟨x1.heap.size, 0, none⟩) 1 1 (fun _ => xi) rfl HC_x2.out (fun e => by cases e) (by omega) (by have := HVb_x2.out.lt; omega) ?_
    intro v2 x3 hown2 hgrow2
    obtain ⟨so2, dd2, ev2, _, _⟩ := qbi hown2
    subst ev2
    have HO2 : Hid (x3.ownsRow (w.heap.size + 1) 5 1 (.slice so2 (N + c + 1) dd2) (N + c + 1) ((row N (auf F X c)).toList ++ (row c (fun j => F (i * c + j))).toList ++ (row 1 (fun _ => xi)).toList)) := hown2
    have HX_x3 : Hid (x3.cell? ⟨bx, bo + i, none⟩ = some (.int .u8 (xi : Int))) := keepg hgrow2 HX_x2.out (fun e => by have := qaa HO1_x2.out _ e; omega)
    have HB_x3 : Hid (Below w.heap.size w x3) := by
     cases hv : (Value.slice so1 (N + c) dd1).ownBlock with
     | none => rw [hv] at hgrow2; exact qa1 HB_x2.out (qa4.mp hgrow2)
     | some g => rw [hv] at hgrow2; exact qa6 HB_x2.out hgrow2 (by have := qaa HO1_x2.out _ hv; omega)
    have HVa_x3 : Hid (Vr x3 w.heap.size (.int .i64 (r : Int)) (.int .i64 (c : Int)) (.slice a n k)) := HVa_x2.out.grown hgrow2 (qde HO1_x2.out HVa_x2.out)
    have HVb_x3 : Hid (Vr x3 w1.heap.size (.int .i64 (r : Int)) (.int .i64 ((c : Int) + 1)) (.slice so N dd)) := HVb_x2.out.grown hgrow2 (qde HO1_x2.out HVb_x2.out)
    have HD_x3 : Hid (x3.cell? ⟨w1.heap.size, 2, none⟩ = some (.slice so N dd) ∧ x3.cell? ⟨bx, bo + i, none⟩ = some (.int .u8 (xi : Int))) := ⟨HVb_x3.out.c2, HX_x3.out⟩
    refine hK.out _ _ HD_x3.out (fun _ => ?_)
    clear hK K
    try simp only [mz1, mz2, mz3, Act.put, mz4, mz5, mz6]
    refine wtkq 10 ?vb10 rfl (by kernel_rfl) (fun _ _ _ h => h) (by rfl) ?yb10 HD_x3.out ?zb10
    case yb10 => (intro w hSw; (try dsimp only at hSw); go_simp; try with_reducible rfl)
    try simp only [mz1, mz2, mz3, Act.put, mz4, mz5, mz6]
    have f2 := HVb_x3.out.c2
    have ff2 := HVb_x3.out.free 2
    refine wpAnyH_done (by kernel_rfl) ?_ _
    refine qb3 rfl (fun K hK => ?_)
    go_simp
    refine hK.out _ _ ?_
    clear hK K
    try simp only [mz1, mz2, mz3, Act.put, mz4, mz5, mz6]
    go_wp2
    have HFin : SInv w (x3.setCell ⟨w1.heap.size, 2, none⟩ (.slice so2 (N + c + 1) dd2)) w1.heap.size r c n k (i + 1) a so2 dd2 (auf F X c) := by
     have gs := qa2 x3 w1.heap.size 2 (.slice so2 (N + c + 1) dd2)
     have eN : (i + 1) * (c + 1) = N + c + 1 := by rw [← HN.out, Nat.add_mul, Nat.one_mul]; omega
     have ho : Ob x3 (w.heap.size + 1) (.slice so2 (N + c + 1) dd2) (N + c + 1) (auf F X c) := by
      have h1 := HO2.out
      rw [← HN.out, ← HXi.out, qls] at h1
      rw [← HN.out] at *
      have e2 : (i + 1) * (c + 1) = i * (c + 1) + c + 1 := by rw [Nat.add_mul, Nat.one_mul]; omega
      rw [e2] at h1
      exact h1
     refine ⟨HVa_x3.out.kept gs (by omega), ?_, ?_, hlow, qa6 HB_x3.out gs (by omega)⟩
     ·rw [eN]; exact HVb_x3.out.set2 _
     ·rw [eN]; exact ho.kept gs (.inr (qak ho HVb_x3.out))
    exact ⟨⟨i + 1, so2, dd2, by omega, by go_num, HFin⟩, by simp [intOf]; omega⟩
   ·go_simp
    obtain ⟨x1, hwx1⟩ : ∃ x, Hid (x = x0.alloc (.cells #[.int .u8 (xi : Int)] 5)) := ⟨_, rfl⟩
    rw [← hwx1.out]
    have hbx1 : Below x0.heap.size x0 x1 := by rw [hwx1.out]; exact qa0 _ _
    have HC_x1 : Hid (Sl x1 (some ⟨x0.heap.size, 0, none⟩) 1 (fun _ => xi)) := by rw [hwx1.out]; exact one_sl x0 xi hxi
    have HX_x1 : Hid (x1.cell? ⟨bx, bo + i, none⟩ = some (.int .u8 (xi : Int))) := keepc hbx1 HX_x0.out
    have HB_x1 : Hid (Below w.heap.size w x1) := qa1 HB_x0.out hbx1
    have HVa_x1 : Hid (Vr x1 w.heap.size (.int .i64 (r : Int)) (.int .i64 (c : Int)) (.slice a n k)) := HVa_x0.out.later hbx1
    have HVb_x1 : Hid (Vr x1 w1.heap.size (.int .i64 (r : Int)) (.int .i64 ((c : Int) + 1)) (.slice so N dd)) := HVb_x0.out.later hbx1
    have HO_x1 : Hid (Ob x1 (w.heap.size + 1) (.slice so N dd) N (auf F X c)) := HO_x0.out.later hbx1
    have HS_x1 : Hid (Sl x1 s9 c (fun j => F (i * c + j))) := HS_x0.out.later hbx1
    have HD_x1 : Hid (x1.cell? ⟨w1.heap.size, 2, none⟩ = some (.slice so N dd) ∧ x1.cell? ⟨bx, bo + i, none⟩ = some (.int .u8 (xi : Int))) := ⟨HVb_x1.out.c2, HX_x1.out⟩
    refine hK.out _ _ HD_x1.out (fun _ => ?_)
    clear hK K
    try simp only [mz1, mz2, mz3, Act.put, mz4, mz5, mz6]
    refine wpAnyH_ready (rs := [3]) (by kernel_rfl) (by simp) ?_
    refine AllReadyH.cons rfl (fun K hK => ?_) AllReadyH.nil
    refine qao rfl _ _ rfl (w.heap.size + 1) N (.slice so N dd) (row N (auf F X c)).toList rfl HO_x1.out s9 c d9 (fun j => F (i * c + j)) rfl HS_x1.out HN9.out (by omega) (by have := HVb_x1.out.lt; omega) ?_
    intro v1 x2 hown hgrow
    obtain ⟨so1, dd1, ev1, _, _⟩ := qbi hown
    subst ev1
    have HO1_x2 : Hid (x2.ownsRow (w.heap.size + 1) 5 1 (.slice so1 (N + c) dd1) (N + c) ((row N (auf F X c)).toList ++ (row c (fun j => F (i * c + j))).toList)) := hown
    have HX_x2 : Hid (x2.cell? ⟨bx, bo + i, none⟩ = some (.int .u8 (xi : Int))) := keepg hgrow HX_x1.out (fun e => by have := qaa HO_x1.out _ e; omega)
    have HB_x2 : Hid (Below w.heap.size w x2) := by
     cases hv : (Value.slice so N dd).ownBlock with
     | none => rw [hv] at hgrow; exact qa1 HB_x1.out (qa4.mp hgrow)
     | some g => rw [hv] at hgrow; exact qa6 HB_x1.out hgrow (by have := qaa HO_x1.out _ hv; omega)
    have HVa_x2 : Hid (Vr x2 w.heap.size (.int .i64 (r : Int)) (.int .i64 (c : Int)) (.slice a n k)) := HVa_x1.out.grown hgrow (qak HO_x1.out HVa_x1.out)
    have HVb_x2 : Hid (Vr x2 w1.heap.size (.int .i64 (r : Int)) (.int .i64 ((c : Int) + 1)) (.slice so N dd)) := HVb_x1.out.grown hgrow (qak HO_x1.out HVb_x1.out)
    have HC_x2 : Hid (Sl x2 (some ⟨x0.heap.size, 0, none⟩) 1 (fun _ => xi)) := one_kept HC_x1.out hgrow HO_x0.out
    have HD_x2 : Hid (x2.cell? ⟨w1.heap.size, 2, none⟩ = some (.slice so N dd) ∧ x2.cell? ⟨bx, bo + i, none⟩ = some (.int .u8 (xi : Int))) := ⟨HVb_x2.out.c2, HX_x2.out⟩
    refine hK.out _ _ HD_x2.out (fun _ => ?_)
    clear hK K
    try simp only [mz1, mz2, mz3, Act.put, mz4, mz5, mz6]
    refine wpAnyH_ready (rs := [9]) (by kernel_rfl) (by simp) ?_
    refine AllReadyH.cons rfl (fun K hK => ?_) AllReadyH.nil
    refine qao rfl _ _ rfl (w.heap.size + 1) (N + c) (.slice so1 (N + c) dd1) _ rfl HO1_x2.out (some ⟨x0.heap.size, 0, none⟩) 1 1 (fun _ => xi) rfl HC_x2.out (fun e => by cases e) (by omega) (by have := HVb_x2.out.lt; omega) ?_
    intro v2 x3 hown2 hgrow2
    obtain ⟨so2, dd2, ev2, _, _⟩ := qbi hown2
    subst ev2
    have HO2 : Hid (x3.ownsRow (w.heap.size + 1) 5 1 (.slice so2 (N + c + 1) dd2) (N + c + 1) ((row N (auf F X c)).toList ++ (row c (fun j => F (i * c + j))).toList ++ (row 1 (fun _ => xi)).toList)) := hown2
    have HX_x3 : Hid (x3.cell? ⟨bx, bo + i, none⟩ = some (.int .u8 (xi : Int))) := keepg hgrow2 HX_x2.out (fun e => by have := qaa HO1_x2.out _ e; omega)
    have HB_x3 : Hid (Below w.heap.size w x3) := by
     cases hv : (Value.slice so1 (N + c) dd1).ownBlock with
     | none => rw [hv] at hgrow2; exact qa1 HB_x2.out (qa4.mp hgrow2)
     | some g => rw [hv] at hgrow2; exact qa6 HB_x2.out hgrow2 (by have := qaa HO1_x2.out _ hv; omega)
    have HVa_x3 : Hid (Vr x3 w.heap.size (.int .i64 (r : Int)) (.int .i64 (c : Int)) (.slice a n k)) := HVa_x2.out.grown hgrow2 (qde HO1_x2.out HVa_x2.out)
    have HVb_x3 : Hid (Vr x3 w1.heap.size (.int .i64 (r : Int)) (.int .i64 ((c : Int) + 1)) (.slice so N dd)) := HVb_x2.out.grown hgrow2 (qde HO1_x2.out HVb_x2.out)
    have HD_x3 : Hid (x3.cell? ⟨w1.heap.size, 2, none⟩ = some (.slice so N dd) ∧ x3.cell? ⟨bx, bo + i, none⟩ = some (.int .u8 (xi : Int))) := ⟨HVb_x3.out.c2, HX_x3.out⟩
    refine hK.out _ _ HD_x3.out (fun _ => ?_)
    clear hK K
    try simp only [mz1, mz2, mz3, Act.put, mz4, mz5, mz6]
    refine wtkq 10 ?vc10 rfl (by kernel_rfl) (fun _ _ _ h => h) (by rfl) ?yc10 HD_x3.out ?zc10
    case yc10 => (intro w hSw; (try dsimp only at hSw); go_simp; try with_reducible rfl)
    try simp only [mz1, mz2, mz3, Act.put, mz4, mz5, mz6]
    have f2 := HVb_x3.out.c2
    have ff2 := HVb_x3.out.free 2
    refine wpAnyH_done (by kernel_rfl) ?_ _
    refine qb3 rfl (fun K hK => ?_)
    go_simp
    refine hK.out _ _ ?_
    clear hK K
    try simp only [mz1, mz2, mz3, Act.put, mz4, mz5, mz6]
    go_wp2
    have HFin : SInv w (x3.setCell ⟨w1.heap.size, 2, none⟩ (.slice so2 (N + c + 1) dd2)) w1.heap.size r c n k (i + 1) a so2 dd2 (auf F X c) := by
     have gs := qa2 x3 w1.heap.size 2 (.slice so2 (N + c + 1) dd2)
     have eN : (i + 1) * (c + 1) = N + c + 1 := by rw [← HN.out, Nat.add_mul, Nat.one_mul]; omega
     have ho : Ob x3 (w.heap.size + 1) (.slice so2 (N + c + 1) dd2) (N + c + 1) (auf F X c) := by
      have h1 := HO2.out
      rw [← HN.out, ← HXi.out, qls] at h1
      rw [← HN.out] at *
      have e2 : (i + 1) * (c + 1) = i * (c + 1) + c + 1 := by rw [Nat.add_mul, Nat.one_mul]; omega
      rw [e2] at h1
      exact h1
     refine ⟨HVa_x3.out.kept gs (by omega), ?_, ?_, hlow, qa6 HB_x3.out gs (by omega)⟩
     ·rw [eN]; exact HVb_x3.out.set2 _
     ·rw [eN]; exact ho.kept gs (.inr (qak ho HVb_x3.out))
    exact ⟨⟨i + 1, so2, dd2, by omega, by go_num, HFin⟩, by simp [intOf]; omega⟩
  ·have HRI : Hid (i = r) := Nat.le_antisymm hir (by omega)
   have W : Wt r (c + 1) N := ⟨hr, by omega, by rw [← HN.out, HRI.out]⟩
   have HWt : Hid (Wt r (c + 1) N) := W
   have HVb : Hid (Vr wr w1.heap.size (.int .i64 (r : Int)) (.int .i64 ((c : Int) + 1)) (.slice so N dd)) := by have h1 := HI.out.vb; rw [HN.out] at h1; exact h1
   have HO : Hid (Ob wr (w.heap.size + 1) (.slice so N dd) N (auf F X c)) := by have h1 := HI.out.out; rw [HN.out] at h1; exact h1
   have HAl : Hid (∀ q, q < N → auf F X c q < 256) := fun q hq => auf_lt HSa.out.sl.1 HSb.out.1 HR.out q (by rw [W.len]; exact hq)
   have b0 := HVb.out.c0
   have b1 := HVb.out.c1
   have b2 := HVb.out.c2
   have hml : c ≤ maxLen := by unfold maxLen; omega
   clear W
   go_wp2_with (first
    | (go_at_call 92; refine (rwide_ok _ (w.heap.size + 1) r (c + 1) N dd so (auf F X c) HO.out HAl.out HWt.out).mono ?_; rintro e w5 ⟨v5, top, p, G, rfl, ho5, hp5, hG5, hR5, hS5, hc5, hg5⟩; obtain ⟨ps, pd, ev5, _⟩ := hp5.form; subst ev5; have HS5 : Hid (qes w (w5.alloc (.cells #[.int .i64 (r : Int), .int .i64 ((c : Int) + 1), .slice so N dd] 24)) w5.heap.size r c n k N dd top p a so (.slice ps top pd) G) := s2_begin HI.out.va HO.out ho5 hp5 HI.out.below hg5; have HG5 : Hid (∀ q, q < N → G q < 256) := hG5; have HRd : Hid (Rdf (m2 G r (c + 1)) r top p) := hR5; have HSp : Hid (SpEq (m2 G r (c + 1)) r (m2 (auf F X c) r (c + 1)) r) := hS5; have HPc : Hid (∀ i, i < top → p i < c + 1) := hc5; have y1 := HS5.out.va.c1; clear ho5 hp5 hG5 hR5 hS5 hc5 hg5)
    | (at_make; refine wpList_make_full _ rfl _ _ 22 rfl (w5.heap.size + 1) 5 i0 (.int .u8 0) 1 Tryz.underlying22 hi0 hz0 hz1 .i64 .i64 _ _ c rfl rfl rfl rfl (by rw [hz2]; omega) hml (by simp) ?_; intro w6 hown hgrow; have HR6 : Hid (RowAt w6 (w5.heap.size + 1) 5 c (fun _ => 0)) := by { show RowAt _ _ _ _ _; have := qby hown; simpa using this }; have HS6 : Hid (qes w w6 w5.heap.size r c n k N dd top p a so (.slice ps top pd) G) := HS5.out.later (qa4.mp hgrow); clear hown hgrow))
   have N1 : Hid ((Value.slice so N dd).ownBlock ≠ some (w5.heap.size + 1)) := fun e => by have := (HS5.out.data.base e).2; simp at this
   have N2 : Hid ((Value.slice ps top pd).ownBlock ≠ some (w5.heap.size + 1)) := fun e => by have := (HS5.out.piv.base e).2; simp at this
   have k1 : w.heap.size < w5.heap.size := HS5.out.low
   have htop : top ≤ 64 := by have := HRd.out.kr; omega
   obtain ⟨vv, HVV⟩ : ∃ f, Hid ((fun t => m2 G r (c + 1) t c) = f) := ⟨_, rfl⟩
   clear HI HS5 HVb HO b0 b1 b2 c0 c1 c2 y1
   go_loopw [14] (fun si wi => ∃ i : Nat, i ≤ top ∧ si = .int .i64 (i : Int) ∧ RowAt wi (w5.heap.size + 1) 5 c (pp p i vv) ∧ Hid (∀ t, t < i → p t < c) ∧ qes w wi w5.heap.size r c n k N dd top p a so (.slice ps top pd) G) (fun si _ => top - (intOf si).toNat)
   case atStart => exact ⟨0, by omega, rfl, HR6.out.congr (fun l _ => rfl), fun t ht => by omega, HS6.out⟩
   case round =>
    clear HR6 HS6
    obtain ⟨i, hit, rfl, hRow, HLt, I⟩ := hrel
    have HI : Hid (qes w wr w5.heap.size r c n k N dd top p a so (.slice ps top pd) G) := I
    have HRow : Hid (RowAt wr (w5.heap.size + 1) 5 c (pp p i vv)) := hRow
    clear hRow
    by_cases hlt2 : i < top
    ·obtain ⟨px, po, eps, hpc⟩ := I.piv.il i hlt2
     obtain ⟨pi, HPI⟩ : ∃ x, Hid (p i = x) := ⟨_, rfl⟩
     dsimp only at hpc
     rw [HPI.out] at hpc
     subst eps
     have hd1 := I.va.c1
     have p0 : (0 : Int) ≤ (i : Int) := by omega
     have p1 : (i : Int) < (top : Int) := by omega
     have HD : Hid (wr.drew.cell? ⟨w.heap.size, 1, none⟩ = some (.int .i64 (c : Int)) ∧ wr.drew.cell? ⟨px, po + i, none⟩ = some (.int .i64 (pi : Int))) := ⟨hd1, hpc⟩
     have HD2 : Hid (wr.drew.drew.cell? ⟨w.heap.size, 1, none⟩ = some (.int .i64 (c : Int)) ∧ wr.drew.drew.cell? ⟨px, po + i, none⟩ = some (.int .i64 (pi : Int)) ∧ wr.drew.drew.cell? ⟨w5.heap.size, 0, none⟩ = some (.int .i64 (r : Int)) ∧ wr.drew.drew.cell? ⟨w5.heap.size, 1, none⟩ = some (.int .i64 ((c : Int) + 1)) ∧ wr.drew.drew.cell? ⟨w5.heap.size, 2, none⟩ = some (.slice so N dd)) := ⟨hd1, hpc, I.vr.c0, I.vr.c1, I.vr.c2⟩
     have hpic1 := HPc.out i hlt2
     rw [HPI.out] at hpic1
     clear I
     by_cases hpic : pi = c
     ·have g1 : ((pi : Int) == (c : Int)) = true := by rw [hpic]; simp
      have HPC : Hid (p i = c) := by rw [HPI.out]; exact hpic
      clear hpic hd1 hpc
      go_wp2
      refine wp_region_held (S := fun w' => w'.cell? ⟨w.heap.size, 1, none⟩ = some (.int .i64 (c : Int)) ∧ w'.cell? ⟨px, po + i, none⟩ = some (.int .i64 (pi : Int))) (by kernel_rfl) ?_
      refine wtkq 0 ?vp0 rfl (by kernel_rfl) (fun _ _ _ h => h) (by rfl) ?yp0 HD.out ?zp0
      case yp0 => (intro w hSw; (try dsimp only at hSw); go_simp; try with_reducible rfl)
      try simp only [mz1, mz3, Act.put, mz4, mz5, mz6]
      refine wtkq 1 ?vp1 rfl (by kernel_rfl) (fun _ _ _ h => h) (by rfl) ?yp1 HD.out ?zp1
      case yp1 => (intro w hSw; (try dsimp only at hSw); go_simp; try with_reducible rfl)
      try simp only [mz1, mz2, mz3, Act.put, mz4, mz5, mz6]
      refine wtkq 2 ?vp2 rfl (by kernel_rfl) (fun _ _ _ h => h) (by rfl) ?yp2 HD.out ?zp2
      case yp2 => (intro w hSw; (try dsimp only at hSw); go_simp; try with_reducible rfl)
      try simp only [mz1, mz2, mz3, Act.put, mz4, mz5, mz6]
      refine wtkq 3 ?vp3 rfl (by kernel_rfl) (fun _ _ _ h => h) (by rfl) ?yp3 HD.out ?zp3
      case yp3 => (intro w hSw; (try dsimp only at hSw); go_simp; try with_reducible rfl)
      try simp only [mz1, mz2, mz3, Act.put, mz4, mz5, mz6]
      refine wtkq 4 ?vp4 rfl (by kernel_rfl) (fun _ _ _ h => h) (by rfl) ?yp4 HD.out ?zp4
      case yp4 => (intro w hSw; (try dsimp only at hSw); go_simp; try with_reducible rfl)
      try simp only [mz1, mz2, mz3, Act.put, mz4, mz5, mz6]
      refine wtkq 5 ?vp5 rfl (by kernel_rfl) (fun _ _ _ h => h) (by rfl) ?yp5 HD.out ?zp5
      case yp5 => (intro w hSw; (try dsimp only at hSw); go_simp; try with_reducible rfl)
      try simp only [mz1, mz2, mz3, Act.put, mz4, mz5, mz6]
      refine wtkq 6 ?vp6 rfl (by kernel_rfl) (fun _ _ _ h => h) (by rfl) ?yp6 HD.out ?zp6
      case yp6 => (intro w hSw; (try dsimp only at hSw); go_simp; try with_reducible rfl)
      try simp only [mz1, mz2, mz3, Act.put, mz4, mz5, mz6]
      refine wpAnyH_done (by kernel_rfl) ?_ _
      go_wp2
      go_ret3
      exact .inr ⟨rfl, sol_no HSa.out.sl.1 HSb.out.1 HR.out HRd.out HSp.out hlt2 HPC.out, qa1 HI.out.below (Below.refl _ _).drew⟩
     ·have g1 : ((pi : Int) == (c : Int)) = false := by simp; omega
      have hpi : pi < c := by omega
      clear hpic hd1 hpc
      have hirr : i < r := Nat.lt_of_lt_of_le hlt2 HRd.out.kr
      obtain ⟨y, HY⟩ : ∃ x, Hid (G (i * (c + 1) + c) = x) := ⟨_, rfl⟩
      have HYv : Hid (vv i = y) := by rw [← HVV.out]; show m2 G r (c + 1) i c = y; rw [qan _ hirr (by omega)]; exact HY.out
      have HAt : Hid (∀ w', Below wr.heap.size wr w' → Calls Tryz.prog 69 #[.agg #[.int .i64 (r : Int), .int .i64 ((c : Int) + 1), .slice so N dd], .int .i64 (i : Int), .int .i64 (c : Int)] w' fun e w'' => e = .returned (.int .u8 (y : Int)) ∧ Below w'.heap.size w' w'') := fun w' h' => qcz w' _ (c + 1) i c N dd y so G ((HI.out.data.later h').sl HG5.out) (HWt.out.at hirr (by omega)) hN HY
      have p2 : (0 : Int) ≤ (pi : Int) := by omega
      have p3 : (pi : Int) < (c : Int) := by omega
      go_wp2
      refine wp_region_held (S := fun w' => w'.cell? ⟨w.heap.size, 1, none⟩ = some (.int .i64 (c : Int)) ∧ w'.cell? ⟨px, po + i, none⟩ = some (.int .i64 (pi : Int))) (by kernel_rfl) ?_
      refine wtkq 0 ?vh0 rfl (by kernel_rfl) (fun _ _ _ h => h) (by rfl) ?yh0 HD.out ?zh0
      case yh0 => (intro w hSw; (try dsimp only at hSw); go_simp; try with_reducible rfl)
      try simp only [mz1, mz3, Act.put, mz4, mz5, mz6]
      refine wtkq 1 ?vh1 rfl (by kernel_rfl) (fun _ _ _ h => h) (by rfl) ?yh1 HD.out ?zh1
      case yh1 => (intro w hSw; (try dsimp only at hSw); go_simp; try with_reducible rfl)
      try simp only [mz1, mz2, mz3, Act.put, mz4, mz5, mz6]
      refine wtkq 2 ?vh2 rfl (by kernel_rfl) (fun _ _ _ h => h) (by rfl) ?yh2 HD.out ?zh2
      case yh2 => (intro w hSw; (try dsimp only at hSw); go_simp; try with_reducible rfl)
      try simp only [mz1, mz2, mz3, Act.put, mz4, mz5, mz6]
      refine wtkq 3 ?vh3 rfl (by kernel_rfl) (fun _ _ _ h => h) (by rfl) ?yh3 HD.out ?zh3
      case yh3 => (intro w hSw; (try dsimp only at hSw); go_simp; try with_reducible rfl)
      try simp only [mz1, mz2, mz3, Act.put, mz4, mz5, mz6]
      refine wtkq 4 ?vh4 rfl (by kernel_rfl) (fun _ _ _ h => h) (by rfl) ?yh4 HD.out ?zh4
      case yh4 => (intro w hSw; (try dsimp only at hSw); go_simp; try with_reducible rfl)
      try simp only [mz1, mz2, mz3, Act.put, mz4, mz5, mz6]
      refine wtkq 5 ?vh5 rfl (by kernel_rfl) (fun _ _ _ h => h) (by rfl) ?yh5 HD.out ?zh5
      case yh5 => (intro w hSw; (try dsimp only at hSw); go_simp; try with_reducible rfl)
      try simp only [mz1, mz2, mz3, Act.put, mz4, mz5, mz6]
      refine wtkq 6 ?vh6 rfl (by kernel_rfl) (fun _ _ _ h => h) (by rfl) ?yh6 HD.out ?zh6
      case yh6 => (intro w hSw; (try dsimp only at hSw); go_simp; try with_reducible rfl)
      try simp only [mz1, mz2, mz3, Act.put, mz4, mz5, mz6]
      refine wpAnyH_done (by kernel_rfl) ?_ _
      go_wp2
      refine qai (k := 11) (n := 11) (fun w' => w'.cell? ⟨w.heap.size, 1, none⟩ = some (.int .i64 (c : Int)) ∧ w'.cell? ⟨px, po + i, none⟩ = some (.int .i64 (pi : Int)) ∧ w'.cell? ⟨w5.heap.size, 0, none⟩ = some (.int .i64 (r : Int)) ∧ w'.cell? ⟨w5.heap.size, 1, none⟩ = some (.int .i64 ((c : Int) + 1)) ∧ w'.cell? ⟨w5.heap.size, 2, none⟩ = some (.slice so N dd)) (by kernel_rfl) (by kernel_rfl) (by decide) (by rfl) ?_
      refine wtkq 0 ?vk0 rfl (by kernel_rfl) (fun _ _ _ h => h) (by rfl) ?yk0 HD2.out ?zk0
      case yk0 => (intro w hSw; (try dsimp only at hSw); go_simp; try with_reducible rfl)
      try simp only [mz1, mz3, Act.put, mz4, mz5, mz6]
      refine wtkq 1 ?vk1 rfl (by kernel_rfl) (fun _ _ _ h => h) (by rfl) ?yk1 HD2.out ?zk1
      case yk1 => (intro w hSw; (try dsimp only at hSw); go_simp; try with_reducible rfl)
      try simp only [mz1, mz2, mz3, Act.put, mz4, mz5, mz6]
      refine wtkq 2 ?vk2 rfl (by kernel_rfl) (fun _ _ _ h => h) (by rfl) ?yk2 HD2.out ?zk2
      case yk2 => (intro w hSw; (try dsimp only at hSw); go_simp; try with_reducible rfl)
      try simp only [mz1, mz2, mz3, Act.put, mz4, mz5, mz6]
      refine wtkq 3 ?vk3 rfl (by kernel_rfl) (fun _ _ _ h => h) (by rfl) ?yk3 HD2.out ?zk3
      case yk3 => (intro w hSw; (try dsimp only at hSw); go_simp; try with_reducible rfl)
      try simp only [mz1, mz2, mz3, Act.put, mz4, mz5, mz6]
      refine wtkq 4 ?vk4 rfl (by kernel_rfl) (fun _ _ _ h => h) (by rfl) ?yk4 HD2.out ?zk4
      case yk4 => (intro w hSw; (try dsimp only at hSw); go_simp; try with_reducible rfl)
      try simp only [mz1, mz2, mz3, Act.put, mz4, mz5, mz6]
      refine wtkq 5 ?vk5 rfl (by kernel_rfl) (fun _ _ _ h => h) (by rfl) ?yk5 HD2.out ?zk5
      case yk5 => (intro w hSw; (try dsimp only at hSw); go_simp; try with_reducible rfl)
      try simp only [mz1, mz2, mz3, Act.put, mz4, mz5, mz6]
      refine wtkq 6 ?vk6 rfl (by kernel_rfl) (fun _ _ _ h => h) (by rfl) ?yk6 HD2.out ?zk6
      case yk6 => (intro w hSw; (try dsimp only at hSw); go_simp; try with_reducible rfl)
      try simp only [mz1, mz2, mz3, Act.put, mz4, mz5, mz6]
      refine wtkq 7 ?vk7 rfl (by kernel_rfl) (fun _ _ _ h => h) (by rfl) ?yk7 HD2.out ?zk7
      case yk7 => (intro w hSw; (try dsimp only at hSw); go_simp; try with_reducible rfl)
      try simp only [mz1, mz2, mz3, Act.put, mz4, mz5, mz6]
      refine wtkq 8 ?vk8 rfl (by kernel_rfl) (fun _ _ _ h => h) (by rfl) ?yk8 HD2.out ?zk8
      case yk8 => (intro w hSw; (try dsimp only at hSw); go_simp; try with_reducible rfl)
      try simp only [mz1, mz2, mz3, Act.put, mz4, mz5, mz6]
      refine wpAnyH_ready (rs := [9]) (by kernel_rfl) (by simp) ?_
      refine AllReadyH.cons rfl (fun K hK => ?_) AllReadyH.nil
      go_simp
      refine (HAt.out _ (qa1 (Below.refl _ _).drew (Below.refl _ _).drew)).mono ?_; rintro e w8 ⟨rfl, hb8⟩; have HD8 : Hid (w8.cell? ⟨w.heap.size, 1, none⟩ = some (.int .i64 (c : Int)) ∧ w8.cell? ⟨px, po + i, none⟩ = some (.int .i64 (pi : Int)) ∧ w8.cell? ⟨w5.heap.size, 0, none⟩ = some (.int .i64 (r : Int)) ∧ w8.cell? ⟨w5.heap.size, 1, none⟩ = some (.int .i64 ((c : Int) + 1)) ∧ w8.cell? ⟨w5.heap.size, 2, none⟩ = some (.slice so N dd)) := ⟨keepc hb8 HD2.out.1, keepc hb8 HD2.out.2.1, keepc hb8 HD2.out.2.2.1, keepc hb8 HD2.out.2.2.2.1, keepc hb8 HD2.out.2.2.2.2⟩; have HB8 : Hid (Below wr.heap.size wr w8) := qa1 (qa1 (Below.refl _ _).drew (Below.refl _ _).drew) hb8; clear hb8
      refine hK.out _ _ HD8.out (fun _ => ?_)
      clear hK K
      try simp only [mz1, mz2, mz3, Act.put, mz4, mz5, mz6]
      refine wtkq 10 ?vk10 rfl (by kernel_rfl) (fun _ _ _ h => h) (by rfl) ?yk10 HD8.out ?zk10
      case yk10 => (intro w hSw; (try dsimp only at hSw); go_simp; try with_reducible rfl)
      try simp only [mz1, mz2, mz3, Act.put, mz4, mz5, mz6]
      refine wpAnyH_done (by kernel_rfl) ?_ _
      have hcl := (HRow.out.later HB8.out).cell pi hpi
      have hfl := (HRow.out.later HB8.out).free pi
      refine qb3 rfl (fun K hK => ?_)
      go_simp
      refine hK.out _ _ ?_
      clear hK K
      try simp only [mz1, mz2, mz3, Act.put, mz4, mz5, mz6]
      go_wp2
      exact ⟨⟨i + 1, by omega, by go_num, ((HRow.out.later HB8.out).set pi y).congr (fun l _ => by rw [← HPI.out, ← HYv.out]; exact qdp HRd.out.up hlt2 vv l), fun t ht => by
       by_cases e : t = i
       ·rw [e, HPI.out]; exact hpi
       ·exact HLt.out t (by omega), (HI.out.later HB8.out).kept (qa2 _ _ _ _) (by omega) (by omega) N1.out N2.out⟩, by simp [intOf]; omega⟩
    ·have HIT : Hid (i = top) := Nat.le_antisymm hit (by omega)
     clear I
     go_wp2
     go_ret3
     have hx : SolA F X r c (pp p top vv) := by
      rw [← HVV.out]
      exact sol_yes HSa.out.sl.1 HSb.out.1 HR.out (by rw [HWt.out.len]; exact HG5.out) HRd.out HSp.out (fun t ht => HLt.out t (by rw [HIT.out]; exact ht))
     have ho := row_ob (B := w.heap.size) HRow.out (by omega) (by omega)
     rw [HIT.out] at ho
     exact .inl ⟨_, _, _, rfl, ho, hx, HI.out.below⟩
end Go.Proofs.YtblagbghpfopcaaGreat
