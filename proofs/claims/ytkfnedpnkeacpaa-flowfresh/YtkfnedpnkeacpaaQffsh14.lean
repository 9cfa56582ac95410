/-
  Stage 21: numbers that have a property, in order; usedColumns.
-/
import Derived.Test.YtkfnedpnkeacpaaQffsh00
import Derived.Test.YtkfnedpnkeacpaaQffsh11
import Derived.Test.YtkfnedpnkeacpaaQffsh13
set_option maxRecDepth 100000
set_option maxHeartbeats 16000000
namespace Go.Proofs.Ytkfnedpnkeacpaa
open Go.RowKit
/-- f lists the numbers below j that have P, in order; there are n. -/
structure En (P : Nat → Prop) (j n : Nat) (f : Nat → Nat) : Prop where
 lt : ∀ i, i < n → f i < j
 has : ∀ i, i < n → P (f i)
 up : ∀ i k, i < k → k < n → f i < f k
 all : ∀ x, x < j → P x → ∃ i, i < n ∧ f i = x
theorem En.nil (P : Nat → Prop) (f : Nat → Nat) : En P 0 0 f := ⟨fun i h => by omega, fun i h => by omega, fun i k _ h => by omega, fun x h => by omega⟩
theorem En.yes {P : Nat → Prop} {j n : Nat} {f : Nat → Nat} (h : En P j n f) (hj : P j) : En P (j + 1) (n + 1) (fun i => if i = n then j else f i) := by
 refine ⟨fun i hi => ?_, fun i hi => ?_, fun i k hik hk => ?_, fun x hx hP => ?_⟩
 ·show (if i = n then j else f i) < _
  by_cases e : i = n
  ·rw [if_pos e]; omega
  ·rw [if_neg e]; have := h.lt i (by omega); omega
 ·show P (if i = n then j else f i)
  by_cases e : i = n
  ·rw [if_pos e]; exact hj
  ·rw [if_neg e]; exact h.has i (by omega)
 ·show (if i = n then j else f i) < (if k = n then j else f k)
  rw [if_neg (by omega : ¬ i = n)]
  by_cases e : k = n
  ·rw [if_pos e]; exact h.lt i (by omega)
  ·rw [if_neg e]; exact h.up i k hik (by omega)
 ·by_cases e : x = j
  ·exact ⟨n, by omega, by show (if n = n then j else f n) = x; rw [if_pos rfl, e]⟩
  ·obtain ⟨i, hi, hf⟩ := h.all x (by omega) hP
   exact ⟨i, by omega, by show (if i = n then j else f i) = x; rw [if_neg (by omega), hf]⟩
theorem En.no {P : Nat → Prop} {j n : Nat} {f : Nat → Nat} (h : En P j n f) (hj : ¬ P j) : En P (j + 1) n f :=
 ⟨fun i hi => by have := h.lt i hi; omega, h.has, h.up, fun x hx hP => h.all x (by
  by_cases e : x = j
  ·exact absurd (e ▸ hP) hj
  ·omega) hP⟩
theorem En.congr {P : Nat → Prop} {j n : Nat} {f g : Nat → Nat} (h : En P j n f) (e : ∀ i, i < n → f i = g i) : En P j n g :=
 ⟨fun i hi => by rw [← e i hi]; exact h.lt i hi, fun i hi => by rw [← e i hi]; exact h.has i hi, fun i k hik hk => by rw [← e i (by omega), ← e k hk]; exact h.up i k hik hk, fun x hx hP => by
  obtain ⟨i, hi, hf⟩ := h.all x hx hP
  exact ⟨i, hi, by rw [← e i hi]; exact hf⟩⟩
theorem En.iff {P Q : Nat → Prop} {j n : Nat} {f : Nat → Nat} (h : En P j n f) (e : ∀ x, x < j → (P x ↔ Q x)) : En Q j n f :=
 ⟨h.lt, fun i hi => (e _ (h.lt i hi)).1 (h.has i hi), h.up, fun x hx hQ => h.all x hx ((e x hx).2 hQ)⟩
theorem En.ge {P : Nat → Prop} {j n : Nat} {f : Nat → Nat} (h : En P j n f) : ∀ i, i < n → i ≤ f i := by
 intro i
 induction i with
 | zero => intro _; omega
 | succ i ih => intro hi; have := ih (by omega); have := h.up i (i + 1) (by omega) hi; omega
theorem En.le {P : Nat → Prop} {j n : Nat} {f : Nat → Nat} (h : En P j n f) : n ≤ j := by
 by_cases h0 : n = 0
 ·omega
 ·have h1 := h.ge (n - 1) (by omega)
  have h2 := h.lt (n - 1) (by omega)
  omega
theorem En.same {P : Nat → Prop} {j n m : Nat} {f g : Nat → Nat} (h : En P j n f) (k : En P j m g) : ∀ i, i < n → i < m ∧ f i = g i := by
 intro i
 induction i using Nat.strongRecOn with
 | ind i ih =>
  intro hi
  obtain ⟨a, ha, ea⟩ := k.all (f i) (h.lt i hi) (h.has i hi)
  have hia : i ≤ a := by
   by_cases hlt : a < i
   ·have h1 := (ih a hlt (by omega)).2
    have h2 := h.up a i hlt hi
    omega
   ·omega
  have him : i < m := by omega
  refine ⟨him, ?_⟩
  obtain ⟨b, hb, eb⟩ := h.all (g i) (k.lt i him) (k.has i him)
  have hib : i ≤ b := by
   by_cases hlt : b < i
   ·have h1 := (ih b hlt (by omega)).2
    have h2 := k.up b i hlt him
    omega
   ·omega
  by_cases e1 : a = i
  ·rw [← ea, e1]
  ·have h1 := k.up i a (by omega) ha
   by_cases e2 : b = i
   ·rw [← eb, e2]
   ·have h2 := h.up i b (by omega) hb
    omega
theorem En.one {P : Nat → Prop} {j n m : Nat} {f g : Nat → Nat} (h : En P j n f) (k : En P j m g) : n = m ∧ ∀ i, i < n → f i = g i := by
 refine ⟨?_, fun i hi => (h.same k i hi).2⟩
 by_cases e : n < m
 ·have := (k.same h n e).1; omega
 ·by_cases e2 : m < n
  ·have := (h.same k m e2).1; omega
  ·omega
theorem qcj {w w2 : World} {B n : Nat} {T : TypeId} {K : IntKind} {v v' : Value} {f : Nat → Nat} {x : Nat} {o : Obj} (h : Jo w B T K v n f) (hB : B ≤ w.heap.size)
  (hown : w2.ownsRow B T 1 v' (n + 1) ((jrow K n f).toList ++ [.int K (x : Int)])) (hg : (w.alloc o).grownBy w2 v.ownBlock) : Jo w2 B T K v' (n + 1) (fun i => if i = n then x else f i) ∧ Below B w w2 := by
 refine ⟨?_, ?_⟩
 ·unfold Jo
  rw [← qf0]
  exact hown
 ·have h1 : Below B w (w.alloc o) := (jlow w o).mono hB
  exact h1.trans (jbelow hg (by have := (jlow w o).size; omega) (fun g hg' => (h.base hg').1))
/-- A column that is not all 0. -/
def UsP (r c : Nat) (F : Nat → Nat) (j : Nat) : Prop := ∃ i, i < r ∧ F (i * c + j) ≠ 0
theorem qcw (w : World) (r c n k : Nat) (a : Option Addr) (F : Nat → Nat) (ha : Mt w a n k F) (R : Rt r c n) :
  Calls Try.prog 30 #[mv r c a n k] w fun e w' => ∃ v m f, e = .returned v ∧ Jo w' (w.heap.size + 1) 3 .i64 v m f ∧ En (UsP r c F) c m f ∧ Below w.heap.size w w' := by
 obtain ⟨i0, hi0, hz0, hz1, hz2⟩ := info_parts ji64
 have HM := qa0 ha
 have HRt := qa0 R
 have hr := R.r64
 have hc := R.c64
 have HB0 := qa0 (jlow w (.cells #[.int .i64 (r : Int), .int .i64 (c : Int), .slice a n k] 24))
 have HV0 := qa0 (Vf.new w 24 #[.int .i64 (r : Int), .int .i64 (c : Int), .slice a n k])
 have HJ0 : Hid (Jo (w.alloc (.cells #[.int .i64 (r : Int), .int .i64 (c : Int), .slice a n k] 24)) (w.heap.size + 1) 3 .i64 (.slice none 0 0) 0 (fun _ => 0)) := Jo.nil _ _ _ _ _
 clear ha R
 go_enter Try.func30, Try.ntmps30
 go_wp2
 go_step3
 go_wp2
 go_step3
 go_wp2
 go_loopw [3, 4, 5, 8, 13] (fun v _ _ vi _ wr => ∃ (j m : Nat) (f : Nat → Nat), j ≤ c ∧ vi = .int .i64 (j : Int) ∧ Jo wr (w.heap.size + 1) 3 .i64 v m f ∧ En (UsP r c F) j m f ∧ Vf wr w.heap.size 24 #[.int .i64 (r : Int), .int .i64 (c : Int), .slice a n k] ∧ Below w.heap.size w wr) (fun _ _ _ vi _ _ => c - (intOf vi).toNat)
 case atStart => exact ⟨0, 0, _, by omega, rfl, HJ0.out, En.nil _ _, HV0.out, HB0.out⟩
 case round =>
  clear HB0 HV0 HJ0
  obtain ⟨j, m, f, hj, rfl, hjo, he, hv, hb⟩ := hrel
  obtain ⟨ps, pd, rfl, hpn⟩ := hjo.form
  have HJ := qa0 hjo
  have HE := qa0 he
  have HV := qa0 hv
  have HB := qa0 hb
  have x0 := hv.cell 0 (.int .i64 (r : Int)) rfl
  have x1 := hv.cell 1 (.int .i64 (c : Int)) rfl
  have x2 := hv.cell 2 (.slice a n k) rfl
  have hmj := he.le
  have hwsz := hb.size
  have hvl := hv.lt
  clear hjo he hv
  by_cases hlt : j < c
  ·have p0 : (0 : Int) ≤ (j : Int) := by omega
   have p1 : (j : Int) < (c : Int) := by omega
   go_wp2
   go_loop [3, 5, 13] (fun v _ vi => ∃ i : Nat, i ≤ r ∧ vi = .int .i64 (i : Int) ∧ v = .slice ps m pd ∧ Hid (∀ l, l < i → F (l * c + j) = 0)) (fun _ _ vi => r - (intOf vi).toNat)
   case atStart => exact ⟨0, by omega, rfl, rfl, fun l hl => by omega⟩
   case round =>
    obtain ⟨i, hi, rfl, rfl, HL⟩ := hrel
    by_cases hlt2 : i < r
    ·obtain ⟨q, HQ⟩ : ∃ q, Hid (i * c = q) := ⟨_, rfl⟩
     obtain ⟨s, HS⟩ : ∃ s, Hid (q + j = s) := ⟨_, rfl⟩
     have hs : s < n := by rw [← HS.out, ← HQ.out]; exact HRt.out.at hlt2 hlt
     have hn4 := HRt.out.le
     have e1 : ((i : Int) * (c : Int)) = (q : Int) := by rw [← HQ.out]; simp
     have e2 : ((q : Int) + (j : Int)) = (s : Int) := by rw [← HS.out]; simp
     have hqs : q ≤ s := by rw [← HS.out]; omega
     have w1' : IntKind.i64.wrap (q : Int) = (q : Int) := by rw [IntKind.wrap_i64]; omega
     have w2' : IntKind.i64.wrap (s : Int) = (s : Int) := by rw [IntKind.wrap_i64]; omega
     obtain ⟨bx, ox, rfl, hcx⟩ := (HM.out.sl.later hb).2 s hs
     obtain ⟨y, HY⟩ : ∃ y, Hid (F s = y) := ⟨_, rfl⟩
     rw [HY.out] at hcx
     have q0 : (0 : Int) ≤ (s : Int) := by omega
     have q1 : (s : Int) < (n : Int) := by omega
     clear hb
     by_cases hy : y = 0
     ·subst hy
      go_wp2
      exact ⟨⟨i + 1, by omega, by go_num, rfl, fun l hl => by
       by_cases e : l = i
       ·rw [e, HQ.out, HS.out]; exact HY.out
       ·exact HL.out l (by omega)⟩, by simp [intOf]; omega⟩
     ·have hyb : ((y : Int) == 0) = false := by simpa using hy
      have hyb2 : ((y : Int) != 0) = true := by simpa using hy
      have HU : Hid (UsP r c F j) := ⟨i, hlt2, by rw [HQ.out, HS.out, HY.out]; exact hy⟩
      have hml2 : m + 1 ≤ maxLen := by unfold maxLen; omega
      go_wp2_with (at_builtin; refine wpList_append_own _ rfl _ _ 25 rfl (w.heap.size + 1) 3 i0 (.int .i64 0) 1 8 Try.underlying25 hi0 hz0 hz1 hz2 rfl (by decide) _ m _ rfl (World.ownsRow.alloc HJ.out _) ⟨wr.heap.size, 0, none⟩ 1 1 [.int .i64 (j : Int)] rfl rfl (qb9 _ _ _ _) (qba _ _) hml2 (by omega) (by simp; omega) ?_; intro v' w6 hown' hgrow' _; have HO6 := qcj HJ.out (by omega) hown' hgrow'; clear hown' hgrow')
      exact ⟨⟨j + 1, m + 1, _, by omega, by go_num, HO6.1, HE.out.yes HU.out, HV.out.under HO6.2 (by omega), HB.out.trans (HO6.2.mono (by omega))⟩, by simp [intOf]; omega⟩
    ·obtain rfl : i = r := by omega
     have HU : Hid (¬ UsP i c F j) := fun ⟨l, hl, hx⟩ => hx (HL.out l hl)
     clear hb
     go_wp2
     exact ⟨⟨j + 1, m, f, by omega, by go_num, HJ.out, HE.out.no HU.out, HV.out, HB.out⟩, by simp [intOf]; omega⟩
  ·obtain rfl : j = c := by omega
   clear hb
   go_wp2
   try rw [Exit.noGoto_ret]
   go_ret
   exact ⟨_, m, f, rfl, HJ.out, HE.out, HB.out⟩
end Go.Proofs.Ytkfnedpnkeacpaa
