/-
  The rows of a matrix; a matrix of rows.
-/
import Derived.Test.YtokdejhbjoglcaaQssys00
import Derived.Test.YtokdejhbjoglcaaQssys43
set_option maxRecDepth 100000
set_option maxHeartbeats 16000000
namespace Go.Proofs.Ytokdejhbjoglcaa
open Go.RowKit
/-- What rowsOf's loop keeps. -/
structure RoI (w wr : World) (r c n k d g i : Nat) (a s : Option Addr) (F : Nat → Nat) : Prop where
 va : Vr wr w.heap.size (.int .i64 (r : Int)) (.int .i64 (c : Int)) (.slice a n k)
 rows : VAt wr g r (fun t => if t < i then .slice (pc s (t * c) c) c c else .slice none 0 0)
 data : Ob wr (w.heap.size + 1) (.slice s n d) n F
 base : w.heap.size + 1 ≤ g
 low : Below w.heap.size w wr
theorem RoI.drew {w wr : World} {r c n k d g i : Nat} {a s : Option Addr} {F : Nat → Nat} (h : RoI w wr r c n k d g i a s F) : RoI w wr.drew r c n k d g i a s F := ⟨h.va, h.rows, h.data, h.base, h.low.drew⟩
theorem grid_of {w wr : World} {r c n k d g : Nat} {a s : Option Addr} {F : Nat → Nat} (R : Rt r c n) (I : RoI w wr r c n k d g r a s F) (hF : ∀ i, i < n → F i < 256) : ∃ gd, Grid wr w.heap.size g gd r c (m2 F r c) ∧ w.heap.size ≤ gd ∧ gd < wr.heap.size := by
 have hrow : SRowAt wr g r (fun t => pc s (t * c) c) c := by
  have := I.rows.congr (v' := fun t => .slice (pc s (t * c) c) c c) (fun t ht => by rw [if_pos ht])
  exact this
 have hel : ∀ i l, i < r → l < c → m2 F r c i l < 256 := fun i l hi hl => by rw [qb9 F hi hl]; exact hF _ (R.at hi hl)
 by_cases hn : 0 < n
 ·obtain ⟨gd, rfl⟩ := I.data.some hn
  have hb : w.heap.size + 1 ≤ gd ∧ gd < wr.heap.size := I.data.base rfl
  refine ⟨gd, ⟨by have := I.base; omega, hel, _, hrow, fun hk _ => ⟨fun i => i, F, d, fun i hi => hi, fun i j _ _ e => e, fun i _ => qfe gd (i * c) c hk, ?_, fun i l hi hl => (qb9 F hi hl).symm⟩⟩, by omega, hb.2⟩
  have := (I.data.mono (B' := w.heap.size) (by omega))
  rw [R.len]
  exact this
 ·refine ⟨g, ⟨by have := I.base; omega, hel, _, hrow, fun hk hr => ?_⟩, by have := I.base; omega, I.rows.lt⟩
  have := R.len
  have := Nat.mul_pos hr hk
  omega
theorem qib (w : World) (r c n k : Nat) (a : Option Addr) (F : Nat → Nat) (ha : Sl w a n F) (R : Rt r c n) :
  Calls Try.prog 69 #[mv r c a n k] w fun e w' => ∃ gr gd, e = .returned (.slice (some ⟨gr, 0, none⟩) r r) ∧ Grid w' w.heap.size gr gd r c (m2 F r c) ∧ w.heap.size ≤ gd ∧ gd < w'.heap.size ∧ Below w.heap.size w w' := by
 have HA : Hid (Sl w a n F) := ha
 have HR : Hid (Rt r c n) := R
 have hn := R.le
 have hr := R.r64
 have hc := R.c64
 obtain ⟨i0, hi, hz0, hz1, hz2⟩ := info_parts info22
 have hml : r ≤ maxLen := by unfold maxLen; omega
 clear ha R
 go_enter Try.func69, Try.ntmps69
 go_wp2_with (first
  | (go_at_call 83; refine (clone_sl _ a n k F (HA.out.later (qa0 _ _)) hn).mono ?_; rintro e w1 ⟨s, d, rfl, ho1, hs1, hb1⟩; have HO1 : Hid (Ob w1 (w.heap.size + 1) (.slice s n d) n F) := by { show Ob _ _ _ _ _; have := ho1; simpa using this }; have HB1 : Hid (Below w.heap.size w w1) := qa1 (qa0 _ _) hb1; have HV1 : Hid (Vr w1 w.heap.size (.int .i64 (r : Int)) (.int .i64 (c : Int)) (.slice a n k)) := (Vr.new w _ _ _).later hb1; have v0 := HV1.out.c0; have v1 := HV1.out.c1; have lt1 := HV1.out.lt; clear ho1 hb1)
  | (at_make; refine wpList_make_full _ rfl _ _ 98 rfl w1.heap.size 22 i0 (.slice none 0 0) 1 Try.underlying98 hi hz0 hz1 .i64 .i64 _ _ r rfl rfl rfl rfl (by rw [hz2]; omega) hml (Nat.le_refl _) ?_; intro w2 hown hgrow; have HW2 : Hid (VAt w2 w1.heap.size r (fun _ => .slice none 0 0)) := vmade_at hown; have HB2 : Hid (Below w1.heap.size w1 w2) := qa8.mp hgrow; clear hown hgrow))
 have HI0 : Hid (RoI w w2 r c n k d w1.heap.size 0 a s F) := ⟨HV1.out.later HB2.out, HW2.out.congr (fun t _ => by rw [if_neg (by omega)]), HO1.out.later HB2.out, by omega, qa1 HB1.out HB2.out⟩
 clear HV1 HW2 HO1 HB1 HB2 v0 v1
 go_loopw [16] (fun si wr => ∃ i : Nat, i ≤ r ∧ si = .int .i64 (i : Int) ∧ Hid (RoI w wr r c n k d w1.heap.size i a s F)) (fun si _ => r - (intOf si).toNat)
 case atStart => exact ⟨0, by omega, rfl, HI0.out⟩
 case round =>
  clear HI0
  obtain ⟨i, hir, rfl, HI⟩ := hrel
  by_cases hlt : i < r
  ·obtain ⟨q, HQ⟩ : ∃ q, Hid (i * c = q) := ⟨_, rfl⟩
   have hfit : q + c ≤ n := by rw [← HQ.out]; exact HR.out.fit hlt
   obtain ⟨q2, HQ2⟩ : ∃ q2, Hid (q + c = q2) := ⟨_, rfl⟩
   have hq2 : q2 ≤ n := by rw [← HQ2.out]; exact hfit
   have hqq : q ≤ q2 := by rw [← HQ2.out]; omega
   have e1 : ((i : Int) * (c : Int)) = (q : Int) := by rw [← HQ.out]; simp
   have e2 : (((i : Int) + 1) * (c : Int)) = (q2 : Int) := by rw [Int.add_mul, e1, ← HQ2.out]; simp
   have w1' : IntKind.i64.wrap (q : Int) = (q : Int) := by rw [IntKind.wrap_i64]; omega
   have w2' : IntKind.i64.wrap (q2 : Int) = (q2 : Int) := by rw [IntKind.wrap_i64]; omega
   have w3' : IntKind.i64.wrap ((i : Int) + 1) = (i : Int) + 1 := by rw [IntKind.wrap_i64]; omega
   have v1 := HI.out.va.c1
   have hci := HI.out.rows.cell i hlt
   have hfi := HI.out.rows.free i
   have hnd := HI.out.data.room
   have HNX : Hid (∀ wr', wr' = wr.setCell ⟨w1.heap.size, i, none⟩ (.slice (pc s q c) c c) → RoI w wr' r c n k d w1.heap.size (i + 1) a s F) := by
    rintro _ rfl
    have I := HI.out
    have hs := qa2 wr w1.heap.size i (.slice (pc s q c) c c)
    have hne : (Value.slice s n d).ownBlock ≠ some w1.heap.size := fun e => by
     obtain ⟨cs, h3⟩ := ownb I.data e
     exact qcm I.rows h3 (by decide) rfl
    refine ⟨I.va.kept hs (by omega), (I.rows.set i _).congr (fun t _ => ?_), I.data.kept hs (.inr hne), I.base, qa9 I.low hs (by omega)⟩
    by_cases e : t = i
    ·rw [if_pos e, if_pos (by omega), e, HQ.out]
    ·rw [if_neg e]
     by_cases h : t < i
     ·rw [if_pos h, if_pos (by omega)]
     ·rw [if_neg h, if_neg (by omega)]
   go_wp2
   go_region
   by_cases hc0 : c = 0
   ·obtain rfl : q2 = q := by rw [← HQ2.out, hc0]; rfl
    have hpc : pc s q2 c = s := by rw [hc0]; rfl
    rw [hpc] at HNX
    have HC0 : Hid (c = 0) := hc0
    clear hpc hc0
    go_wp2
    exact ⟨⟨i + 1, by omega, by go_num, (HNX.out _ (by rw [HC0.out])).drew⟩, by simp [intOf]; omega⟩
   ·obtain ⟨gd, rfl⟩ := HI.out.data.some (by omega)
    have hpc : pc (some ⟨gd, 0, none⟩) q c = some ⟨gd, q, none⟩ := qfe gd q c (by omega)
    rw [hpc] at HNX
    have hlq : q < q2 := by rw [← HQ2.out]; omega
    have hcq : q2 - q = c := by rw [← HQ2.out]; omega
    clear hpc
    go_wp2
    exact ⟨⟨i + 1, by omega, by go_num, (HNX.out _ rfl).drew⟩, by simp [intOf]; omega⟩
  ·obtain rfl : i = r := by omega
   go_wp2
   go_ret
   obtain ⟨gd, h1, h2, h3⟩ := grid_of HR.out HI.out HA.out.1
   exact ⟨_, gd, rfl, h1, h2, h3, HI.out.low⟩
/-- A list that may be spoilt: of the call's own, its elements and the room behind them. -/
structure Frs (w : World) (B : Nat) (s : Option Addr) (n d : Nat) : Prop where
 room : n ≤ d
 cap : d ≤ maxLen
 nil : s = none → n = 0 ∧ d = 0
 own : ∀ x, s = some x → ∃ g, x = ⟨g, 0, none⟩ ∧ B ≤ g ∧ ∀ i, i < d → (∃ y : Int, w.cell? ⟨g, i, none⟩ = some (.int .u8 y)) ∧ w.frozen? ⟨g, i, none⟩ = false
theorem Frs.mt0 (w : World) (B : Nat) : Frs w B none 0 0 := ⟨Nat.le_refl _, by unfold maxLen; omega, fun _ => ⟨rfl, rfl⟩, fun x h => by cases h⟩
theorem Frs.mono {w : World} {B B' n d : Nat} {s : Option Addr} (h : Frs w B s n d) (hB : B' ≤ B) : Frs w B' s n d := ⟨h.room, h.cap, h.nil, fun x hx => by
 obtain ⟨g, e, hg, r⟩ := h.own x hx
 exact ⟨g, e, by omega, r⟩⟩
theorem Frs.later {w w' : World} {B n d : Nat} {s : Option Addr} (h : Frs w B s n d) (hb : Below w.heap.size w w') : Frs w' B s n d := ⟨h.room, h.cap, h.nil, fun x hx => by
 obtain ⟨g, e, hg, r⟩ := h.own x hx
 refine ⟨g, e, hg, fun i hi => ?_⟩
 obtain ⟨⟨y, hy⟩, hf⟩ := r i hi
 have hblk := hb.block g (qam hy)
 exact ⟨⟨y, by rw [World.cell?_of_block (a := ⟨g, i, none⟩) hblk]; exact hy⟩, by rw [World.frozen?_of_block (a := ⟨g, i, none⟩) hblk]; exact hf⟩⟩
theorem Frs.kept {w w' : World} {B b n d : Nat} {s : Option Addr} (h : Frs w B s n d) (hg : w.grownBy w' (some b)) (hb : b < B) : Frs w' B s n d := ⟨h.room, h.cap, h.nil, fun x hx => by
 obtain ⟨g, e, hB, r⟩ := h.own x hx
 refine ⟨g, e, hB, fun i hi => ?_⟩
 obtain ⟨⟨y, hy⟩, hf⟩ := r i hi
 have hblk := hg.block g (qam hy) (fun e => by cases e; omega)
 exact ⟨⟨y, by rw [World.cell?_of_block (a := ⟨g, i, none⟩) hblk]; exact hy⟩, by rw [World.frozen?_of_block (a := ⟨g, i, none⟩) hblk]; exact hf⟩⟩
theorem Frs.off {w : World} {B b n d : Nat} {s : Option Addr} (h : Frs w B s n d) (hb : b < B) : Off b s := fun x hx e => by
 obtain ⟨g, rfl, hB, _⟩ := h.own x hx
 dsimp only at e
 omega
/-- A list of n lists of k elements. -/
def Prt (w : World) (s : Option Addr) (n k : Nat) (F : Nat → Nat → Nat) : Prop := ∀ i, i < n → ∃ b o a q, s = some ⟨b, o, none⟩ ∧ w.cell? ⟨b, o + i, none⟩ = some (.slice a k q) ∧ Sl w a k (F i) ∧ (a = none → k = 0)
theorem Grid.prt {w : World} {B gr gd n k : Nat} {F : Nat → Nat → Nat} (h : Grid w B gr gd n k F) : Prt w (some ⟨gr, 0, none⟩) n k F := fun i hi => by
 obtain ⟨a, hc, hs, ho⟩ := h.row hi
 refine ⟨gr, 0, a, k, rfl, by rw [Nat.zero_add]; exact hc, hs, fun e => ?_⟩
 by_cases hk : 0 < k
 ·obtain ⟨o, e2⟩ := ho hk
  rw [e] at e2; cases e2
 ·omega
end Go.Proofs.Ytokdejhbjoglcaa
