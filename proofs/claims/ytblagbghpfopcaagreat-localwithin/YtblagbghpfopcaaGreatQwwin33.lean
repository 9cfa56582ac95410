/-
  The rows of a matrix; a matrix of rows.
-/
import Derived.Test.YtblagbghpfopcaaGreatQwwin00
import Derived.Test.YtblagbghpfopcaaGreatQwwin32
set_option maxRecDepth 100000
set_option maxHeartbeats 16000000
namespace Go.Proofs.YtblagbghpfopcaaGreat
open Go.RowKit
/-- What rowsOf's loop keeps. -/
structure RoI (w wr : World) (r c n k d g i : Nat) (a s : Option Addr) (F : Nat → Nat) : Prop where
 va : Vr wr w.heap.size (.int .i64 (r : Int)) (.int .i64 (c : Int)) (.slice a n k)
 rows : VAt wr g r (fun t => if t < i then .slice (pc s (t * c) c) c c else .slice none 0 0)
 data : Ob wr (w.heap.size + 1) (.slice s n d) n F
 base : w.heap.size + 1 ≤ g
 low : Below w.heap.size w wr
theorem RoI.drew {w wr : World} {r c n k d g i : Nat} {a s : Option Addr} {F : Nat → Nat} (h : RoI w wr r c n k d g i a s F) : RoI w wr.drew r c n k d g i a s F := ⟨h.va, h.rows, h.data, h.base, h.low.drew⟩
theorem grid_of {w wr : World} {r c n k d g : Nat} {a s : Option Addr} {F : Nat → Nat} (R : Rt r c n) (I : RoI w wr r c n k d g r a s F) (hF : ∀ i, i < n → F i < 256) : ∃ gd, Grid wr w.heap.size g gd r c (m2 F r c) ∧ w.heap.size ≤ gd ∧ gd < wr.heap.size := by
 have hrow : SRowAt wr g r (fun t => pc s (t * c) c) c := by
  have := I.rows.congr (v' := fun t => .slice (pc s (t * c) c) c c) (fun t ht => by rw [if_pos ht])
  exact this
 have hel : ∀ i l, i < r → l < c → m2 F r c i l < 256 := fun i l hi hl => by rw [qb1 F hi hl]; exact hF _ (R.at hi hl)
 by_cases hn : 0 < n
 ·obtain ⟨gd, rfl⟩ := I.data.some hn
  have hb : w.heap.size + 1 ≤ gd ∧ gd < wr.heap.size := I.data.base rfl
  refine ⟨gd, ⟨by have := I.base; omega, hel, _, hrow, fun hk _ => ⟨fun i => i, F, d, fun i hi => hi, fun i j _ _ e => e, fun i _ => qia gd (i * c) c hk, ?_, fun i l hi hl => (qb1 F hi hl).symm⟩⟩, by omega, hb.2⟩
  have := (I.data.mono (B' := w.heap.size) (by omega))
  rw [R.len]
  exact this
 ·refine ⟨g, ⟨by have := I.base; omega, hel, _, hrow, fun hk hr => ?_⟩, by have := I.base; omega, I.rows.lt⟩
  have := R.len
  have := Nat.mul_pos hr hk
  omega
theorem qes (w : World) (r c n k : Nat) (a : Option Addr) (F : Nat → Nat) (ha : Sl w a n F) (R : Rt r c n) :
  Calls Tryz.prog 91 #[mv r c a n k] w fun e w' => ∃ gr gd, e = .returned (.slice (some ⟨gr, 0, none⟩) r r) ∧ Grid w' w.heap.size gr gd r c (m2 F r c) ∧ w.heap.size ≤ gd ∧ gd < w'.heap.size ∧ Below w.heap.size w w' := by
 have HA : Hid (Sl w a n F) := ha
 have HR : Hid (Rt r c n) := R
 have hn := R.le
 have hr := R.r64
 have hc := R.c64
 obtain ⟨i0, hi, hz0, hz1, hz2⟩ := info_parts info22
 have hml : r ≤ maxLen := by unfold maxLen; omega
 clear ha R
 go_enter Tryz.func91, Tryz.ntmps91
 go_wp2_with (first
  | (go_at_call 65; refine (clone_sl _ a n k F (HA.out.later (qa1 _ _)) hn).mono ?_; rintro e w1 ⟨s, d, rfl, ho1, hs1, hb1⟩; have HO1 : Hid (Ob w1 (w.heap.size + 1) (.slice s n d) n F) := by { show Ob _ _ _ _ _; have := ho1; simpa using this }; have HB1 : Hid (Below w.heap.size w w1) := qa0 (qa1 _ _) hb1; have HV1 : Hid (Vr w1 w.heap.size (.int .i64 (r : Int)) (.int .i64 (c : Int)) (.slice a n k)) := (Vr.new w _ _ _).later hb1; have v0 := HV1.out.c0; have v1 := HV1.out.c1; have lt1 := HV1.out.lt; clear ho1 hb1)
  | (at_make; refine wpList_make_full _ rfl _ _ 120 rfl w1.heap.size 22 i0 (.slice none 0 0) 1 Tryz.underlying120 hi hz0 hz1 .i64 .i64 _ _ r rfl rfl rfl rfl (by rw [hz2]; omega) hml (Nat.le_refl _) ?_; intro w2 hown hgrow; have HW2 : Hid (VAt w2 w1.heap.size r (fun _ => .slice none 0 0)) := vmade_at hown; have HB2 : Hid (Below w1.heap.size w1 w2) := qa8.mp hgrow; clear hown hgrow))
 have HI0 : Hid (RoI w w2 r c n k d w1.heap.size 0 a s F) := ⟨HV1.out.later HB2.out, HW2.out.congr (fun t _ => by rw [if_neg (by omega)]), HO1.out.later HB2.out, by omega, qa0 HB1.out HB2.out⟩
 clear HV1 HW2 HO1 HB1 HB2 v0 v1
 go_loopw [16] (fun si wr => ∃ i : Nat, i ≤ r ∧ si = .int .i64 (i : Int) ∧ Hid (RoI w wr r c n k d w1.heap.size i a s F)) (fun si _ => r - (intOf si).toNat)
 case atStart => exact ⟨0, by omega, rfl, HI0.out⟩
 case round =>
  clear HI0
  obtain ⟨i, hir, rfl, HI⟩ := hrel
  by_cases hlt : i < r
  ·obtain ⟨q, HQ⟩ : ∃ q, Hid (i * c = q) := ⟨_, rfl⟩
   have hfit : q + c ≤ n := by rw [← HQ.out]; exact HR.out.fit hlt
   obtain ⟨q2, HQ2⟩ : ∃ q2, Hid (q + c = q2) := ⟨_, rfl⟩
   have hq2 : q2 ≤ n := by rw [← HQ2.out]; exact hfit
   have hqq : q ≤ q2 := by rw [← HQ2.out]; omega
   have e1 : ((i : Int) * (c : Int)) = (q : Int) := by rw [← HQ.out]; simp
   have e2 : (((i : Int) + 1) * (c : Int)) = (q2 : Int) := by rw [Int.add_mul, e1, ← HQ2.out]; simp
   have w1' : IntKind.i64.wrap (q : Int) = (q : Int) := by rw [IntKind.wrap_i64]; omega
   have w2' : IntKind.i64.wrap (q2 : Int) = (q2 : Int) := by rw [IntKind.wrap_i64]; omega
   have w3' : IntKind.i64.wrap ((i : Int) + 1) = (i : Int) + 1 := by rw [IntKind.wrap_i64]; omega
   have v1 := HI.out.va.c1
   have hci := HI.out.rows.cell i hlt
   have hfi := HI.out.rows.free i
   have hnd := HI.out.data.room
   have HNX : Hid (∀ wr', wr' = wr.setCell ⟨w1.heap.size, i, none⟩ (.slice (pc s q c) c c) → RoI w wr' r c n k d w1.heap.size (i + 1) a s F) := by
    rintro _ rfl
    have I := HI.out
    have hs := qa3 wr w1.heap.size i (.slice (pc s q c) c c)
    have hne : (Value.slice s n d).ownBlock ≠ some w1.heap.size := fun e => by
     obtain ⟨cs, h3⟩ := ownb I.data e
     exact qdj I.rows h3 (by decide) rfl
    refine ⟨I.va.kept hs (by omega), (I.rows.set i _).congr (fun t _ => ?_), I.data.kept hs (.inr hne), I.base, qa9 I.low hs (by omega)⟩
    by_cases e : t = i
    ·rw [if_pos e, if_pos (by omega), e, HQ.out]
    ·rw [if_neg e]
     by_cases h : t < i
     ·rw [if_pos h, if_pos (by omega)]
     ·rw [if_neg h, if_neg (by omega)]
   go_wp2
   go_region
   by_cases hc0 : c = 0
   ·obtain rfl : q2 = q := by rw [← HQ2.out, hc0]; rfl
    have hpc : pc s q2 c = s := by rw [hc0]; rfl
    rw [hpc] at HNX
    have HC0 : Hid (c = 0) := hc0
    clear hpc hc0
    go_wp2
    exact ⟨⟨i + 1, by omega, by go_num, (HNX.out _ (by rw [HC0.out])).drew⟩, by simp [intOf]; omega⟩
   ·obtain ⟨gd, rfl⟩ := HI.out.data.some (by omega)
    have hpc : pc (some ⟨gd, 0, none⟩) q c = some ⟨gd, q, none⟩ := qia gd q c (by omega)
    rw [hpc] at HNX
    have hlq : q < q2 := by rw [← HQ2.out]; omega
    have hcq : q2 - q = c := by rw [← HQ2.out]; omega
    clear hpc
    go_wp2
    exact ⟨⟨i + 1, by omega, by go_num, (HNX.out _ rfl).drew⟩, by simp [intOf]; omega⟩
  ·obtain rfl : i = r := by omega
   go_wp2
   go_ret
   obtain ⟨gd, h1, h2, h3⟩ := grid_of HR.out HI.out HA.out.1
   exact ⟨_, gd, rfl, h1, h2, h3, HI.out.low⟩
/-- A list that may be spoilt: of the call's own, its elements and the room behind them. -/
structure Frs (w : World) (B : Nat) (s : Option Addr) (n d : Nat) : Prop where
 room : n ≤ d
 cap : d ≤ maxLen
 nil : s = none → n = 0 ∧ d = 0
 own : ∀ x, s = some x → ∃ g, x = ⟨g, 0, none⟩ ∧ B ≤ g ∧ ∀ i, i < d → (∃ y : Int, w.cell? ⟨g, i, none⟩ = some (.int .u8 y)) ∧ w.frozen? ⟨g, i, none⟩ = false
theorem Frs.mt0 (w : World) (B : Nat) : Frs w B none 0 0 := ⟨Nat.le_refl _, by unfold maxLen; omega, fun _ => ⟨rfl, rfl⟩, fun x h => by cases h⟩
theorem Frs.mono {w : World} {B B' n d : Nat} {s : Option Addr} (h : Frs w B s n d) (hB : B' ≤ B) : Frs w B' s n d := ⟨h.room, h.cap, h.nil, fun x hx => by
 obtain ⟨g, e, hg, r⟩ := h.own x hx
 exact ⟨g, e, by omega, r⟩⟩
theorem Frs.later {w w' : World} {B n d : Nat} {s : Option Addr} (h : Frs w B s n d) (hb : Below w.heap.size w w') : Frs w' B s n d := ⟨h.room, h.cap, h.nil, fun x hx => by
 obtain ⟨g, e, hg, r⟩ := h.own x hx
 refine ⟨g, e, hg, fun i hi => ?_⟩
 obtain ⟨⟨y, hy⟩, hf⟩ := r i hi
 have hblk := hb.block g (qas hy)
 exact ⟨⟨y, by rw [World.cell?_of_block (a := ⟨g, i, none⟩) hblk]; exact hy⟩, by rw [World.frozen?_of_block (a := ⟨g, i, none⟩) hblk]; exact hf⟩⟩
theorem Frs.kept {w w' : World} {B b n d : Nat} {s : Option Addr} (h : Frs w B s n d) (hg : w.grownBy w' (some b)) (hb : b < B) : Frs w' B s n d := ⟨h.room, h.cap, h.nil, fun x hx => by
 obtain ⟨g, e, hB, r⟩ := h.own x hx
 refine ⟨g, e, hB, fun i hi => ?_⟩
 obtain ⟨⟨y, hy⟩, hf⟩ := r i hi
 have hblk := hg.block g (qas hy) (fun e => by cases e; omega)
 exact ⟨⟨y, by rw [World.cell?_of_block (a := ⟨g, i, none⟩) hblk]; exact hy⟩, by rw [World.frozen?_of_block (a := ⟨g, i, none⟩) hblk]; exact hf⟩⟩
theorem Frs.off {w : World} {B b n d : Nat} {s : Option Addr} (h : Frs w B s n d) (hb : b < B) : Off b s := fun x hx e => by
 obtain ⟨g, rfl, hB, _⟩ := h.own x hx
 dsimp only at e
 omega
/-- A list of n lists of k elements. -/
def Prt (w : World) (s : Option Addr) (n k : Nat) (F : Nat → Nat → Nat) : Prop := ∀ i, i < n → ∃ b o a q, s = some ⟨b, o, none⟩ ∧ w.cell? ⟨b, o + i, none⟩ = some (.slice a k q) ∧ Sl w a k (F i) ∧ (a = none → k = 0)
theorem Grid.prt {w : World} {B gr gd n k : Nat} {F : Nat → Nat → Nat} (h : Grid w B gr gd n k F) : Prt w (some ⟨gr, 0, none⟩) n k F := fun i hi => by
 obtain ⟨a, hc, hs, ho⟩ := h.row hi
 refine ⟨gr, 0, a, k, rfl, by rw [Nat.zero_add]; exact hc, hs, fun e => ?_⟩
 by_cases hk : 0 < k
 ·obtain ⟨o, e2⟩ := ho hk
  rw [e] at e2; cases e2
 ·omega
def flt (n k : Nat) (F : Nat → Nat → Nat) : List UInt8 := (List.range (n * k)).map fun q => UInt8.ofNat (F (q / k) (q % k))
theorem qil (n k : Nat) (F : Nat → Nat → Nat) : flt (n + 1) k F = flt n k F ++ (List.range k).map (fun l => UInt8.ofNat (F n l)) := by
 unfold flt
 rw [Nat.add_mul, Nat.one_mul, List.range_add, List.map_append, List.map_map]
 congr 1
 apply List.map_congr_left
 intro l hl
 have hl' : l < k := by simpa using hl
 show UInt8.ofNat (F ((n * k + l) / k) ((n * k + l) % k)) = _
 rw [dm1 hl', dm2 hl']
def lss (n k : Nat) (F : Nat → Nat → Nat) : List (List UInt8) := (List.range n).map fun i => (List.range k).map fun l => UInt8.ofNat (F i l)
theorem join_lss (n k : Nat) (F : Nat → Nat → Nat) : Lib.join (lss n k F) [] = flt n k F := by
 have h0 : ∀ xs : List (List UInt8), Lib.join xs [] = xs.flatten := fun xs => by
  cases xs with
  | nil => rfl
  | cons x r =>
   rw [Lib.join_cons]
   simp [Lib.joinTail]
 rw [h0]
 induction n with
 | zero => simp [lss, flt]
 | succ n ih =>
  rw [qil, ← ih]
  simp [lss, List.range_succ]
theorem lens_lss (n k : Nat) (F : Nat → Nat → Nat) : Lib.lens (lss n k F) = n * k := by
 induction n with
 | zero => simp [lss, Lib.lens]
 | succ n ih =>
  have : lss (n + 1) k F = lss n k F ++ [(List.range k).map fun l => UInt8.ofNat (F n l)] := by simp [lss, List.range_succ]
  rw [this]
  unfold Lib.lens at *
  rw [List.map_append, List.sum_append, ih, Nat.add_mul, Nat.one_mul]
  simp
theorem flt_get {n k i l : Nat} (F : Nat → Nat → Nat) (hi : i < n) (hl : l < k) : (flt n k F)[i * k + l]? = some (UInt8.ofNat (F i l)) := by
 have h : i * k + l < n * k := by have := qdz (k := k) hi; omega
 unfold flt
 rw [List.getElem?_map, List.getElem?_range h]
 show some (UInt8.ofNat (F ((i * k + l) / k) ((i * k + l) % k))) = _
 rw [dm1 hl, dm2 hl]
theorem qly (n k : Nat) (F : Nat → Nat → Nat) : (flt n k F).length = n * k := by simp [flt]
/-- Bytes that are new, as a list with room. -/
theorem qfg {w w' : World} {v : Value} {n k : Nat} {F : Nat → Nat → Nat} (hF : ∀ i l, i < n → l < k → F i l < 256) (h : Lib.FreshBytes w.heap.size w' v (flt n k F)) : ∃ s d G, v = .slice s (n * k) d ∧ Mt w' s (n * k) d G ∧ (∀ i l, i < n → l < k → G (i * k + l) = F i l) ∧ Frs w' w.heap.size s (n * k) d := by
 obtain ⟨g, cap, zs, rfl, hg, hle, hmax, hz, hb, hby, hc, hf⟩ := h
 rw [qly] at hle hby
 have hin : ∀ q, q < cap → 0 ≤ zs.getD q 0 ∧ zs.getD q 0 < 256 := fun q hq => by
  have : zs.getD q 0 ∈ zs := by
   rw [List.getD_eq_getElem?_getD, List.getElem?_eq_getElem (by omega)]
   exact List.getElem_mem _
  exact hb _ this
 refine ⟨some ⟨g, 0, none⟩, cap, fun q => (zs.getD q 0).toNat, by rw [qly], ⟨⟨fun q hq => ?_, fun q hq => ⟨g, 0, rfl, ?_⟩⟩, hle, fun e => by cases e⟩, fun i l hi hl => ?_, ⟨hle, hmax, (fun e => by cases e), fun x hx => ?_⟩⟩
 ·have := hin q (by omega)
  show (zs.getD q 0).toNat < 256
  omega
 ·rw [Nat.zero_add, hc q (by omega)]
  have := hin q (by omega)
  congr 2
  show zs.getD q 0 = ((zs.getD q 0).toNat : Int)
  omega
 ·have hq : i * k + l < n * k := by have := qdz (k := k) hi; omega
  have e1 := flt_get F hi hl
  rw [← hby] at e1
  unfold Lib.bytesOf at e1
  rw [List.getElem?_map, List.getElem?_take, if_pos hq, List.getElem?_eq_getElem (by omega)] at e1
  have e2 := congrArg UInt8.toNat (Option.some.inj e1)
  have h3 := hin (i * k + l) (by omega)
  rw [List.getD_eq_getElem?_getD, List.getElem?_eq_getElem (by omega)] at h3
  simp only [Option.getD_some] at h3
  show (zs.getD (i * k + l) 0).toNat = F i l
  rw [List.getD_eq_getElem?_getD, List.getElem?_eq_getElem (by omega)]
  simp only [Option.getD_some]
  have h4 := hF i l hi hl
  rw [UInt8.toNat_ofNat', UInt8.toNat_ofNat', Nat.mod_eq_of_lt (by omega), Nat.mod_eq_of_lt (by omega)] at e2
  exact e2
 ·cases hx
  exact ⟨g, rfl, hg, fun i hi => ⟨⟨_, hc i hi⟩, hf i hi⟩⟩
/-- bytes.Join of lists of one length. -/
theorem join_prt (w : World) (s : Option Addr) (n q k : Nat) (F : Nat → Nat → Nat) (h : Prt w s n k F) (hq : n ≤ q) (hn : n ≤ 64) (hk : k ≤ 64) :
  Calls Tryz.prog 112 #[.slice s n q, .slice none 0 0] w fun e w' => ∃ t d G, e = .returned (.slice t (n * k) d) ∧ Mt w' t (n * k) d G ∧ (∀ i l, i < n → l < k → G (i * k + l) = F i l) ∧ Frs w' w.heap.size t (n * k) d ∧ Below w.heap.size w w' := by
 have hF : ∀ i l, i < n → l < k → F i l < 256 := fun i l hi hl => by
  obtain ⟨_, _, _, _, _, _, hs, _⟩ := h i hi
  exact hs.1 l hl
 have hb8 : ∀ (i : Nat) (l : Nat) (x : UInt8), i < n → ((List.range k).map fun l => UInt8.ofNat (F i l))[l]? = some x → l < k ∧ x.toNat = F i l := fun i l x hi hx => by
  have hl : l < k := by
   have := (List.getElem?_eq_some_iff.1 hx).1
   simpa using this
  rw [List.getElem?_map, List.getElem?_range hl] at hx
  cases hx
  refine ⟨hl, ?_⟩
  have := hF i l hi hl
  show (UInt8.ofNat (F i l)).toNat = _
  rw [UInt8.toNat_ofNat', Nat.mod_eq_of_lt (by omega)]
 have hnk : n * k ≤ 4096 := Nat.mul_le_mul hn hk
 rcases (by omega : n = 0 ∨ n = 1 ∨ 2 ≤ n) with rfl | rfl | h2
 ·refine (Any.bytes_Join_none laysJ s q _ w).mono (fun e w' hx => ?_)
  obtain ⟨rfl, rfl⟩ := hx
  rw [Nat.zero_mul]
  refine ⟨_, 0, fun _ => 0, rfl, ⟨⟨fun i hi => by omega, fun i hi => by omega⟩, Nat.le_refl _, fun e => by cases e⟩, fun i l hi => by omega, ⟨Nat.le_refl _, by unfold maxLen; omega, (fun e => by cases e), fun x hx => ?_⟩, qa1 _ _⟩
  cases hx
  exact ⟨_, rfl, Nat.le_refl _, fun i hi => by omega⟩
 ·obtain ⟨b, o, a, c0, rfl, hcell, hs, ha⟩ := h 0 (by omega)
  by_cases hk0 : k = 0
  ·subst hk0
   refine (Any.bytes_Join_one_empty laysJ b o q a c0 _ w hcell).mono (fun e w' hx => ?_)
   obtain ⟨rfl, rfl⟩ := hx
   exact ⟨none, 0, fun _ => 0, rfl, Mt.none _ _, fun i l _ hl => by omega, Frs.mt0 _ _, Below.refl _ _⟩
  ·cases a with
   | none => exact absurd (ha rfl) hk0
   | some ad =>
    have hl0 : ((List.range k).map fun l => UInt8.ofNat (F 0 l)).length = k := by simp
    refine (Any.bytes_Join_one laysJ b o q ad c0 ((List.range k).map fun l => UInt8.ofNat (F 0 l)) _ w (by rw [hl0]; exact hcell) (fun i x hx => ?_) (by rw [hl0]; omega) (by rw [hl0]; omega)).mono (fun e w' hx => ?_)
    ·obtain ⟨hi, e1⟩ := hb8 0 i x (by omega) hx
     obtain ⟨b2, o2, e2, hc2⟩ := hs.2 i hi
     cases e2
     rw [add_plain, hc2, e1]
    ·obtain ⟨v, rfl, hfr, hbl⟩ := hx
     have e1 : ((List.range k).map fun l => UInt8.ofNat (F 0 l)) = flt 1 k F := by
      rw [qil]
      simp [flt]
     rw [e1] at hfr
     obtain ⟨t, d, G, rfl, hm, hG, hfs⟩ := qfg hF hfr
     exact ⟨t, d, G, rfl, hm, hG, hfs, hbl⟩
 ·obtain ⟨b, o, _, _, rfl, _, _, _⟩ := h 0 (by omega)
  have hA : ∃ (A : Nat → Option Addr) (Q : Nat → Nat), ∀ i, i < n → w.cell? ⟨b, o + i, none⟩ = some (.slice (A i) k (Q i)) ∧ Sl w (A i) k (F i) ∧ (A i = none → k = 0) := by
   have hx : ∀ i, ∃ (p : Option Addr × Nat), i < n → w.cell? ⟨b, o + i, none⟩ = some (.slice p.1 k p.2) ∧ Sl w p.1 k (F i) ∧ (p.1 = none → k = 0) := fun i => by
    by_cases hi : i < n
    ·obtain ⟨b', o', a, q', e, h1, h2, h3⟩ := h i hi
     cases e
     exact ⟨(a, q'), fun _ => ⟨h1, h2, h3⟩⟩
    ·exact ⟨(none, 0), fun hi' => absurd hi' hi⟩
   obtain ⟨f, hf⟩ := Classical.axiomOfChoice hx
   exact ⟨fun i => (f i).1, fun i => (f i).2, hf⟩
  obtain ⟨A, Q, hA⟩ := hA
  have hlen : (lss n k F).length = n := by simp [lss]
  have hval : ∀ i v, ((List.range n).map fun i => Value.slice (A i) k (Q i))[i]? = some v → i < n ∧ v = .slice (A i) k (Q i) := fun i v hv => by
   have hi : i < n := by
    have := (List.getElem?_eq_some_iff.1 hv).1
    simpa using this
   rw [List.getElem?_map, List.getElem?_range hi] at hv
   cases hv
   exact ⟨hi, rfl⟩
  refine (Any.bytes_Join_many laysJ b o n q ((List.range n).map fun i => .slice (A i) k (Q i)) (lss n k F) (.slice none 0 0) [] w hlen h2 ⟨by simp [lss], fun i v hv => ?_, fun i v l hv hl => ?_⟩ hq ⟨none, 0, rfl, fun _ => rfl, fun a e => by cases e⟩ (by omega) (by rw [lens_lss]; simp; omega)).mono (fun e w' hx => ?_)
  ·obtain ⟨hi, rfl⟩ := hval i v hv
   rw [add_plain]
   exact (hA i hi).1
  ·obtain ⟨hi, rfl⟩ := hval i v hv
   have el : l = (List.range k).map fun l => UInt8.ofNat (F i l) := by
    unfold lss at hl
    rw [List.getElem?_map, List.getElem?_range hi] at hl
    exact (Option.some.inj hl).symm
   subst el
   refine ⟨A i, Q i, by simp, fun e => ?_, fun ad e j x hx => ?_⟩
   ·have := (hA i hi).2.2 e
    subst this
    rfl
   ·obtain ⟨hj, e1⟩ := hb8 i j x hi hx
    obtain ⟨b2, o2, e2, hc2⟩ := (hA i hi).2.1.2 j hj
    rw [e] at e2
    cases e2
    rw [add_plain, hc2, e1]
  ·obtain ⟨v, rfl, hfr, hbl⟩ := hx
   rw [join_lss] at hfr
   obtain ⟨t, d, G, rfl, hm, hG, hfs⟩ := qfg hF hfr
   exact ⟨t, d, G, rfl, hm, hG, hfs, hbl⟩
theorem qlz (w : World) (s : Option Addr) (n q k : Nat) (F : Nat → Nat → Nat) (h : Prt w s n k F) (hq : n ≤ q) (hn : n ≤ 64) (hk : k ≤ 64) :
  Calls Tryz.prog 88 #[.slice s n q, .int .i64 (k : Int)] w fun e w' => ∃ t d G, e = .returned (mv n k t (n * k) d) ∧ Mt w' t (n * k) d G ∧ (∀ i l, i < n → l < k → G (i * k + l) = F i l) ∧ Frs w' w.heap.size t (n * k) d ∧ Below w.heap.size w w' := by
 have HJ : Hid (∀ w', Below w.heap.size w w' → Calls Tryz.prog 112 #[.slice s n q, .slice none 0 0] w' fun e w'' => ∃ t d G, e = .returned (.slice t (n * k) d) ∧ Mt w'' t (n * k) d G ∧ (∀ i l, i < n → l < k → G (i * k + l) = F i l) ∧ Frs w'' w'.heap.size t (n * k) d ∧ Below w'.heap.size w' w'') := fun w' hb => join_prt w' s n q k F (fun i hi => by
  obtain ⟨b, o, a, q', e, h1, h2, h3⟩ := h i hi
  exact ⟨b, o, a, q', e, qah hb h1, h2.later hb, h3⟩) hq hn hk
 obtain ⟨N, HN⟩ : ∃ N, Hid (n * k = N) := ⟨_, rfl⟩
 rw [HN.out] at HJ ⊢
 clear h
 go_enter Tryz.func88, Tryz.ntmps88
 go_wp2_with (first
  | (go_at_call 112; refine (HJ.out _ (qa1 _ _)).mono ?_; rintro e w1 ⟨t, d, G, rfl, hm, hG, hf, hb⟩; have HM : Hid (Mt w1 t N d G) := hm; have HG : Hid (∀ i l, i < n → l < k → G (i * k + l) = F i l) := hG; have HF : Hid (Frs w1 (w.heap.size + 1) t N d) := by { show Frs _ _ _ _ _; have := hf; simpa using this }; have HB : Hid (Below w.heap.size w w1) := qa0 (qa1 _ _) hb; have HV : Hid (Vr w1 w.heap.size (.int .i64 0) (.int .i64 0) (.slice none 0 0)) := (Vr.new w _ _ _).later hb; clear hm hG hf hb)
  | (refine qa6 rfl _ _ rfl w.heap.size _ _ _ (.int .i64 (n : Int)) (.int .i64 (k : Int)) (.slice t N d) rfl rfl HV.out rfl rfl rfl ?_; intro w2 HV2 HG2))
 have c0 := HV2.out.c0
 have c1 := HV2.out.c1
 have c2 := HV2.out.c2
 refine bodyPost_ret (v := mv n k t N d) (by simp [results, Tryz.results88, go_sem, c0, c1, c2, mv]) rfl ?_
 exact ⟨t, d, G, rfl, HM.out.kept HG2.out (fun _ => HF.out.off (by omega)), HG.out, (HF.out.kept HG2.out (by omega)).mono (by omega), qa9 HB.out HG2.out (Nat.le_refl _)⟩
end Go.Proofs.YtblagbghpfopcaaGreat
