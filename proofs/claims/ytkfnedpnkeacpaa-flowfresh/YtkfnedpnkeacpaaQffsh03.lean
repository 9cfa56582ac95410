/-
  Contracts of Scale, Mac.
  Contracts of the reference's Dot, Scale, Mac.
  Contract of the reference's Mac.
  From what a law's shell tells of a slice that came in to what the contracts ask.
-/
import Derived.Test.YtkfnedpnkeacpaaQffsh00
import Derived.Test.YtkfnedpnkeacpaaQffsh02
import Derived.Deep.QuietTactic
import Derived.BigQuiet
import Derived.Deep.RegionHeld3
import Derived.Deep.AppendLies
set_option maxRecDepth 100000
set_option maxHeartbeats 16000000
namespace Go.Proofs.Ytkfnedpnkeacpaa
open Go.RowKit
theorem below_grown {w w1 w2 : World} (h1 : Below w.heap.size w w1) (h2 : w1.grownBy w2 (some w.heap.size)) : Below w.heap.size w w2 :=
 h1.grown h2 h1.size (fun k hk => by cases hk; exact Nat.le_refl _)
theorem qew (w : World) (a : Option Addr) (n c ca : Nat) (h : Nat → Nat) (hc : c < 256) (ha : Sl w a n h) (hn : n ≤ 140737488351232) :
  Calls Try.prog 60 #[.int .u8 (c : Int), .slice a n ca] w fun e w' => e = .returned (.slice (some ⟨w.heap.size, 0, none⟩) n n) ∧ RowAt w' w.heap.size 5 n (fun i => fm c (h i)) ∧ Below w.heap.size w w' := by
 obtain ⟨i0, hi, hz0, hz1, hz2⟩ := info_parts qcr
 have hml : n ≤ maxLen := by unfold maxLen; omega
 have HA : Hid (Sl w a n h) := ha
 clear ha
 go_enter Try.func60, Try.ntmps60
 go_wp2_with (first
  | (at_make; refine wpList_make_full _ rfl _ _ 22 rfl w.heap.size 5 i0 (.int .u8 0) 1 Try.underlying22 hi hz0 hz1 .i64 .i64 _ _ n rfl rfl rfl rfl (by rw [hz2]; omega) hml (Nat.le_refl _) ?_; intro w1 hown hgrow; have HR : Hid _ := made_at hown; have HB : Hid _ := qag.mp hgrow; clear hown hgrow)
  | (go_at_call 61; refine (addp_any _ w.heap.size n n c ca a (fun _ => 0) h hc HR.out (fun _ _ => by decide) (HA.out.later HB.out) (qbw HA.out (Nat.le_refl _)) hn).mono ?_; rintro e w2 ⟨rfl, hr2, hg2⟩))
 go_ret
 exact ⟨rfl, RowAt.congr (by assumption) (fun i _ => Nat.zero_xor _), below_grown HB.out (by assumption)⟩
open Go.RowKit
theorem row_snoc (k : Nat) (f : Nat → Nat) : (row k f).toList ++ [.int .u8 (f k : Nat)] = (row (k + 1) f).toList := by
 simp [row, List.range_succ]
theorem qby (f : Nat → Nat) : (row 0 f).toList = [] := by simp [row]
theorem qac {w : World} {base : Nat} {e : TypeId} {s : Nat} {v : Value} {n : Nat} {xs : List Value} (h : w.ownsRow base e s v n xs) : ∀ k, v.ownBlock = some k → base ≤ k := by
 intro k hk
 rcases h.2 with ⟨rfl, _⟩ | ⟨g, cap, cur, rfl, hb, _⟩
 ·simp [Value.ownBlock] at hk
 ·simp [Value.ownBlock] at hk; omega
theorem one_new (w : World) (t : TypeId) (x : Nat) : ∀ j u, [Value.int .u8 (x : Int)][j]? = some u → (w.alloc (.cells #[.int .u8 (x : Int)] t)).cell? ((⟨w.heap.size, 0, none⟩ : Addr).add j) = some u := by
 intro j u hj
 match j, hj with
 | 0, hj => simp at hj; subst hj; simp [Addr.add]
theorem one_one (x : Nat) : ∀ u ∈ [Value.int .u8 (x : Int)], u.oneCell' = true := by intro u hu; simp at hu; subst hu; rfl
theorem rmul_at (a b : Nat) (w : World) (ha : a < 256) (hb : b < 256) : Calls Try.prog 55 #[.int .u8 (a : Int), .int .u8 (b : Int)] w fun e w' => e = .returned (.int .u8 (fm a b : Nat)) ∧ w = w' :=
 (rmul_nat a b w ha hb).mono fun _ _ h => ⟨h.1, h.2.symm⟩
open Go.RowKit
theorem rmac_any (w : World) (a b : Option Addr) (n c ca cb : Nat) (f h : Nat → Nat) (hc : c < 256) (ha : Sl w a n f) (hb : Sl w b n h) (hn : n ≤ 140737488351232) :
    Calls Try.prog 41 #[.slice a n ca, .int .u8 (c : Int), .slice b n cb] w fun e w' => ∃ v, e = .returned (.tuple #[v, .int .i64 0]) ∧ w'.ownsRow w.heap.size 5 1 v n (row n (fun i => f i ^^^ fm c (h i))).toList ∧ Below w.heap.size w w' := by
  obtain ⟨i0, hi, hz0, hz1, hz2⟩ := info_parts qcr
  have HA : Hid (Sl w a n f) := ha
  have HS : Hid (Sl w b n h) := hb
  clear ha hb
  obtain ⟨p, HP⟩ : ∃ p : Nat → Nat, Hid ((fun i => f i ^^^ fm c (h i)) = p) := ⟨_, rfl⟩
  rw [HP.out]
  go_enter Try.func41, Try.ntmps41
  go_wp2
  go_loopw [8, 9] (fun v i wr => ∃ k : Nat, k ≤ n ∧ i = .int .i64 (k : Int) ∧ wr.ownsRow w.heap.size 5 1 v k (row k p).toList ∧ Below w.heap.size w wr) (fun _ i _ => n - (intOf i).toNat)
  case atStart => exact ⟨0, by omega, rfl, by rw [qby]; exact World.ownsRow_nil _ _ _ _, Below.refl _ _⟩
  case round =>
    obtain ⟨k, hk, rfl, hown, hbr⟩ := hrel
    by_cases hlt : k < n
    · obtain ⟨ba, oa, ea, hca⟩ := (HA.out.later hbr).2 k hlt
      obtain ⟨bb, ob, eb, hcb⟩ := (HS.out.later hbr).2 k hlt
      obtain ⟨x, HX⟩ : ∃ x, Hid (f k = x) := ⟨_, rfl⟩
      obtain ⟨y, HY⟩ : ∃ y, Hid (h k = y) := ⟨_, rfl⟩
      obtain ⟨z, HZ⟩ : ∃ z, Hid (fm c (h k) = z) := ⟨_, rfl⟩
      obtain ⟨pk, HPK⟩ : ∃ z, Hid (p k = z) := ⟨_, rfl⟩
      rw [HX.out] at hca
      rw [HY.out] at hcb
      have hx : x < 256 := by rw [← HX.out]; exact HA.out.1 k hlt
      have hy : h k < 256 := HS.out.1 k hlt
      have hz : z < 256 := by rw [← HZ.out]; exact qch _ _ hc
      have hxo : bits .xor .u8 (x : Int) (z : Int) = (pk : Int) := by
        rw [u8_xor_nat x z hx hz, ← HX.out, ← HZ.out, ← HPK.out, ← HP.out]
      have HMul : Hid (∀ w, Calls Try.prog 55 #[.int .u8 (c : Int), .int .u8 (y : Int)] w fun e w' => e = .returned (.int .u8 (z : Int)) ∧ w = w') := by
        rw [← HZ.out, ← HY.out]; exact fun w => rmul_at c (h k) w hc hy
      have HO : Hid (wr.ownsRow w.heap.size 5 1 u8 k (row k p).toList) := hown
      have HB : Hid (Below w.heap.size w wr) := hbr
      have hsz := hbr.size
      have hml : k + 1 ≤ maxLen := by unfold maxLen; omega
      have la : ba < w.heap.size := by
        obtain ⟨b', o', e', hc'⟩ := HA.out.2 k hlt
        rw [ea] at e'; cases e'; exact qa5 hc'
      have lb : bb < w.heap.size := by
        obtain ⟨b', o', e', hc'⟩ := HS.out.2 k hlt
        rw [eb] at e'; cases e'; exact qa5 hc'
      have ak : u8.ownBlock ≠ some ba := fun e => by have := qac hown ba e; omega
      have av : u8.ownBlock ≠ some bb := fun e => by have := qac hown bb e; omega
      have k0 : (0 : Int) ≤ (k : Int) := Int.natCast_nonneg _
      have k1 : (k : Int) < (n : Int) := by omega
      clear HA HS hown hbr hy
      subst ea eb
      go_wp2
      go_region_held3 (fun w' => w'.cell? ⟨ba, oa + k, none⟩ = some (.int .u8 (x : Int)) ∧ w'.cell? ⟨bb, ob + k, none⟩ = some (.int .u8 (y : Int)))
        (first
          | go_keep
          | (go_split_ands
             refine ⟨?_, ?_⟩
             · (rw [hgrow.cell_far _ (by simp; omega) (Ne.symm ak)]; assumption)
             · (rw [hgrow.cell_far _ (by simp; omega) (Ne.symm av)]; assumption)))
        (first
          | (go_at_call 55; refine (HMul.out _).mono ?_; rintro e w' ⟨rfl, rfl⟩)
          | (refine step_append_lies _ (by rfl) _ _ _ (by rfl) w.heap.size 5 i0 _ 1 1 Try.underlying22 hi hz0 hz1 hz2 rfl (by omega) u8 k (row k p).toList (by rfl) ((HO.out.alloc _).drew) ⟨wr.heap.size, 0, none⟩ 1 1 [.int .u8 (pk : Int)] (by rfl) (by rfl) (one_new _ _ _) (one_one _) (by omega) hml (by omega) (by simp; omega) (wr.heap.size + 1) (by simp) ?_; intro gg cap w1 hown1 hgrow hat hlt1))
      have HO3 : Hid (w1.ownsRow w.heap.size 5 1 (.slice (some ⟨gg, 0, none⟩) (k + 1) cap) (k + 1) ((row k p).toList ++ [.int .u8 (pk : Int)])) := hown1
      have HB3 : Hid (Below w.heap.size w w1) := ((HB.out.alloc hsz _).drew).grown hgrow (by show _ ≤ (wr.alloc _).heap.size; simp; omega) (qac HO.out)
      rename_i hheld
      clear hown1 hgrow hat hheld
      go_wp2
      exact ⟨⟨k + 1, by omega, by go_num, by rw [← row_snoc, HPK.out]; exact HO3.out, HB3.out⟩, by simp [intOf]; omega⟩
    · obtain rfl : k = n := by omega
      go_wp2
      go_ret2
      exact ⟨_, rfl, hown, hbr⟩
/-- What is owned reads as a list. -/
theorem qbl {w : World} {base : Nat} {v : Value} {n : Nat} {f : Nat → Nat} (h : w.ownsRow base 5 1 v n (row n f).toList) (hf : ∀ i, i < n → f i < 256) : ∃ a c, v = .slice a n c ∧ Sl w a n f ∧ From base a := by
 rcases h.2 with ⟨rfl, rfl⟩ | ⟨g, cap, cur, rfl, hb, hg, _, _, _, htake⟩
 ·exact ⟨none, 0, rfl, Sl.nil _ _ _, fun x hx => by cases hx⟩
 ·refine ⟨_, cap, rfl, ⟨hf, fun i hi => ⟨g, 0, rfl, ?_⟩⟩, fun x hx => by cases hx; exact hb⟩
  rw [Nat.zero_add, cell_of_row w g i cur _ _ hg]
  have e : (cur.toList.take (n * 1))[i]? = (row n f).toList[i]? := by rw [htake]
  rw [List.getElem?_take, if_pos (by omega)] at e
  rw [Array.getElem?_toList, Array.getElem?_toList, qd5 n f i hi] at e
  exact e
open Go.RowKit
theorem qcs (w : World) (a : Option Addr) (len cap : Nat) (zs : List Int)
  (h : (a = none ∧ len = 0 ∧ cap = 0 ∧ zs = []) ∨ ∃ x, a = some x ∧ len ≤ cap ∧ cap ≤ 140737488351232 ∧ zs.length = cap ∧ (∀ i, i < zs.length → w.cell? (x.add i) = some (.int .u8 (zs.getD i 0))) ∧ ∀ n ∈ zs, (Lit.int .u8 n).wf = true) :
  ∃ f : Nat → Nat, Sl w a len f ∧ len ≤ 140737488351232 ∧ (a = none → len = 0 ∧ cap = 0) := by
 rcases h with ⟨rfl, rfl, rfl, rfl⟩ | ⟨x, rfl, hl, hm, hz, hcell, hwz⟩
 ·exact ⟨fun _ => 0, Sl.nil _ _ _, by omega, fun _ => ⟨rfl, rfl⟩⟩
 ·refine ⟨fun i => (zs.getD i 0).toNat, ⟨?_, ?_⟩, by omega, fun h => by cases h⟩
  ·intro i hi
   have hi' : i < zs.length := by omega
   have := byte_of_wf (hwz zs[i] (List.getElem_mem hi'))
   have hb := byte_toNat this
   simpa [List.getD, hi'] using hb
  ·intro i hi
   have hi' : i < zs.length := by omega
   have hc := hcell i hi'
   obtain ⟨b, off, spot⟩ := x
   have hspot : spot = none := by
    have h0 := hcell 0 (by omega)
    simpa [Addr.add] using World.cell?_spot h0
   subst hspot
   refine ⟨b, off, rfl, ?_⟩
   have hplain : (⟨b, off, none⟩ : Addr).add i = ⟨b, off + i, none⟩ := by unfold Addr.add; split <;> simp_all
   rw [hplain] at hc
   rw [hc]
   have hw := byte_of_wf (hwz zs[i] (List.getElem_mem hi'))
   have e : zs.getD i 0 = zs[i] := by simp [List.getD, hi']
   have hw0 := hw.1
   simp only [e]
   congr 2
   omega
/-! ### The calls, told by what their answers read as -/
theorem qex (w : World) (a b : Option Addr) (n c d : Nat) (f : Nat → Nat) (ha : Sl w a n f) (hb : Sl w b n f) :
  Calls Try.prog 28 #[.slice a n c, .slice b n d] w fun e w' => e = .returned (.bool true) ∧ w = w' :=
 (qeu w a b n c d f ha hb).mono fun _ _ h => ⟨h.1, h.2.symm⟩
end Go.Proofs.Ytkfnedpnkeacpaa
