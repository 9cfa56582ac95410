/-
  Contracts of the reference's Copy and Spoil.
-/
import Derived.Test.YtlfmekjkgegclabLh
import Derived.Laws.AppendOwnNone
namespace Go.Proofs.Ytlfmekjkgegclab
open Go.RowKit
theorem copy_news {w w1 : World} {n : Nat} {f : Nat → Nat} {ad : Addr} (ha : Sl w (some ad) n f) (hb : Below w.heap.size w w1) : ∀ j u, (row n f).toList[j]? = some u → w1.cell? (ad.add j) = some u := by
  intro j v hj
  obtain ⟨hjn, rfl⟩ := row_listget n f j v hj
  obtain ⟨b', o', e', hc⟩ := (ha.later hb).2 j hjn
  cases e'
  have hplain : (⟨b', o', none⟩ : Addr).add j = ⟨b', o' + j, none⟩ := by unfold Addr.add; split <;> simp_all
  rw [hplain]
  exact hc
theorem row_cells (n : Nat) (f : Nat → Nat) : ∀ u ∈ (row n f).toList, u.oneCell' = true := by
  intro v hv
  obtain ⟨j, hj⟩ := List.getElem?_of_mem hv
  rw [(row_listget n f j v hj).2]; rfl
set_option maxHeartbeats 400000 in
theorem rcopy_any (w : World) (a : Option Addr) (n c : Nat) (f : Nat → Nat) (ha : Sl w a n f) (hn : n ≤ 140737488351232) (h0 : a = none → n = 0 ∧ c = 0) :
    Calls Try.prog 17 #[.slice a n c] w fun e w' => ∃ v, e = .returned v ∧ w'.ownsRow w.heap.size 5 1 v n (row n f).toList ∧ Below w.heap.size w w' := by
  obtain ⟨i0, hi, hz0, hz1, hz2⟩ := info_parts info8
  have hml : 0 + n ≤ maxLen := by unfold maxLen; omega
  have HA : Hid (Sl w a n f) := ha
  obtain ⟨xs, HX⟩ : ∃ xs, Hid (xs = (row n f).toList) := ⟨_, rfl⟩
  have hlen : xs.length = n * 1 := by rw [HX.out]; simp [row_size]
  have HO0 : Hid ((w.alloc (.cells #[] 5)).ownsRow w.heap.size 5 1 (.slice (some ⟨w.heap.size, 0, none⟩) 0 0) 0 []) := World.ownsRow_lit w #[] 0 (Nat.le_refl _) (by unfold maxLen; omega) rfl
  have HB0 : Hid (Below w.heap.size w (w.alloc (.cells #[] 5))) := (Below.refl _ _).alloc (Nat.le_refl _) _
  rw [← HX.out]
  cases a with
  | none =>
    obtain ⟨rfl, rfl⟩ := h0 rfl
    have HE : Hid (xs = []) := List.eq_nil_of_length_eq_zero (by simpa using hlen)
    clear ha h0 hlen
    go_enter Try.func17, Try.ntmps17
    go_wp2_with (at_builtin; refine wpList_append_own_none rfl _ _ 22 rfl w.heap.size 5 i0 1 Try.underlying22 hi _ 0 [] rfl HO0.out rfl ?_)
    go_ret
    exact ⟨_, rfl, by rw [HE.out]; exact HO0.out, HB0.out⟩
  | some ad =>
    have HN : Hid (∀ j u, xs[j]? = some u → (w.alloc (.cells #[] 5)).cell? (ad.add j) = some u) := by rw [HX.out]; exact copy_news ha HB0.out
    have H1 : Hid (∀ u ∈ xs, u.oneCell' = true) := by rw [HX.out]; exact row_cells n f
    clear ha h0
    go_enter Try.func17, Try.ntmps17
    go_wp2_with (at_builtin; refine wpList_append_own _ rfl _ _ 22 rfl w.heap.size 5 i0 (.int .u8 0) 1 1 Try.underlying22 hi hz0 hz1 hz2 rfl (by decide) _ 0 [] rfl HO0.out ad n c xs rfl hlen HN.out H1.out hml (by omega) (by simp) ?_; intro v' w3 hown' hgrow' _; have HO3 : Hid (w3.ownsRow w.heap.size 5 1 v' (0 + n) ([] ++ xs)) := hown'; have HG3 : Hid ((w.alloc (.cells #[] 5)).grownBy w3 (some w.heap.size)) := hgrow'; clear hown' hgrow')
    go_ret
    exact ⟨_, rfl, by simpa using HO3.out, HB0.out.grown HG3.out (by simp) (fun k hk => by cases hk; exact Nat.le_refl _)⟩
theorem own_addr {w : World} {base n c : Nat} {e : TypeId} {s : Option Addr} {xs : List Value} (h : w.ownsRow base e 1 (.slice s n c) n xs) (hn : 0 < n) : ∃ g, s = some ⟨g, 0, none⟩ := by
  rcases h.2 with ⟨_, h0⟩ | ⟨g, cap, cur, hv, _⟩
  · omega
  · cases hv; exact ⟨g, rfl⟩
theorem own_cell {w : World} {base n c g k : Nat} {e : TypeId} {xs : List Value} (h : w.ownsRow base e 1 (.slice (some ⟨g, 0, none⟩) n c) n xs) (hk : k < n) : ∃ v, w.cell? ⟨g, k, none⟩ = some v := by
  have hl := h.1
  exact ⟨xs[k]'(by omega), by rw [h.cellAt k (by omega)]; simp⟩
theorem grown_at {w wr : World} {row : Option Nat} {g i : Nat} {v : Value} (h : w.grownBy wr row) (hg : row = some g ∨ w.heap.size ≤ g) : w.grownBy (wr.setCell ⟨g, i, none⟩ v) row :=
  ⟨h.os, h.tape, h.output, by simpa using h.size, fun k hk hn => by
    rw [Below.heap_setCell wr ⟨g, i, none⟩ v k (by
      intro e
      rcases hg with hg | hg
      · apply hn; rw [hg]; simpa using e
      · have : k = g := e
        omega)]
    exact h.block k hk hn⟩
theorem three_new (w : World) (t : TypeId) (m : Int) : ∀ j u, [Value.int .u8 m, .int .u8 m, .int .u8 m][j]? = some u → (w.alloc (.cells #[.int .u8 m, .int .u8 m, .int .u8 m] t)).cell? ((⟨w.heap.size, 0, none⟩ : Addr).add j) = some u := by
  intro j u hj
  match j, hj with
  | 0, hj => simp at hj; subst hj; simp [Addr.add]
  | 1, hj => simp at hj; subst hj; simp [Addr.add]
  | 2, hj => simp at hj; subst hj; simp [Addr.add]
theorem three_one (m : Int) : ∀ u ∈ [Value.int .u8 m, .int .u8 m, .int .u8 m], u.oneCell' = true := by intro u hu; simp at hu; subst hu; rfl
set_option maxRecDepth 20000 in
set_option maxHeartbeats 1000000 in
theorem spoil_any (w : World) (s : Option Addr) (n cp : Nat) (m : Int) (row : Option Nat) (xs : List Value) (hn : n ≤ 140737488351232) (hv : Hid ((Value.slice s n cp).ownBlock = row)) (hown : w.ownsRow 0 5 1 (.slice s n cp) n xs) :
    Calls Try.prog 20 #[.slice s n cp, .int .u8 m] w fun e w' => e = .returned (.tuple #[]) ∧ w.grownBy w' row := by
  obtain ⟨i0, hi, hz0, hz1, hz2⟩ := info_parts info8
  have hml : n + 3 ≤ maxLen := by unfold maxLen; omega
  go_enter Try.func20, Try.ntmps20
  go_wp2
  go_loopw [4] (fun i wr => ∃ k : Nat, k ≤ n ∧ i = .int .i64 (k : Int) ∧ (∃ xs, wr.ownsRow 0 5 1 (.slice s n cp) n xs) ∧ w.grownBy wr row) (fun i _ => n - (intOf i).toNat)
  case atStart => exact ⟨0, by omega, rfl, ⟨xs, hown⟩, World.grownBy.refl _ _⟩
  case round =>
    clear hown
    obtain ⟨k, hk, rfl, ⟨ys, ho⟩, hg⟩ := hrel
    by_cases hlt : k < n
    · obtain ⟨g, rfl⟩ := own_addr ho (by omega)
      obtain ⟨v0, hc⟩ := own_cell ho hlt
      have hf := ho.frozenAt k
      have HO : Hid (wr.ownsRow 0 5 1 (.slice (some ⟨g, 0, none⟩) n cp) n ys) := ho
      have HG : Hid (w.grownBy wr row) := hg
      clear ho hg
      go_wp2
      exact ⟨⟨k + 1, by omega, by go_num, ⟨_, (HO.out.stored k _).1⟩, grown_at HG.out (.inl hv.out.symm)⟩, by simp [intOf]; omega⟩
    · have HO : Hid (wr.ownsRow 0 5 1 (.slice s n cp) n ys) := ho
      have HG : Hid (w.grownBy wr row) := hg
      clear ho hg
      go_wp2_with (at_builtin; refine wpList_append_lies _ rfl _ _ 22 rfl 0 5 i0 (.int .u8 0) 1 1 Try.underlying22 hi hz0 hz1 hz2 rfl (by decide) _ n ys rfl (HO.out.alloc _) ⟨wr.heap.size, 0, none⟩ 3 3 [.int .u8 m, .int .u8 m, .int .u8 m] rfl rfl (three_new _ _ _) (three_one _) (by omega) hml (by omega) (Nat.zero_le _) (wr.heap.size + 1) (by simp) ?_; intro gg cap w1 hown1 hgrow hat hlt1)
      have HG1 : Hid (w.grownBy w1 row) := by
        refine grown_trans (grown_trans HG.out (World.grownBy_alloc _ (.cells #[.int .u8 m, .int .u8 m, .int .u8 m] 5) _)) ?_
        rw [← hv.out]; exact hgrow
      have HAt : Hid (row = some gg ∨ w.heap.size ≤ gg) := by
        have hs := HG.out.size
        rcases hat with hat | hat
        · exact .inl (by rw [← hv.out]; exact hat)
        · exact .inr (by omega)
      have HO1 : Hid (∃ xs, w1.ownsRow 0 5 1 (.slice (some ⟨gg, 0, none⟩) (n + 3) cap) (n + 3) xs) := ⟨_, hown1⟩
      clear hown1 hgrow hat hlt1 HO HG
      go_loopw [5] (fun i wr => ∃ k : Nat, k ≤ n + 3 ∧ i = .int .i64 (k : Int) ∧ (∃ xs, wr.ownsRow 0 5 1 (.slice (some ⟨gg, 0, none⟩) (n + 3) cap) (n + 3) xs) ∧ w.grownBy wr row) (fun i _ => n + 3 - (intOf i).toNat)
      case atStart => exact ⟨0, by omega, rfl, HO1.out, HG1.out⟩
      case round =>
        clear HO1 HG1
        obtain ⟨k, hk, rfl, ⟨ys, ho⟩, hg⟩ := hrel
        by_cases hlt : k < n + 3
        · obtain ⟨v0, hc⟩ := own_cell ho hlt
          have hf := ho.frozenAt k
          have HO : Hid (wr.ownsRow 0 5 1 (.slice (some ⟨gg, 0, none⟩) (n + 3) cap) (n + 3) ys) := ho
          have HG : Hid (w.grownBy wr row) := hg
          clear ho hg
          go_wp2
          exact ⟨⟨k + 1, by omega, by go_num, ⟨_, (HO.out.stored k _).1⟩, grown_at HG.out HAt.out⟩, by simp [intOf]; omega⟩
        · go_wp2
          go_end0
          exact ⟨rfl, hg⟩
theorem row_owned {w : World} {g n : Nat} {f : Nat → Nat} (h : RowAt w g 5 n f) (hn : n ≤ 140737488351232) : w.ownsRow 0 5 1 (.slice (some ⟨g, 0, none⟩) n n) n (row n f).toList :=
  ⟨by simp [row_size], .inr ⟨g, n, row n f, rfl, Nat.zero_le _, h, Nat.le_refl _, by unfold maxLen; omega, by simp [row_size], List.take_of_length_le (by simp [row_size])⟩⟩
theorem spoil_row (w : World) (g n : Nat) (m : Int) (f : Nat → Nat) (hn : n ≤ 140737488351232) (h : RowAt w g 5 n f) :
    Calls Try.prog 20 #[.slice (some ⟨g, 0, none⟩) n n, .int .u8 m] w fun e w' => e = .returned (.tuple #[]) ∧ w.grownBy w' (some g) :=
  spoil_any w _ n n m _ _ hn rfl (row_owned h hn)
theorem spoil_nil (w : World) (m : Int) :
    Calls Try.prog 20 #[.slice none 0 0, .int .u8 m] w fun e w' => e = .returned (.tuple #[]) ∧ Below w.heap.size w w' :=
  (spoil_any w none 0 0 m none [] (by omega) rfl (World.ownsRow_nil _ _ _ _)).mono fun _ _ h => ⟨h.1, grown_none.mp h.2⟩
theorem rcopy_sl (w : World) (a : Option Addr) (n c : Nat) (f : Nat → Nat) (ha : Sl w a n f) (hn : n ≤ 140737488351232) (h0 : a = none → n = 0 ∧ c = 0) :
    Calls Try.prog 17 #[.slice a n c] w fun e w' => ∃ s k, e = .returned (.slice s n k) ∧ Sl w' s n f ∧ Below w.heap.size w w' :=
  (rcopy_any w a n c f ha hn h0).mono fun _ _ ⟨v, he, ho, hb⟩ => by
    obtain ⟨s, k, rfl, hs, _⟩ := own_sl ho ha.1
    exact ⟨s, k, he, hs, hb⟩
/-- What stays behind a Spoil of another block. -/
theorem Sl.beside {w w' : World} {a : Option Addr} {n : Nat} {f : Nat → Nat} {g : Nat} (h : Sl w a n f) (hg : w.grownBy w' (some g)) (ho : 0 < n → Off g a) : Sl w' a n f := by
  by_cases hn : 0 < n
  · exact h.kept hg (ho hn)
  · obtain rfl : n = 0 := by omega
    exact Sl.nil _ _ _
theorem off_from {a : Option Addr} {B g : Nat} (h : From B a) (hg : g < B) : Off g a := fun x hx e => by have := h x hx; omega
theorem below_row {w w1 w2 : World} {g : Nat} (h : Below w.heap.size w w1) (hg : w1.grownBy w2 (some g)) (hb : w.heap.size ≤ g) : Below w.heap.size w w2 :=
  h.grown hg h.size (fun k hk => by cases hk; exact hb)
/-! Lists of the call's own. -/
theorem own_set {w : World} {base g n cp j v : Nat} {f : Nat → Nat} (h : w.ownsRow base 5 1 (.slice (some ⟨g, 0, none⟩) n cp) n (row n f).toList) :
    (w.setCell ⟨g, j, none⟩ (.int .u8 (v : Int))).ownsRow base 5 1 (.slice (some ⟨g, 0, none⟩) n cp) n (row n (fun i => if i = j then v else f i)).toList := by
  have := (h.stored j (.int .u8 (v : Int))).1
  rw [← row_set, Array.toList_setIfInBounds]
  exact this
theorem own_cong {w : World} {base n : Nat} {v : Value} {f f' : Nat → Nat} (h : w.ownsRow base 5 1 v n (row n f).toList) (e : ∀ i, i < n → f i = f' i) : w.ownsRow base 5 1 v n (row n f').toList := by
  rw [← row_congr n f f' e]; exact h
theorem own_byte {w : World} {base g n cp j : Nat} {f : Nat → Nat} (h : w.ownsRow base 5 1 (.slice (some ⟨g, 0, none⟩) n cp) n (row n f).toList) (hj : j < n) : w.cell? ⟨g, j, none⟩ = some (.int .u8 (f j : Nat)) := by
  rw [h.cellAt j (by omega), Array.getElem?_toList, row_get n f j hj]
theorem own_block {w : World} {base g n cp : Nat} {xs : List Value} (h : w.ownsRow base 5 1 (.slice (some ⟨g, 0, none⟩) n cp) n xs) : base ≤ g ∧ g < w.heap.size := by
  rcases h.2 with ⟨h', _⟩ | ⟨g', cap', cur, h', hb, hg, _⟩
  · simp at h'
  · simp only [Value.slice.injEq, Option.some.injEq, Addr.mk.injEq, and_true, true_and] at h'
    obtain ⟨rfl, rfl⟩ := h'
    exact ⟨hb, lt_of_block hg⟩
theorem own_kept {w w' : World} {base n g : Nat} {v : Value} {xs : List Value} (h : w.ownsRow base 5 1 v n xs) (hg : w.grownBy w' (some g)) (hne : v.ownBlock ≠ some g) : w'.ownsRow base 5 1 v n xs :=
  h.kept hg (.inr hne)
theorem own_mono {w : World} {B B' n : Nat} {v : Value} {xs : List Value} (h : w.ownsRow B 5 1 v n xs) (hB : B' ≤ B) : w.ownsRow B' 5 1 v n xs := by
  refine ⟨h.1, ?_⟩
  rcases h.2 with h' | ⟨g, cap, cur, e, hb, r⟩
  · exact .inl h'
  · exact .inr ⟨g, cap, cur, e, by omega, r⟩
theorem own_lt {w : World} {B n : Nat} {v : Value} {xs : List Value} (h : w.ownsRow B 5 1 v n xs) : v.ownBlock ≠ some w.heap.size := by
  rcases h.2 with ⟨rfl, _⟩ | ⟨g, cap, cur, rfl, hb, hg, _⟩
  · simp [Value.ownBlock]
  · have := lt_of_block hg
    simp [Value.ownBlock]; omega
theorem own_ge {w : World} {B n g : Nat} {v : Value} {xs : List Value} (h : w.ownsRow B 5 1 v n xs) (hg : g < B) : v.ownBlock ≠ some g := fun e => by have := own_base h g e; omega
end Go.Proofs.Ytlfmekjkgegclab
