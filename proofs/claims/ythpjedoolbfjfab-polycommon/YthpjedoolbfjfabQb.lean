/-
  Contracts of the program's polynomials: Trim, addMultiple, tooLong.
-/
import Derived.Test.YthpjedoolbfjfabQa
namespace Go.Proofs.Ythpjedoolbfjfab
open Go.RowKit
/-- A list of the call's own. -/
abbrev Ow (w : World) (B : Nat) (s : Option Addr) (n c : Nat) (f : Nat → Nat) : Prop := w.ownsRow B 5 1 (.slice s n c) n (row n f).toList
theorem Ow.later {w w' : World} {B n c : Nat} {s : Option Addr} {f : Nat → Nat} (h : Ow w B s n c f) (hb : Below w.heap.size w w') : Ow w' B s n c f :=
  h.kept (grown_none.mpr hb) (by cases hv : (Value.slice s n c).ownBlock <;> simp)
theorem Ow.cong {w : World} {B n c : Nat} {s : Option Addr} {f f' : Nat → Nat} (h : Ow w B s n c f) (e : ∀ i, i < n → f i = f' i) : Ow w B s n c f' := own_cong h e
theorem Ow.cut {w : World} {B n c t : Nat} {s : Option Addr} {f : Nat → Nat} (h : Ow w B s n c f) (ht : t ≤ n) : Ow w B s t c f := by
  refine ⟨by simp [row_size], ?_⟩
  rcases h.2 with ⟨e, h0⟩ | ⟨g, cap, cur, e, hb, hg, hc, hm, hs, htake⟩
  · cases e
    left
    have : t = 0 := by omega
    subst this
    exact ⟨rfl, rfl⟩
  · right
    cases e
    refine ⟨g, c, cur, rfl, hb, hg, by omega, hm, hs, ?_⟩
    have : (cur.toList.take (n * 1)).take (t * 1) = cur.toList.take (t * 1) := by rw [List.take_take, Nat.min_eq_left (by omega)]
    rw [← this, htake]
    apply List.ext_getElem?
    intro i
    rw [List.getElem?_take]
    by_cases hi : i < t
    · rw [if_pos (by omega), Array.getElem?_toList, Array.getElem?_toList, row_get n f i (by omega), row_get t f i hi]
    · rw [if_neg (by omega), List.getElem?_eq_none (by simp [row_size]; omega)]
theorem Ow.nil (w : World) (B : Nat) (f : Nat → Nat) : Ow w B none 0 0 f := by
  show w.ownsRow _ _ _ _ _ _
  rw [row_empty]
  exact World.ownsRow_nil _ _ _ _
theorem Ow.lk {w : World} {B n c : Nat} {s : Option Addr} {f : Nat → Nat} (h : Ow w B s n c f) (hf : ∀ i, i < n → f i < 256) (hn : n ≤ 140737488351232) : Lk w s n c f := by
  obtain ⟨a, c', e, hl, _⟩ := own_lk h hf hn
  cases e
  exact hl
theorem Ow.sl {w : World} {B n c : Nat} {s : Option Addr} {f : Nat → Nat} (h : Ow w B s n c f) (hf : ∀ i, i < n → f i < 256) : Sl w s n f := by
  obtain ⟨a, c', e, hl, _⟩ := own_sl h hf
  cases e
  exact hl
theorem RowAt.ow {w : World} {B g n : Nat} {f : Nat → Nat} (h : RowAt w g 5 n f) (hB : B ≤ g) (hn : n ≤ 140737488351232) : Ow w B (some ⟨g, 0, none⟩) n n f := by
  have := row_owned h hn
  refine ⟨this.1, ?_⟩
  rcases this.2 with ⟨e, h0⟩ | ⟨g', cap, cur, e, hb, hr⟩
  · cases e
  · right
    cases e
    exact ⟨g, n, cur, rfl, hB, hr⟩
set_option maxHeartbeats 400000 in
theorem ptrim_any (w : World) (a : Option Addr) (n c t : Nat) (f : Nat → Nat) (h : Lk w a n c f) (HT : Hid (tlen f n = t)) :
    Calls Try.prog 15 #[.slice a n c] w fun e w' => e = .returned (.slice (some ⟨w.heap.size, 0, none⟩) t t) ∧ RowAt w' w.heap.size 5 t f ∧ Below w.heap.size w w' := by
  obtain ⟨i0, hi, hz0, hz1, hz2⟩ := info_parts info8
  have htn : t ≤ n := by rw [← HT.out]; exact tlen_le f n
  have hn := h.2.2.2
  have hml : t ≤ maxLen := by unfold maxLen; omega
  have hsz : (Try.prog.info? 5).map (·.size) = some 1 := info5
  obtain ⟨zs, HZ⟩ : ∃ zs, Hid (zs = (row t fun _ => 0).toList) := ⟨_, rfl⟩
  obtain ⟨xs, HX⟩ : ∃ xs, Hid (xs = (row t f).toList) := ⟨_, rfl⟩
  have hlen : xs.length = t := by rw [HX.out]; simp [row_size]
  have hzlen : zs.length = t := by rw [HZ.out]; simp [row_size]
  have hmin : xs.length = Nat.min t t := by rw [hlen]; exact (Nat.min_self t).symm
  have hfit : 0 + xs.length ≤ zs.length := by omega
  have hone : ∀ v ∈ xs, v.oneCell' = true := by
    rw [HX.out]
    intro v hv
    obtain ⟨j, hj⟩ := List.getElem?_of_mem hv
    rw [(row_listget t f j v hj).2]; rfl
  have HL : Hid (Lk w a n c f) := h
  have HA : Hid (Sl w a t f) := (h.cut htn).1
  have HM : Hid (xs.length = Nat.min t t) := hmin
  clear h hlen hzlen hmin
  go_enter Try.func15, Try.ntmps15
  go_wp2_with (first
    | (go_at_call 25; refine (trimmed_any _ _ _ _ t f HL.out HT).mono ?_; rintro e w' ⟨rfl, rfl⟩)
    | (at_make; refine wpList_make_full _ rfl _ _ 22 rfl w.heap.size 5 i0 (.int .u8 0) 1 Try.underlying22 hi hz0 hz1 .i64 .i64 _ _ t rfl rfl rfl rfl (by rw [hz2]; omega) hml (Nat.le_refl _) ?_; intro w1 hown hgrow; have HR : Hid _ := row_list (made_at hown) HZ.out; have HB : Hid _ := grown_none.mp hgrow; clear hown hgrow)
    | (refine wpList_copy_splice rfl _ _ 22 22 rfl 5 Try.underlying22 hsz _ _ t t t c rfl rfl w.heap.size 0 zs 5 HR.out xs HM.out (copy_src HA.out HB.out HX.out w.heap.size) hfit hone w.heap.size w HB.out (Nat.le_refl _) ?_; intro w2 HG2 hB2))
  go_ret
  exact ⟨rfl, copied_row (by assumption) HZ.out HX.out, by assumption⟩
theorem row_lget (n : Nat) (f : Nat → Nat) (i : Nat) (h : i < n) : (row n f).toList[i]? = some (.int .u8 (f i : Nat)) := by rw [Array.getElem?_toList, row_get n f i h]
/-- Writing into a row of one's own. -/
theorem splice_own {L : List Value} {o n N : Nat} {F G : Nat → Nat} (hfit : o + n ≤ N) (hL : N ≤ L.length) (htake : L.take (N * 1) = (row N F).toList) :
    (L.take o ++ ((row n G).toList ++ L.drop (o + n))).take (N * 1) = (row N (fun j => if o ≤ j ∧ j < o + n then G (j - o) else F j)).toList := by
  have hl : (row n G).toList.length = n := by simp [row_size]
  apply List.ext_getElem?
  intro i
  rw [List.getElem?_take]
  by_cases hi : i < N
  · have hLi : L[i]? = some (.int .u8 (F i : Nat)) := by
      have e : (L.take (N * 1))[i]? = (row N F).toList[i]? := by rw [htake]
      rw [List.getElem?_take, if_pos (by omega), row_lget N F i hi] at e
      exact e
    rw [if_pos (by omega), row_lget N _ i hi]
    have hto : (L.take o).length = o := by rw [List.length_take]; omega
    by_cases h1 : i < o
    · rw [List.getElem?_append_left (by omega), List.getElem?_take, if_pos h1, hLi, if_neg (by omega)]
    · rw [List.getElem?_append_right (by omega), hto]
      by_cases h2 : i < o + n
      · rw [List.getElem?_append_left (by omega), row_lget n G (i - o) (by omega), if_pos (by omega)]
      · rw [List.getElem?_append_right (by omega), hl, List.getElem?_drop, show o + n + (i - o - n) = i by omega, hLi, if_neg (by omega)]
  · rw [if_neg (by omega), List.getElem?_eq_none (by simp [row_size]; omega)]
theorem grown_setRow (w : World) (g : Nat) (cs : Array Value) : w.grownBy (w.setRow g cs) (some g) :=
  ⟨rfl, rfl, rfl, by simp [World.setRow], fun k _ hk => setRow_other w g k cs (by intro e; apply hk; simpa using e)⟩
theorem row_src {w : World} {g n : Nat} {f : Nat → Nat} (h : RowAt w g 5 n f) : ∀ j v, (row n f).toList[j]? = some v → w.cell? ((⟨g, 0, none⟩ : Addr).add j) = some v := by
  intro j v hj
  obtain ⟨hjn, rfl⟩ := row_listget n f j v hj
  have hplain : (⟨g, 0, none⟩ : Addr).add j = ⟨g, 0 + j, none⟩ := by unfold Addr.add; split <;> simp_all
  rw [hplain, Nat.zero_add]
  exact h.cell j hjn
theorem rs_is (F h : Nat → Nat) (c o n j : Nat) : (if o ≤ j ∧ j < o + n then F (o + (j - o)) ^^^ fm c (h (j - o)) else F j) = rs F h c o n j := by
  unfold rs
  by_cases e : o ≤ j ∧ j < o + n
  · rw [if_pos e, if_pos e, show o + (j - o) = j by omega]
  · rw [if_neg e, if_neg e]
set_option maxHeartbeats 400000 in
theorem addm_own (w : World) (B g o n N cp cd c cs : Nat) (b : Option Addr) (F h : Nat → Nat) (hc : c < 256) (ho : Ow w B (some ⟨g, 0, none⟩) N cp F) (hfit : o + n ≤ N) (hF : ∀ i, i < N → F i < 256) (hb : Sl w b n h) (hN : N ≤ 140737488351232) :
    Calls Try.prog 27 #[.slice (some ⟨g, o, none⟩) n cd, .int .u8 (c : Int), .slice b n cs] w fun e w' => e = .returned (.tuple #[]) ∧ Ow w' B (some ⟨g, 0, none⟩) N cp (rs F h c o n) ∧ w.grownBy w' (some g) := by
  have hsz : (Try.prog.info? 5).map (·.size) = some 1 := info5
  have HD : Hid (Sl w (some ⟨g, o, none⟩) n (fun i => F (o + i))) := ⟨fun i hi => hF _ (by omega), fun i hi => ⟨g, o, rfl, own_byte ho (by omega)⟩⟩
  have HS : Hid (Sl w b n h) := hb
  obtain ⟨G, HG⟩ : ∃ G : Nat → Nat, Hid ((fun i => F (o + i) ^^^ fm c (h i)) = G) := ⟨_, rfl⟩
  obtain ⟨ls, HX⟩ : ∃ ls, Hid (ls = (row n G).toList) := ⟨_, rfl⟩
  have hlen : ls.length = n := by rw [HX.out]; simp [row_size]
  have HM : Hid (ls.length = Nat.min n n) := by show _ = _; rw [hlen]; exact (Nat.min_self n).symm
  have HO : Hid (∀ v ∈ ls, v.oneCell' = true) := by
    show ∀ v ∈ ls, _
    rw [HX.out]
    intro v hv
    obtain ⟨j, hj⟩ := List.getElem?_of_mem hv
    rw [(row_listget n G j v hj).2]; rfl
  rcases ho.2 with ⟨e, _⟩ | ⟨g', cap, cur, e, hB, hg, hcap, hmax, hsize, htake⟩
  · cases e
  cases e
  have glt := lt_of_block hg
  have hfc : o + ls.length ≤ cur.size := by omega
  clear hb ho hF
  have HGG : Hid (w.heap[g]? = some (.cells cur 5 (0, 0))) := hg
  have HTK : Hid (cur.toList.take (N * 1) = (row N F).toList) := htake
  clear hg htake
  have hnn : n ≤ 140737488351232 := by omega
  go_enter Try.func27, Try.ntmps27
  go_wp2_with (first
    | (go_at_call 37; refine (mac_any _ _ _ n c cd cs _ h hc HD.out HS.out hnn).mono ?_; rintro e w1 ⟨rfl, hr1, hb1⟩; rw [HG.out] at hr1; have HR : Hid (RowAt w1 w.heap.size 5 n G) := hr1; have HB : Hid (Below w.heap.size w w1) := hb1; have HG1 : Hid (w1.heap[g]? = some (.cells cur 5 (0, 0))) := by { show _ = _; rw [HB.out.block g glt]; exact HGG.out }; clear hr1 hb1)
    | (refine wpList_copy_own rfl _ _ 22 22 rfl 5 Try.underlying22 hsz g o n cd ⟨w.heap.size, 0, none⟩ n n rfl rfl cur 5 HG1.out ls HM.out (by rw [HX.out]; exact row_src HR.out) hfc HO.out ?_))
  go_end0
  refine ⟨rfl, ?_, grown_trans (grown_of_below HB.out _) (grown_setRow _ _ _)⟩
  refine ⟨by simp [row_size], .inr ⟨g, cp, _, rfl, hB, setRow_heap _ _ _ _ _ _ HG1.out, hcap, hmax, ?_, ?_⟩⟩
  · simp; omega
  · rw [HX.out]
    show (List.take o cur.toList ++ ((row n G).toList ++ List.drop (o + n) cur.toList)).take (N * 1) = _
    rw [splice_own (F := F) (N := N) hfit (by simp; omega) HTK.out]
    congr 1
    apply row_congr
    intro j _
    rw [← HG.out]
    exact rs_is F h c o n j
set_option maxHeartbeats 400000 in
theorem toolong_no (w : World) (g n m c d : Nat) (a b : Option Addr) (h0 : w.cell? ⟨g, 0, none⟩ = some (.slice a n c)) (h1 : w.cell? ⟨g, 1, none⟩ = some (.slice b m d)) (hn : n ≤ 512) (hm : m ≤ 512) :
    Calls Try.prog 26 #[.slice (some ⟨g, 0, none⟩) 2 2] w fun e w' => e = .returned (.bool false) ∧ w = w' := by
  go_enter Try.func26, Try.ntmps26
  go_wp2
  go_loop [7] (fun i => ∃ k : Nat, k ≤ 2 ∧ i = .int .i64 (k : Int)) (fun i => 2 - (intOf i).toNat)
  case atStart => exact ⟨0, by omega, rfl⟩
  case round =>
    obtain ⟨k, hk, rfl⟩ := hrel
    rcases (by omega : k = 0 ∨ k = 1 ∨ k = 2) with rfl | rfl | rfl
    · go_wp2
      exact ⟨⟨1, by omega, rfl⟩, by simp [intOf]⟩
    · go_wp2
      exact ⟨⟨2, by omega, rfl⟩, by simp [intOf]⟩
    · go_wp2
      go_ret
      exact ⟨rfl, rfl⟩
set_option maxHeartbeats 400000 in
theorem toolong_yes (w : World) (g n m c d : Nat) (a b : Option Addr) (h0 : w.cell? ⟨g, 0, none⟩ = some (.slice a n c)) (h1 : w.cell? ⟨g, 1, none⟩ = some (.slice b m d)) (hl : 512 < n ∨ 512 < m) :
    Calls Try.prog 26 #[.slice (some ⟨g, 0, none⟩) 2 2] w fun e w' => e = .returned (.bool true) ∧ w = w' := by
  go_enter Try.func26, Try.ntmps26
  go_wp2
  go_loop [7] (fun i => ∃ k : Nat, (k = 0 ∨ (k = 1 ∧ 512 < m)) ∧ i = .int .i64 (k : Int)) (fun i => 2 - (intOf i).toNat)
  case atStart => exact ⟨0, .inl rfl, rfl⟩
  case round =>
    obtain ⟨k, hk, rfl⟩ := hrel
    rcases hk with rfl | ⟨rfl, hm⟩
    · by_cases hn : 512 < n
      · go_wp2
        go_ret
        exact ⟨rfl, rfl⟩
      · have hm : 512 < m := by omega
        go_wp2
        exact ⟨⟨1, .inr ⟨rfl, hm⟩, rfl⟩, by simp [intOf]⟩
    · go_wp2
      go_ret
      exact ⟨rfl, rfl⟩
end Go.Proofs.Ythpjedoolbfjfab
