/-
  The program's Cut, Words, Signs, as the checks use them.
-/
import Derived.Test.YtipjejkjoiifdabDoorBh
namespace Go.Proofs.YtipjejkjoiifdabDoor
open Go.RowKit
/-- The variables that Cut reads lie in the world. -/
def Ev9 (w : World) : Prop := Wt9 w ∧ Er9 w
theorem Ev9.later {w w' : World} (h : Ev9 w) (hb : Below w.heap.size w w') : Ev9 w' := ⟨h.1.later hb, h.2.later hb⟩
set_option maxRecDepth 40000 in
set_option maxHeartbeats 2000000 in
theorem tcut_limit (w : World) (s : ByteArray) (hs : 65536 < s.size) : Calls Tryd.prog 4 #[.string s] w fun e w' => CutP w w' e s [] 4 0 := by
  have hlim : decide (65536 < s.size) = true := decide_eq_true hs
  have hlim2 : decide ((65536 : Int) < (s.size : Int)) = true := decide_eq_true (by omega)
  have HVf1 := jhid9 (Vn.new w 25 #[.int .i64 0, .int .i64 0, .int .i64 0])
  go_enter Tryd.func4, Tryd.ntmps4
  go_wp2
  go_step3
  go_wp2_with (refine wpList_store_vn rfl 25 _ _ rfl w.heap.size _ #[.int .i64 4, .int .i64 1, .int .i64 1] rfl rfl HVf1.out sizeFau rfl (all3 rfl rfl rfl) ?_; intro w8 HV8 hg8)
  have d0 := HV8.out.cell 0 _ rfl
  have d1 := HV8.out.cell 1 _ rfl
  have d2 := HV8.out.cell 2 _ rfl
  rw [Exit.noGoto_ret]
  refine bodyPost_ret (v := .tuple #[.slice none 0 0, .agg #[.int .i64 4, .int .i64 1, .int .i64 1]]) (by simp [results, Tryd.results4, go_sem, d0, d1, d2]) rfl ?_
  exact ⟨_, rfl, fun h => absurd h (by decide), fun _ => rfl, (jlow _ _).trans (jbelow hg8.out (jlow _ _).size (fun g e => by cases e; exact Nat.le_refl _))⟩
theorem tcut (w : World) (s : ByteArray) (L : List Tk) (E a : Nat) (h : CutA s L E a) (he : Ev9 w) : Calls Tryd.prog 4 #[.string s] w fun e w' => CutP w w' e s L E a := by
  rcases h with ⟨h, rfl, rfl, rfl⟩ | ⟨h, hc⟩
  · exact tcut_limit w s h
  · exact tcut_any w s L E a h hc he.1 he.2
/-- The words in memory, new. -/
def WdP (w w' : World) (e : Ending) : Prop := ∃ b d T, e = .returned (.slice (some ⟨b, 0, none⟩) 17 d) ∧ w.heap.size ≤ b ∧ StAt w' b T wds ∧ Below w.heap.size w w'
theorem infStr : (Tryd.prog.info? 9).map (fun i => (i.zero, i.size, i.bytes)) = some (some (.string ⟨#[]⟩), 1, 16) := by kernel_rfl
theorem szArr : (Tryd.prog.info? 45).map (·.size) = some 17 := by kernel_rfl
theorem Wt9.block {w : World} (h : Wt9 w) : ∃ t fr, w.heap[0]? = some (.cells (wds.map Value.string).toArray t fr) := by
  unfold Wt9 World.var? at h
  rw [gWords] at h
  simp only [Option.bind_some] at h
  split at h
  · rename_i cs t fr hb
    cases h
    exact ⟨t, fr, hb⟩
  · cases h
theorem idx_words (cs : Array Value) (HC : Hid (cs = (wds.map Value.string).toArray)) (i : Nat) (hi : i < 17) (w : World) :
    (Instr.index 45 (.agg cs) (.int .i64 (i : Int))).run Tryd.prog w = .ok (.string (wds.getD i default)) w := by
  have hr : cs[i]? = some (.string (wds.getD i default)) := by
    rw [HC.out]
    have : i < wds.length := hi
    simp [this]
  cases hq : Tryd.prog.info? 9 with
  | none => have := szStr; simp [hq] at this
  | some inf =>
    have hs : inf.size = 1 := by have := szStr; simpa [hq] using this
    simp [Instr.index, run_underlying Tryd.underlying45, asIntOf, hi, part, isAgg, run_underlying Tryd.underlying9, sizeOf, typeInfo, hq, hs, hr, go_sem]
/-- The first texts of a list of the call's own. -/
def Wls (w : World) (B : Nat) (v : Value) (k : Nat) : Prop := w.ownsRow B 9 1 v k ((wds.take k).map Value.string)
theorem Wls.later {w w' : World} {B k : Nat} {v : Value} (h : Wls w B v k) (hb : Below w.heap.size w w') : Wls w' B v k := World.ownsRow.kept h (jgrown.mpr hb) (by cases hv : v.ownBlock <;> simp)
theorem Wls.base {w : World} {B k : Nat} {v : Value} (h : Wls w B v k) {g : Nat} (hg : v.ownBlock = some g) : B ≤ g := by
  rcases h.2 with ⟨e, _⟩ | ⟨g', cap, cur, e, hB, _⟩
  · rw [e] at hg; simp [Value.ownBlock] at hg
  · rw [e] at hg; simp [Value.ownBlock] at hg; subst hg; exact hB
theorem wls_form {w : World} {B k : Nat} {v : Value} (h : Wls w B v k) (hk : 0 < k) : ∃ b d, v = .slice (some ⟨b, 0, none⟩) k d ∧ B ≤ b := by
  rcases h.2 with ⟨_, h0⟩ | ⟨g, cap, cur, e, hB, _⟩
  · omega
  · exact ⟨g, cap, e, hB⟩
theorem wds_take (k : Nat) (hk : k < 17) : (wds.take k).map Value.string ++ [.string (wds.getD k default)] = (wds.take (k + 1)).map Value.string := by
  have : k < wds.length := hk
  rw [List.take_add_one, List.map_append, List.getElem?_eq_getElem this, List.getD_eq_getElem?_getD, List.getElem?_eq_getElem this]
  rfl
theorem one_new9 (w : World) (x : Value) (t : TypeId) : ∀ j u, [x][j]? = some u → (w.alloc (.cells #[x] t)).cell? ((⟨w.heap.size, 0, none⟩ : Addr).add j) = some u := by
  intro j u hj
  have h : (w.alloc (.cells #[x] t)).heap[w.heap.size]? = some (.cells #[x] t (0, 0)) := Array.getElem?_push_size
  rw [show (⟨w.heap.size, 0, none⟩ : Addr).add j = ⟨w.heap.size, j, none⟩ by unfold Addr.add; split <;> simp_all, cell_of_row _ _ j _ _ _ h]
  simpa using hj
set_option maxRecDepth 20000 in
set_option maxHeartbeats 4000000 in
theorem twords (w : World) (hw : Wt9 w) : Calls Tryd.prog 5 #[] w fun e w' => WdP w w' e := by
  have HW := jhid9 hw
  obtain ⟨i0, hi0, hz0, hz1, hz2⟩ := info_parts infStr
  obtain ⟨cs, HC⟩ : ∃ cs, Hid (cs = (wds.map Value.string).toArray) := ⟨_, rfl⟩
  have hsz : (Tryd.prog.info? 45).map (·.size) = some cs.size := by rw [HC.out]; exact szArr
  have HBl : Hid (∀ w' : World, Below w.heap.size w w' → ∃ t fr, w'.heap[0]? = some (.cells cs t fr)) := fun w' hb => by rw [HC.out]; exact (HW.out.later hb).block
  clear hw
  go_enter Tryd.func5, Tryd.ntmps5
  go_wp2_with (first
    | (at_make; refine wpList_make_own _ rfl _ _ 28 rfl w.heap.size 9 i0 (.string ⟨#[]⟩) 1 Tryd.underlying28 hi0 hz0 hz1 .i64 .i64 _ 17 rfl rfl rfl (by rw [hz2]; omega) (by unfold maxLen; omega) (Nat.le_refl _) ?_; intro w1 hown hgrow; have HN : Hid (Wls w1 w.heap.size (.slice (some ⟨w.heap.size, 0, none⟩) 0 17) 0) := hown; have HB1 : Hid (Below w.heap.size w w1) := jgrown.mp hgrow; obtain ⟨t9, fr9, h9⟩ := HBl.out _ HB1.out; have H9 := jhid9 h9; clear hown hgrow h9)
    | (refine wpList_load_row rfl 45 _ rfl 0 rfl t9 cs fr9 _ H9.out Tryd.underlying45 rfl hsz ?_))
  go_loopw [1, 6] (fun v vi wr => ∃ k : Nat, k ≤ 17 ∧ vi = .int .i64 (k : Int) ∧ (∃ b d, v = .slice (some ⟨b, 0, none⟩) k d) ∧ Wls wr w.heap.size v k ∧ Below w.heap.size w wr) (fun _ vi _ => 17 - (intOf vi).toNat)
  case atStart =>
    exact ⟨0, by omega, rfl, ⟨_, _, rfl⟩, HN.out, HB1.out⟩
  case round =>
    obtain ⟨k, hk, rfl, ⟨b, d, rfl⟩, hl, hb⟩ := hrel
    have HL := jhid9 hl
    have HB := jhid9 hb
    clear hl hb
    by_cases hlt : k < 17
    · have hx : ∀ w, (Instr.index 45 (.agg cs) (.int .i64 (k : Int))).run Tryd.prog w = .ok (.string (wds.getD k default)) w := idx_words cs HC k hlt
      obtain ⟨y, HY⟩ : ∃ y, Hid (wds.getD k default = y) := ⟨_, rfl⟩
      rw [HY.out] at hx
      go_wp2_with (at_builtin; refine wpList_append_own _ rfl _ _ 28 rfl w.heap.size 9 i0 (.string ⟨#[]⟩) 1 16 Tryd.underlying28 hi0 hz0 hz1 hz2 rfl (by decide) _ k _ rfl (HL.out.later (jlow _ _)) ⟨wr.heap.size, 0, none⟩ 1 1 [.string y] rfl rfl (one_new9 _ _ _) (by intro u hu; simp at hu; rcases hu with rfl; rfl) (by unfold maxLen; omega) (by omega) (by have := HB.out.size; simp; omega) ?_; intro v' w6 hown' hgrow' _; have HT6 : Hid (Wls w6 w.heap.size v' (k + 1)) := (by have h := hown'; rw [← HY.out, wds_take k hlt] at h; exact h); have HB6 : Hid (Below w.heap.size w w6) := (HB.out.trans ((jlow _ _).mono HB.out.size)).trans (jbelow hgrow' (by have := HB.out.size; simp; omega) (fun g hg => HL.out.base hg)); clear hown' hgrow')
      obtain ⟨b2, d2, rfl, _⟩ := wls_form HT6.out (by omega)
      exact ⟨⟨k + 1, by omega, by go_num, ⟨b2, d2, rfl⟩, HT6.out, HB6.out⟩, by simp [intOf]; omega⟩
    · obtain rfl : k = 17 := by omega
      go_wp2
      go_ret
      rcases HL.out.2 with ⟨_, h0⟩ | ⟨g, cap, cur, e, hB, hg, _, _, _, ht⟩
      · omega
      · cases e
        exact ⟨_, _, _, rfl, hB, ⟨cur, hg, ht.trans rfl⟩, HB.out⟩
set_option maxRecDepth 20000 in
theorem tsigns (w : World) : Calls Tryd.prog 33 #[] w fun e w' => e = .returned (.string sgB) ∧ Below w.heap.size w w' := by
  go_enter Tryd.func33, Tryd.ntmps33
  go_wp2
  go_ret
  exact ⟨rfl, Below.refl _ _⟩
end Go.Proofs.YtipjejkjoiifdabDoor
