/-
  Contract of the program's Join.
-/
import Derived.Test.YtdimkfcanegahaaDoorAq
import Derived.Test.YtdimkfcanegahaaDoorBi
import Derived.Lib.AppendStr
import Derived.Laws.IdiomStrings
namespace Go.Proofs.YtdimkfcanegahaaDoor
open Go.RowKit
theorem jn_len (K : Nat → TV) : ∀ k, (jn K (k + 1)).size + 1 = jz K (k + 1) := by
  intro k
  induction k with
  | zero => rw [jn_succ, jz_succ, if_pos rfl, ByteArray.size_append]; show 0 + _ + 1 = 0 + _; omega
  | succ k ih =>
    rw [jn_succ, jz_succ, if_neg (by omega), ByteArray.size_append, ByteArray.size_append]
    show _ + 1 + _ + 1 = _
    omega
theorem add_at9 (g j : Nat) : (⟨g, 0, none⟩ : Addr).add j = ⟨g, j, none⟩ := by unfold Addr.add; split <;> simp_all
/-- The bytes of a text, as cells. -/
theorem str_two (a b : ByteArray) : Lib.strCells (a ++ b) = Lib.strCells a ++ Lib.strCells b := by
  unfold Lib.strCells
  rw [← List.map_append]
  congr 1
/-- A text in bytes of the call's own. -/
def Txt (w : World) (B : Nat) (v : Value) (x : ByteArray) : Prop := w.ownsRow B 5 1 v x.size (Lib.strCells x)
theorem Txt.nil (w : World) (B : Nat) : Txt w B (.slice none 0 0) ⟨#[]⟩ := World.ownsRow_nil _ _ _ _
theorem Txt.later {w w' : World} {B : Nat} {v : Value} {x : ByteArray} (h : Txt w B v x) (hb : Below w.heap.size w w') : Txt w' B v x := World.ownsRow.kept h (jgrown.mpr hb) (by cases hv : v.ownBlock <;> simp)
theorem Txt.base {w : World} {B : Nat} {v : Value} {x : ByteArray} (h : Txt w B v x) {g : Nat} (hg : v.ownBlock = some g) : B ≤ g := by
  rcases h.2 with ⟨e, _⟩ | ⟨g', cap, cur, e, hB, _⟩
  · rw [e] at hg; simp [Value.ownBlock] at hg
  · rw [e] at hg; simp [Value.ownBlock] at hg; subst hg; exact hB
theorem Txt.form {w : World} {B : Nat} {v : Value} {x : ByteArray} (h : Txt w B v x) : ∃ a d, v = .slice a x.size d := by
  rcases h.2 with ⟨e, h0⟩ | ⟨g, cap, cur, e, _⟩
  · exact ⟨none, 0, by rw [e, h0]⟩
  · exact ⟨_, _, e⟩
theorem Txt.below {w : World} {B : Nat} {v : Value} {x : ByteArray} (h : Txt w B v x) {g : Nat} (hg : v.ownBlock = some g) : g < w.heap.size := by
  rcases h.2 with ⟨e, _⟩ | ⟨g', cap, cur, e, _, hb, _⟩
  · rw [e] at hg; simp [Value.ownBlock] at hg
  · rw [e] at hg; simp [Value.ownBlock] at hg; subst hg; exact lt_of_block hb
/-- A variable above a list that is made longer. -/
theorem Vn.keptx {w w1 w2 : World} {b : Nat} {T : TypeId} {xs : Array Value} {v : Value} (h : Vn w b T xs) (hg : w1.grownBy w2 v.ownBlock) (hb : Below w.heap.size w w1) (hv : ∀ {g}, v.ownBlock = some g → g < b) : Vn w2 b T xs := by
  have h1 := h.later hb
  unfold Vn at *
  rw [hg.block b (lt_of_block h1) (fun e => by have := hv e.symm; omega)]
  exact h1
/-- The text of the bytes. -/
theorem Txt.read {w : World} {B : Nat} {v : Value} {x : ByteArray} (h : Txt w B v x) : (convert 54 9 v).run Tryd.prog w = .ok (.string x) w := by
  rcases h.2 with ⟨e, h0⟩ | ⟨g, cap, cur, e, _, hg, _, _, _, ht⟩
  · obtain rfl : x = ⟨#[]⟩ := by
      obtain ⟨⟨l⟩⟩ := x
      cases l with
      | nil => rfl
      | cons a l => simp [ByteArray.size] at h0
    rw [e]
    simp [run_convert_bytes_string _ _ _ 5 none 0 0 Tryd.underlying54 Tryd.underlying5 Tryd.underlying9, Conv.bytesToString, go_sem]
    rfl
  · have hl : x.size = x.data.toList.length := by rw [Array.length_toList]; rfl
    rw [e]
    rw [hl]
    refine run_convert_bytes_back w 54 9 5 ⟨g, 0, none⟩ cap x.data.toList Tryd.underlying54 Tryd.underlying5 Tryd.underlying9 (fun j hj => ?_)
    rw [add_at9, cell_of_row w g j _ _ _ hg]
    have := congrArg (·[j]?) ht
    simp only [Nat.mul_one, List.getElem?_take, if_pos (show j < x.size by omega), Lib.strCells, List.getElem?_map] at this
    rw [← Array.getElem?_toList, this, List.getElem?_eq_getElem hj]
    rfl
theorem infByte : (Tryd.prog.info? 5).map (fun i => (i.zero, i.size, i.bytes)) = some (some (.int .u8 0), 1, 1) := by kernel_rfl
theorem one_newj (w : World) (x : Value) (t : TypeId) : ∀ j u, [x][j]? = some u → (w.alloc (.cells #[x] t)).cell? ((⟨w.heap.size, 0, none⟩ : Addr).add j) = some u := by
  intro j u hj
  have h : (w.alloc (.cells #[x] t)).heap[w.heap.size]? = some (.cells #[x] t (0, 0)) := Array.getElem?_push_size
  rw [show (⟨w.heap.size, 0, none⟩ : Addr).add j = ⟨w.heap.size, j, none⟩ by unfold Addr.add; split <;> simp_all, cell_of_row _ _ j _ _ _ h]
  simpa using hj
set_option maxRecDepth 20000 in
set_option maxHeartbeats 8000000 in
theorem tjoin (w : World) (x : Option Addr) (n c E : Nat) (K : Nat → TV) (S : ByteArray) (hx : Toks w x n K) (hn : n ≤ 2932031007402) (ht : Tab9 w) (hw : Wt9 w) (h : JoinA K n S E) :
    Calls Tryd.prog 62 #[.slice x n c] w fun e w' => e = .returned (.tuple #[.string S, .int .i64 (E : Int)]) ∧ Below w.heap.size w w' := by
  have HX := jhid9 hx
  have HT := jhid9 ht
  have HW := jhid9 hw
  have HA := jhid9 h
  obtain ⟨i0, hi0, hz0, hz1, hz2⟩ := info_parts infByte
  clear hx ht h hw
  go_enter Tryd.func62, Tryd.ntmps62
  go_wp2
  go_loopw [11] (fun vi wr => ∃ i : Nat, i ≤ n ∧ vi = .int .i64 (i : Int) ∧ Hid (∀ j, j < i → mayB (K j) = true) ∧ Below w.heap.size w wr) (fun vi _ => n - (intOf vi).toNat)
  case atStart => exact ⟨0, by omega, rfl, fun j hj => by omega, Below.refl _ _⟩
  case round =>
    obtain ⟨i, hi, rfl, HM, hb⟩ := hrel
    have HB := jhid9 hb
    by_cases hlt : i < n
    · obtain ⟨b, o, k, tx, nn, ll, cc, rfl, hK, hok, hcl⟩ := HX.out.cells hlt
      have HK := jhid9 hK
      obtain ⟨c0, c1, c2, c3, c4⟩ := hcl _ hb
      obtain ⟨c0', c1', c2', c3', c4'⟩ := hcl _ (jtwo hb (jlow _ (.cells #[.int .u8 0, .string ⟨#[]⟩, .int .i64 0, .int .i64 0, .int .i64 0] 83)))
      have HOk := jhid9 hok
      have p0 : (0 : Int) ≤ (i : Int) := by omega
      have p1 : (i : Int) < (n : Int) := by omega
      have HMy : Hid (∀ w' : World, Below w.heap.size w w' → Calls Tryd.prog 80 #[.agg #[.int .u8 (k : Int), .string tx, .int .i64 nn, .int .i64 ll, .int .i64 cc]] w' fun e w'' => e = .returned (.bool (mayB (K i))) ∧ Below w'.heap.size w' w'') := fun w' hb => by rw [HK.out]; exact tmay w' k tx nn ll cc HOk.out (HW.out.later hb)
      clear hK hok hcl hb
      cases hm : mayB (K i) with
      | false =>
        have HMf := jhid9 hm
        obtain ⟨rfl, rfl⟩ : E = 2 ∧ S = ⟨#[]⟩ := by
          rcases HA.out with ⟨h1, h2, _⟩ | ⟨_, _, h, _⟩ | ⟨_, h, _⟩
          · exact ⟨h1, h2⟩
          · rw [h i hlt] at hm; cases hm
          · rw [h i hlt] at hm; cases hm
        clear hm
        go_wp2_with (first
          | (refine wpList_store_vn rfl 83 _ _ rfl wr.heap.size _ #[.int .u8 (k : Int), .string tx, .int .i64 nn, .int .i64 ll, .int .i64 cc] rfl rfl (Vn.new wr _ _) sizeTok rfl (all5 rfl rfl rfl rfl rfl) ?_; intro w1 HV1 hg1; have hb1 : Below wr.heap.size wr w1 := (jlow _ _).trans (jbelow hg1.out (jlow _ _).size (fun g e => by cases e; exact Nat.le_refl _)); have HB1 := jhid9 (jtwo HB.out hb1); have k0 := HV1.out.cell 0 _ rfl; have k1 := HV1.out.cell 1 _ rfl; have k2 := HV1.out.cell 2 _ rfl; have k3 := HV1.out.cell 3 _ rfl; have k4 := HV1.out.cell 4 _ rfl; clear hg1 hb1)
          | (go_at_call 80; refine (HMy.out _ HB1.out).mono ?_; rintro r w2 ⟨rfl, hb2⟩; rw [HMf.out]; have HB2 := jhid9 (jtwo HB1.out hb2); clear hb2))
        go_ret2
        exact ⟨rfl, HB2.out⟩
      | true =>
        have HMt := jhid9 hm
        have HM2 : Hid (∀ j, j < i + 1 → mayB (K j) = true) := fun j hj => by
          by_cases e : j = i
          · rw [e]; exact HMt.out
          · exact HM.out j (by omega)
        clear hm
        go_wp2_with (first
          | (refine wpList_store_vn rfl 83 _ _ rfl wr.heap.size _ #[.int .u8 (k : Int), .string tx, .int .i64 nn, .int .i64 ll, .int .i64 cc] rfl rfl (Vn.new wr _ _) sizeTok rfl (all5 rfl rfl rfl rfl rfl) ?_; intro w1 HV1 hg1; have hb1 : Below wr.heap.size wr w1 := (jlow _ _).trans (jbelow hg1.out (jlow _ _).size (fun g e => by cases e; exact Nat.le_refl _)); have HB1 := jhid9 (jtwo HB.out hb1); have k0 := HV1.out.cell 0 _ rfl; have k1 := HV1.out.cell 1 _ rfl; have k2 := HV1.out.cell 2 _ rfl; have k3 := HV1.out.cell 3 _ rfl; have k4 := HV1.out.cell 4 _ rfl; clear hg1 hb1)
          | (go_at_call 80; refine (HMy.out _ HB1.out).mono ?_; rintro r w2 ⟨rfl, hb2⟩; rw [HMt.out]; have HB2 := jhid9 (jtwo HB1.out hb2); clear hb2))
        exact ⟨⟨i + 1, by omega, by go_num, HM2, HB2.out⟩, by simp [intOf]; omega⟩
    · obtain rfl : i = n := by omega
      clear hb
      go_wp2
      go_loopw [6, 21] (fun v vi wr => ∃ (j : Nat) (s : ByteArray) (a : Option Addr) (d : Nat), j ≤ i ∧ vi = .int .i64 (j : Int) ∧ v = .slice a s.size d ∧ s.size ≤ 65536 ∧ Hid (jn K j = s) ∧ Txt wr w.heap.size v s ∧ Below w.heap.size w wr) (fun _ vi _ => i - (intOf vi).toNat)
      case atStart => exact ⟨0, ⟨#[]⟩, none, 0, by omega, rfl, rfl, by decide, rfl, Txt.nil _ _, HB.out⟩
      case round =>
        clear HB
        obtain ⟨j, s, av, dv, hj, rfl, rfl, hs65, HJ, htx, hb⟩ := hrel
        have HB := jhid9 hb
        have HTx := jhid9 htx
        clear htx
        by_cases hlt2 : j < i
        · obtain ⟨b, o, k, tx, nn, ll, cc, rfl, hK, hok, hcl⟩ := HX.out.cells hlt2
          have HK := jhid9 hK
          obtain ⟨c0, c1, c2, c3, c4⟩ := hcl _ hb
          obtain ⟨c0', c1', c2', c3', c4'⟩ := hcl _ (jtwo hb (jlow _ (.cells #[.int .u8 0, .string ⟨#[]⟩, .int .i64 0, .int .i64 0, .int .i64 0] 83)))
          have hn1 : -9223372036854775808 ≤ nn := hok.n1
          have hn2 : nn ≤ 9223372036854775807 := hok.n2
          have p0 : (0 : Int) ≤ (j : Int) := by omega
          have p1 : (j : Int) < (i : Int) := by omega
          have HF : Hid (∀ w' : World, Below w.heap.size w w' → Calls Tryd.prog 86 #[.agg #[.int .u8 (k : Int), .string tx, .int .i64 nn, .int .i64 ll, .int .i64 cc]] w' fun e w'' => e = .returned (.string (frm (K j))) ∧ Below w'.heap.size w' w'') := fun w' hb => by rw [HK.out]; exact tspelt w' k tx nn ll cc hn1 hn2 (HT.out.later hb)
          obtain ⟨F, HFr⟩ : ∃ F, Hid (frm (K j) = F) := ⟨_, rfl⟩
          rw [HFr.out] at HF
          have hFs : F.size ≤ 21 := by rw [← HFr.out]; exact may_size (HM.out j hlt2) (by rw [HK.out]; exact hok)
          have hlen := jn_len K j
          have hmono := jz_mono K (j + 1) (i - (j + 1))
          rw [show j + 1 + (i - (j + 1)) = i by omega] at hmono
          obtain ⟨s1, HS1⟩ : ∃ s1 : ByteArray, Hid ((if j = 0 then ⟨#[]⟩ else s ++ ⟨#[32]⟩) = s1) := ⟨_, rfl⟩
          obtain ⟨s2, HS2⟩ : ∃ s2 : ByteArray, Hid (s1 ++ F = s2) := ⟨_, rfl⟩
          have HJ2 : Hid (jn K (j + 1) = s2) := by show _ = _; rw [jn_succ, HJ.out, HFr.out, HS1.out, HS2.out]
          have hs2 : s1.size + F.size = s2.size := by rw [← HS2.out, ByteArray.size_append]
          have HC2 : Hid (Lib.strCells s1 ++ Lib.strCells F = Lib.strCells s2) := by show _ = _; rw [← HS2.out, str_two]
          rw [HJ2.out] at hlen
          have hs1 : s1.size ≤ 65537 := by
            rw [← HS1.out]
            split
            · show 0 ≤ _; omega
            · rw [ByteArray.size_append]; show _ + 1 ≤ _; omega
          have HFin : Hid (65536 < s2.size → E = 4 ∧ S = ⟨#[]⟩) := fun hbig => by
            rcases HA.out with ⟨_, _, j', hj', h⟩ | ⟨h1, h2, _⟩ | ⟨_, _, h, _⟩
            · rw [HM.out j' hj'] at h; cases h
            · exact ⟨h1, h2⟩
            · omega
          clear hK hok hcl hb hlen hmono
          have g1 : ¬ 9223372036854775807 < s2.size := by omega
          by_cases hj0 : j = 0
          · subst hj0
            obtain rfl : s = ⟨#[]⟩ := HJ.out.symm
            obtain rfl : s1 = ⟨#[]⟩ := by rw [← HS1.out]; rfl
            rw [Nat.zero_mul, Nat.add_zero] at c0 c1 c2 c3 c4 c0' c1' c2' c3' c4'
            by_cases hbig : 65536 < s2.size
            · have : (⟨#[]⟩ : ByteArray).size = 0 := rfl
              omega
            · have g2 : decide ((65536 : Int) < (s2.size : Int)) = false := decide_eq_false (by omega)
              have g3 : decide (65536 < s2.size) = false := decide_eq_false hbig
              clear HFin
              go_wp2_with (first
                | (refine wpList_store_vn rfl 83 _ _ rfl wr.heap.size _ #[.int .u8 (k : Int), .string tx, .int .i64 nn, .int .i64 ll, .int .i64 cc] rfl rfl (Vn.new wr _ _) sizeTok rfl (all5 rfl rfl rfl rfl rfl) ?_; intro w1 HV1 hg1; have hb1 : Below wr.heap.size wr w1 := (jlow _ _).trans (jbelow hg1.out (jlow _ _).size (fun g e => by cases e; exact Nat.le_refl _)); have HB1 := jhid9 (jtwo HB.out hb1); have HT1 := jhid9 (HTx.out.later hb1); have k0 := HV1.out.cell 0 _ rfl; have k1 := HV1.out.cell 1 _ rfl; have k2 := HV1.out.cell 2 _ rfl; have k3 := HV1.out.cell 3 _ rfl; have k4 := HV1.out.cell 4 _ rfl; clear hg1 hb1)
                | (go_at_call 86; refine (HF.out _ HB1.out).mono ?_; rintro r w3 ⟨rfl, hb3⟩; have HB3 := jhid9 (jtwo HB1.out hb3); have HT3 := jhid9 (HT1.out.later hb3); clear hb3)
                | (at_builtin; refine Lib.wpList_append_own_string _ rfl _ _ 54 9 rfl w.heap.size 5 i0 Tryd.underlying54 Tryd.underlying9 hi0 hz0 hz1 hz2 _ _ _ rfl HT3.out F rfl (by unfold maxLen; omega) (by omega) HB3.out.size ?_; intro v' w6 hown' hgrow' _; have HT6 : Hid (Txt w6 w.heap.size v' s2) := (by have h := hown'; rw [hs2, HC2.out] at h; exact h); have HB6 : Hid (Below w.heap.size w w6) := HB3.out.trans (jbelow hgrow' HB3.out.size (fun g hg => HT3.out.base hg)); clear hown' hgrow'; obtain ⟨a6, d6, rfl⟩ := HT6.out.form))
              exact ⟨⟨0 + 1, s2, a6, d6, by omega, by go_num, rfl, by omega, HJ2, HT6.out, HB6.out⟩, by simp [intOf]; omega⟩
          · have gj : decide ((0 : Int) < (j : Int)) = true := decide_eq_true (by omega)
            have gj2 : decide (0 < j) = true := decide_eq_true (by omega)
            have HSp : Hid (s ++ ⟨#[32]⟩ = s1) := by show _ = _; rw [← HS1.out, if_neg hj0]
            have hss1 : s.size + 1 = s1.size := by rw [← HSp.out, ByteArray.size_append]; rfl
            have HC1 : Hid (Lib.strCells s ++ [.int .u8 32] = Lib.strCells s1) := by show _ = _; rw [← HSp.out, str_two]; rfl
            by_cases hbig : 65536 < s2.size
            · obtain ⟨rfl, rfl⟩ := HFin.out hbig
              have g2 : decide ((65536 : Int) < (s2.size : Int)) = true := decide_eq_true (by omega)
              have g3 : decide (65536 < s2.size) = true := decide_eq_true hbig
              clear HFin HS1
              go_wp2_with (first
                | (refine wpList_store_vn rfl 83 _ _ rfl wr.heap.size _ #[.int .u8 (k : Int), .string tx, .int .i64 nn, .int .i64 ll, .int .i64 cc] rfl rfl (Vn.new wr _ _) sizeTok rfl (all5 rfl rfl rfl rfl rfl) ?_; intro w1 HV1 hg1; have hb1 : Below wr.heap.size wr w1 := (jlow _ _).trans (jbelow hg1.out (jlow _ _).size (fun g e => by cases e; exact Nat.le_refl _)); have HB1 := jhid9 (jtwo HB.out hb1); have HT1 := jhid9 (HTx.out.later hb1); have HVb := HV1; clear hg1 hb1)
                | (at_builtin; refine wpList_append_own _ rfl _ _ 54 rfl w.heap.size 5 i0 (.int .u8 0) 1 1 Tryd.underlying54 hi0 hz0 hz1 hz2 rfl (by decide) _ _ _ rfl (HT1.out.later (jlow _ _)) ⟨w1.heap.size, 0, none⟩ 1 1 [.int .u8 32] rfl rfl (one_newj _ _ _) (by intro u hu; simp at hu; rcases hu with rfl; rfl) (by unfold maxLen; omega) (by omega) (by have := HB1.out.size; simp; omega) ?_; intro v2 w2 hown2 hgrow2 _; have HT2 : Hid (Txt w2 w.heap.size v2 s1) := (by have h := hown2; rw [hss1, HC1.out] at h; exact h); have HB2 : Hid (Below w.heap.size w w2) := (jtwo HB1.out (jlow _ _)).trans (jbelow hgrow2 (by have := HB1.out.size; simp; omega) (fun g hg => HT1.out.base hg)); have hv2 := HV1.out.keptx hgrow2 (jlow _ _) (fun e => HTx.out.below e); have k0 := hv2.cell 0 _ rfl; have k1 := hv2.cell 1 _ rfl; have k2 := hv2.cell 2 _ rfl; have k3 := hv2.cell 3 _ rfl; have k4 := hv2.cell 4 _ rfl; clear hown2 hgrow2 hv2)
                | (go_at_call 86; refine (HF.out _ HB2.out).mono ?_; rintro r w3 ⟨rfl, hb3⟩; have HB3 := jhid9 (jtwo HB2.out hb3); have HT3 := jhid9 (HT2.out.later hb3); clear hb3)
                | (at_builtin; refine Lib.wpList_append_own_string _ rfl _ _ 54 9 rfl w.heap.size 5 i0 Tryd.underlying54 Tryd.underlying9 hi0 hz0 hz1 hz2 _ _ _ rfl HT3.out F rfl (by unfold maxLen; omega) (by omega) HB3.out.size ?_; intro v' w6 hown' hgrow' _; have HT6 : Hid (Txt w6 w.heap.size v' s2) := (by have h := hown'; rw [hs2, HC2.out] at h; exact h); have HB6 : Hid (Below w.heap.size w w6) := HB3.out.trans (jbelow hgrow' HB3.out.size (fun g hg => HT3.out.base hg)); clear hown' hgrow'; obtain ⟨a6, d6, rfl⟩ := HT6.out.form))
              go_ret2
              exact ⟨rfl, HB6.out⟩
            · have g2 : decide ((65536 : Int) < (s2.size : Int)) = false := decide_eq_false (by omega)
              have g3 : decide (65536 < s2.size) = false := decide_eq_false hbig
              clear HFin HS1
              go_wp2_with (first
                | (refine wpList_store_vn rfl 83 _ _ rfl wr.heap.size _ #[.int .u8 (k : Int), .string tx, .int .i64 nn, .int .i64 ll, .int .i64 cc] rfl rfl (Vn.new wr _ _) sizeTok rfl (all5 rfl rfl rfl rfl rfl) ?_; intro w1 HV1 hg1; have hb1 : Below wr.heap.size wr w1 := (jlow _ _).trans (jbelow hg1.out (jlow _ _).size (fun g e => by cases e; exact Nat.le_refl _)); have HB1 := jhid9 (jtwo HB.out hb1); have HT1 := jhid9 (HTx.out.later hb1); have HVb := HV1; clear hg1 hb1)
                | (at_builtin; refine wpList_append_own _ rfl _ _ 54 rfl w.heap.size 5 i0 (.int .u8 0) 1 1 Tryd.underlying54 hi0 hz0 hz1 hz2 rfl (by decide) _ _ _ rfl (HT1.out.later (jlow _ _)) ⟨w1.heap.size, 0, none⟩ 1 1 [.int .u8 32] rfl rfl (one_newj _ _ _) (by intro u hu; simp at hu; rcases hu with rfl; rfl) (by unfold maxLen; omega) (by omega) (by have := HB1.out.size; simp; omega) ?_; intro v2 w2 hown2 hgrow2 _; have HT2 : Hid (Txt w2 w.heap.size v2 s1) := (by have h := hown2; rw [hss1, HC1.out] at h; exact h); have HB2 : Hid (Below w.heap.size w w2) := (jtwo HB1.out (jlow _ _)).trans (jbelow hgrow2 (by have := HB1.out.size; simp; omega) (fun g hg => HT1.out.base hg)); have hv2 := HV1.out.keptx hgrow2 (jlow _ _) (fun e => HTx.out.below e); have k0 := hv2.cell 0 _ rfl; have k1 := hv2.cell 1 _ rfl; have k2 := hv2.cell 2 _ rfl; have k3 := hv2.cell 3 _ rfl; have k4 := hv2.cell 4 _ rfl; clear hown2 hgrow2 hv2)
                | (go_at_call 86; refine (HF.out _ HB2.out).mono ?_; rintro r w3 ⟨rfl, hb3⟩; have HB3 := jhid9 (jtwo HB2.out hb3); have HT3 := jhid9 (HT2.out.later hb3); clear hb3)
                | (at_builtin; refine Lib.wpList_append_own_string _ rfl _ _ 54 9 rfl w.heap.size 5 i0 Tryd.underlying54 Tryd.underlying9 hi0 hz0 hz1 hz2 _ _ _ rfl HT3.out F rfl (by unfold maxLen; omega) (by omega) HB3.out.size ?_; intro v' w6 hown' hgrow' _; have HT6 : Hid (Txt w6 w.heap.size v' s2) := (by have h := hown'; rw [hs2, HC2.out] at h; exact h); have HB6 : Hid (Below w.heap.size w w6) := HB3.out.trans (jbelow hgrow' HB3.out.size (fun g hg => HT3.out.base hg)); clear hown' hgrow'; obtain ⟨a6, d6, rfl⟩ := HT6.out.form))
              exact ⟨⟨j + 1, s2, a6, d6, by omega, by go_num, rfl, by omega, HJ2, HT6.out, HB6.out⟩, by simp [intOf]; omega⟩
        · obtain rfl : j = i := by omega
          obtain ⟨rfl, hS⟩ : E = 0 ∧ S = s := by
            rcases HA.out with ⟨_, _, j', hj', h⟩ | ⟨_, _, _, h⟩ | ⟨h1, _, _, h2⟩
            · rw [HM.out j' hj'] at h; cases h
            · exfalso
              cases j with
              | zero => exact absurd h (by show ¬ 65537 < 0; omega)
              | succ j => have := jn_len K j; rw [HJ.out] at this; omega
            · exact ⟨h1, by rw [h2, HJ.out]⟩
          have HS := jhid9 hS
          have hcv := HTx.out.read
          clear hS hb
          go_wp2
          go_ret2
          exact ⟨by rw [HS.out]; rfl, HB.out⟩
end Go.Proofs.YtdimkfcanegahaaDoor
