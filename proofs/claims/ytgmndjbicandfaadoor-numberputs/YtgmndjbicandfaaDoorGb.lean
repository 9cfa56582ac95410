/-
  The library's contracts at this program: strconv, strings.
  Contracts of the token's reference: May, Form.
  Contracts of the token's reference: Join.
  What the library's Atoi, Count, LastIndexByte, IndexByte tell, in the words of stage 9. No Go in sight.
  The variables that the program's token reads: the words, the library's ErrRange.
  Contracts of the program's token: bytes, words.
  Contracts of the program's token: names, May, spelt.
  Contract of the program's Join.
-/
import Derived.Shelf.Small.Strs
import Derived.Lib.LaidTab
import Derived.Lib.ItoaNum
import Derived.Test.YtgmndjbicandfaaDoorGa
import Derived.Lib.AppendIntMem
import Derived.Lib.ItoaLen
import Derived.Lib.AtoiAll
import Derived.Lib.Bytealg
import Derived.Lib.LastIndexByte
import Derived.Stop.LaidErr
import Derived.Lib.AppendStr
import Derived.Laws.IdiomStrings
namespace Go.Proofs.YtgmndjbicandfaaDoor
open Go.RowKit Go.Shelf
/-- The table of powers lies in the world. -/
def Tab9 (w : World) : Prop := Lib.TabIs Tryd.prog w "internal/strconv.uint64pow10" .u64 Lib.pow10Tab
def renSidx : Go.Shelf.Ren := ⟨fun | 137 => 87 | 217 => 90 | 266 => 91 | n => n, fun | 9 => 9 | 5 => 5 | 3 => 3 | n => n, fun | n => n⟩
theorem laySidx : Go.Proofs.Lays.n137 Tryd.prog renSidx := {
  mixed := by kernel_rfl
  f137 := Tryd.func87.trans (congrArg some (by kernel_rfl))
  f217 := Tryd.func90.trans (congrArg some (by kernel_rfl))
  f266 := Tryd.func91.trans (congrArg some (by kernel_rfl))
  t3 := Tryd.underlying3
  a3 := Tryd.isAgg3
  z3 := Tryd.sizeOf3
  v3 := Tryd.zeroValue3
  t5 := Tryd.underlying5
  a5 := Tryd.isAgg5
  z5 := Tryd.sizeOf5
  v5 := Tryd.zeroValue5
  t9 := Tryd.underlying9
  a9 := Tryd.isAgg9
  z9 := Tryd.sizeOf9
  v9 := Tryd.zeroValue9 }
theorem sidx_raw (w : World) (s : ByteArray) (c : Int) : Calls Tryd.prog 87 #[.string s, .int .u8 c] w fun e w' => e = .returned (.int .i64 (Lib.indexByte s.data.toList c.toNat.toUInt8)) ∧ w' = w := Any.strings_IndexByte laySidx s c w
end Go.Proofs.YtgmndjbicandfaaDoor

namespace Go.Proofs.YtgmndjbicandfaaDoor
open Go.RowKit
theorem Tab9.later {w w' : World} (h : Tab9 w) (hb : Below w.heap.size w w') : Tab9 w' := by
  unfold Tab9 Lib.TabIs World.var? at *
  cases hg : Tryd.prog.globalNamed "internal/strconv.uint64pow10" with
  | none => rw [hg] at h; cases h
  | some g =>
    rw [hg] at h
    have hlt : g < w.heap.size := by
      rcases Nat.lt_or_ge g w.heap.size with x | x
      · exact x
      · simp only [Option.bind_some] at h
        rw [Array.getElem?_eq_none x] at h
        cases h
    simp only [Option.bind_some] at *
    rw [hb.block g hlt]
    exact h
/-- May a token be? -/
def mayB (v : TV) : Bool :=
  if v.k = 1 then decide (v.n = 0) && isN v.tx
  else if v.k = 2 then decide (v.n = 0) && isW v.tx
  else if v.k = 3 then decide (v.tx.size = 0) && (decide (0 ≤ v.n) && decide (v.n ≤ 2147483647))
  else if v.k = 4 then decide (v.n = 0) && (decide (v.tx.size = 1) && isS (tb v.tx 0))
  else false
/-- A token's text. -/
def frm (v : TV) : ByteArray := if v.k = 3 then ⟨(Lib.itoa v.n).toArray⟩ else v.tx
/-- A token as it is handed over. -/
def tva (v : TV) : Value := .agg #[.int .u8 (v.k : Int), .string v.tx, .int .i64 v.n, .int .i64 v.ln, .int .i64 v.cl]
/-- A token's numbers are those of Go. -/
structure TvOk (v : TV) : Prop where
  k8 : v.k < 256
  tx47 : v.tx.size ≤ 140737488351232
  n1 : -9223372036854775808 ≤ v.n
  n2 : v.n ≤ 9223372036854775807
theorem tl_nil {x : ByteArray} : (x.toList == []) = decide (x.size = 0) := by
  rw [ByteArray.toList_eq]
  obtain ⟨⟨l⟩⟩ := x
  cases l with
  | nil => rfl
  | cons a l => rfl
end Go.Proofs.YtgmndjbicandfaaDoor

namespace Go.Proofs.YtgmndjbicandfaaDoor
open Go.RowKit
/-- How many bytes k tokens take, each with a blank behind it. -/
def jz (K : Nat → TV) : Nat → Nat
  | 0 => 0
  | k + 1 => jz K k + ((frm (K k)).size + 1)
/-- k tokens' texts, with a blank between each two. -/
def jn (K : Nat → TV) : Nat → ByteArray
  | 0 => ⟨#[]⟩
  | k + 1 => (if k = 0 then ⟨#[]⟩ else jn K k ++ ⟨#[32]⟩) ++ frm (K k)
theorem jz_succ (K : Nat → TV) (k : Nat) : jz K (k + 1) = jz K k + ((frm (K k)).size + 1) := rfl
theorem jn_succ (K : Nat → TV) (k : Nat) : jn K (k + 1) = (if k = 0 then ⟨#[]⟩ else jn K k ++ ⟨#[32]⟩) ++ frm (K k) := rfl
theorem jz_le (K : Nat → TV) : ∀ k, k ≤ jz K k := by
  intro k
  induction k with
  | zero => exact Nat.le_refl _
  | succ k ih => rw [jz_succ]; omega
theorem jz_mono (K : Nat → TV) (k : Nat) : ∀ d, jz K k ≤ jz K (k + d) := by
  intro d
  induction d with
  | zero => exact Nat.le_refl _
  | succ d ih => rw [← Nat.add_assoc, jz_succ]; omega
theorem word_size : ∀ x ∈ wds, x.size ≤ 9 := by decide
theorem may_size {v : TV} (h : mayB v = true) (hok : TvOk v) : (frm v).size ≤ 21 := by
  unfold frm
  split
  · show (Lib.itoa v.n).toArray.size ≤ 21
    rw [List.size_toArray]
    exact Lib.itoa_length_le v.n hok.n1 hok.n2
  · unfold mayB at h
    split at h
    · simp only [Bool.and_eq_true] at h
      have := (isN_iff.1 h.2).most
      omega
    · split at h
      · simp only [Bool.and_eq_true] at h
        have := word_size _ (isW_iff.1 h.2)
        omega
      · split at h
        · simp only [Bool.and_eq_true, decide_eq_true_eq] at h
          omega
        · cases h
theorem jz_bound {K : Nat → TV} {n : Nat} (hok : ∀ i, i < n → TvOk (K i)) : ∀ k, k ≤ n → (∀ i, i < k → mayB (K i) = true) → jz K k ≤ 22 * k := by
  intro k
  induction k with
  | zero => intro _ _; exact Nat.le_refl _
  | succ k ih =>
    intro hk h
    have h1 := ih (by omega) (fun i hi => h i (by omega))
    have h2 := may_size (h k (by omega)) (hok k (by omega))
    rw [jz_succ]
    omega
theorem jn_size (K : Nat → TV) : ∀ k, (jn K k).size ≤ jz K k := by
  intro k
  induction k with
  | zero => exact Nat.le_refl _
  | succ k ih =>
    rw [jn_succ, jz_succ, ByteArray.size_append]
    split
    · show 0 + _ ≤ _; omega
    · rw [ByteArray.size_append]; show _ + 1 + _ ≤ _; omega
/-- What Join answers. -/
def JoinA (K : Nat → TV) (n : Nat) (S : ByteArray) (E : Nat) : Prop :=
  (E = 2 ∧ S = ⟨#[]⟩ ∧ ∃ i, i < n ∧ mayB (K i) = false) ∨ (E = 4 ∧ S = ⟨#[]⟩ ∧ (∀ i, i < n → mayB (K i) = true) ∧ 65537 < jz K n) ∨ (E = 0 ∧ (∀ i, i < n → mayB (K i) = true) ∧ jz K n ≤ 65537 ∧ S = jn K n)
theorem join_ex (K : Nat → TV) (n : Nat) : ∃ S E, JoinA K n S E := by
  by_cases h : ∃ i, i < n ∧ mayB (K i) = false
  · exact ⟨_, 2, .inl ⟨rfl, rfl, h⟩⟩
  · have h1 : ∀ i, i < n → mayB (K i) = true := fun i hi => by
      cases hc : mayB (K i) with
      | true => rfl
      | false => exact absurd ⟨i, hi, hc⟩ h
    by_cases h2 : 65537 < jz K n
    · exact ⟨_, 4, .inr (.inl ⟨rfl, rfl, h1, h2⟩)⟩
    · exact ⟨_, 0, .inr (.inr ⟨rfl, h1, by omega, rfl⟩)⟩
/-- A list of tokens in memory. -/
structure Toks (w : World) (x : Option Addr) (n : Nat) (K : Nat → TV) : Prop where
  at_ : ∀ i, i < n → TvAt w x i (K i)
  ok : ∀ i, i < n → TvOk (K i)
theorem Toks.later {w w' : World} {x : Option Addr} {n : Nat} {K : Nat → TV} (h : Toks w x n K) (hb : Below w.heap.size w w') : Toks w' x n K := ⟨fun i hi => (h.at_ i hi).later hb, h.ok⟩
/-- A token's cells in later worlds, in letters. -/
theorem Toks.cells {w : World} {x : Option Addr} {n : Nat} {K : Nat → TV} (h : Toks w x n K) {i : Nat} (hi : i < n) : ∃ (b o k : Nat) (tx : ByteArray) (nn ll cc : Int), x = some ⟨b, o, none⟩ ∧ K i = ⟨k, tx, nn, ll, cc⟩ ∧ TvOk ⟨k, tx, nn, ll, cc⟩ ∧
    ∀ w' : World, Below w.heap.size w w' → w'.cell? ⟨b, o + i * 5, none⟩ = some (.int .u8 (k : Int)) ∧ w'.cell? ⟨b, o + i * 5 + 1, none⟩ = some (.string tx) ∧ w'.cell? ⟨b, o + i * 5 + 2, none⟩ = some (.int .i64 nn) ∧ w'.cell? ⟨b, o + i * 5 + 3, none⟩ = some (.int .i64 ll) ∧ w'.cell? ⟨b, o + i * 5 + 4, none⟩ = some (.int .i64 cc) := by
  obtain ⟨b, o, e, _⟩ := h.at_ i hi
  refine ⟨b, o, (K i).k, (K i).tx, (K i).n, (K i).ln, (K i).cl, e, rfl, h.ok i hi, fun w' hb => ?_⟩
  obtain ⟨b', o', e', c⟩ := (h.at_ i hi).later hb
  rw [e] at e'
  cases e'
  exact c
end Go.Proofs.YtgmndjbicandfaaDoor

namespace Go.Proofs.YtgmndjbicandfaaDoor
open Go.RowKit
/-- The number that digits go on to. -/
def dvv : Nat → List UInt8 → Nat
  | a, [] => a
  | a, c :: r => dvv (a * 10 + (c.toNat - 48)) r
theorem dvv_ge : ∀ (l : List UInt8) (a : Nat), a ≤ dvv a l
  | [], _ => Nat.le_refl _
  | c :: r, a => by
    have := dvv_ge r (a * 10 + (c.toNat - 48))
    show a ≤ dvv (a * 10 + (c.toNat - 48)) r
    omega
theorem dvv_snoc : ∀ (l : List UInt8) (a : Nat) (c : UInt8), dvv a (l ++ [c]) = 10 * dvv a l + (c.toNat - 48)
  | [], a, c => by show a * 10 + _ = _; rw [Nat.mul_comm]; rfl
  | b :: r, a, c => dvv_snoc r _ c
theorem parse_digits : ∀ (l : List UInt8) (a : Nat), (∀ c ∈ l, 48 ≤ c.toNat ∧ c.toNat ≤ 57) → (dvv a l < 18446744073709551616 → Lib.parseUint10 a l = .ok (dvv a l)) ∧ (18446744073709551616 ≤ dvv a l → a < 18446744073709551616 → Lib.parseUint10 a l = .range)
  | [], a, _ => ⟨fun _ => rfl, fun h1 h2 => absurd h1 (Nat.not_le.2 h2)⟩
  | c :: r, a, h => by
    have hc := h c (by simp)
    have ih := parse_digits r (a * 10 + (c.toNat - 48)) (fun x hx => h x (by simp [hx]))
    have hge := dvv_ge r (a * 10 + (c.toNat - 48))
    have e : dvv a (c :: r) = dvv (a * 10 + (c.toNat - 48)) r := rfl
    rw [e]
    constructor
    · intro h1
      show (if _ then _ else _) = _
      rw [if_pos hc, if_neg (by omega), if_neg (by omega)]
      exact ih.1 h1
    · intro h1 _
      show (if _ then _ else _) = _
      rw [if_pos hc]
      split
      · rfl
      · split
        · rfl
        · exact ih.2 h1 (by omega)
theorem atoi_digits {l : List UInt8} (h0 : l ≠ []) (h : ∀ c ∈ l, 48 ≤ c.toNat ∧ c.toNat ≤ 57) : (dvv 0 l < 9223372036854775808 → Lib.atoiAll l = .ok (dvv 0 l : Nat)) ∧ (9223372036854775808 ≤ dvv 0 l → Lib.atoiAll l = .range) := by
  cases l with
  | nil => exact absurd rfl h0
  | cons c r =>
    have hc := h c (by simp)
    have hp := parse_digits (c :: r) 0 h
    have hm : Lib.parseMag (c :: r) = Lib.parseUint10 0 (c :: r) := if_neg (by simp)
    have h43 : ¬ (c.toNat = 43 ∨ c.toNat = 45) := by omega
    have h45 : ¬ c.toNat = 45 := by omega
    constructor
    · intro hv
      simp only [Lib.atoiAll, if_neg h43, hm, hp.1 (by omega)]
      rw [if_neg (fun x => by have := x.2; omega), if_neg (fun x => h45 x.1), if_neg h45]
    · intro hv
      by_cases h64 : dvv 0 (c :: r) < 18446744073709551616
      · simp only [Lib.atoiAll, if_neg h43, hm, hp.1 h64]
        rw [if_pos ⟨h45, hv⟩]
      · simp only [Lib.atoiAll, if_neg h43, hm, hp.2 (by omega) (by omega)]
theorem tb_byte {x : ByteArray} {i : Nat} (h : i < x.size) : ∃ c, x.data.toList[i]? = some c ∧ c.toNat = tb x i := by
  refine ⟨x[i], ?_, tb_at h⟩
  have h' : i < x.data.size := h
  rw [Array.getElem?_toList, Array.getElem?_eq_getElem h']
  rfl
theorem dvv_take {x : ByteArray} : ∀ k, k ≤ x.size → dvv 0 (x.data.toList.take k) = nvl x 0 k := by
  intro k
  induction k with
  | zero => intro _; rfl
  | succ k ih =>
    intro hk
    obtain ⟨c, h1, h2⟩ := tb_byte (x := x) (i := k) (by omega)
    rw [List.take_add_one, h1]
    show dvv 0 (_ ++ [c]) = 10 * nvl x 0 k + (tb x (0 + k) - 48)
    rw [dvv_snoc, ih (by omega), h2, Nat.zero_add]
theorem dvv_all (x : ByteArray) : dvv 0 x.data.toList = nvl x 0 x.size := by
  rw [← dvv_take x.size (Nat.le_refl _), List.take_of_length_le (by rw [Array.length_toList]; exact Nat.le_refl _)]
/-- What Atoi tells of digits. -/
theorem atoi_text {x : ByteArray} (h0 : 1 ≤ x.size) (h : ∀ j, j < x.size → isD (tb x j) = true) : (nvl x 0 x.size < 9223372036854775808 → Lib.atoiAll x.data.toList = .ok (nvl x 0 x.size : Nat)) ∧ (9223372036854775808 ≤ nvl x 0 x.size → Lib.atoiAll x.data.toList = .range ∧ Lib.atoiSat x.data.toList = 9223372036854775807) := by
  have hn : x.data.toList ≠ [] := fun e => by
    have : x.data.toList.length = 0 := by rw [e]; rfl
    rw [Array.length_toList] at this
    have h1 : x.size = x.data.size := rfl
    omega
  have ha : ∀ c ∈ x.data.toList, 48 ≤ c.toNat ∧ c.toNat ≤ 57 := fun c hc => by
    obtain ⟨i, hi, e⟩ := List.getElem_of_mem hc
    rw [Array.length_toList] at hi
    obtain ⟨d, h1, h2⟩ := tb_byte (x := x) (i := i) hi
    rw [List.getElem?_eq_getElem (by rw [Array.length_toList]; exact hi)] at h1
    obtain rfl : c = d := by rw [← e]; exact Option.some.inj h1
    rw [h2]
    exact isD_iff.1 (h i hi)
  have := atoi_digits hn ha
  rw [dvv_all] at this
  refine ⟨this.1, fun hv => ⟨this.2 hv, ?_⟩⟩
  unfold Lib.atoiSat
  rw [if_neg]
  intro e
  cases hl : x.data.toList with
  | nil => exact hn hl
  | cons c r =>
    rw [hl] at e
    have := ha c (by rw [hl]; simp)
    have e' : c.toNat = 45 := by simpa using e
    omega
theorem lnn_count (s : ByteArray) : ∀ k, k ≤ s.size → lnn s k = 1 + (s.data.toList.take k).count 10 := by
  intro k
  induction k with
  | zero => intro _; rfl
  | succ k ih =>
    intro hk
    obtain ⟨c, h1, h2⟩ := tb_byte (x := s) (i := k) (by omega)
    rw [lnn_succ, ih (by omega), List.take_add_one, h1]
    show _ = 1 + (_ ++ [c]).count 10
    rw [List.count_append]
    by_cases hc : tb s k = 10
    · have : c = 10 := UInt8.toNat_inj.1 (by rw [h2, hc]; rfl)
      subst this
      rw [if_pos hc]
      simp
      omega
    · have : c ≠ 10 := fun e => hc (by rw [← h2, e]; rfl)
      rw [if_neg hc]
      simp [this]
/-- Lines, as Count tells them. -/
theorem lnn_whole (s : ByteArray) (k : Nat) (hk : k ≤ s.size) : 1 + Lib.countByte (s.extract 0 k).data.toList 10 = lnn s k := by
  rw [lnn_count s k hk]
  unfold Lib.countByte
  rw [show (s.extract 0 k).data.toList = s.data.toList.take k by simp [ByteArray.data_extract]]
theorem i64_of_wf9 {n : Int} (h : (Lit.int .i64 n).wf = true) : -9223372036854775808 ≤ n ∧ n ≤ 9223372036854775807 := by
  simp [Lit.wf, IntKind.min, IntKind.max, IntKind.signed, IntKind.bits] at h
  omega
theorem byte_list {x : ByteArray} {i : Nat} (h : i < x.size) : (x.data[i]!).toNat = tb x i := by
  have h' : i < x.data.size := h
  rw [getElem!_pos x.data i h']
  exact tb_at h
theorem cln_idx {s : ByteArray} {k : Nat} (hk : k ≤ s.size) : ∀ j, j ≤ k → (j : Int) - Lib.lastIdx (s.extract 0 k) 10 j = (cln s j : Nat) := by
  intro j
  induction j with
  | zero => intro _; rfl
  | succ j ih =>
    intro hj
    have hb : (((s.extract 0 k).data[j]!).toNat : Int) = (tb s j : Nat) := by
      rw [byte_list (by rw [size_extract hk]; omega), tb_extract (by omega) hk, Nat.zero_add]
    have ih := ih (by omega)
    rw [cln_succ]
    unfold Lib.lastIdx
    rw [hb]
    by_cases hc : tb s j = 10
    · rw [if_pos hc, if_pos (by omega)]
      omega
    · rw [if_neg hc, if_neg (by omega)]
      omega
/-- The column, as LastIndexByte tells it. -/
theorem cln_whole (s : ByteArray) (k : Nat) (hk : k ≤ s.size) : (k : Int) - Lib.lastIndexByte (s.extract 0 k) 10 = (cln s k : Nat) := by
  unfold Lib.lastIndexByte
  rw [size_extract hk, Nat.sub_zero]
  exact cln_idx hk k (Nat.le_refl _)
theorem sign_idx : ∀ c, c < 256 → decide (0 ≤ Lib.indexByte [61, 59, 44, 40, 41, 91, 93, 43, 45, 42, 47, 37] c.toUInt8) = isS c := by decide +kernel
end Go.Proofs.YtgmndjbicandfaaDoor

namespace Go.Proofs.YtgmndjbicandfaaDoor
open Go.RowKit
/-- An array of texts that reads as a list holds these texts, cell for cell. -/
theorem cells_of_texts {H : Type} {enc : TypeId × Value → H} {P : Program} {w : World} {base : Nat} {sp : Nat → Bool} {held : Bool} {fuel : Nat} {t e : TypeId} {n : Nat} {cs : List Value} {zs : List (List UInt8)} {p : List MemPlace}
    (ht : P.underlying t = some (.array n e)) (he : P.underlying e = some .string) (hce : P.cellsOf e = 1) (hct : P.cellsOf t = n)
    (h : DataW.trod enc P w base sp held fuel t cs = some (.agg (zs.map fun z => .lit (.string z)), p)) : cs = zs.map fun z => Value.string ⟨z.toArray⟩ := by
  cases fuel with
  | zero => simp [DataW.trod] at h
  | succ fuel =>
    simp only [DataW.trod, ht, hce, hct, Nat.mul_one] at h
    split at h
    · rename_i hl
      obtain ⟨xs, hm, hx⟩ := Option.map_eq_some_iff.1 h
      have hxs : xs.map (·.1) = zs.map fun z => (DataW.lit (.string z) : DataW H) := by
        have := congrArg Prod.fst hx
        simpa using this
      have hxl : xs.length = n := by simpa using Lib.mapM_length hm
      have hzl : zs.length = n := by
        have := congrArg List.length hxs
        simp at this
        omega
      apply List.ext_getElem?
      intro i
      by_cases hi : i < n
      · obtain ⟨b, hb, hf⟩ := Lib.mapM_at hm i i (by simp [hi])
        obtain ⟨z, hc, hd, _⟩ := DataW.trod_string he hf
        have h1 : cs[i]? = some (.string z) := by
          have := congrArg (·[0]?) hc
          simpa [List.getElem?_take, List.getElem?_drop] using this
        have h2 : (xs.map (·.1))[i]? = some (DataW.lit (.string z.data.toList) : DataW H) := by simp [hb, hd]
        rw [hxs] at h2
        simp only [List.getElem?_map, Option.map_eq_some_iff, DataW.lit.injEq, Lit.string.injEq] at h2
        obtain ⟨z', hz', rfl⟩ := h2
        simp [h1, hz']
      · rw [List.getElem?_eq_none (by omega), List.getElem?_eq_none (by simp; omega)]
    · cases h
/-- The words lie in their variable. -/
def Wt9 (w : World) : Prop := w.var? Tryd.prog "recoup/token.words" = some (wds.map Value.string).toArray
theorem var_later {P : Program} {w w' : World} {nm : String} {cs : Array Value} (h : w.var? P nm = some cs) (hb : Below w.heap.size w w') : w'.var? P nm = some cs := by
  unfold World.var? at *
  cases hg : P.globalNamed nm with
  | none => rw [hg] at h; cases h
  | some g =>
    rw [hg] at h
    simp only [Option.bind_some] at h ⊢
    have hlt : g < w.heap.size := by
      rcases Nat.lt_or_ge g w.heap.size with x | x
      · exact x
      · rw [Array.getElem?_eq_none x] at h; cases h
    rw [hb.block g hlt]
    exact h
theorem Wt9.later {w w' : World} (h : Wt9 w) (hb : Below w.heap.size w w') : Wt9 w' := var_later h hb
/-- The library's error lies in its variable. -/
def Er9 (w : World) : Prop := ∃ (tp : TypeId) (p : Value), w.var? Tryd.prog "strconv.ErrRange" = some #[.iface tp p]
theorem Er9.later {w w' : World} (h : Er9 w) (hb : Below w.heap.size w w') : Er9 w' := by
  obtain ⟨tp, p, h⟩ := h
  exact ⟨tp, p, var_later h hb⟩
end Go.Proofs.YtgmndjbicandfaaDoor

namespace Go.Proofs.YtgmndjbicandfaaDoor
open Go.RowKit
set_option maxHeartbeats 400000 in
theorem tdigit_any (w : World) (c : Nat) (hc : c < 256) : Calls Tryd.prog 89 #[.int .u8 (c : Int)] w fun e w' => e = .returned (.bool (isD c)) ∧ w = w' := by
  by_cases h1 : 48 ≤ c
  · by_cases h2 : c ≤ 57
    · rw [isD_t ⟨h1, h2⟩]
      have q : decide ((c : Int) ≤ 57) = true := decide_eq_true (by omega)
      go_enter Tryd.func89, Tryd.ntmps89
      go_wp2
      go_ret
      exact ⟨rfl, rfl⟩
    · rw [isD_f (fun h => h2 h.2)]
      have q : decide ((c : Int) ≤ 57) = false := decide_eq_false (by omega)
      go_enter Tryd.func89, Tryd.ntmps89
      go_wp2
      go_ret
      exact ⟨rfl, rfl⟩
  · rw [isD_f (fun h => h1 h.1)]
    go_enter Tryd.func89, Tryd.ntmps89
    go_wp2
    go_ret
    exact ⟨rfl, rfl⟩
/-- A byte that may stand in a name. -/
def inN (c : Nat) (f : Bool) : Bool := if isD c then !f else isL c
set_option maxHeartbeats 1000000 in
theorem tinName_any (w : World) (c : Nat) (f : Bool) (hc : c < 256) : Calls Tryd.prog 86 #[.int .u8 (c : Int), .bool f] w fun e w' => e = .returned (.bool (inN c f)) ∧ w = w' := by
  have HD : Hid (∀ w' : World, Calls Tryd.prog 89 #[.int .u8 (c : Int)] w' fun e w'' => e = .returned (.bool (isD c)) ∧ w' = w'') := fun w' => tdigit_any w' c hc
  cases hd : isD c with
  | true =>
    rw [hd] at HD
    cases f with
    | true =>
      rw [show inN c true = false by unfold inN; rw [hd]; rfl]
      go_enter Tryd.func86, Tryd.ntmps86
      go_wp2_with (go_at_call 89; refine (HD.out _).mono ?_; rintro e w' ⟨rfl, rfl⟩)
      go_ret
      exact ⟨rfl, rfl⟩
    | false =>
      rw [show inN c false = true by unfold inN; rw [hd]; rfl]
      go_enter Tryd.func86, Tryd.ntmps86
      go_wp2_with (go_at_call 89; refine (HD.out _).mono ?_; rintro e w' ⟨rfl, rfl⟩)
      go_ret
      exact ⟨rfl, rfl⟩
  | false =>
    rw [hd] at HD
    rw [show inN c f = isL c by unfold inN; rw [hd]; rfl]
    clear hd
    by_cases h1 : 97 ≤ c
    · by_cases h2 : c ≤ 122
      · rw [isL_t ⟨h1, h2⟩]
        have q : decide ((c : Int) ≤ 122) = true := decide_eq_true (by omega)
        go_enter Tryd.func86, Tryd.ntmps86
        go_wp2_with (go_at_call 89; refine (HD.out _).mono ?_; rintro e w' ⟨rfl, rfl⟩)
        go_ret
        exact ⟨rfl, rfl⟩
      · rw [isL_f (fun h => h2 h.2)]
        have q : decide ((c : Int) ≤ 122) = false := decide_eq_false (by omega)
        go_enter Tryd.func86, Tryd.ntmps86
        go_wp2_with (go_at_call 89; refine (HD.out _).mono ?_; rintro e w' ⟨rfl, rfl⟩)
        go_ret
        exact ⟨rfl, rfl⟩
    · rw [isL_f (fun h => h1 h.1)]
      go_enter Tryd.func86, Tryd.ntmps86
      go_wp2_with (go_at_call 89; refine (HD.out _).mono ?_; rintro e w' ⟨rfl, rfl⟩)
      go_ret
      exact ⟨rfl, rfl⟩
theorem inN_first (c : Nat) : inN c true = isL c := by
  unfold inN
  cases hd : isD c with
  | false => rfl
  | true =>
    have := isD_iff.1 hd
    rw [isL_f (by omega)]
    rfl
theorem inN_rest (c : Nat) : inN c false = (isD c || true && isL c) := by
  unfold inN
  cases hd : isD c <;> cases hl : isL c <;> rfl
set_option maxRecDepth 20000 in
set_option maxHeartbeats 400000 in
theorem tsign_any (w : World) (c : Nat) (hc : c < 256) : Calls Tryd.prog 79 #[.int .u8 (c : Int)] w fun e w' => e = .returned (.bool (isS c)) ∧ w = w' := by
  obtain ⟨i, HI⟩ : ∃ i : Int, Hid (Lib.indexByte [61, 59, 44, 40, 41, 91, 93, 43, 45, 42, 47, 37] c.toUInt8 = i) := ⟨_, rfl⟩
  have HD : Hid (∀ w' : World, Calls Tryd.prog 87 #[.string ⟨#[61, 59, 44, 40, 41, 91, 93, 43, 45, 42, 47, 37]⟩, .int .u8 (c : Int)] w' fun e w'' => e = .returned (.int .i64 i) ∧ w' = w'') := fun w' => (sidx_raw w' _ _).mono (fun e w'' h => ⟨by rw [h.1, ← HI.out]; rfl, h.2.symm⟩)
  have HS : Hid (decide (0 ≤ i) = isS c) := by show _ = _; rw [← HI.out]; exact sign_idx c hc
  rw [← HS.out]
  clear HS HI
  go_enter Tryd.func79, Tryd.ntmps79
  go_wp2_with (go_at_call 87; refine (HD.out _).mono ?_; rintro e w' ⟨rfl, rfl⟩)
  go_ret
  exact ⟨rfl, rfl⟩
theorem gWords : Tryd.prog.globalNamed "recoup/token.words" = some 0 := by kernel_rfl
theorem Wt9.cell {w : World} (h : Wt9 w) (i : Nat) (hi : i < 17) : w.cell? ⟨0, i, none⟩ = some (.string (wds.getD i default)) := by
  rw [World.var?_cell gWords h i]
  have : i < wds.length := hi
  simp [this]
set_option maxRecDepth 20000 in
set_option maxHeartbeats 400000 in
theorem tword_any (w : World) (x : ByteArray) (HT : Hid (Wt9 w)) : Calls Tryd.prog 78 #[.string x] w fun e w' => e = .returned (.bool (isW x)) ∧ w = w' := by
  go_enter Tryd.func78, Tryd.ntmps78
  go_wp2
  go_loop [4] (fun vi => ∃ i : Nat, i ≤ 17 ∧ vi = .int .i64 (i : Int) ∧ Hid (∀ j, j < i → wds.getD j default ≠ x)) (fun vi => 17 - (intOf vi).toNat)
  case atStart => exact ⟨0, by omega, rfl, fun j hj => by omega⟩
  case round =>
    obtain ⟨i, hi, rfl, HN⟩ := hrel
    by_cases hlt : i < 17
    · have hc := HT.out.cell i hlt
      obtain ⟨y, HY⟩ : ∃ y, Hid (wds.getD i default = y) := ⟨_, rfl⟩
      rw [HY.out] at hc
      have p0 : (0 : Int) ≤ (i : Int) := by omega
      have p1 : (i : Int) < 17 := by omega
      by_cases hy : y = x
      · subst hy
        have HS9 : Hid (isW y = true) := isW_at hlt HY.out
        go_wp2
        go_ret
        exact ⟨by rw [HS9.out]; rfl, rfl⟩
      · have hy2 := tl_ne hy
        go_wp2
        refine ⟨⟨i + 1, by omega, by go_num, fun j hj => ?_⟩, by simp [intOf]; omega⟩
        by_cases e : j = i
        · rw [e, HY.out]; exact hy
        · exact HN.out j (by omega)
    · have HS9 : Hid (isW x = false) := isW_not (fun j hj => HN.out j (by omega))
      go_wp2
      go_ret
      exact ⟨by rw [HS9.out]; rfl, rfl⟩
end Go.Proofs.YtgmndjbicandfaaDoor

namespace Go.Proofs.YtgmndjbicandfaaDoor
open Go.RowKit
theorem isN_of {x : ByteArray} {n : Nat} (hn : x.size = n) (h0 : 1 ≤ n) (h16 : n ≤ 16) (hW : isW x = false) (h : ∀ j, j < n → inN (tb x j) (decide (j = 0)) = true) : isN x = true := by
  refine isN_iff.2 ⟨by omega, by omega, ?_, hW, fun j hj => ?_⟩
  · have := h 0 (by omega)
    rw [show decide ((0 : Nat) = 0) = true from rfl, inN_first] at this
    exact this
  · have := h j (by omega)
    by_cases e : j = 0
    · subst e
      rw [show decide ((0 : Nat) = 0) = true from rfl, inN_first] at this
      rw [this]
      rfl
    · rw [decide_eq_false e, inN_rest] at this
      rw [Bool.or_comm]
      simpa using this
theorem isN_not_at {x : ByteArray} {n j : Nat} (hn : x.size = n) (hj : j < n) (h : inN (tb x j) (decide (j = 0)) = false) : isN x = false := by
  refine isN_not (fun hp => ?_)
  by_cases e : j = 0
  · subst e
    rw [show decide ((0 : Nat) = 0) = true from rfl, inN_first] at h
    rw [hp.first] at h
    cases h
  · rw [decide_eq_false e, inN_rest] at h
    have := hp.all j (by omega)
    rw [Bool.or_comm] at this
    simp only [Bool.true_and] at h
    rw [this] at h
    cases h
set_option maxRecDepth 20000 in
set_option maxHeartbeats 2000000 in
theorem tname_any (w : World) (x : ByteArray) (n : Nat) (hn : x.size = n) (hs : n ≤ 140737488351232) (HT : Hid (Wt9 w)) : Calls Tryd.prog 77 #[.string x] w fun e w' => e = .returned (.bool (isN x)) ∧ w = w' := by
  have HWd : Hid (Calls Tryd.prog 78 #[.string x] w fun e w'' => e = .returned (.bool (isW x)) ∧ w = w'') := tword_any w x HT
  obtain ⟨v, HV⟩ : ∃ v, Hid (isW x = v) := ⟨_, rfl⟩
  obtain ⟨r, HR⟩ : ∃ r, Hid (isN x = r) := ⟨_, rfl⟩
  rw [HV.out] at HWd
  rw [HR.out]
  by_cases h0 : n = 0
  · obtain rfl : r = false := by rw [← HR.out]; exact isN_not (fun h => by have := h.pos; omega)
    subst h0
    clear HR
    go_enter Tryd.func77, Tryd.ntmps77
    go_wp2
    go_ret
    exact ⟨rfl, rfl⟩
  have q0 : ((n : Int) == 0) = false := by simp; omega
  by_cases h16 : 16 < n
  · obtain rfl : r = false := by rw [← HR.out]; exact isN_not (fun h => by have := h.most; omega)
    have q2 : decide (16 < n) = true := decide_eq_true h16
    have q3 : decide ((16 : Int) < (n : Int)) = true := decide_eq_true (by omega)
    clear HR
    go_enter Tryd.func77, Tryd.ntmps77
    go_wp2
    go_ret
    exact ⟨rfl, rfl⟩
  have q2 : decide (16 < n) = false := decide_eq_false h16
  have q3 : decide ((16 : Int) < (n : Int)) = false := decide_eq_false (by omega)
  cases v with
  | true =>
    obtain rfl : r = false := by rw [← HR.out]; exact isN_not (fun h => by have := h.noWord; rw [HV.out] at this; cases this)
    clear HR
    go_enter Tryd.func77, Tryd.ntmps77
    go_wp2_with (go_at_call 78; refine HWd.out.mono ?_; rintro r w1 ⟨rfl, rfl⟩)
    go_ret
    exact ⟨rfl, rfl⟩
  | false =>
    have HRn : Hid ((∀ j, j < n → inN (tb x j) (decide (j = 0)) = true) → r = true) := fun h => by
      rw [← HR.out]
      exact isN_of hn (by omega) (by omega) HV.out h
    have HRf : Hid (∀ j, j < n → inN (tb x j) (decide (j = 0)) = false → r = false) := fun j hj h => by
      rw [← HR.out]
      exact isN_not_at hn hj h
    clear HR
    go_enter Tryd.func77, Tryd.ntmps77
    go_wp2_with (go_at_call 78; refine HWd.out.mono ?_; rintro r w1 ⟨rfl, rfl⟩)
    go_loop [18] (fun vi => ∃ i : Nat, i ≤ n ∧ vi = .int .i64 (i : Int) ∧ Hid (∀ j, j < i → inN (tb x j) (decide (j = 0)) = true)) (fun vi => n - (intOf vi).toNat)
    case atStart => exact ⟨0, by omega, rfl, fun j hj => by omega⟩
    case round =>
      obtain ⟨i, hi, rfl, HA⟩ := hrel
      by_cases hlt : i < n
      · have hix : i < x.size := by omega
        obtain ⟨c, HC⟩ : ∃ c, Hid (tb x i = c) := ⟨_, rfl⟩
        have hc : x[i].toNat = c := by rw [← HC.out]; exact tb_at hix
        have hc8 : c < 256 := by rw [← HC.out]; exact tb_lt x i
        have p0 : (0 : Int) ≤ (i : Int) := by omega
        have p1 : (i : Int) < (n : Int) := by omega
        obtain ⟨f, HF⟩ : ∃ f, Hid (decide (i = 0) = f) := ⟨_, rfl⟩
        have qf : ((i : Int) == 0) = f := by rw [← HF.out]; by_cases e : i = 0 <;> simp [e]
        obtain ⟨g, HG⟩ : ∃ g, Hid (inN c f = g) := ⟨_, rfl⟩
        have HN : Hid (∀ w' : World, Calls Tryd.prog 86 #[.int .u8 (c : Int), .bool f] w' fun e w'' => e = .returned (.bool g) ∧ w' = w'') := fun w' => by rw [← HG.out]; exact tinName_any w' c f hc8
        cases g with
        | true =>
          have HA2 : Hid (∀ j, j < i + 1 → inN (tb x j) (decide (j = 0)) = true) := fun j hj => by
            by_cases e : j = i
            · rw [e, HC.out, HF.out]; exact HG.out
            · exact HA.out j (by omega)
          go_wp2_with (go_at_call 86; refine (HN.out _).mono ?_; rintro r w1 ⟨rfl, rfl⟩)
          exact ⟨⟨i + 1, by omega, by go_num, HA2⟩, by simp [intOf]; omega⟩
        | false =>
          have HR9 : Hid (r = false) := HRf.out i hlt (by rw [HC.out, HF.out]; exact HG.out)
          go_wp2_with (go_at_call 86; refine (HN.out _).mono ?_; rintro r w1 ⟨rfl, rfl⟩)
          go_ret
          exact ⟨by rw [HR9.out]; rfl, rfl⟩
      · have HR9 : Hid (r = true) := HRn.out (fun j hj => HA.out j (by omega))
        go_wp2
        go_ret
        exact ⟨by rw [HR9.out]; rfl, rfl⟩
set_option maxRecDepth 20000 in
set_option maxHeartbeats 4000000 in
theorem tmay (w : World) (k : Nat) (x : ByteArray) (n ln cl : Int) (h : TvOk ⟨k, x, n, ln, cl⟩) (hw : Wt9 w) :
    Calls Tryd.prog 64 #[.agg #[.int .u8 (k : Int), .string x, .int .i64 n, .int .i64 ln, .int .i64 cl]] w fun e w' => e = .returned (.bool (mayB ⟨k, x, n, ln, cl⟩)) ∧ Below w.heap.size w w' := by
  obtain ⟨h8, hx, hn1, hn2⟩ := h
  have h8 : k < 256 := h8
  have hx : x.size ≤ 140737488351232 := hx
  have hn1 : -9223372036854775808 ≤ n := hn1
  have hn2 : n ≤ 9223372036854775807 := hn2
  have HW := jhid9 hw
  have hv := Vn.new w 96 #[.int .u8 (k : Int), .string x, .int .i64 n, .int .i64 ln, .int .i64 cl]
  have k0 := hv.cell 0 _ rfl
  have k1 := hv.cell 1 _ rfl
  have k2 := hv.cell 2 _ rfl
  clear hv hw
  by_cases e1 : k = 1
  · subst e1
    by_cases hn : n = 0
    · have HR : Hid (mayB ⟨1, x, n, ln, cl⟩ = isN x) := by show mayB _ = _; unfold mayB; simp [hn]
      rw [HR.out]
      subst hn
      have HC : Hid (∀ w' : World, Below w.heap.size w w' → Calls Tryd.prog 77 #[.string x] w' fun e w'' => e = .returned (.bool (isN x)) ∧ w' = w'') := fun w' hb => tname_any w' x _ rfl hx (HW.out.later hb)
      obtain ⟨r, Hr⟩ : ∃ r, Hid (isN x = r) := ⟨_, rfl⟩
      rw [Hr.out] at HC
      rw [Hr.out]
      go_enter Tryd.func64, Tryd.ntmps64
      go_wp2_with (go_at_call 77; refine (HC.out _ (jlow _ _)).mono ?_; rintro r w1 ⟨rfl, rfl⟩)
      go_ret
      exact ⟨rfl, jlow _ _⟩
    · have HR : Hid (mayB ⟨1, x, n, ln, cl⟩ = false) := by show mayB _ = _; unfold mayB; simp [hn]
      rw [HR.out]
      have q : (n == 0) = false := by simpa using hn
      go_enter Tryd.func64, Tryd.ntmps64
      go_wp2
      go_ret
      exact ⟨rfl, jlow _ _⟩
  have q1 : ((k : Int) == 1) = false := by simp; omega
  by_cases e2 : k = 2
  · subst e2
    by_cases hn : n = 0
    · have HR : Hid (mayB ⟨2, x, n, ln, cl⟩ = isW x) := by show mayB _ = _; unfold mayB; simp [hn]
      rw [HR.out]
      subst hn
      have HC : Hid (∀ w' : World, Below w.heap.size w w' → Calls Tryd.prog 78 #[.string x] w' fun e w'' => e = .returned (.bool (isW x)) ∧ w' = w'') := fun w' hb => tword_any w' x (HW.out.later hb)
      obtain ⟨r, Hr⟩ : ∃ r, Hid (isW x = r) := ⟨_, rfl⟩
      rw [Hr.out] at HC
      rw [Hr.out]
      go_enter Tryd.func64, Tryd.ntmps64
      go_wp2_with (go_at_call 78; refine (HC.out _ (jlow _ _)).mono ?_; rintro r w1 ⟨rfl, rfl⟩)
      go_ret
      exact ⟨rfl, jlow _ _⟩
    · have HR : Hid (mayB ⟨2, x, n, ln, cl⟩ = false) := by show mayB _ = _; unfold mayB; simp [hn]
      rw [HR.out]
      have q : (n == 0) = false := by simpa using hn
      go_enter Tryd.func64, Tryd.ntmps64
      go_wp2
      go_ret
      exact ⟨rfl, jlow _ _⟩
  have q2 : ((k : Int) == 2) = false := by simp; omega
  by_cases e3 : k = 3
  · subst e3
    have HR : Hid (mayB ⟨3, x, n, ln, cl⟩ = (decide (x.size = 0) && (decide (0 ≤ n) && decide (n ≤ 2147483647)))) := rfl
    rw [HR.out]
    have e0 := tl_nil (x := x)
    by_cases hx0 : x.size = 0
    · rw [decide_eq_true hx0] at e0 ⊢
      by_cases g1 : 0 ≤ n
      · rw [decide_eq_true g1]
        have g2 : decide (0 ≤ n) = true := decide_eq_true g1
        obtain ⟨b, Hb⟩ : ∃ b, Hid (decide (n ≤ 2147483647) = b) := ⟨_, rfl⟩
        have hb := Hb.out
        rw [Hb.out]
        go_enter Tryd.func64, Tryd.ntmps64
        go_wp2
        go_ret
        exact ⟨rfl, jlow _ _⟩
      · rw [decide_eq_false g1]
        have g2 : decide (0 ≤ n) = false := decide_eq_false g1
        go_enter Tryd.func64, Tryd.ntmps64
        go_wp2
        go_ret
        exact ⟨rfl, jlow _ _⟩
    · rw [decide_eq_false hx0] at e0 ⊢
      go_enter Tryd.func64, Tryd.ntmps64
      go_wp2
      go_ret
      exact ⟨rfl, jlow _ _⟩
  have q3 : ((k : Int) == 3) = false := by simp; omega
  by_cases e4 : k = 4
  · subst e4
    by_cases hn : n = 0
    · subst hn
      by_cases hx1 : x.size = 1
      · have h0x : 0 < x.size := by omega
        obtain ⟨c, HC⟩ : ∃ c, Hid (tb x 0 = c) := ⟨_, rfl⟩
        have hc : x[0].toNat = c := by rw [← HC.out]; exact tb_at h0x
        have hc8 : c < 256 := by rw [← HC.out]; exact tb_lt x 0
        have HR : Hid (mayB ⟨4, x, 0, ln, cl⟩ = isS c) := by show mayB _ = _; unfold mayB; simp [hx1, HC.out]
        rw [HR.out]
        have HS : Hid (∀ w' : World, Calls Tryd.prog 79 #[.int .u8 (c : Int)] w' fun e w'' => e = .returned (.bool (isS c)) ∧ w' = w'') := fun w' => tsign_any w' c hc8
        obtain ⟨r, Hr⟩ : ∃ r, Hid (isS c = r) := ⟨_, rfl⟩
        rw [Hr.out] at HS
        rw [Hr.out]
        go_enter Tryd.func64, Tryd.ntmps64
        go_wp2_with (go_at_call 79; refine (HS.out _).mono ?_; rintro r w1 ⟨rfl, rfl⟩)
        go_ret
        exact ⟨rfl, jlow _ _⟩
      · have HR : Hid (mayB ⟨4, x, 0, ln, cl⟩ = false) := by show mayB _ = _; unfold mayB; simp [hx1]
        rw [HR.out]
        have qx : ((x.size : Int) == 1) = false := by simp; omega
        go_enter Tryd.func64, Tryd.ntmps64
        go_wp2
        go_ret
        exact ⟨rfl, jlow _ _⟩
    · have HR : Hid (mayB ⟨4, x, n, ln, cl⟩ = false) := by show mayB _ = _; unfold mayB; simp [hn]
      rw [HR.out]
      have q : (n == 0) = false := by simpa using hn
      go_enter Tryd.func64, Tryd.ntmps64
      go_wp2
      go_ret
      exact ⟨rfl, jlow _ _⟩
  have q4 : ((k : Int) == 4) = false := by simp; omega
  have HR : Hid (mayB ⟨k, x, n, ln, cl⟩ = false) := by show mayB _ = _; unfold mayB; simp [e1, e2, e3, e4]
  rw [HR.out]
  go_enter Tryd.func64, Tryd.ntmps64
  go_wp2
  go_ret
  exact ⟨rfl, jlow _ _⟩
end Go.Proofs.YtgmndjbicandfaaDoor

namespace Go.Proofs.YtgmndjbicandfaaDoor
open Go.RowKit
theorem jn_len (K : Nat → TV) : ∀ k, (jn K (k + 1)).size + 1 = jz K (k + 1) := by
  intro k
  induction k with
  | zero => rw [jn_succ, jz_succ, if_pos rfl, ByteArray.size_append]; show 0 + _ + 1 = 0 + _; omega
  | succ k ih =>
    rw [jn_succ, jz_succ, if_neg (by omega), ByteArray.size_append, ByteArray.size_append]
    show _ + 1 + _ + 1 = _
    omega
theorem add_at9 (g j : Nat) : (⟨g, 0, none⟩ : Addr).add j = ⟨g, j, none⟩ := by unfold Addr.add; split <;> simp_all
/-- The bytes of a text, as cells. -/
theorem str_two (a b : ByteArray) : Lib.strCells (a ++ b) = Lib.strCells a ++ Lib.strCells b := by
  unfold Lib.strCells
  rw [← List.map_append]
  congr 1
/-- A text in bytes of the call's own. -/
def Txt (w : World) (B : Nat) (v : Value) (x : ByteArray) : Prop := w.ownsRow B 5 1 v x.size (Lib.strCells x)
theorem Txt.nil (w : World) (B : Nat) : Txt w B (.slice none 0 0) ⟨#[]⟩ := World.ownsRow_nil _ _ _ _
theorem Txt.later {w w' : World} {B : Nat} {v : Value} {x : ByteArray} (h : Txt w B v x) (hb : Below w.heap.size w w') : Txt w' B v x := World.ownsRow.kept h (jgrown.mpr hb) (by cases hv : v.ownBlock <;> simp)
theorem Txt.base {w : World} {B : Nat} {v : Value} {x : ByteArray} (h : Txt w B v x) {g : Nat} (hg : v.ownBlock = some g) : B ≤ g := by
  rcases h.2 with ⟨e, _⟩ | ⟨g', cap, cur, e, hB, _⟩
  · rw [e] at hg; simp [Value.ownBlock] at hg
  · rw [e] at hg; simp [Value.ownBlock] at hg; subst hg; exact hB
theorem Txt.form {w : World} {B : Nat} {v : Value} {x : ByteArray} (h : Txt w B v x) : ∃ a d, v = .slice a x.size d := by
  rcases h.2 with ⟨e, h0⟩ | ⟨g, cap, cur, e, _⟩
  · exact ⟨none, 0, by rw [e, h0]⟩
  · exact ⟨_, _, e⟩
theorem Txt.below {w : World} {B : Nat} {v : Value} {x : ByteArray} (h : Txt w B v x) {g : Nat} (hg : v.ownBlock = some g) : g < w.heap.size := by
  rcases h.2 with ⟨e, _⟩ | ⟨g', cap, cur, e, _, hb, _⟩
  · rw [e] at hg; simp [Value.ownBlock] at hg
  · rw [e] at hg; simp [Value.ownBlock] at hg; subst hg; exact lt_of_block hb
/-- A variable above a list that is made longer. -/
theorem Vn.keptx {w w1 w2 : World} {b : Nat} {T : TypeId} {xs : Array Value} {v : Value} (h : Vn w b T xs) (hg : w1.grownBy w2 v.ownBlock) (hb : Below w.heap.size w w1) (hv : ∀ {g}, v.ownBlock = some g → g < b) : Vn w2 b T xs := by
  have h1 := h.later hb
  unfold Vn at *
  rw [hg.block b (lt_of_block h1) (fun e => by have := hv e.symm; omega)]
  exact h1
theorem infByte : (Tryd.prog.info? 5).map (fun i => (i.zero, i.size, i.bytes)) = some (some (.int .u8 0), 1, 1) := by kernel_rfl
theorem one_newj (w : World) (x : Value) (t : TypeId) : ∀ j u, [x][j]? = some u → (w.alloc (.cells #[x] t)).cell? ((⟨w.heap.size, 0, none⟩ : Addr).add j) = some u := by
  intro j u hj
  have h : (w.alloc (.cells #[x] t)).heap[w.heap.size]? = some (.cells #[x] t (0, 0)) := Array.getElem?_push_size
  rw [show (⟨w.heap.size, 0, none⟩ : Addr).add j = ⟨w.heap.size, j, none⟩ by unfold Addr.add; split <;> simp_all, cell_of_row _ _ j _ _ _ h]
  simpa using hj
end Go.Proofs.YtgmndjbicandfaaDoor
